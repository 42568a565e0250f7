/- The program's BlobsOk and BlobUsed. -/
import Derived.Test.YtemhhjkmolndbaaDoorBkI
namespace Go.Proofs.YtemhhjkmolndbaaDoor
open Go.RowKit Go.PlainAid
set_option linter.unusedVariables false

theorem not_okJ {q : Int} {l : List Bb} {k : Nat} (hk : k < l.length) (h : okJ l k = false) : okS q l = false := okS_no (fun hh => by rw [hh.2.2.2 k hk] at h; cases h)
theorem okJ_fst {l : List Bb} {k : Nat} (h : okOne (bI l k) (bD l k) (bX l k) = false) : okJ l k = false := by
  cases e : okJ l k with
  | false => rfl
  | true => rw [((okJ_iff l k).1 e).1] at h; cases h
theorem okJ_snd {l : List Bb} {k : Nat} (h0 : 0 < k) (h : lessJ l k = false) : okJ l k = false := by
  cases e : okJ l k with
  | false => rfl
  | true => rw [((okJ_iff l k).1 e).2 h0] at h; cases h
def LaterF (w0 w : World) : Prop := Below w0.heap.size w0 w
theorem LaterF.trans {w0 w w' : World} (h : LaterF w0 w) (hb : Below w.heap.size w w') : LaterF w0 w' := Below.trans h (hb.mono (Below.size h))
theorem l_blobOk (i d : ByteArray) (b : Bool) (w0 w : World) (h : LaterF w0 w) (hd : d.size ≤ 1048576) (hT : Tabs w0) : Calls Tryd.prog 70 #[.agg #[.string i, .string d, .bool b]] w fun e w' => e = .returned (.bool (okOne i d b)) ∧ LaterF w0 w' :=
  (impl_blobOk i d b w hd (hT.later h)).mono fun e w' hh => ⟨hh.1, h.trans hh.2⟩
set_option maxRecDepth 100000 in
set_option maxHeartbeats 2000000 in
theorem impl_blobsOk (v : Value) (l : List Bb) (q : Int) (w : World) (hv : Blbs w v l) (hs : Sml l) (hT : Tabs w) :
    Calls Tryd.prog 34 #[.agg #[.int .i64 q, v]] w fun e w' => e = .returned (.bool (okS q l)) ∧ Below w.heap.size w w' := by
  obtain ⟨a, ca, hve⟩ := hv.slice
  subst hve
  have hlen := hv.len
  have V := Lib.hid (hv.alloc (.cells #[.int .i64 q, .slice a l.length ca] 41))
  have X0 := Lib.hid (Bx.new w 41 #[.int .i64 q, .slice a l.length ca] _ rfl)
  have A0 := Lib.hid ((Af.refl w).alloc (.cells #[.int .i64 q, .slice a l.length ca] 41))
  have HT := Lib.hid hT
  have HSM := Lib.hid hs
  clear hv hT hs
  by_cases hq : 0 ≤ q ∧ q ≤ 1000
  · obtain ⟨q0, q1⟩ := hq
    by_cases h12 : l.length ≤ 12
    · obtain ⟨n, hn⟩ : ∃ n, l.length = n := ⟨_, rfl⟩
      have hni : (n : Int) ≤ 12 := by omega
      rw [hn] at V X0 A0 h12 ⊢
      have HN := Lib.hid hn
      clear hlen hn h12
      go_enter Tryd.func34, Tryd.ntmps34
      go_wp2_with (go_at_call 69; refine (rng_yes _ _ _ _ q0 q1).mono ?_; rintro e w' ⟨rfl, rfl⟩)
      go_loopw [18] (fun i wr => ∃ k : Nat, k ≤ n ∧ i = .int .i64 k ∧ (∀ j, j < k → okJ l j = true) ∧ Blbs wr (.slice a n ca) l ∧ Bx wr w.heap.size 41 #[.int .i64 q, .slice a n ca] ∧ Af w wr) (fun i _ => n - (intOf i).toNat)
      case atStart => exact ⟨0, by omega, rfl, fun j hj => by omega, V.out, X0.out, A0.out⟩
      case round =>
        clear V X0 A0
        obtain ⟨k, hk, rfl, he, hvr, hxr, hb⟩ := hrel
        have HE := Lib.hid he
        have HB := Lib.hid (show Below w.heap.size w wr from hb)
        have X := Lib.hid hxr
        have V := Lib.hid hvr
        have HTR := Lib.hid (HT.out.later hb)
        clear he hb hxr hvr
        by_cases hlt : k < n
        · obtain ⟨y, o, ca', hse, _, hy, hcy⟩ := V.out.at0 (by rw [HN.out]; omega)
          simp only [Value.slice.injEq] at hse
          obtain ⟨rfl, hnl, rfl⟩ := hse
          clear hnl
          have HCY := Lib.hid hcy
          obtain ⟨c1, c2, c3⟩ := hcy k (by rw [HN.out]; omega)
          have Z := Lib.hid (Bx.new wr 89 #[.string (bI l k), .string (bD l k), .bool (bX l k)] _ rfl)
          have HO := Lib.hid (fun W (h : LaterF (wr.alloc (.cells #[.string (bI l k), .string (bD l k), .bool (bX l k)] 89)) W) => l_blobOk (bI l k) (bD l k) (bX l k) _ W h (HSM.out k (by rw [HN.out]; exact hlt)).2 (HTR.out.alloc _))
          obtain ⟨x0, x1⟩ := (X.out.alloc (.cells #[.string (bI l k), .string (bD l k), .bool (bX l k)] 89)).cells2
          obtain ⟨z0, z1, z2⟩ := Z.out.cells3
          clear hcy
          cases hoo : okOne (bI l k) (bD l k) (bX l k) with
          | false =>
            simp only [hoo] at HO
            have HR := Lib.hid (not_okJ (q := q) (show k < l.length by rw [HN.out]; exact hlt) (okJ_fst hoo))
            clear hoo
            go_wp2_with fail
            have HL := Lib.hid (fun W (h : LaterF (wr.alloc (.cells #[.string (bI l k), .string (bD l k), .bool (bX l k)] 89)) W) => (⟨((X.out.alloc _).after h).cells2, (Z.out.after h).cells3⟩ : (W.cell? ⟨w.heap.size, 0, none⟩ = some (.int .i64 q) ∧ W.cell? ⟨w.heap.size, 1, none⟩ = some (.slice (some ⟨y, o, none⟩) n ca)) ∧ (W.cell? ⟨wr.heap.size, 0, none⟩ = some (.string (bI l k)) ∧ W.cell? ⟨wr.heap.size, 1, none⟩ = some (.string (bD l k)) ∧ W.cell? ⟨wr.heap.size, 2, none⟩ = some (.bool (bX l k)))))
            clear x0 x1 z0 z1 z2
            refine wp_region_quiet (C := LaterF (wr.alloc (.cells #[.string (bI l k), .string (bD l k), .bool (bX l k)] 89))) (by kernel_rfl) (by kernel_rfl) (show LaterF (wr.alloc (.cells #[.string (bI l k), .string (bD l k), .bool (bX l k)] 89)) (wr.alloc (.cells #[.string (bI l k), .string (bD l k), .bool (bX l k)] 89)).drew from Below.drew (Below.refl _ _)) ?_
            dsimp only
            repeat (first | go_big_quiet_skip | (go_big_quiet_want; go_big_quiet_op; (first | go_big_quiet_on | (refine ⟨_, fun _ _ => rfl, ?_⟩; go_big_quiet_on) | (refine ⟨.agg #[.string (bI l k), .string (bD l k), .bool (bX l k)], ?_, ?_⟩; intro w' hw'; obtain ⟨⟨d0, d1⟩, e0, e1, e2⟩ := HL.out w' hw'; simp [e0, e1, e2, Result.andThen]; go_big_quiet_on) | (refine ⟨_, fun w' hw' => HO.out w' hw', ?_⟩; go_big_quiet_on))))
            refine wpQuiet_nil ?_
            intro w2 L2
            have X2 := Lib.hid ((X.out.alloc _).after L2)
            have V2 := Lib.hid ((V.out.alloc _).later L2)
            have HB2 := Lib.hid ((Af.alloc (show Af w wr from HB.out) _).after L2)
            clear L2 HL
            go_wp2
            go_ret
            exact ⟨by rw [HR.out]; rfl, HB2.out⟩
          | true =>
            simp only [hoo] at HO
            by_cases hk0 : k = 0
            · have hk0' : decide (0 < k) = false := decide_eq_false (by omega)
              have HJ := Lib.hid ((okJ_iff l k).2 ⟨hoo, fun h => by omega⟩)
              clear hoo hk0
              go_wp2_with fail
              have HL := Lib.hid (fun W (h : LaterF (wr.alloc (.cells #[.string (bI l k), .string (bD l k), .bool (bX l k)] 89)) W) => (⟨((X.out.alloc _).after h).cells2, (Z.out.after h).cells3⟩ : (W.cell? ⟨w.heap.size, 0, none⟩ = some (.int .i64 q) ∧ W.cell? ⟨w.heap.size, 1, none⟩ = some (.slice (some ⟨y, o, none⟩) n ca)) ∧ (W.cell? ⟨wr.heap.size, 0, none⟩ = some (.string (bI l k)) ∧ W.cell? ⟨wr.heap.size, 1, none⟩ = some (.string (bD l k)) ∧ W.cell? ⟨wr.heap.size, 2, none⟩ = some (.bool (bX l k)))))
              clear x0 x1 z0 z1 z2
              refine wp_region_quiet (C := LaterF (wr.alloc (.cells #[.string (bI l k), .string (bD l k), .bool (bX l k)] 89))) (by kernel_rfl) (by kernel_rfl) (show LaterF (wr.alloc (.cells #[.string (bI l k), .string (bD l k), .bool (bX l k)] 89)) (wr.alloc (.cells #[.string (bI l k), .string (bD l k), .bool (bX l k)] 89)).drew from Below.drew (Below.refl _ _)) ?_
              dsimp only
              repeat (first | go_big_quiet_skip | (go_big_quiet_want; go_big_quiet_op; (first | go_big_quiet_on | (refine ⟨_, fun _ _ => rfl, ?_⟩; go_big_quiet_on) | (refine ⟨.agg #[.string (bI l k), .string (bD l k), .bool (bX l k)], ?_, ?_⟩; intro w' hw'; obtain ⟨⟨d0, d1⟩, e0, e1, e2⟩ := HL.out w' hw'; simp [e0, e1, e2, Result.andThen]; go_big_quiet_on) | (refine ⟨_, fun w' hw' => HO.out w' hw', ?_⟩; go_big_quiet_on))))
              refine wpQuiet_nil ?_
              intro w2 L2
              have X2 := Lib.hid ((X.out.alloc _).after L2)
              have V2 := Lib.hid ((V.out.alloc _).later L2)
              have HB2 := Lib.hid ((Af.alloc (show Af w wr from HB.out) _).after L2)
              clear L2 HL
              go_wp2
              go_roundw
              case rel => exact ⟨k + 1, by omega, by go_num, fun j hj => by
                  by_cases e : j = k
                  · subst e; exact HJ.out
                  · exact HE.out j (by omega), V2.out, X2.out, HB2.out⟩
              case measure => simp only [intOf]; omega
            · have hk0' : decide (0 < k) = true := decide_eq_true (by omega)
              have hk1' : (0 : Int) ≤ (k : Int) - 1 := by omega
              have hk2' : (k : Int) - 1 < (n : Int) := by omega
              have hk3' : ((k : Int) - 1).toNat = k - 1 := by omega
              have P1 := Lib.hid (HCY.out (k - 1) (by rw [HN.out]; omega))
              have p1 := ((P1.out).below ((Below.refl _ _).alloc (Nat.le_refl _) (.cells #[.string (bI l k), .string (bD l k), .bool (bX l k)] 89)) hy).1
              have hkm : ((k - 1 : Nat) : Int) = (k : Int) - 1 := by omega
              cases hls : lessJ l k with
              | true =>
                have HJ := Lib.hid ((okJ_iff l k).2 ⟨hoo, fun _ => hls⟩)
                unfold lessJ at hls
                clear hoo hk0
                go_wp2_with fail
                have HL := Lib.hid (fun W (h : LaterF (wr.alloc (.cells #[.string (bI l k), .string (bD l k), .bool (bX l k)] 89)) W) => (⟨((X.out.alloc _).after h).cells2, (Z.out.after h).cells3, (((P1.out).below ((Below.refl _ _).alloc (Nat.le_refl _) _) hy).below h (by simp; omega)).1⟩ : (W.cell? ⟨w.heap.size, 0, none⟩ = some (.int .i64 q) ∧ W.cell? ⟨w.heap.size, 1, none⟩ = some (.slice (some ⟨y, o, none⟩) n ca)) ∧ (W.cell? ⟨wr.heap.size, 0, none⟩ = some (.string (bI l k)) ∧ W.cell? ⟨wr.heap.size, 1, none⟩ = some (.string (bD l k)) ∧ W.cell? ⟨wr.heap.size, 2, none⟩ = some (.bool (bX l k))) ∧ W.cell? ⟨y, o + (k - 1) * 3, none⟩ = some (.string (bI l (k - 1)))))
                clear x0 x1 z0 z1 z2
                refine wp_region_quiet (C := LaterF (wr.alloc (.cells #[.string (bI l k), .string (bD l k), .bool (bX l k)] 89))) (by kernel_rfl) (by kernel_rfl) (show LaterF (wr.alloc (.cells #[.string (bI l k), .string (bD l k), .bool (bX l k)] 89)) (wr.alloc (.cells #[.string (bI l k), .string (bD l k), .bool (bX l k)] 89)).drew from Below.drew (Below.refl _ _)) ?_
                dsimp only
                repeat (first | go_big_quiet_skip | (go_big_quiet_want; go_big_quiet_op; (first | go_big_quiet_on | (refine ⟨_, fun _ _ => rfl, ?_⟩; go_big_quiet_on) | (refine ⟨.agg #[.string (bI l k), .string (bD l k), .bool (bX l k)], ?_, ?_⟩; intro w' hw'; obtain ⟨⟨d0, d1⟩, ⟨e0, e1, e2⟩, p1⟩ := HL.out w' hw'; simp [e0, e1, e2, Result.andThen]; go_big_quiet_on) | (refine ⟨_, fun w' hw' => HO.out w' hw', ?_⟩; go_big_quiet_on) | (refine ⟨.slice (some ⟨y, o, none⟩) n ca, ?_, ?_⟩; intro w' hw'; obtain ⟨⟨d0, d1⟩, ⟨e0, e1, e2⟩, p1⟩ := HL.out w' hw'; simp [d1, Result.andThen]; go_big_quiet_on) | (refine ⟨.string (bI l (k - 1)), ?_, ?_⟩; intro w' hw'; obtain ⟨⟨d0, d1⟩, ⟨e0, e1, e2⟩, p1⟩ := HL.out w' hw'; simp [p1, Result.andThen]; go_big_quiet_on) | (refine ⟨.string (bI l k), ?_, ?_⟩; intro w' hw'; obtain ⟨⟨d0, d1⟩, ⟨e0, e1, e2⟩, p1⟩ := HL.out w' hw'; simp [e0, Result.andThen]; go_big_quiet_on))))
                refine wpQuiet_nil ?_
                intro w2 L2
                have X2 := Lib.hid ((X.out.alloc _).after L2)
                have V2 := Lib.hid ((V.out.alloc _).later L2)
                have HB2 := Lib.hid ((Af.alloc (show Af w wr from HB.out) _).after L2)
                clear L2 HL
                go_wp2
                go_roundw
                case rel => exact ⟨k + 1, by omega, by go_num, fun j hj => by
                    by_cases e : j = k
                    · subst e; exact HJ.out
                    · exact HE.out j (by omega), V2.out, X2.out, HB2.out⟩
                case measure => simp only [intOf]; omega
              | false =>
                have HR := Lib.hid (not_okJ (q := q) (show k < l.length by rw [HN.out]; exact hlt) (okJ_snd (by omega) hls))
                unfold lessJ at hls
                clear hoo hk0
                go_wp2_with fail
                have HL := Lib.hid (fun W (h : LaterF (wr.alloc (.cells #[.string (bI l k), .string (bD l k), .bool (bX l k)] 89)) W) => (⟨((X.out.alloc _).after h).cells2, (Z.out.after h).cells3, (((P1.out).below ((Below.refl _ _).alloc (Nat.le_refl _) _) hy).below h (by simp; omega)).1⟩ : (W.cell? ⟨w.heap.size, 0, none⟩ = some (.int .i64 q) ∧ W.cell? ⟨w.heap.size, 1, none⟩ = some (.slice (some ⟨y, o, none⟩) n ca)) ∧ (W.cell? ⟨wr.heap.size, 0, none⟩ = some (.string (bI l k)) ∧ W.cell? ⟨wr.heap.size, 1, none⟩ = some (.string (bD l k)) ∧ W.cell? ⟨wr.heap.size, 2, none⟩ = some (.bool (bX l k))) ∧ W.cell? ⟨y, o + (k - 1) * 3, none⟩ = some (.string (bI l (k - 1)))))
                clear x0 x1 z0 z1 z2
                refine wp_region_quiet (C := LaterF (wr.alloc (.cells #[.string (bI l k), .string (bD l k), .bool (bX l k)] 89))) (by kernel_rfl) (by kernel_rfl) (show LaterF (wr.alloc (.cells #[.string (bI l k), .string (bD l k), .bool (bX l k)] 89)) (wr.alloc (.cells #[.string (bI l k), .string (bD l k), .bool (bX l k)] 89)).drew from Below.drew (Below.refl _ _)) ?_
                dsimp only
                repeat (first | go_big_quiet_skip | (go_big_quiet_want; go_big_quiet_op; (first | go_big_quiet_on | (refine ⟨_, fun _ _ => rfl, ?_⟩; go_big_quiet_on) | (refine ⟨.agg #[.string (bI l k), .string (bD l k), .bool (bX l k)], ?_, ?_⟩; intro w' hw'; obtain ⟨⟨d0, d1⟩, ⟨e0, e1, e2⟩, p1⟩ := HL.out w' hw'; simp [e0, e1, e2, Result.andThen]; go_big_quiet_on) | (refine ⟨_, fun w' hw' => HO.out w' hw', ?_⟩; go_big_quiet_on) | (refine ⟨.slice (some ⟨y, o, none⟩) n ca, ?_, ?_⟩; intro w' hw'; obtain ⟨⟨d0, d1⟩, ⟨e0, e1, e2⟩, p1⟩ := HL.out w' hw'; simp [d1, Result.andThen]; go_big_quiet_on) | (refine ⟨.string (bI l (k - 1)), ?_, ?_⟩; intro w' hw'; obtain ⟨⟨d0, d1⟩, ⟨e0, e1, e2⟩, p1⟩ := HL.out w' hw'; simp [p1, Result.andThen]; go_big_quiet_on) | (refine ⟨.string (bI l k), ?_, ?_⟩; intro w' hw'; obtain ⟨⟨d0, d1⟩, ⟨e0, e1, e2⟩, p1⟩ := HL.out w' hw'; simp [e0, Result.andThen]; go_big_quiet_on))))
                refine wpQuiet_nil ?_
                intro w2 L2
                have X2 := Lib.hid ((X.out.alloc _).after L2)
                have V2 := Lib.hid ((V.out.alloc _).later L2)
                have HB2 := Lib.hid ((Af.alloc (show Af w wr from HB.out) _).after L2)
                clear L2 HL
                go_wp2
                go_ret
                exact ⟨by rw [HR.out]; rfl, HB2.out⟩
        · obtain rfl : k = n := by omega
          have HD := Lib.hid (impl_dataSize _ l _ V.out.drew (by rw [HN.out]; omega) HSM.out)
          rw [HN.out] at HD
          have hdd := dS_le HSM.out k (by rw [HN.out]; omega)
          obtain ⟨x0, x1⟩ := X.out.cells2
          have hok : okS q l = decide ((dS l k : Int) ≤ q) := by
            by_cases hle : (dS l k : Int) ≤ q
            · rw [decide_eq_true hle]; exact (okS_iff q l).2 ⟨⟨q0, q1⟩, by rw [HN.out]; omega, by rw [HN.out]; exact hle, fun j hj => HE.out j (by rw [HN.out] at hj; exact hj)⟩
            · rw [decide_eq_false hle]; exact okS_no (fun h => hle (by have := h.2.2.1; rw [HN.out] at this; exact this))
          have HOK := Lib.hid hok
          clear hok
          generalize dS l k = d at *
          go_wp2_with fail
          go_region_held3 (fun w' => w'.cell? ⟨w.heap.size, 0, none⟩ = some (.int .i64 q) ∧ w'.cell? ⟨w.heap.size, 1, none⟩ = some (.slice a k ca)) (first | (with_reducible exact ⟨x0, x1⟩) | (with_reducible exact CY.out) | go_keep)
            (first | (go_at_call 64; refine HD.out.mono ?_; rintro e w2 ⟨rfl, hb⟩; have CY := Lib.hid (X.out.drew.after hb).cells2; have HB2 := Lib.hid (HB.out.trans ((show Below wr.heap.size wr w2 from (Below.refl _ _).drew.trans hb).mono HB.out.size)); clear hb))
          go_wp2
          go_ret
          exact ⟨by rw [HOK.out]; rfl, HB2.out⟩
    · have HR := Lib.hid (show okS q l = false from okS_no (fun h => h12 h.2.1))
      have h12' : (12 : Int) < (l.length : Int) := by omega
      generalize l.length = n at *
      clear h12
      go_enter Tryd.func34, Tryd.ntmps34
      go_wp2_with (go_at_call 69; refine (rng_yes _ _ _ _ q0 q1).mono ?_; rintro e w' ⟨rfl, rfl⟩)
      go_ret
      exact ⟨by rw [HR.out]; rfl, A0.out⟩
  · have HR := Lib.hid (show okS q l = false from okS_no (fun h => hq h.1))
    have hq' : q < 0 ∨ 1000 < q := by omega
    generalize l.length = n at *
    clear hq
    go_enter Tryd.func34, Tryd.ntmps34
    go_wp2_with (go_at_call 69; refine (rng_no _ _ _ _ hq').mono ?_; rintro e w' ⟨rfl, rfl⟩)
    go_ret
    exact ⟨by rw [HR.out]; rfl, A0.out⟩
/-- What BlobUsed answers. -/
@[irreducible] def usedR (q : Int) (l : List Bb) : Nat := if okS q l = true then dS l l.length else 0
theorem usedR_no {q : Int} {l : List Bb} (h : okS q l = false) : usedR q l = 0 := by unfold usedR; rw [h]; rfl
theorem usedR_yes {q : Int} {l : List Bb} (h : okS q l = true) : usedR q l = dS l l.length := by unfold usedR; rw [if_pos h]
set_option maxRecDepth 100000 in
set_option maxHeartbeats 1000000 in
theorem impl_blobUsed (v : Value) (l : List Bb) (q : Int) (w : World) (hv : Blbs w v l) (hs : Sml l) (hT : Tabs w) :
    Calls Tryd.prog 27 #[.agg #[.int .i64 q, v]] w fun e w' => e = .returned (.int .i64 (usedR q l : Nat)) ∧ Below w.heap.size w w' := by
  obtain ⟨a, ca, hve⟩ := hv.slice
  subst hve
  have V := Lib.hid (hv.alloc (.cells #[.int .i64 q, .slice a l.length ca] 41))
  have X0 := Lib.hid (Bx.new w 41 #[.int .i64 q, .slice a l.length ca] _ rfl)
  have A0 := Lib.hid ((Af.refl w).alloc (.cells #[.int .i64 q, .slice a l.length ca] 41))
  have HT := Lib.hid hT
  have HSM := Lib.hid hs
  clear hv hT hs
  go_enter Tryd.func27, Tryd.ntmps27
  go_wp2_with fail
  refine (impl_blobsOk _ l q _ V.out HSM.out (HT.out.later A0.out)).mono ?_
  rintro e w2 ⟨rfl, hb⟩
  have V2 := Lib.hid (V.out.later hb)
  have A2 := Lib.hid (A0.out.after hb)
  have X2 := Lib.hid (X0.out.after hb)
  clear hb V X0 A0
  cases hok : okS q l with
  | false =>
    have HU := Lib.hid (usedR_no hok)
    clear hok
    go_wp2
    go_ret
    exact ⟨by rw [HU.out]; rfl, A2.out⟩
  | true =>
    have HU := Lib.hid (usedR_yes hok)
    have h12 := ((okS_iff q l).1 hok).2.1
    obtain ⟨x0, x1⟩ := X2.out.cells2
    clear hok
    go_wp2_with fail
    refine (impl_dataSize _ l _ V2.out (by omega) HSM.out).mono ?_
    rintro e w3 ⟨rfl, hb⟩
    have A3 := Lib.hid (A2.out.after hb)
    clear hb
    go_wp2
    go_ret
    exact ⟨by rw [HU.out]; rfl, A3.out⟩
end Go.Proofs.YtemhhjkmolndbaaDoor
