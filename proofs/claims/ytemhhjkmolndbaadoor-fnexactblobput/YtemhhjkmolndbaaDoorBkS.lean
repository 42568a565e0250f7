/- The model's BlobsOk and BlobUsed. -/
import Derived.Test.YtemhhjkmolndbaaDoorBkJ
import Derived.Test.YtemhhjkmolndbaaDoorIn
namespace Go.Proofs.YtemhhjkmolndbaaDoor
open Go.RowKit Go.PlainAid
set_option linter.unusedVariables false

theorem spec_sh8 (s : ByteArray) (hs : s.size ≤ 1048577) (w : World) : Calls Tryd.prog 31 #[.string s] w fun e w' => e = .returned (.string (sh8 s)) ∧ Below w.heap.size w w' := by
  rw [sh8_eq]
  exact spec_short s hs w
theorem l_short (s : ByteArray) (hs : s.size ≤ 1048577) (w0 w : World) (h : LaterF w0 w) : Calls Tryd.prog 31 #[.string s] w fun e w' => e = .returned (.string (sh8 s)) ∧ LaterF w0 w' :=
  (spec_sh8 s hs w).mono fun e w' hh => ⟨hh.1, h.trans hh.2⟩
theorem l_inY (a b c : Int) (h1 : b ≤ a) (h2 : a ≤ c) (w0 w : World) (h : LaterF w0 w) : Calls Tryd.prog 45 #[.int .i64 a, .int .i64 b, .int .i64 c] w fun e w' => e = .returned (.bool true) ∧ LaterF w0 w' :=
  (in_yes a b c w h1 h2).mono fun e w' hh => ⟨hh.1, hh.2 ▸ h⟩
theorem l_inN (a b c : Int) (h1 : a < b ∨ c < a) (w0 w : World) (h : LaterF w0 w) : Calls Tryd.prog 45 #[.int .i64 a, .int .i64 b, .int .i64 c] w fun e w' => e = .returned (.bool false) ∧ LaterF w0 w' :=
  (in_no a b c w h1).mono fun e w' hh => ⟨hh.1, hh.2 ▸ h⟩
set_option maxRecDepth 100000 in
set_option maxHeartbeats 1000000 in
theorem spec_sum (v : Value) (l : List Bb) (q : Int) (w : World) (hv : Blbs w v l) (hl : l.length ≤ 1048576) (hs : Sml l) :
    Calls Tryd.prog 63 #[.agg #[.int .i64 q, v]] w fun e w' => e = .returned (.int .i64 (dS l l.length : Nat)) ∧ Below w.heap.size w w' := by
  obtain ⟨k1, k2, a, ca, rfl, hca, ha⟩ := hv
  obtain ⟨n, hn⟩ : ∃ n, l.length = n := ⟨_, rfl⟩
  have HD := Lib.hid (fun k hk => dS_le hs k hk)
  have HSM := Lib.hid hs
  rw [hn] at k1 k2 hca ha hl HD ⊢
  have HN := Lib.hid hn
  have HA := Lib.hid ha
  have X0 := Lib.hid (Bx.new w 41 #[.int .i64 q, .slice a n ca] _ rfl)
  clear hn ha k2 hca hs
  go_enter Tryd.func63, Tryd.ntmps63
  go_wp2
  go_loopw [3, 4] (fun r i wr => ∃ k : Nat, k ≤ n ∧ i = .int .i64 k ∧ r = .int .i64 (dS l k : Nat) ∧ Bx wr w.heap.size 41 #[.int .i64 q, .slice a n ca] ∧ Below w.heap.size w wr) (fun _ i _ => n - (intOf i).toNat)
  case atStart => exact ⟨0, by omega, rfl, rfl, X0.out, (Below.refl _ _).alloc (Nat.le_refl _) _⟩
  case round =>
    obtain ⟨k, hk, rfl, rfl, hx, hb⟩ := hrel
    have HB := Lib.hid hb
    have X := Lib.hid hx
    obtain ⟨x0, x1⟩ := hx.cells2
    clear hb hx X0
    by_cases hlt : k < n
    · obtain ⟨y, o, rfl, hy, hcy⟩ := HA.out (by omega)
      obtain ⟨c1, c2, c3⟩ := (hcy k hlt).below HB.out hy
      have hd0 := HD.out k (by omega)
      have hdk := (HSM.out k (by rw [HN.out]; exact hlt)).2
      have HST := Lib.hid (dS_succ l k)
      obtain ⟨z, hz⟩ : ∃ z, dS l k = z := ⟨_, rfl⟩
      have HZ := Lib.hid hz
      rw [hz] at hd0 ⊢
      clear hcy hz
      go_wp2
      go_roundw
      case rel => exact ⟨k + 1, by omega, by go_num, by rw [HST.out, HZ.out]; go_num, X.out, HB.out⟩
      case measure => simp only [intOf]; omega
    · obtain rfl : k = n := by omega
      go_wp2
      go_ret
      exact ⟨rfl, HB.out⟩
theorem l_sum (v : Value) (l : List Bb) (q : Int) (w0 w : World) (h : LaterF w0 w) (hv : Blbs w0 v l) (hl : l.length ≤ 1048576) (hs : Sml l) : Calls Tryd.prog 63 #[.agg #[.int .i64 q, v]] w fun e w' => e = .returned (.int .i64 (dS l l.length : Nat)) ∧ LaterF w0 w' :=
  (spec_sum v l q w (hv.later h) hl hs).mono fun e w' hh => ⟨hh.1, h.trans hh.2⟩
set_option maxRecDepth 100000 in
set_option maxHeartbeats 4000000 in
theorem spec_blobsOk (v : Value) (l : List Bb) (q : Int) (w : World) (hv : Blbs w v l) (hs : Sml l) :
    Calls Tryd.prog 26 #[.agg #[.int .i64 q, v]] w fun e w' => e = .returned (.bool (okS q l)) ∧ Below w.heap.size w w' := by
  obtain ⟨a, ca, hve⟩ := hv.slice
  subst hve
  have hlen := hv.len
  have V := Lib.hid (hv.alloc (.cells #[.int .i64 q, .slice a l.length ca] 41))
  have X0 := Lib.hid (Bx.new w 41 #[.int .i64 q, .slice a l.length ca] _ rfl)
  have A0 := Lib.hid ((Af.refl w).alloc (.cells #[.int .i64 q, .slice a l.length ca] 41))
  have HSM := Lib.hid hs
  clear hv hs
  obtain ⟨n, hn⟩ : ∃ n, l.length = n := ⟨_, rfl⟩
  rw [hn] at V X0 A0 hlen ⊢
  have HN := Lib.hid hn
  clear hn
  by_cases hq : 0 ≤ q ∧ q ≤ 1000
  · obtain ⟨q0, q1⟩ := hq
    by_cases h12 : n ≤ 12
    · have hni : (n : Int) ≤ 12 := by omega
      have hni2 : decide ((12 : Int) < (n : Int)) = false := decide_eq_false (by omega)
      have HS := Lib.hid (fun W (h : LaterF (w.alloc (.cells #[.int .i64 q, .slice a n ca] 41)) W) => (by have := l_sum (.slice a n ca) l q _ W h V.out (by rw [HN.out]; omega) HSM.out; rw [HN.out] at this; exact this : Calls Tryd.prog 63 #[.agg #[.int .i64 q, .slice a n ca]] W fun e w' => e = .returned (.int .i64 (dS l n : Nat)) ∧ LaterF (w.alloc (.cells #[.int .i64 q, .slice a n ca] 41)) w'))
      by_cases hsum : (dS l n : Int) ≤ q
      · have hs2 : decide (q < (dS l n : Int)) = false := decide_eq_false (by omega)
        have HSUM := Lib.hid hsum
        obtain ⟨d, hd⟩ : ∃ d, dS l n = d := ⟨_, rfl⟩
        rw [hd] at HS hs2 HSUM
        have HD := Lib.hid hd
        clear hd hlen hsum
        have HI := Lib.hid (fun W (h : LaterF (w.alloc (.cells #[.int .i64 q, .slice a n ca] 41)) W) => l_inY q 0 1000 q0 q1 _ W h)
        have HL := Lib.hid (fun W (h : LaterF (w.alloc (.cells #[.int .i64 q, .slice a n ca] 41)) W) => ((X0.out.after h).cells2 : W.cell? ⟨w.heap.size, 0, none⟩ = some (.int .i64 q) ∧ W.cell? ⟨w.heap.size, 1, none⟩ = some (.slice a n ca)))
        go_enter Tryd.func26, Tryd.ntmps26
        go_wp2_with fail
        refine wp_region_quiet (C := LaterF (w.alloc (.cells #[.int .i64 q, .slice a n ca] 41))) (by kernel_rfl) (by kernel_rfl) (show LaterF (w.alloc (.cells #[.int .i64 q, .slice a n ca] 41)) (w.alloc (.cells #[.int .i64 q, .slice a n ca] 41)).drew from Below.drew (Below.refl _ _)) ?_
        dsimp only
        repeat (first | go_big_quiet_skip | (go_big_quiet_want; go_big_quiet_op; (first | go_big_quiet_on | (refine ⟨_, fun _ _ => rfl, ?_⟩; go_big_quiet_on) | (refine ⟨.int .i64 q, ?_, ?_⟩; intro w' hw'; obtain ⟨d0, d1⟩ := HL.out w' hw'; simp [d0, Result.andThen]; go_big_quiet_on) | (refine ⟨_, fun w' hw' => HI.out w' hw', ?_⟩; go_big_quiet_on) | (refine ⟨.slice a n ca, ?_, ?_⟩; intro w' hw'; obtain ⟨d0, d1⟩ := HL.out w' hw'; simp [d1, Result.andThen]; go_big_quiet_on) | (refine ⟨.agg #[.int .i64 q, .slice a n ca], ?_, ?_⟩; intro w' hw'; obtain ⟨d0, d1⟩ := HL.out w' hw'; simp [d0, d1, Result.andThen]; go_big_quiet_on) | (refine ⟨_, fun w' hw' => HS.out w' hw', ?_⟩; go_big_quiet_on))))
        refine wpQuiet_nil ?_
        intro w1 L1
        have X1 := Lib.hid (X0.out.after L1)
        have V1 := Lib.hid (V.out.later L1)
        have A1 := Lib.hid (A0.out.after L1)
        clear L1 HL
        clear HI HS V X0 A0
        go_wp2_with fail
        go_loopw [3] (fun i wr => ∃ k : Nat, k ≤ n ∧ i = .int .i64 k ∧ (∀ j, j < k → okJ l j = true) ∧ Blbs wr (.slice a n ca) l ∧ Bx wr w.heap.size 41 #[.int .i64 q, .slice a n ca] ∧ Af w wr) (fun i _ => n - (intOf i).toNat)
        case atStart => exact ⟨0, by omega, rfl, fun j hj => by omega, V1.out, X1.out, A1.out⟩
        case round =>
          clear V1 X1 A1
          obtain ⟨k, hk, rfl, he, hvr, hxr, hb⟩ := hrel
          have HE := Lib.hid he
          have HB := Lib.hid (show Below w.heap.size w wr from hb)
          have X := Lib.hid hxr
          have V := Lib.hid hvr
          obtain ⟨x0, x1⟩ := hxr.cells2
          clear he hb hxr hvr hs2
          by_cases hlt : k < n
          · obtain ⟨y, o, ca', hse, _, hy, hcy⟩ := V.out.at0 (by rw [HN.out]; omega)
            simp only [Value.slice.injEq] at hse
            obtain ⟨rfl, hnl, rfl⟩ := hse
            clear hnl
            have HCY := Lib.hid hcy
            obtain ⟨c1, c2, c3⟩ := hcy k (by rw [HN.out]; omega)
            have Z := Lib.hid (Bx.new wr 89 #[.string (bI l k), .string (bD l k), .bool (bX l k)] _ rfl)
            clear hcy
            by_cases h8 : (bI l k).size = 8
            · have h8' : (((bI l k).size : Int) == 8) = true := by simp [h8]
              by_cases h40 : (bD l k).size ≤ 40
              · have h40' : decide ((40 : Int) < ((bD l k).size : Int)) = false := decide_eq_false (by omega)
                have HO := Lib.hid (fun W (h : LaterF (wr.alloc (.cells #[.string (bI l k), .string (bD l k), .bool (bX l k)] 89)) W) => l_short (bD l k) (by omega) _ W h)
                cases hbx : bX l k with
                | true =>
                  have HO1 := Lib.hid ((okOne_iff (bI l k) (bD l k) (bX l k)).2 ⟨h40, h8, fun h => by rw [hbx] at h; cases h⟩)
                  have HBX := Lib.hid hbx
                  clear hbx
                  by_cases hk0 : k = 0
                  · have hk0' : decide (0 < k) = false := decide_eq_false (by omega)
                    have HJ := Lib.hid ((okJ_iff l k).2 ⟨HO1.out, fun h => by omega⟩)
                    clear hk0
                    go_wp2_with fail
                    have HL := Lib.hid (fun W (h : LaterF (wr.alloc (.cells #[.string (bI l k), .string (bD l k), .bool (bX l k)] 89)) W) => (⟨((X.out.alloc _).after h).cells2, (Z.out.after h).cells3⟩ : (W.cell? ⟨w.heap.size, 0, none⟩ = some (.int .i64 q) ∧ W.cell? ⟨w.heap.size, 1, none⟩ = some (.slice (some ⟨y, o, none⟩) n ca)) ∧ (W.cell? ⟨wr.heap.size, 0, none⟩ = some (.string (bI l k)) ∧ W.cell? ⟨wr.heap.size, 1, none⟩ = some (.string (bD l k)) ∧ W.cell? ⟨wr.heap.size, 2, none⟩ = some (.bool (bX l k)))))
                    refine wp_region_quiet (C := LaterF (wr.alloc (.cells #[.string (bI l k), .string (bD l k), .bool (bX l k)] 89))) (by kernel_rfl) (by kernel_rfl) (show LaterF (wr.alloc (.cells #[.string (bI l k), .string (bD l k), .bool (bX l k)] 89)) (wr.alloc (.cells #[.string (bI l k), .string (bD l k), .bool (bX l k)] 89)).drew from Below.drew (Below.refl _ _)) ?_
                    dsimp only
                    repeat (first | go_big_quiet_skip | (go_big_quiet_want; go_big_quiet_op; (first | go_big_quiet_on | (refine ⟨_, fun _ _ => rfl, ?_⟩; go_big_quiet_on) | (refine ⟨.string (bI l k), ?_, ?_⟩; intro w' hw'; obtain ⟨⟨d0, d1⟩, e0, e1, e2⟩ := HL.out w' hw'; simp [e0, Result.andThen]; go_big_quiet_on) | (refine ⟨.string (bD l k), ?_, ?_⟩; intro w' hw'; obtain ⟨⟨d0, d1⟩, e0, e1, e2⟩ := HL.out w' hw'; simp [e1, Result.andThen]; go_big_quiet_on) | (refine ⟨.bool true, ?_, ?_⟩; intro w' hw'; obtain ⟨⟨d0, d1⟩, e0, e1, e2⟩ := HL.out w' hw'; simp [e2, HBX.out, Result.andThen]; go_big_quiet_on))))
                    refine wpQuiet_nil ?_
                    intro w2 L2
                    have X2 := Lib.hid ((X.out.alloc _).after L2)
                    have V2 := Lib.hid ((V.out.alloc _).later L2)
                    have HB2 := Lib.hid ((Af.alloc (show Af w wr from HB.out) _).after L2)
                    clear L2 HL
                    go_wp2
                    go_roundw
                    case rel => exact ⟨k + 1, by omega, by go_num, fun j hj => by
                        by_cases e : j = k
                        · subst e; exact HJ.out
                        · exact HE.out j (by omega), V2.out, X2.out, HB2.out⟩
                    case measure => simp only [intOf]; omega
                  · have hk0' : decide (0 < k) = true := decide_eq_true (by omega)
                    have hk1' : (0 : Int) ≤ (k : Int) - 1 := by omega
                    have hk2' : (k : Int) - 1 < (n : Int) := by omega
                    have hk3' : ((k : Int) - 1).toNat = k - 1 := by omega
                    have P1 := Lib.hid (HCY.out (k - 1) (by rw [HN.out]; omega))
                    cases hls : lessJ l k with
                    | true =>
                      have HJ := Lib.hid ((okJ_iff l k).2 ⟨HO1.out, fun _ => hls⟩)
                      unfold lessJ at hls
                      clear hk0
                      go_wp2_with fail
                      have HL := Lib.hid (fun W (h : LaterF (wr.alloc (.cells #[.string (bI l k), .string (bD l k), .bool (bX l k)] 89)) W) => (⟨((X.out.alloc _).after h).cells2, (Z.out.after h).cells3, (((P1.out).below ((Below.refl _ _).alloc (Nat.le_refl _) _) hy).below h (by simp; omega)).1⟩ : (W.cell? ⟨w.heap.size, 0, none⟩ = some (.int .i64 q) ∧ W.cell? ⟨w.heap.size, 1, none⟩ = some (.slice (some ⟨y, o, none⟩) n ca)) ∧ (W.cell? ⟨wr.heap.size, 0, none⟩ = some (.string (bI l k)) ∧ W.cell? ⟨wr.heap.size, 1, none⟩ = some (.string (bD l k)) ∧ W.cell? ⟨wr.heap.size, 2, none⟩ = some (.bool (bX l k))) ∧ W.cell? ⟨y, o + (k - 1) * 3, none⟩ = some (.string (bI l (k - 1)))))
                      refine wp_region_quiet (C := LaterF (wr.alloc (.cells #[.string (bI l k), .string (bD l k), .bool (bX l k)] 89))) (by kernel_rfl) (by kernel_rfl) (show LaterF (wr.alloc (.cells #[.string (bI l k), .string (bD l k), .bool (bX l k)] 89)) (wr.alloc (.cells #[.string (bI l k), .string (bD l k), .bool (bX l k)] 89)).drew from Below.drew (Below.refl _ _)) ?_
                      dsimp only
                      repeat (first | go_big_quiet_skip | (go_big_quiet_want; go_big_quiet_op; (first | go_big_quiet_on | (refine ⟨_, fun _ _ => rfl, ?_⟩; go_big_quiet_on) | (refine ⟨.string (bI l k), ?_, ?_⟩; intro w' hw'; obtain ⟨⟨d0, d1⟩, ⟨e0, e1, e2⟩, p1⟩ := HL.out w' hw'; simp [e0, Result.andThen]; go_big_quiet_on) | (refine ⟨.string (bD l k), ?_, ?_⟩; intro w' hw'; obtain ⟨⟨d0, d1⟩, ⟨e0, e1, e2⟩, p1⟩ := HL.out w' hw'; simp [e1, Result.andThen]; go_big_quiet_on) | (refine ⟨.bool true, ?_, ?_⟩; intro w' hw'; obtain ⟨⟨d0, d1⟩, ⟨e0, e1, e2⟩, p1⟩ := HL.out w' hw'; simp [e2, HBX.out, Result.andThen]; go_big_quiet_on) | (refine ⟨.slice (some ⟨y, o, none⟩) n ca, ?_, ?_⟩; intro w' hw'; obtain ⟨⟨d0, d1⟩, ⟨e0, e1, e2⟩, p1⟩ := HL.out w' hw'; simp [d1, Result.andThen]; go_big_quiet_on) | (refine ⟨.string (bI l (k - 1)), ?_, ?_⟩; intro w' hw'; obtain ⟨⟨d0, d1⟩, ⟨e0, e1, e2⟩, p1⟩ := HL.out w' hw'; simp [p1, Result.andThen]; go_big_quiet_on))))
                      refine wpQuiet_nil ?_
                      intro w2 L2
                      have X2 := Lib.hid ((X.out.alloc _).after L2)
                      have V2 := Lib.hid ((V.out.alloc _).later L2)
                      have HB2 := Lib.hid ((Af.alloc (show Af w wr from HB.out) _).after L2)
                      clear L2 HL
                      go_wp2
                      go_roundw
                      case rel => exact ⟨k + 1, by omega, by go_num, fun j hj => by
                          by_cases e : j = k
                          · subst e; exact HJ.out
                          · exact HE.out j (by omega), V2.out, X2.out, HB2.out⟩
                      case measure => simp only [intOf]; omega
                    | false =>
                      have HR := Lib.hid (not_okJ (q := q) (show k < l.length by rw [HN.out]; exact hlt) (okJ_snd (by omega) hls))
                      unfold lessJ at hls
                      clear hk0
                      go_wp2_with fail
                      have HL := Lib.hid (fun W (h : LaterF (wr.alloc (.cells #[.string (bI l k), .string (bD l k), .bool (bX l k)] 89)) W) => (⟨((X.out.alloc _).after h).cells2, (Z.out.after h).cells3, (((P1.out).below ((Below.refl _ _).alloc (Nat.le_refl _) _) hy).below h (by simp; omega)).1⟩ : (W.cell? ⟨w.heap.size, 0, none⟩ = some (.int .i64 q) ∧ W.cell? ⟨w.heap.size, 1, none⟩ = some (.slice (some ⟨y, o, none⟩) n ca)) ∧ (W.cell? ⟨wr.heap.size, 0, none⟩ = some (.string (bI l k)) ∧ W.cell? ⟨wr.heap.size, 1, none⟩ = some (.string (bD l k)) ∧ W.cell? ⟨wr.heap.size, 2, none⟩ = some (.bool (bX l k))) ∧ W.cell? ⟨y, o + (k - 1) * 3, none⟩ = some (.string (bI l (k - 1)))))
                      refine wp_region_quiet (C := LaterF (wr.alloc (.cells #[.string (bI l k), .string (bD l k), .bool (bX l k)] 89))) (by kernel_rfl) (by kernel_rfl) (show LaterF (wr.alloc (.cells #[.string (bI l k), .string (bD l k), .bool (bX l k)] 89)) (wr.alloc (.cells #[.string (bI l k), .string (bD l k), .bool (bX l k)] 89)).drew from Below.drew (Below.refl _ _)) ?_
                      dsimp only
                      repeat (first | go_big_quiet_skip | (go_big_quiet_want; go_big_quiet_op; (first | go_big_quiet_on | (refine ⟨_, fun _ _ => rfl, ?_⟩; go_big_quiet_on) | (refine ⟨.string (bI l k), ?_, ?_⟩; intro w' hw'; obtain ⟨⟨d0, d1⟩, ⟨e0, e1, e2⟩, p1⟩ := HL.out w' hw'; simp [e0, Result.andThen]; go_big_quiet_on) | (refine ⟨.string (bD l k), ?_, ?_⟩; intro w' hw'; obtain ⟨⟨d0, d1⟩, ⟨e0, e1, e2⟩, p1⟩ := HL.out w' hw'; simp [e1, Result.andThen]; go_big_quiet_on) | (refine ⟨.bool true, ?_, ?_⟩; intro w' hw'; obtain ⟨⟨d0, d1⟩, ⟨e0, e1, e2⟩, p1⟩ := HL.out w' hw'; simp [e2, HBX.out, Result.andThen]; go_big_quiet_on) | (refine ⟨.slice (some ⟨y, o, none⟩) n ca, ?_, ?_⟩; intro w' hw'; obtain ⟨⟨d0, d1⟩, ⟨e0, e1, e2⟩, p1⟩ := HL.out w' hw'; simp [d1, Result.andThen]; go_big_quiet_on) | (refine ⟨.string (bI l (k - 1)), ?_, ?_⟩; intro w' hw'; obtain ⟨⟨d0, d1⟩, ⟨e0, e1, e2⟩, p1⟩ := HL.out w' hw'; simp [p1, Result.andThen]; go_big_quiet_on))))
                      refine wpQuiet_nil ?_
                      intro w2 L2
                      have X2 := Lib.hid ((X.out.alloc _).after L2)
                      have V2 := Lib.hid ((V.out.alloc _).later L2)
                      have HB2 := Lib.hid ((Af.alloc (show Af w wr from HB.out) _).after L2)
                      clear L2 HL
                      go_wp2
                      go_ret
                      exact ⟨by rw [HR.out]; rfl, HB2.out⟩
                | false =>
                  by_cases hid : bI l k = sh8 (bD l k)
                  · have hid' : ((bI l k).toList == (sh8 (bD l k)).toList) = true := by rw [hid]; exact beq_self_eq_true _
                    have HO1 := Lib.hid ((okOne_iff (bI l k) (bD l k) (bX l k)).2 ⟨h40, h8, fun _ => hid⟩)
                    have HBX := Lib.hid hbx
                    clear hbx
                    by_cases hk0 : k = 0
                    · have hk0' : decide (0 < k) = false := decide_eq_false (by omega)
                      have HJ := Lib.hid ((okJ_iff l k).2 ⟨HO1.out, fun h => by omega⟩)
                      clear hk0 hid
                      go_wp2_with fail
                      have HL := Lib.hid (fun W (h : LaterF (wr.alloc (.cells #[.string (bI l k), .string (bD l k), .bool (bX l k)] 89)) W) => (⟨((X.out.alloc _).after h).cells2, (Z.out.after h).cells3⟩ : (W.cell? ⟨w.heap.size, 0, none⟩ = some (.int .i64 q) ∧ W.cell? ⟨w.heap.size, 1, none⟩ = some (.slice (some ⟨y, o, none⟩) n ca)) ∧ (W.cell? ⟨wr.heap.size, 0, none⟩ = some (.string (bI l k)) ∧ W.cell? ⟨wr.heap.size, 1, none⟩ = some (.string (bD l k)) ∧ W.cell? ⟨wr.heap.size, 2, none⟩ = some (.bool (bX l k)))))
                      refine wp_region_quiet (C := LaterF (wr.alloc (.cells #[.string (bI l k), .string (bD l k), .bool (bX l k)] 89))) (by kernel_rfl) (by kernel_rfl) (show LaterF (wr.alloc (.cells #[.string (bI l k), .string (bD l k), .bool (bX l k)] 89)) (wr.alloc (.cells #[.string (bI l k), .string (bD l k), .bool (bX l k)] 89)).drew from Below.drew (Below.refl _ _)) ?_
                      dsimp only
                      repeat (first | go_big_quiet_skip | (go_big_quiet_want; go_big_quiet_op; (first | go_big_quiet_on | (refine ⟨_, fun _ _ => rfl, ?_⟩; go_big_quiet_on) | (refine ⟨.string (bI l k), ?_, ?_⟩; intro w' hw'; obtain ⟨⟨d0, d1⟩, e0, e1, e2⟩ := HL.out w' hw'; simp [e0, Result.andThen]; go_big_quiet_on) | (refine ⟨.string (bD l k), ?_, ?_⟩; intro w' hw'; obtain ⟨⟨d0, d1⟩, e0, e1, e2⟩ := HL.out w' hw'; simp [e1, Result.andThen]; go_big_quiet_on) | (refine ⟨.bool false, ?_, ?_⟩; intro w' hw'; obtain ⟨⟨d0, d1⟩, e0, e1, e2⟩ := HL.out w' hw'; simp [e2, HBX.out, Result.andThen]; go_big_quiet_on) | (refine ⟨_, fun w' hw' => HO.out w' hw', ?_⟩; go_big_quiet_on))))
                      refine wpQuiet_nil ?_
                      intro w2 L2
                      have X2 := Lib.hid ((X.out.alloc _).after L2)
                      have V2 := Lib.hid ((V.out.alloc _).later L2)
                      have HB2 := Lib.hid ((Af.alloc (show Af w wr from HB.out) _).after L2)
                      clear L2 HL
                      go_wp2
                      go_roundw
                      case rel => exact ⟨k + 1, by omega, by go_num, fun j hj => by
                          by_cases e : j = k
                          · subst e; exact HJ.out
                          · exact HE.out j (by omega), V2.out, X2.out, HB2.out⟩
                      case measure => simp only [intOf]; omega
                    · have hk0' : decide (0 < k) = true := decide_eq_true (by omega)
                      have hk1' : (0 : Int) ≤ (k : Int) - 1 := by omega
                      have hk2' : (k : Int) - 1 < (n : Int) := by omega
                      have hk3' : ((k : Int) - 1).toNat = k - 1 := by omega
                      have P1 := Lib.hid (HCY.out (k - 1) (by rw [HN.out]; omega))
                      cases hls : lessJ l k with
                      | true =>
                        have HJ := Lib.hid ((okJ_iff l k).2 ⟨HO1.out, fun _ => hls⟩)
                        unfold lessJ at hls
                        clear hk0 hid
                        go_wp2_with fail
                        have HL := Lib.hid (fun W (h : LaterF (wr.alloc (.cells #[.string (bI l k), .string (bD l k), .bool (bX l k)] 89)) W) => (⟨((X.out.alloc _).after h).cells2, (Z.out.after h).cells3, (((P1.out).below ((Below.refl _ _).alloc (Nat.le_refl _) _) hy).below h (by simp; omega)).1⟩ : (W.cell? ⟨w.heap.size, 0, none⟩ = some (.int .i64 q) ∧ W.cell? ⟨w.heap.size, 1, none⟩ = some (.slice (some ⟨y, o, none⟩) n ca)) ∧ (W.cell? ⟨wr.heap.size, 0, none⟩ = some (.string (bI l k)) ∧ W.cell? ⟨wr.heap.size, 1, none⟩ = some (.string (bD l k)) ∧ W.cell? ⟨wr.heap.size, 2, none⟩ = some (.bool (bX l k))) ∧ W.cell? ⟨y, o + (k - 1) * 3, none⟩ = some (.string (bI l (k - 1)))))
                        refine wp_region_quiet (C := LaterF (wr.alloc (.cells #[.string (bI l k), .string (bD l k), .bool (bX l k)] 89))) (by kernel_rfl) (by kernel_rfl) (show LaterF (wr.alloc (.cells #[.string (bI l k), .string (bD l k), .bool (bX l k)] 89)) (wr.alloc (.cells #[.string (bI l k), .string (bD l k), .bool (bX l k)] 89)).drew from Below.drew (Below.refl _ _)) ?_
                        dsimp only
                        repeat (first | go_big_quiet_skip | (go_big_quiet_want; go_big_quiet_op; (first | go_big_quiet_on | (refine ⟨_, fun _ _ => rfl, ?_⟩; go_big_quiet_on) | (refine ⟨.string (bI l k), ?_, ?_⟩; intro w' hw'; obtain ⟨⟨d0, d1⟩, ⟨e0, e1, e2⟩, p1⟩ := HL.out w' hw'; simp [e0, Result.andThen]; go_big_quiet_on) | (refine ⟨.string (bD l k), ?_, ?_⟩; intro w' hw'; obtain ⟨⟨d0, d1⟩, ⟨e0, e1, e2⟩, p1⟩ := HL.out w' hw'; simp [e1, Result.andThen]; go_big_quiet_on) | (refine ⟨.bool false, ?_, ?_⟩; intro w' hw'; obtain ⟨⟨d0, d1⟩, ⟨e0, e1, e2⟩, p1⟩ := HL.out w' hw'; simp [e2, HBX.out, Result.andThen]; go_big_quiet_on) | (refine ⟨_, fun w' hw' => HO.out w' hw', ?_⟩; go_big_quiet_on) | (refine ⟨.slice (some ⟨y, o, none⟩) n ca, ?_, ?_⟩; intro w' hw'; obtain ⟨⟨d0, d1⟩, ⟨e0, e1, e2⟩, p1⟩ := HL.out w' hw'; simp [d1, Result.andThen]; go_big_quiet_on) | (refine ⟨.string (bI l (k - 1)), ?_, ?_⟩; intro w' hw'; obtain ⟨⟨d0, d1⟩, ⟨e0, e1, e2⟩, p1⟩ := HL.out w' hw'; simp [p1, Result.andThen]; go_big_quiet_on))))
                        refine wpQuiet_nil ?_
                        intro w2 L2
                        have X2 := Lib.hid ((X.out.alloc _).after L2)
                        have V2 := Lib.hid ((V.out.alloc _).later L2)
                        have HB2 := Lib.hid ((Af.alloc (show Af w wr from HB.out) _).after L2)
                        clear L2 HL
                        go_wp2
                        go_roundw
                        case rel => exact ⟨k + 1, by omega, by go_num, fun j hj => by
                            by_cases e : j = k
                            · subst e; exact HJ.out
                            · exact HE.out j (by omega), V2.out, X2.out, HB2.out⟩
                        case measure => simp only [intOf]; omega
                      | false =>
                        have HR := Lib.hid (not_okJ (q := q) (show k < l.length by rw [HN.out]; exact hlt) (okJ_snd (by omega) hls))
                        unfold lessJ at hls
                        clear hk0 hid
                        go_wp2_with fail
                        have HL := Lib.hid (fun W (h : LaterF (wr.alloc (.cells #[.string (bI l k), .string (bD l k), .bool (bX l k)] 89)) W) => (⟨((X.out.alloc _).after h).cells2, (Z.out.after h).cells3, (((P1.out).below ((Below.refl _ _).alloc (Nat.le_refl _) _) hy).below h (by simp; omega)).1⟩ : (W.cell? ⟨w.heap.size, 0, none⟩ = some (.int .i64 q) ∧ W.cell? ⟨w.heap.size, 1, none⟩ = some (.slice (some ⟨y, o, none⟩) n ca)) ∧ (W.cell? ⟨wr.heap.size, 0, none⟩ = some (.string (bI l k)) ∧ W.cell? ⟨wr.heap.size, 1, none⟩ = some (.string (bD l k)) ∧ W.cell? ⟨wr.heap.size, 2, none⟩ = some (.bool (bX l k))) ∧ W.cell? ⟨y, o + (k - 1) * 3, none⟩ = some (.string (bI l (k - 1)))))
                        refine wp_region_quiet (C := LaterF (wr.alloc (.cells #[.string (bI l k), .string (bD l k), .bool (bX l k)] 89))) (by kernel_rfl) (by kernel_rfl) (show LaterF (wr.alloc (.cells #[.string (bI l k), .string (bD l k), .bool (bX l k)] 89)) (wr.alloc (.cells #[.string (bI l k), .string (bD l k), .bool (bX l k)] 89)).drew from Below.drew (Below.refl _ _)) ?_
                        dsimp only
                        repeat (first | go_big_quiet_skip | (go_big_quiet_want; go_big_quiet_op; (first | go_big_quiet_on | (refine ⟨_, fun _ _ => rfl, ?_⟩; go_big_quiet_on) | (refine ⟨.string (bI l k), ?_, ?_⟩; intro w' hw'; obtain ⟨⟨d0, d1⟩, ⟨e0, e1, e2⟩, p1⟩ := HL.out w' hw'; simp [e0, Result.andThen]; go_big_quiet_on) | (refine ⟨.string (bD l k), ?_, ?_⟩; intro w' hw'; obtain ⟨⟨d0, d1⟩, ⟨e0, e1, e2⟩, p1⟩ := HL.out w' hw'; simp [e1, Result.andThen]; go_big_quiet_on) | (refine ⟨.bool false, ?_, ?_⟩; intro w' hw'; obtain ⟨⟨d0, d1⟩, ⟨e0, e1, e2⟩, p1⟩ := HL.out w' hw'; simp [e2, HBX.out, Result.andThen]; go_big_quiet_on) | (refine ⟨_, fun w' hw' => HO.out w' hw', ?_⟩; go_big_quiet_on) | (refine ⟨.slice (some ⟨y, o, none⟩) n ca, ?_, ?_⟩; intro w' hw'; obtain ⟨⟨d0, d1⟩, ⟨e0, e1, e2⟩, p1⟩ := HL.out w' hw'; simp [d1, Result.andThen]; go_big_quiet_on) | (refine ⟨.string (bI l (k - 1)), ?_, ?_⟩; intro w' hw'; obtain ⟨⟨d0, d1⟩, ⟨e0, e1, e2⟩, p1⟩ := HL.out w' hw'; simp [p1, Result.andThen]; go_big_quiet_on))))
                        refine wpQuiet_nil ?_
                        intro w2 L2
                        have X2 := Lib.hid ((X.out.alloc _).after L2)
                        have V2 := Lib.hid ((V.out.alloc _).later L2)
                        have HB2 := Lib.hid ((Af.alloc (show Af w wr from HB.out) _).after L2)
                        clear L2 HL
                        go_wp2
                        go_ret
                        exact ⟨by rw [HR.out]; rfl, HB2.out⟩
                  · have hid' := ne_list hid
                    have HR := Lib.hid (not_okJ (q := q) (show k < l.length by rw [HN.out]; exact hlt) (okJ_fst (okOne_no (fun h => hid (h.2.2 hbx)))))
                    have HBX := Lib.hid hbx
                    clear hid hbx
                    go_wp2_with fail
                    have HL := Lib.hid (fun W (h : LaterF (wr.alloc (.cells #[.string (bI l k), .string (bD l k), .bool (bX l k)] 89)) W) => (⟨((X.out.alloc _).after h).cells2, (Z.out.after h).cells3⟩ : (W.cell? ⟨w.heap.size, 0, none⟩ = some (.int .i64 q) ∧ W.cell? ⟨w.heap.size, 1, none⟩ = some (.slice (some ⟨y, o, none⟩) n ca)) ∧ (W.cell? ⟨wr.heap.size, 0, none⟩ = some (.string (bI l k)) ∧ W.cell? ⟨wr.heap.size, 1, none⟩ = some (.string (bD l k)) ∧ W.cell? ⟨wr.heap.size, 2, none⟩ = some (.bool (bX l k)))))
                    refine wp_region_quiet (C := LaterF (wr.alloc (.cells #[.string (bI l k), .string (bD l k), .bool (bX l k)] 89))) (by kernel_rfl) (by kernel_rfl) (show LaterF (wr.alloc (.cells #[.string (bI l k), .string (bD l k), .bool (bX l k)] 89)) (wr.alloc (.cells #[.string (bI l k), .string (bD l k), .bool (bX l k)] 89)).drew from Below.drew (Below.refl _ _)) ?_
                    dsimp only
                    repeat (first | go_big_quiet_skip | (go_big_quiet_want; go_big_quiet_op; (first | go_big_quiet_on | (refine ⟨_, fun _ _ => rfl, ?_⟩; go_big_quiet_on) | (refine ⟨.string (bI l k), ?_, ?_⟩; intro w' hw'; obtain ⟨⟨d0, d1⟩, e0, e1, e2⟩ := HL.out w' hw'; simp [e0, Result.andThen]; go_big_quiet_on) | (refine ⟨.string (bD l k), ?_, ?_⟩; intro w' hw'; obtain ⟨⟨d0, d1⟩, e0, e1, e2⟩ := HL.out w' hw'; simp [e1, Result.andThen]; go_big_quiet_on) | (refine ⟨.bool false, ?_, ?_⟩; intro w' hw'; obtain ⟨⟨d0, d1⟩, e0, e1, e2⟩ := HL.out w' hw'; simp [e2, HBX.out, Result.andThen]; go_big_quiet_on) | (refine ⟨_, fun w' hw' => HO.out w' hw', ?_⟩; go_big_quiet_on))))
                    refine wpQuiet_nil ?_
                    intro w2 L2
                    have X2 := Lib.hid ((X.out.alloc _).after L2)
                    have V2 := Lib.hid ((V.out.alloc _).later L2)
                    have HB2 := Lib.hid ((Af.alloc (show Af w wr from HB.out) _).after L2)
                    clear L2 HL
                    go_wp2
                    go_ret
                    exact ⟨by rw [HR.out]; rfl, HB2.out⟩
              · have h40' : decide ((40 : Int) < ((bD l k).size : Int)) = true := decide_eq_true (by omega)
                have HR := Lib.hid (not_okJ (q := q) (show k < l.length by rw [HN.out]; exact hlt) (okJ_fst (okOne_no (fun h => h40 h.1))))
                go_wp2_with fail
                have HL := Lib.hid (fun W (h : LaterF (wr.alloc (.cells #[.string (bI l k), .string (bD l k), .bool (bX l k)] 89)) W) => (⟨((X.out.alloc _).after h).cells2, (Z.out.after h).cells3⟩ : (W.cell? ⟨w.heap.size, 0, none⟩ = some (.int .i64 q) ∧ W.cell? ⟨w.heap.size, 1, none⟩ = some (.slice (some ⟨y, o, none⟩) n ca)) ∧ (W.cell? ⟨wr.heap.size, 0, none⟩ = some (.string (bI l k)) ∧ W.cell? ⟨wr.heap.size, 1, none⟩ = some (.string (bD l k)) ∧ W.cell? ⟨wr.heap.size, 2, none⟩ = some (.bool (bX l k)))))
                refine wp_region_quiet (C := LaterF (wr.alloc (.cells #[.string (bI l k), .string (bD l k), .bool (bX l k)] 89))) (by kernel_rfl) (by kernel_rfl) (show LaterF (wr.alloc (.cells #[.string (bI l k), .string (bD l k), .bool (bX l k)] 89)) (wr.alloc (.cells #[.string (bI l k), .string (bD l k), .bool (bX l k)] 89)).drew from Below.drew (Below.refl _ _)) ?_
                dsimp only
                repeat (first | go_big_quiet_skip | (go_big_quiet_want; go_big_quiet_op; (first | go_big_quiet_on | (refine ⟨_, fun _ _ => rfl, ?_⟩; go_big_quiet_on) | (refine ⟨.string (bI l k), ?_, ?_⟩; intro w' hw'; obtain ⟨⟨d0, d1⟩, e0, e1, e2⟩ := HL.out w' hw'; simp [e0, Result.andThen]; go_big_quiet_on) | (refine ⟨.string (bD l k), ?_, ?_⟩; intro w' hw'; obtain ⟨⟨d0, d1⟩, e0, e1, e2⟩ := HL.out w' hw'; simp [e1, Result.andThen]; go_big_quiet_on))))
                refine wpQuiet_nil ?_
                intro w2 L2
                have X2 := Lib.hid ((X.out.alloc _).after L2)
                have V2 := Lib.hid ((V.out.alloc _).later L2)
                have HB2 := Lib.hid ((Af.alloc (show Af w wr from HB.out) _).after L2)
                clear L2 HL
                go_wp2
                go_ret
                exact ⟨by rw [HR.out]; rfl, HB2.out⟩
            · have h8' : (((bI l k).size : Int) != 8) = true := bne_iff_ne.2 (by omega)
              have HR := Lib.hid (not_okJ (q := q) (show k < l.length by rw [HN.out]; exact hlt) (okJ_fst (okOne_no (fun h => h8 h.2.1))))
              go_wp2_with fail
              have HL := Lib.hid (fun W (h : LaterF (wr.alloc (.cells #[.string (bI l k), .string (bD l k), .bool (bX l k)] 89)) W) => (⟨((X.out.alloc _).after h).cells2, (Z.out.after h).cells3⟩ : (W.cell? ⟨w.heap.size, 0, none⟩ = some (.int .i64 q) ∧ W.cell? ⟨w.heap.size, 1, none⟩ = some (.slice (some ⟨y, o, none⟩) n ca)) ∧ (W.cell? ⟨wr.heap.size, 0, none⟩ = some (.string (bI l k)) ∧ W.cell? ⟨wr.heap.size, 1, none⟩ = some (.string (bD l k)) ∧ W.cell? ⟨wr.heap.size, 2, none⟩ = some (.bool (bX l k)))))
              refine wp_region_quiet (C := LaterF (wr.alloc (.cells #[.string (bI l k), .string (bD l k), .bool (bX l k)] 89))) (by kernel_rfl) (by kernel_rfl) (show LaterF (wr.alloc (.cells #[.string (bI l k), .string (bD l k), .bool (bX l k)] 89)) (wr.alloc (.cells #[.string (bI l k), .string (bD l k), .bool (bX l k)] 89)).drew from Below.drew (Below.refl _ _)) ?_
              dsimp only
              repeat (first | go_big_quiet_skip | (go_big_quiet_want; go_big_quiet_op; (first | go_big_quiet_on | (refine ⟨_, fun _ _ => rfl, ?_⟩; go_big_quiet_on) | (refine ⟨.string (bI l k), ?_, ?_⟩; intro w' hw'; obtain ⟨⟨d0, d1⟩, e0, e1, e2⟩ := HL.out w' hw'; simp [e0, Result.andThen]; go_big_quiet_on) | (refine ⟨.string (bD l k), ?_, ?_⟩; intro w' hw'; obtain ⟨⟨d0, d1⟩, e0, e1, e2⟩ := HL.out w' hw'; simp [e1, Result.andThen]; go_big_quiet_on))))
              refine wpQuiet_nil ?_
              intro w2 L2
              have X2 := Lib.hid ((X.out.alloc _).after L2)
              have V2 := Lib.hid ((V.out.alloc _).later L2)
              have HB2 := Lib.hid ((Af.alloc (show Af w wr from HB.out) _).after L2)
              clear L2 HL
              go_wp2
              go_ret
              exact ⟨by rw [HR.out]; rfl, HB2.out⟩
          · obtain rfl : k = n := by omega
            have HOK := Lib.hid ((okS_iff q l).2 ⟨⟨q0, q1⟩, by rw [HN.out]; omega, by rw [HN.out, HD.out]; exact HSUM.out, fun j hj => HE.out j (by rw [HN.out] at hj; exact hj)⟩)
            go_wp2
            go_ret
            exact ⟨by rw [HOK.out]; rfl, HB.out⟩
      · have hs2 : decide (q < (dS l n : Int)) = true := decide_eq_true (by omega)
        have HR := Lib.hid (show okS q l = false from okS_no (fun h => hsum (by have := h.2.2.1; rw [HN.out] at this; exact this)))
        generalize dS l n = d at *
        have HI := Lib.hid (fun W (h : LaterF (w.alloc (.cells #[.int .i64 q, .slice a n ca] 41)) W) => l_inY q 0 1000 q0 q1 _ W h)
        have HL := Lib.hid (fun W (h : LaterF (w.alloc (.cells #[.int .i64 q, .slice a n ca] 41)) W) => ((X0.out.after h).cells2 : W.cell? ⟨w.heap.size, 0, none⟩ = some (.int .i64 q) ∧ W.cell? ⟨w.heap.size, 1, none⟩ = some (.slice a n ca)))
        go_enter Tryd.func26, Tryd.ntmps26
        go_wp2_with fail
        refine wp_region_quiet (C := LaterF (w.alloc (.cells #[.int .i64 q, .slice a n ca] 41))) (by kernel_rfl) (by kernel_rfl) (show LaterF (w.alloc (.cells #[.int .i64 q, .slice a n ca] 41)) (w.alloc (.cells #[.int .i64 q, .slice a n ca] 41)).drew from Below.drew (Below.refl _ _)) ?_
        dsimp only
        repeat (first | go_big_quiet_skip | (go_big_quiet_want; go_big_quiet_op; (first | go_big_quiet_on | (refine ⟨_, fun _ _ => rfl, ?_⟩; go_big_quiet_on) | (refine ⟨.int .i64 q, ?_, ?_⟩; intro w' hw'; obtain ⟨d0, d1⟩ := HL.out w' hw'; simp [d0, Result.andThen]; go_big_quiet_on) | (refine ⟨_, fun w' hw' => HI.out w' hw', ?_⟩; go_big_quiet_on) | (refine ⟨.slice a n ca, ?_, ?_⟩; intro w' hw'; obtain ⟨d0, d1⟩ := HL.out w' hw'; simp [d1, Result.andThen]; go_big_quiet_on) | (refine ⟨.agg #[.int .i64 q, .slice a n ca], ?_, ?_⟩; intro w' hw'; obtain ⟨d0, d1⟩ := HL.out w' hw'; simp [d0, d1, Result.andThen]; go_big_quiet_on) | (refine ⟨_, fun w' hw' => HS.out w' hw', ?_⟩; go_big_quiet_on))))
        refine wpQuiet_nil ?_
        intro w1 L1
        have X1 := Lib.hid (X0.out.after L1)
        have V1 := Lib.hid (V.out.later L1)
        have A1 := Lib.hid (A0.out.after L1)
        clear L1 HL
        go_wp2
        go_ret
        exact ⟨by rw [HR.out]; rfl, A1.out⟩
    · have HR := Lib.hid (show okS q l = false from okS_no (fun h => h12 (by have := h.2.1; rw [HN.out] at this; exact this)))
      have hni2 : decide ((12 : Int) < (n : Int)) = true := decide_eq_true (by omega)
      have HI := Lib.hid (fun W (h : LaterF (w.alloc (.cells #[.int .i64 q, .slice a n ca] 41)) W) => l_inY q 0 1000 q0 q1 _ W h)
      have HL := Lib.hid (fun W (h : LaterF (w.alloc (.cells #[.int .i64 q, .slice a n ca] 41)) W) => ((X0.out.after h).cells2 : W.cell? ⟨w.heap.size, 0, none⟩ = some (.int .i64 q) ∧ W.cell? ⟨w.heap.size, 1, none⟩ = some (.slice a n ca)))
      go_enter Tryd.func26, Tryd.ntmps26
      go_wp2_with fail
      refine wp_region_quiet (C := LaterF (w.alloc (.cells #[.int .i64 q, .slice a n ca] 41))) (by kernel_rfl) (by kernel_rfl) (show LaterF (w.alloc (.cells #[.int .i64 q, .slice a n ca] 41)) (w.alloc (.cells #[.int .i64 q, .slice a n ca] 41)).drew from Below.drew (Below.refl _ _)) ?_
      dsimp only
      repeat (first | go_big_quiet_skip | (go_big_quiet_want; go_big_quiet_op; (first | go_big_quiet_on | (refine ⟨_, fun _ _ => rfl, ?_⟩; go_big_quiet_on) | (refine ⟨.int .i64 q, ?_, ?_⟩; intro w' hw'; obtain ⟨d0, d1⟩ := HL.out w' hw'; simp [d0, Result.andThen]; go_big_quiet_on) | (refine ⟨_, fun w' hw' => HI.out w' hw', ?_⟩; go_big_quiet_on) | (refine ⟨.slice a n ca, ?_, ?_⟩; intro w' hw'; obtain ⟨d0, d1⟩ := HL.out w' hw'; simp [d1, Result.andThen]; go_big_quiet_on) | (refine ⟨.agg #[.int .i64 q, .slice a n ca], ?_, ?_⟩; intro w' hw'; obtain ⟨d0, d1⟩ := HL.out w' hw'; simp [d0, d1, Result.andThen]; go_big_quiet_on))))
      refine wpQuiet_nil ?_
      intro w1 L1
      have X1 := Lib.hid (X0.out.after L1)
      have V1 := Lib.hid (V.out.later L1)
      have A1 := Lib.hid (A0.out.after L1)
      clear L1 HL
      go_wp2
      go_ret
      exact ⟨by rw [HR.out]; rfl, A1.out⟩
  · have HR := Lib.hid (show okS q l = false from okS_no (fun h => hq h.1))
    have HI := Lib.hid (fun W (h : LaterF (w.alloc (.cells #[.int .i64 q, .slice a n ca] 41)) W) => l_inN q 0 1000 (by omega) _ W h)
    have HL := Lib.hid (fun W (h : LaterF (w.alloc (.cells #[.int .i64 q, .slice a n ca] 41)) W) => ((X0.out.after h).cells2 : W.cell? ⟨w.heap.size, 0, none⟩ = some (.int .i64 q) ∧ W.cell? ⟨w.heap.size, 1, none⟩ = some (.slice a n ca)))
    go_enter Tryd.func26, Tryd.ntmps26
    go_wp2_with fail
    refine wp_region_quiet (C := LaterF (w.alloc (.cells #[.int .i64 q, .slice a n ca] 41))) (by kernel_rfl) (by kernel_rfl) (show LaterF (w.alloc (.cells #[.int .i64 q, .slice a n ca] 41)) (w.alloc (.cells #[.int .i64 q, .slice a n ca] 41)).drew from Below.drew (Below.refl _ _)) ?_
    dsimp only
    repeat (first | go_big_quiet_skip | (go_big_quiet_want; go_big_quiet_op; (first | go_big_quiet_on | (refine ⟨_, fun _ _ => rfl, ?_⟩; go_big_quiet_on) | (refine ⟨.int .i64 q, ?_, ?_⟩; intro w' hw'; obtain ⟨d0, d1⟩ := HL.out w' hw'; simp [d0, Result.andThen]; go_big_quiet_on) | (refine ⟨_, fun w' hw' => HI.out w' hw', ?_⟩; go_big_quiet_on) | (refine ⟨.slice a n ca, ?_, ?_⟩; intro w' hw'; obtain ⟨d0, d1⟩ := HL.out w' hw'; simp [d1, Result.andThen]; go_big_quiet_on) | (refine ⟨.agg #[.int .i64 q, .slice a n ca], ?_, ?_⟩; intro w' hw'; obtain ⟨d0, d1⟩ := HL.out w' hw'; simp [d0, d1, Result.andThen]; go_big_quiet_on))))
    refine wpQuiet_nil ?_
    intro w1 L1
    have X1 := Lib.hid (X0.out.after L1)
    have V1 := Lib.hid (V.out.later L1)
    have A1 := Lib.hid (A0.out.after L1)
    clear L1 HL
    go_wp2
    go_ret
    exact ⟨by rw [HR.out]; rfl, A1.out⟩
set_option maxRecDepth 100000 in
set_option maxHeartbeats 1000000 in
theorem spec_blobUsed (v : Value) (l : List Bb) (q : Int) (w : World) (hv : Blbs w v l) (hs : Sml l) :
    Calls Tryd.prog 41 #[.agg #[.int .i64 q, v]] w fun e w' => e = .returned (.int .i64 (usedR q l : Nat)) ∧ Below w.heap.size w w' := by
  obtain ⟨a, ca, hve⟩ := hv.slice
  subst hve
  have V := Lib.hid (hv.alloc (.cells #[.int .i64 q, .slice a l.length ca] 41))
  have X0 := Lib.hid (Bx.new w 41 #[.int .i64 q, .slice a l.length ca] _ rfl)
  have A0 := Lib.hid ((Af.refl w).alloc (.cells #[.int .i64 q, .slice a l.length ca] 41))
  have HSM := Lib.hid hs
  clear hv hs
  go_enter Tryd.func41, Tryd.ntmps41
  go_wp2_with fail
  refine (spec_blobsOk _ l q _ V.out HSM.out).mono ?_
  rintro e w2 ⟨rfl, hb⟩
  have V2 := Lib.hid (V.out.later hb)
  have A2 := Lib.hid (A0.out.after hb)
  have X2 := Lib.hid (X0.out.after hb)
  clear hb V X0 A0
  cases hok : okS q l with
  | false =>
    have HU := Lib.hid (usedR_no hok)
    clear hok
    go_wp2
    go_ret
    exact ⟨by rw [HU.out]; rfl, A2.out⟩
  | true =>
    have HU := Lib.hid (usedR_yes hok)
    have h12 := ((okS_iff q l).1 hok).2.1
    obtain ⟨x0, x1⟩ := X2.out.cells2
    clear hok
    go_wp2_with fail
    refine (spec_sum _ l q _ V2.out (by omega) HSM.out).mono ?_
    rintro e w3 ⟨rfl, hb⟩
    have A3 := Lib.hid (A2.out.after hb)
    clear hb
    go_wp2
    go_ret
    exact ⟨by rw [HU.out]; rfl, A3.out⟩
end Go.Proofs.YtemhhjkmolndbaaDoor
