/- addRecord, by one contract. -/
import Derived.Test.YtmnglcidklckgaaDoorAddM
import Derived.Test.YtmnglcidklckgaaDoorCutI
import Derived.Deep.Cut
namespace Go.Proofs.YtmnglcidklckgaaDoor
open Go.RowKit Go.PlainAid
set_option linter.unusedVariables false

theorem row_ne {w : World} {base g c n q : Nat} {l : List Sg} {cs : Array Value} (h : SegRow w base (.slice (some ⟨g, 0, none⟩) n c) l) (h0 : 0 < l.length) (hx : Bx w q 26 cs) : g ≠ q := fun e => by
  subst e
  obtain ⟨_, ⟨e, _⟩ | ⟨g', cap, cur, e, _, hg, _⟩⟩ := h
  · simp at e
  · simp only [Value.slice.injEq, Option.some.injEq, Addr.mk.injEq] at e
    obtain ⟨⟨rfl, _⟩, _⟩ := e
    unfold Bx at hx
    rw [hx] at hg
    simp at hg
theorem isEmpty_no {t : ByteArray} (h : t.size ≠ 0) : t.toList.isEmpty = false := by
  rw [ByteArray.toList_eq]
  cases e : t.data.toList with
  | nil => exact absurd (by rw [size_data, e]; rfl) h
  | cons a b => rfl
theorem isEmpty_yes {t : ByteArray} (h : t.size = 0) : t.toList.isEmpty = true := by
  rw [empty_of_size h, ByteArray.toList_eq]
  rfl
set_option maxRecDepth 100000 in
set_option maxHeartbeats 2000000 in
theorem impl_addRecord (v : Value) (l : List Sg) (n m : Int) (s : ByteArray) (w : World) (hv : Segs w v l) (ht : ∀ j, j < l.length → (sT l j).size ≤ 1048576) (hs : s.size ≤ 1048576) (hT : TabC w) :
    Calls Tryd.prog 35 #[.agg #[v, .int .i64 n, .int .i64 m], .string s] w fun e w' => MoveV w.heap.size (addR l n m s) e w' ∧ Below w.heap.size w w' := by
  obtain ⟨a, k0, cap0, hve⟩ := hv.form
  subst hve
  have V0 := Lib.hid ((hv.alloc (.cells #[.slice a k0 cap0, .int .i64 n, .int .i64 m] 26)).alloc (.cells #[.slice none 0 0, .int .i64 0, .int .i64 0] 26))
  have X0 := Lib.hid ((Bx.new w 26 #[.slice a k0 cap0, .int .i64 n, .int .i64 m] _ rfl).alloc (.cells #[.slice none 0 0, .int .i64 0, .int .i64 0] 26))
  have Z0 := Lib.hid (Bx.new (w.alloc (.cells #[.slice a k0 cap0, .int .i64 n, .int .i64 m] 26)) 26 #[.slice none 0 0, .int .i64 0, .int .i64 0] (w.heap.size + 1) (by simp))
  have A0 := Lib.hid (((Af.refl w).alloc (.cells #[.slice a k0 cap0, .int .i64 n, .int .i64 m] 26)).alloc (.cells #[.slice none 0 0, .int .i64 0, .int .i64 0] 26))
  have HT := Lib.hid ht
  have HTA := Lib.hid hT
  have HV := Lib.hid hv
  clear hv ht hT
  cases hok : okB l n m with
  | false =>
    have HM := Lib.hid (addR_no l n m s hok)
    have HO := Lib.hid hok
    clear hok
    go_enter Tryd.func35, Tryd.ntmps35
    go_wp2_with fail
    refine (check_no _ l n m _ V0.out HT.out (HTA.out.later A0.out (Nat.le_refl _)) HO.out).mono ?_
    rintro e w2 ⟨⟨r, rfl⟩, hb⟩
    have Z2 := Lib.hid (Z0.out.after hb)
    have A2 := Lib.hid (A0.out.after hb)
    obtain ⟨y0, y1, y2⟩ := Z2.out.cells3
    obtain ⟨f0, f1, f2⟩ := Z2.out.frozen3
    clear hb
    go_wp2
    refine bodyPost_ret (results_log2 Tryd.results35 _ _ (w.heap.size + 1) _ _ _ rfl (Z2.out.st3 _ _ _).cells3) rfl ⟨⟨none, 0, 0, by rw [HM.out]; exact segOwn_nil _ _ _ _, .inr rfl, .inr ⟨by rw [HM.out]; rfl, r, by rw [HM.out]; rfl⟩⟩, A2.out.st3 (by omega) _ _ _⟩
  | true =>
    have HO := Lib.hid hok
    obtain ⟨l1, l6⟩ := okB_len hok
    obtain ⟨n1, n2, m1, m2⟩ := okB_n hok
    obtain ⟨e, he⟩ : ∃ e, l.length = e + 1 := ⟨l.length - 1, by omega⟩
    have HE := Lib.hid he
    have HS := Lib.hid hs
    clear l1 l6 he hs hok
    go_enter Tryd.func35, Tryd.ntmps35
    go_wp2_with fail
    refine (check_ok _ l n m _ V0.out HT.out (HTA.out.later A0.out (Nat.le_refl _)) HO.out).mono ?_
    rintro e' w1 ⟨rfl, hb⟩
    have V1 := Lib.hid (V0.out.later hb)
    have X1 := Lib.hid (X0.out.after hb)
    have Z1 := Lib.hid (Z0.out.after hb)
    have A1 := Lib.hid (A0.out.after hb)
    clear hb V0 X0 Z0 A0
    go_wp2_with fail
    refine (impl_frame s _ HS.out (HTA.out.later A1.out (Nat.le_refl _))).mono ?_
    rintro e' w2 ⟨rfl, hb⟩
    have V2 := Lib.hid (V1.out.later hb)
    have X2 := Lib.hid (X1.out.after hb)
    have Z2 := Lib.hid (Z1.out.after hb)
    have A2 := Lib.hid (A1.out.after hb)
    have s2 := A2.out.size
    have z2 := Z2.out.lt
    clear hb V1 X1 Z1 A1
    by_cases hrej : 200 < s.size ∨ n = 1000
    · have HM := Lib.hid (addR_rej l n m s HO.out hrej)
      obtain ⟨x0, x1, x2⟩ := X2.out.cells3
      by_cases hbig : 200 < s.size
      · rw [frameS_big s hbig]
        clear hrej
        go_wp2_with fail
        clear x0 x1 x2
        refine (impl_reject _ l n m _ _ V2.out (by have := HE.out; omega) (by have := okB_len HO.out; omega) HT.out).mono ?_
        rintro e' w3 ⟨u, rfl, hr, hb⟩
        obtain ⟨g, cap, rfl, hbg, hgw, hcap⟩ := hr.form (by have := HE.out; omega)
        have R3 := Lib.hid hr
        have Z3 := Lib.hid (Z2.out.after hb)
        have A3 := Lib.hid (A2.out.after hb)
        obtain ⟨y0, y1, y2⟩ := Z3.out.cells3
        obtain ⟨f0, f1, f2⟩ := Z3.out.frozen3
        clear hr hb V2 X2 Z2 A2
        go_wp2
        refine bodyPost_ret (results_log2 Tryd.results35 _ _ (w.heap.size + 1) _ _ _ rfl (Z3.out.st3 _ _ _).cells3) rfl ⟨⟨_, _, _, by rw [HM.out]; exact ((R3.out.st3 (by omega) _ _ _).mono (by omega)).own, .inl (by rw [HM.out]; show 0 < l.length; have := HE.out; omega), .inr ⟨by rw [HM.out], _, by rw [HM.out]; rfl⟩⟩, A3.out.st3 (by omega) _ _ _⟩
      · have hs2 : s.size ≤ 200 := by omega
        have hn2 : n = 1000 := by omega
        have hfp := frameS_pos s hs2
        have b1 := isEmpty_no (t := frameS s) (by omega)
        generalize frameS s = fr at *
        have b2 : (n == 1000) = true := by rw [hn2]; rfl
        clear hrej hn2
        go_wp2_with fail
        clear x0 x1 x2
        refine (impl_reject _ l n m _ _ V2.out (by have := HE.out; omega) (by have := okB_len HO.out; omega) HT.out).mono ?_
        rintro e' w3 ⟨u, rfl, hr, hb⟩
        obtain ⟨g, cap, rfl, hbg, hgw, hcap⟩ := hr.form (by have := HE.out; omega)
        have R3 := Lib.hid hr
        have Z3 := Lib.hid (Z2.out.after hb)
        have A3 := Lib.hid (A2.out.after hb)
        obtain ⟨y0, y1, y2⟩ := Z3.out.cells3
        obtain ⟨f0, f1, f2⟩ := Z3.out.frozen3
        clear hr hb V2 X2 Z2 A2
        go_wp2
        refine bodyPost_ret (results_log2 Tryd.results35 _ _ (w.heap.size + 1) _ _ _ rfl (Z3.out.st3 _ _ _).cells3) rfl ⟨⟨_, _, _, by rw [HM.out]; exact ((R3.out.st3 (by omega) _ _ _).mono (by omega)).own, .inl (by rw [HM.out]; show 0 < l.length; have := HE.out; omega), .inr ⟨by rw [HM.out], _, by rw [HM.out]; rfl⟩⟩, A3.out.st3 (by omega) _ _ _⟩
    · have hs2 : s.size ≤ 200 := by omega
      have hn2 : n < 1000 := by omega
      have HSP := Lib.hid hs2
      have hfp := frameS_pos s hs2
      have hfl := frameS_le s
      have HR := Lib.hid hrej
      obtain ⟨fr, hfr⟩ : ∃ fr, frameS s = fr := ⟨_, rfl⟩
      rw [hfr] at hfp hfl ⊢
      have HFR := Lib.hid hfr
      have b1 := isEmpty_no (t := fr) (by omega)
      have b2 : (n == 1000) = false := beq_no (by omega)
      obtain ⟨x0, x1, x2⟩ := X2.out.cells3
      clear hfr hrej hs2
      go_wp2_with fail
      clear x0 x1 x2
      refine (impl_copy _ l n m _ V2.out (by have := HE.out; omega) (by have := okB_len HO.out; omega) HT.out).mono ?_
      rintro e' w3 ⟨u, rfl, hr, hb⟩
      obtain ⟨g, cap, rfl, hbg, hgw, hcap⟩ := hr.form (by have := HE.out; omega)
      have R3 := Lib.hid (hr.alloc (.cells #[.slice (some ⟨g, 0, none⟩) l.length cap, .int .i64 n, .int .i64 m] 26))
      have Y3 := Lib.hid (Bx.new w3 26 #[.slice (some ⟨g, 0, none⟩) l.length cap, .int .i64 n, .int .i64 m] _ rfl)
      have Z3 := Lib.hid ((Z2.out.after hb).alloc (.cells #[.slice (some ⟨g, 0, none⟩) l.length cap, .int .i64 n, .int .i64 m] 26))
      have A3 := Lib.hid ((A2.out.after hb).alloc (.cells #[.slice (some ⟨g, 0, none⟩) l.length cap, .int .i64 n, .int .i64 m] 26))
      have V3 := Lib.hid ((V2.out.later hb).alloc (.cells #[.slice (some ⟨g, 0, none⟩) l.length cap, .int .i64 n, .int .i64 m] 26))
      have X3 := Lib.hid ((X2.out.after hb).alloc (.cells #[.slice (some ⟨g, 0, none⟩) l.length cap, .int .i64 n, .int .i64 m] 26))
      have s3 := (A2.out.after hb).size
      have hgw3 : g < (w3.alloc (.cells #[.slice (some ⟨g, 0, none⟩) l.length cap, .int .i64 n, .int .i64 m] 26)).heap.size := by simp; omega
      have hG3 : w3.heap.size < (w3.alloc (.cells #[.slice (some ⟨g, 0, none⟩) l.length cap, .int .i64 n, .int .i64 m] 26)).heap.size := by simp
      clear hr hb V2 X2 Z2 A2
      go_upto_region 10 with fail
      generalize w3.alloc (.cells #[.slice (some ⟨g, 0, none⟩) l.length cap, .int .i64 n, .int .i64 m] 26) = W3 at R3 Y3 Z3 A3 V3 X3 hgw3 hG3 ⊢
      obtain ⟨r1, r2, q1, q2⟩ := R3.out.cell e (by have := HE.out; omega)
      have hte := HT.out e (by have := HE.out; omega)
      obtain ⟨t, htt⟩ : ∃ t, sT l e = t := ⟨_, rfl⟩
      rw [htt] at r2 hte
      have HTE := Lib.hid htt
      have l6 := (okB_len HO.out).2
      rw [HE.out] at hcap Y3 l6 ⊢
      have e6 : (e : Int) ≤ 5 := by omega
      have e0 : (0 : Int) ≤ (e : Int) := by omega
      have t6 : (t.size : Int) ≤ 1048576 := by omega
      have f6 : (fr.size : Int) ≤ 211 := by omega
      have ie : (e : Int) < ((e + 1 : Nat) : Int) := by omega
      have ie2 : (e : Int) < (e : Int) + 1 := by omega
      have il : (e : Int) + 1 ≤ 6 := by omega
      clear htt
      by_cases hc : t.size = 0 ∨ t.size + fr.size ≤ 60
      · by_cases ht0 : t.size = 0
        · have HM := Lib.hid (addR_in l n m s e HO.out HE.out HR.out (by rw [HTE.out, HFR.out]; exact hc))
          rw [HTE.out, HFR.out] at HM
          have O4 := Lib.hid (show SegOwn (W3.setCell ⟨g, e * 2 + 1, none⟩ (.string (t ++ fr))) w2.heap.size (.slice (some ⟨g, 0, none⟩) (e + 1) cap) (l.set e ⟨sF l e, t ++ fr⟩) by
            have h := R3.out.setT e (t ++ fr) (by have := HE.out; omega)
            rw [HE.out] at h
            exact h)
          have Y4 := Lib.hid (Y3.out.set_other ⟨g, e * 2 + 1, none⟩ (.string (t ++ fr)) (by simp; omega))
          have Z4 := Lib.hid (Z3.out.set_other ⟨g, e * 2 + 1, none⟩ (.string (t ++ fr)) (by simp; omega))
          have A4 := Lib.hid (A3.out.set (p := ⟨g, e * 2 + 1, none⟩) (by simp; omega) (.string (t ++ fr)))
          have Y5 := Lib.hid (Y4.out.set 1 (.int .i64 (n + 1)))
          have Z5 := Lib.hid (Z4.out.set_other ⟨w3.heap.size, 1, none⟩ (.int .i64 (n + 1)) (by simp; omega))
          have A5 := Lib.hid (A4.out.set (p := ⟨w3.heap.size, 1, none⟩) (by simp; omega) (.int .i64 (n + 1)))
          have O5 := Lib.hid (O4.out.keepB (grownBy_set _ w3.heap.size 1 (.int .i64 (n + 1))) (fun b hb => by cases hb; exact (ob_ne (by omega)).symm))
          obtain ⟨y0, y1, y2⟩ := Y3.out.cells3
          obtain ⟨u0, u1, u2⟩ := Y4.out.cells3
          obtain ⟨v0, v1, v2⟩ := Y4.out.frozen3
          obtain ⟨j0, j1, j2⟩ := Y5.out.cells3
          obtain ⟨z0, z1, z3⟩ := Z5.out.cells3
          obtain ⟨f0, f1, f2⟩ := Z5.out.frozen3
          have b3 := isEmpty_yes ht0
          clear hc
          go_wp2
          refine bodyPost_ret (results_log2 Tryd.results35 _ _ (w.heap.size + 1) _ _ _ rfl (Z5.out.st3 _ _ _).cells3) rfl ⟨⟨_, _, _, by rw [HM.out]; exact (O5.out.st3 (by omega) _ _ _).mono (by omega), .inl (by rw [HM.out]; simp only [List.length_set]; have := HE.out; omega), .inl ⟨by rw [HM.out], by rw [HM.out]; rfl⟩⟩, A5.out.st3 (by omega) _ _ _⟩
        · have HM := Lib.hid (addR_in l n m s e HO.out HE.out HR.out (by rw [HTE.out, HFR.out]; exact hc))
          rw [HTE.out, HFR.out] at HM
          have O4 := Lib.hid (show SegOwn (W3.setCell ⟨g, e * 2 + 1, none⟩ (.string (t ++ fr))) w2.heap.size (.slice (some ⟨g, 0, none⟩) (e + 1) cap) (l.set e ⟨sF l e, t ++ fr⟩) by
            have h := R3.out.setT e (t ++ fr) (by have := HE.out; omega)
            rw [HE.out] at h
            exact h)
          have Y4 := Lib.hid (Y3.out.set_other ⟨g, e * 2 + 1, none⟩ (.string (t ++ fr)) (by simp; omega))
          have Z4 := Lib.hid (Z3.out.set_other ⟨g, e * 2 + 1, none⟩ (.string (t ++ fr)) (by simp; omega))
          have A4 := Lib.hid (A3.out.set (p := ⟨g, e * 2 + 1, none⟩) (by simp; omega) (.string (t ++ fr)))
          have Y5 := Lib.hid (Y4.out.set 1 (.int .i64 (n + 1)))
          have Z5 := Lib.hid (Z4.out.set_other ⟨w3.heap.size, 1, none⟩ (.int .i64 (n + 1)) (by simp; omega))
          have A5 := Lib.hid (A4.out.set (p := ⟨w3.heap.size, 1, none⟩) (by simp; omega) (.int .i64 (n + 1)))
          have O5 := Lib.hid (O4.out.keepB (grownBy_set _ w3.heap.size 1 (.int .i64 (n + 1))) (fun b hb => by cases hb; exact (ob_ne (by omega)).symm))
          obtain ⟨y0, y1, y2⟩ := Y3.out.cells3
          obtain ⟨u0, u1, u2⟩ := Y4.out.cells3
          obtain ⟨v0, v1, v2⟩ := Y4.out.frozen3
          obtain ⟨j0, j1, j2⟩ := Y5.out.cells3
          obtain ⟨z0, z1, z3⟩ := Z5.out.cells3
          obtain ⟨f0, f1, f2⟩ := Z5.out.frozen3
          have b3 := isEmpty_no ht0
          have b4 : (t.size : Int) + (fr.size : Int) ≤ 60 := by omega
          clear hc
          go_wp2
          refine bodyPost_ret (results_log2 Tryd.results35 _ _ (w.heap.size + 1) _ _ _ rfl (Z5.out.st3 _ _ _).cells3) rfl ⟨⟨_, _, _, by rw [HM.out]; exact (O5.out.st3 (by omega) _ _ _).mono (by omega), .inl (by rw [HM.out]; simp only [List.length_set]; have := HE.out; omega), .inl ⟨by rw [HM.out], by rw [HM.out]; rfl⟩⟩, A5.out.st3 (by omega) _ _ _⟩
      · have ht0 : t.size ≠ 0 := fun h => hc (.inl h)
        have b3 := isEmpty_no ht0
        have b4 : decide ((t.size : Int) + (fr.size : Int) ≤ 60) = false := decide_eq_false (by omega)
        have HN := Lib.hid (fun h6 => addR_new l n m s e HO.out HE.out HR.out (by rw [HTE.out, HFR.out]; exact hc) h6)
        have HFU := Lib.hid (fun h6 => addR_full l n m s e HO.out HE.out HR.out (by rw [HTE.out, HFR.out]; exact hc) h6)
        rw [HFR.out] at HN HFU
        have RA := Lib.hid (show SegRow (W3.alloc (.cells #[.int .i64 n, .string fr] 51)) w2.heap.size (.slice (some ⟨g, 0, none⟩) (e + 1) cap) l by
          have h := R3.out.alloc (.cells #[.int .i64 n, .string fr] 51)
          rw [HE.out] at h
          exact h)
        have hX : ∀ j, j < [Sg.mk n fr].length → (W3.alloc (.cells #[.int .i64 n, .string fr] 51)).cell? ⟨W3.heap.size, 0 + j * 2, none⟩ = some (.int .i64 (sF [Sg.mk n fr] j)) ∧ (W3.alloc (.cells #[.int .i64 n, .string fr] 51)).cell? ⟨W3.heap.size, 0 + j * 2 + 1, none⟩ = some (.string (sT [Sg.mk n fr] j)) := fun j hj => by
          obtain rfl : j = 0 := by simpa using hj
          have hb := Bx.new W3 51 #[.int .i64 n, .string fr] _ rfl
          rw [sF_of (x := Sg.mk n fr) rfl, sT_of (x := Sg.mk n fr) rfl]
          exact ⟨hb.cell 0 _ rfl, hb.cell 1 _ rfl⟩
        have HX := Lib.hid hX
        have YA := Lib.hid (Y3.out.alloc (.cells #[.int .i64 n, .string fr] 51))
        have ZA := Lib.hid (Z3.out.alloc (.cells #[.int .i64 n, .string fr] 51))
        have XA := Lib.hid (X3.out.alloc (.cells #[.int .i64 n, .string fr] 51))
        have AA := Lib.hid (A3.out.alloc (.cells #[.int .i64 n, .string fr] 51))
        obtain ⟨y0, y1, y2⟩ := Y3.out.cells3
        obtain ⟨p0, p1, p2⟩ := YA.out.cells3
        have s33 := A3.out.size
        clear hc hX
        go_wp2_with (at_builtin; go_loud (refine wp_append_segs rfl (.tmp 63) (.tmp 68) rfl w2.heap.size _ l [Sg.mk n fr] rfl RA.out W3.heap.size 0 1 rfl HX.out (by have := HE.out; simp; omega) (by simp; omega) ?_; intro v' w4 hv4 hg4; obtain ⟨l2, hl2⟩ : ∃ l2, l ++ [Sg.mk n fr] = l2 := ⟨_, rfl⟩; rw [hl2] at hv4; have HL2 := Lib.hid hl2; have hlen2 : l2.length = e + 2 := (by rw [← hl2, List.length_append, HE.out]; rfl); have HLEN := Lib.hid hlen2; obtain ⟨g4, cap4, rfl, hbg4, hgw4, hcap4⟩ := hv4.form (by omega); have Y4 := Lib.hid (YA.out.keep hg4 (ob_ne (by omega))); have Z4 := Lib.hid (ZA.out.keep hg4 (ob_ne (by omega))); have X4 := Lib.hid (XA.out.keep hg4 (ob_ne (by omega))); have A4 := Lib.hid (AA.out.grow hg4 (ob_le (by omega))); have R4 := Lib.hid hv4; obtain ⟨c0, c1, c2⟩ := Y4.out.cells3; obtain ⟨k0', k1', k2'⟩ := Y4.out.frozen3; have hne4 := row_ne hv4 (by omega) Y4.out; have Y4s := Lib.hid (Y4.out.set 0 (.slice (some ⟨g4, 0, none⟩) l2.length cap4)); obtain ⟨c3, c4, c5⟩ := Y4s.out.cells3; clear hl2 hlen2 hv4 hg4 y0 y1 y2 p0 p1 p2))
        clear c0 c1 c2 c3 c4 c5 k0' k1' k2'
        have O4 := Lib.hid (R4.out.own.keepB (grownBy_set w4 w3.heap.size 0 (.slice (some ⟨g4, 0, none⟩) l2.length cap4)) (fun b hb => by cases hb; exact (ob_ne (Ne.symm hne4)).symm))
        have Z4s := Lib.hid (Z4.out.set_other ⟨w3.heap.size, 0, none⟩ (.slice (some ⟨g4, 0, none⟩) l2.length cap4) (by simp; omega))
        have X4s := Lib.hid (X4.out.set_other ⟨w3.heap.size, 0, none⟩ (.slice (some ⟨g4, 0, none⟩) l2.length cap4) (by simp; omega))
        have A4s := Lib.hid (A4.out.set (p := ⟨w3.heap.size, 0, none⟩) (by simp; omega) (.slice (some ⟨g4, 0, none⟩) l2.length cap4))
        refine (impl_unc0 g4 cap4 w2.heap.size l2 n m _ O4.out (by have := HLEN.out; omega) (by have := HLEN.out; omega) (fun j hj => ?hF)).mono ?_
        case hF =>
          rw [HLEN.out] at hj
          rw [← HL2.out]
          by_cases hje : j < l.length
          · rw [sF_left _ _ _ hje]
            have := okB_F HO.out j hje
            omega
          · have hjl : j = l.length := by have := HE.out; omega
            rw [hjl, sF_snoc]
            exact ⟨n1, by show n ≤ 2000; omega⟩
        rintro e' w5 ⟨rfl, hb⟩
        have hdl := dN_lt l2 m (by have := HLEN.out; omega)
        rw [HL2.out] at HN HFU
        obtain ⟨d, hd⟩ : ∃ d, dN l2 m = d := ⟨_, rfl⟩
        rw [hd] at hdl HN HFU ⊢
        obtain ⟨q, hq⟩ : ∃ q, l2.length - d = q := ⟨_, rfl⟩
        have hdq : (l2.drop d).length = q := by rw [List.length_drop]; exact hq
        rw [hdq] at HN HFU
        have O5 := Lib.hid (show SegOwn w5 w2.heap.size (.slice (some ⟨g4, d * 2, none⟩) q (cap4 - d)) (l2.drop d) by
          have h := (O4.out.later hb).drop d hdl
          rw [Nat.zero_add, hq] at h
          exact h)
        rw [hq]
        have Y5 := Lib.hid (Y4s.out.after hb)
        have Z5 := Lib.hid (Z4s.out.after hb)
        have X5 := Lib.hid (X4s.out.after hb)
        have A5 := Lib.hid (A4s.out.after hb)
        have HDQ := Lib.hid hdq
        have q7 : (q : Int) ≤ 7 := by have := HLEN.out; omega
        have hq1 : 1 ≤ q := by omega
        clear hb hd hq hdl hdq O4 Y4 Y4s Z4 Z4s X4 X4s A4 A4s R4
        have Y6 := Lib.hid (Y5.out.set 0 (.slice (some ⟨g4, d * 2, none⟩) q (cap4 - d)))
        have Z6 := Lib.hid (Z5.out.set_other ⟨w3.heap.size, 0, none⟩ (.slice (some ⟨g4, d * 2, none⟩) q (cap4 - d)) (by simp; omega))
        have X6 := Lib.hid (X5.out.set_other ⟨w3.heap.size, 0, none⟩ (.slice (some ⟨g4, d * 2, none⟩) q (cap4 - d)) (by simp; omega))
        have A6 := Lib.hid (A5.out.set (p := ⟨w3.heap.size, 0, none⟩) (by simp; omega) (.slice (some ⟨g4, d * 2, none⟩) q (cap4 - d)))
        have O6 := Lib.hid (O5.out.keepB (grownBy_set w5 w3.heap.size 0 (.slice (some ⟨g4, d * 2, none⟩) q (cap4 - d))) (fun b hb => by cases hb; exact (ob_ne (Ne.symm hne4)).symm))
        have Y7 := Lib.hid (Y6.out.set 1 (.int .i64 (n + 1)))
        have Z7 := Lib.hid (Z6.out.set_other ⟨w3.heap.size, 1, none⟩ (.int .i64 (n + 1)) (by simp; omega))
        have X7 := Lib.hid (X6.out.set_other ⟨w3.heap.size, 1, none⟩ (.int .i64 (n + 1)) (by simp; omega))
        have A7 := Lib.hid (A6.out.set (p := ⟨w3.heap.size, 1, none⟩) (by simp; omega) (.int .i64 (n + 1)))
        have O7 := Lib.hid (O6.out.keepB (grownBy_set _ w3.heap.size 1 (.int .i64 (n + 1))) (fun b hb => by cases hb; exact (ob_ne (Ne.symm hne4)).symm))
        obtain ⟨y0, y1, y2⟩ := Y5.out.cells3
        obtain ⟨f0, f1, f2⟩ := Y5.out.frozen3
        obtain ⟨u0, u1, u2⟩ := Y6.out.cells3
        obtain ⟨v0, v1, v2⟩ := Y6.out.frozen3
        obtain ⟨j0, j1, j2⟩ := Y7.out.cells3
        obtain ⟨x0, x1, x2⟩ := X7.out.cells3
        obtain ⟨z0, z1, z3⟩ := Z7.out.cells3
        obtain ⟨i0, i1, i2⟩ := Z7.out.frozen3
        by_cases h6 : q ≤ 6
        · have HM := Lib.hid (HN.out h6)
          have h6i : (q : Int) ≤ 6 := by omega
          go_wp2
          refine bodyPost_ret (results_log2 Tryd.results35 _ _ (w.heap.size + 1) _ _ _ rfl (Z7.out.st3 _ _ _).cells3) rfl ⟨⟨_, _, _, by rw [HM.out]; exact (O7.out.st3 (by omega) _ _ _).mono (by omega), .inl (by rw [HM.out]; show 0 < (l2.drop d).length; rw [HDQ.out]; omega), .inl ⟨by rw [HM.out], by rw [HM.out]; rfl⟩⟩, A7.out.st3 (by omega) _ _ _⟩
        · have HM := Lib.hid (HFU.out h6)
          have h6i : (6 : Int) < (q : Int) := by omega
          go_wp2_with fail
          clear x0 x1 x2 y0 y1 y2 u0 u1 u2 j0 j1 j2 z0 z1 z3 i0 i1 i2 f0 f1 f2 v0 v1 v2
          refine (impl_reject _ l n m _ _ (HV.out.later A7.out) (by have := HE.out; omega) (by have := okB_len HO.out; omega) HT.out).mono ?_
          rintro e' w8 ⟨u, rfl, hr, hb⟩
          obtain ⟨g8, cap8, rfl, hbg8, hgw8, hcap8⟩ := hr.form (by have := HE.out; omega)
          have R8 := Lib.hid hr
          have Z8 := Lib.hid (Z7.out.after hb)
          have A8 := Lib.hid (A7.out.after hb)
          have hz7 := Z7.out.lt
          have ha7 := A7.out.size
          obtain ⟨y0, y1, y2⟩ := Z8.out.cells3
          obtain ⟨f0, f1, f2⟩ := Z8.out.frozen3
          clear hr hb
          go_wp2
          refine bodyPost_ret (results_log2 Tryd.results35 _ _ (w.heap.size + 1) _ _ _ rfl (Z8.out.st3 _ _ _).cells3) rfl ⟨⟨_, _, _, by rw [HM.out]; exact ((R8.out.st3 (by omega) _ _ _).mono (by omega)).own, .inl (by rw [HM.out]; show 0 < l.length; have := HE.out; omega), .inr ⟨by rw [HM.out], _, by rw [HM.out]; rfl⟩⟩, A8.out.st3 (by omega) _ _ _⟩
end Go.Proofs.YtmnglcidklckgaaDoor
