/- cutLast, by one contract. -/
import Derived.Test.YtmnglcidklckgaaDoorLogF
import Derived.Test.YtmnglcidklckgaaDoorMarkI
import Derived.Test.YtmnglcidklckgaaDoorSpCopy
import Derived.Test.YtmnglcidklckgaaDoorLogS
namespace Go.Proofs.YtmnglcidklckgaaDoor
open Go.RowKit Go.PlainAid
set_option linter.unusedVariables false

theorem SegRow.setT {w : World} {base g cap : Nat} {l : List Sg} (h : SegRow w base (.slice (some ⟨g, 0, none⟩) l.length cap) l) (j : Nat) (t : ByteArray) (hj : j < l.length) :
    SegOwn (w.setCell ⟨g, j * 2 + 1, none⟩ (.string t)) base (.slice (some ⟨g, 0, none⟩) l.length cap) (l.set j ⟨sF l j, t⟩) := by
  have h2 := h.own.setT j t hj
  rw [Nat.zero_add] at h2
  exact h2
theorem SegRow.cell {w : World} {base g cap : Nat} {l : List Sg} (h : SegRow w base (.slice (some ⟨g, 0, none⟩) l.length cap) l) (j : Nat) (hj : j < l.length) :
    w.cell? ⟨g, j * 2, none⟩ = some (.int .i64 (sF l j)) ∧ w.cell? ⟨g, j * 2 + 1, none⟩ = some (.string (sT l j)) ∧ w.frozen? ⟨g, j * 2, none⟩ = false ∧ w.frozen? ⟨g, j * 2 + 1, none⟩ = false := by
  obtain ⟨g', o', e1, _, _, _, hc⟩ := h.own.cells (by omega)
  simp only [Option.some.injEq, Addr.mk.injEq] at e1
  obtain ⟨rfl, rfl, _⟩ := e1
  have := hc j hj
  rw [Nat.zero_add] at this
  exact this
theorem SegOwn.cell0 {w : World} {base g n cap : Nat} {l : List Sg} (h : SegOwn w base (.slice (some ⟨g, 0, none⟩) n cap) l) (j : Nat) (hj : j < l.length) :
    w.cell? ⟨g, j * 2, none⟩ = some (.int .i64 (sF l j)) ∧ w.cell? ⟨g, j * 2 + 1, none⟩ = some (.string (sT l j)) ∧ w.frozen? ⟨g, j * 2, none⟩ = false ∧ w.frozen? ⟨g, j * 2 + 1, none⟩ = false := by
  obtain ⟨g', o', e1, _, _, _, hc⟩ := h.cells (by omega)
  simp only [Option.some.injEq, Addr.mk.injEq] at e1
  obtain ⟨rfl, rfl, _⟩ := e1
  have := hc j hj
  rw [Nat.zero_add] at this
  exact this

theorem sg_self (l : List Sg) (e : Nat) (h : e < l.length) : l.set e ⟨sF l e, sT l e⟩ = l := by
  apply sg_ext
  · rw [List.length_set]
  · intro j hj
    rw [List.length_set] at hj
    rw [sF_set _ _ _ _ h, sT_set _ _ _ _ h]
    split
    · next e => subst e; exact ⟨rfl, rfl⟩
    · exact ⟨rfl, rfl⟩
set_option maxRecDepth 100000 in
set_option maxHeartbeats 2000000 in
theorem impl_cutLast (v : Value) (l : List Sg) (n m k : Int) (w : World) (hv : Segs w v l) (ht : ∀ j, j < l.length → (sT l j).size ≤ 1048576) (hT : TabC w) :
    Calls Tryd.prog 39 #[.agg #[v, .int .i64 n, .int .i64 m], .int .i64 k] w fun e w' => MoveV w.heap.size (cutR l n m k) e w' ∧ Below w.heap.size w w' := by
  obtain ⟨a, k0, cap0, hve⟩ := hv.form
  subst hve
  have V0 := Lib.hid ((hv.alloc (.cells #[.slice a k0 cap0, .int .i64 n, .int .i64 m] 26)).alloc (.cells #[.slice none 0 0, .int .i64 0, .int .i64 0] 26))
  have X0 := Lib.hid ((Bx.new w 26 #[.slice a k0 cap0, .int .i64 n, .int .i64 m] _ rfl).alloc (.cells #[.slice none 0 0, .int .i64 0, .int .i64 0] 26))
  have Z0 := Lib.hid (Bx.new (w.alloc (.cells #[.slice a k0 cap0, .int .i64 n, .int .i64 m] 26)) 26 #[.slice none 0 0, .int .i64 0, .int .i64 0] (w.heap.size + 1) (by simp))
  have A0 := Lib.hid (((Af.refl w).alloc (.cells #[.slice a k0 cap0, .int .i64 n, .int .i64 m] 26)).alloc (.cells #[.slice none 0 0, .int .i64 0, .int .i64 0] 26))
  have HT := Lib.hid ht
  have HTA := Lib.hid hT
  clear hv ht hT
  cases hok : okB l n m with
  | false =>
    have HM := Lib.hid (cutR_no l n m k hok)
    have HO := Lib.hid hok
    clear hok
    go_enter Tryd.func39, Tryd.ntmps39
    go_wp2_with fail
    refine (check_no _ l n m _ V0.out HT.out (HTA.out.later A0.out (Nat.le_refl _)) HO.out).mono ?_
    rintro e w2 ⟨⟨r, rfl⟩, hb⟩
    have Z2 := Lib.hid (Z0.out.after hb)
    have A2 := Lib.hid (A0.out.after hb)
    obtain ⟨y0, y1, y2⟩ := Z2.out.cells3
    obtain ⟨f0, f1, f2⟩ := Z2.out.frozen3
    clear hb
    go_wp2
    refine bodyPost_ret (results_log2 Tryd.results39 _ _ (w.heap.size + 1) _ _ _ rfl (Z2.out.st3 _ _ _).cells3) rfl ⟨⟨none, 0, 0, by rw [HM.out]; exact segOwn_nil _ _ _ _, .inr rfl, .inr ⟨by rw [HM.out]; rfl, r, by rw [HM.out]; rfl⟩⟩, A2.out.st3 (by omega) _ _ _⟩
  | true =>
    have HO := Lib.hid hok
    obtain ⟨l1, l6⟩ := okB_len hok
    obtain ⟨n1, n2, m1, m2⟩ := okB_n hok
    obtain ⟨e, he⟩ : ∃ e, l.length = e + 1 := ⟨l.length - 1, by omega⟩
    obtain ⟨q1, q2, q3, q4⟩ := okB_last hok e he
    have hte := HT.out e (by omega)
    obtain ⟨t, hteq⟩ : ∃ t, sT l e = t := ⟨_, rfl⟩
    obtain ⟨f, hfeq⟩ : ∃ f, sF l e = f := ⟨_, rfl⟩
    rw [hteq] at q1 q2 q3 hte
    rw [hfeq] at q1 q4
    obtain ⟨x, hx⟩ : ∃ x, cutX t (kC k t.size) = x := ⟨_, rfl⟩
    have HM := Lib.hid (cutR_ok l n m k e t x f hok he hteq hfeq hx)
    obtain ⟨c1, c2, c3, c4⟩ := cutX_facts t (kC k t.size) (kC_le _ _)
    have hkc := kC_le k t.size
    rw [hx] at c1 c2 c3 c4
    have hnx := nF_le5 x
    have hnt := nF_le5 t
    have HTE := Lib.hid hteq
    have HFE := Lib.hid hfeq
    have HE := Lib.hid he
    have e6 : (e : Int) ≤ 5 := by omega
    have e0 : (0 : Int) ≤ (e : Int) := by omega
    have t6 : (t.size : Int) ≤ 1048576 := by omega
    have HQ2 := Lib.hid q2
    have HX := Lib.hid hx
    have HQ1 := Lib.hid q1
    have F1 : 1 ≤ f := q4
    have F2 : f ≤ 1000 := by omega
    clear hok l1 l6 he hteq hfeq q2 q3 q4 hx c1 c3 q1
    go_enter Tryd.func39, Tryd.ntmps39
    go_wp2_with fail
    refine (check_ok _ l n m _ V0.out HT.out (HTA.out.later A0.out (Nat.le_refl _)) HO.out).mono ?_
    rintro e w2 ⟨rfl, hb⟩
    have V2 := Lib.hid (V0.out.later hb)
    have X2 := Lib.hid (X0.out.after hb)
    have Z2 := Lib.hid (Z0.out.after hb)
    have A2 := Lib.hid (A0.out.after hb)
    obtain ⟨x0, x1, x2⟩ := X2.out.cells3
    clear hb V0 X0 Z0 A0
    go_wp2_with fail
    clear x0 x1 x2
    refine (impl_copy _ l n m _ V2.out (by have := HE.out; omega) (by have := HE.out; omega) HT.out).mono ?_
    rintro e' w3 ⟨u, rfl, hr, hb⟩
    obtain ⟨g, cap, rfl, hbg, hgw, hcap⟩ := hr.form (by have := HE.out; omega)
    have R3 := Lib.hid (hr.alloc (.cells #[.slice (some ⟨g, 0, none⟩) l.length cap, .int .i64 n, .int .i64 m] 26))
    have Y3 := Lib.hid (Bx.new w3 26 #[.slice (some ⟨g, 0, none⟩) l.length cap, .int .i64 n, .int .i64 m] _ rfl)
    have Z3 := Lib.hid ((Z2.out.after hb).alloc (.cells #[.slice (some ⟨g, 0, none⟩) l.length cap, .int .i64 n, .int .i64 m] 26))
    have A3 := Lib.hid ((A2.out.after hb).alloc (.cells #[.slice (some ⟨g, 0, none⟩) l.length cap, .int .i64 n, .int .i64 m] 26))
    have s2 := A2.out.size
    have s3 := (A2.out.after hb).size
    have z2 := Z2.out.lt
    clear hr hb V2 X2 Z2 A2
    have hcl := R3.out.cell e (by have := HE.out; omega)
    rw [HTE.out, HFE.out] at hcl
    obtain ⟨r1, r2, _, _⟩ := hcl
    have HTB := Lib.hid (HTA.out.later A3.out (Nat.le_refl _))
    rw [HE.out] at hcap Y3 r1 r2 ⊢
    rw [show (.cells #[.slice (some ⟨g, 0, none⟩) l.length cap, .int .i64 n, .int .i64 m] 26 : Obj) = .cells #[.slice (some ⟨g, 0, none⟩) (e + 1) cap, .int .i64 n, .int .i64 m] 26 by rw [HE.out]] at R3 Z3 A3 HTB
    by_cases hbig : (t.size : Int) ≤ k
    · have hxt : x = t := by rw [← HX.out, show kC k t.size = t.size by unfold kC; omega]; exact cutX_all t HQ2.out
      subst hxt
      have d1 : decide (k < 0) = false := decide_eq_false (by omega)
      have d2 : decide (k < (x.size : Int)) = false := decide_eq_false (by omega)
      go_wp2_with fail
      refine (impl_count x _ hte HTB.out).mono ?_
      rintro e' w5 ⟨rfl, hb⟩
      have O5 := Lib.hid (R3.out.own.later hb)
      have Y5 := Lib.hid (Y3.out.after hb)
      have Z5 := Lib.hid (Z3.out.after hb)
      have A5 := Lib.hid (A3.out.after hb)
      rw [HE.out] at O5
      clear hb R3 Y3 Z3 A3 HTB r1 r2
      have hself : l.set e ⟨f, x⟩ = l := by rw [← HFE.out, ← HTE.out]; exact sg_self l e (by have := HE.out; omega)
      rw [hself] at HM
      clear hself
      have hcl := O5.out.cell0 e (by have := HE.out; omega)
      rw [HFE.out] at hcl
      obtain ⟨r1, _, _, _⟩ := hcl
      obtain ⟨nn, hnn⟩ : ∃ nn, nF x = nn := ⟨_, rfl⟩
      have HNN := Lib.hid hnn
      rw [hnn] at hnx ⊢
      have n6 : (nn : Int) ≤ 209716 := by omega
      clear hnn c2 c4 hkc
      have Y6 := Lib.hid (Y5.out.set 1 (.int .i64 (f + nn)))
      have Y7 := Lib.hid (Y6.out.set 2 (.int .i64 (min m (f + nn - 1))))
      have Z7 := Lib.hid ((Z5.out.set_other ⟨w3.heap.size, 1, none⟩ (.int .i64 (f + nn)) (by simp; omega)).set_other ⟨w3.heap.size, 2, none⟩ (.int .i64 (min m (f + nn - 1))) (by simp; omega))
      have A7 := Lib.hid ((A5.out.set (p := ⟨w3.heap.size, 1, none⟩) (by simp; omega) (.int .i64 (f + nn))).set (p := ⟨w3.heap.size, 2, none⟩) (by simp; omega) (.int .i64 (min m (f + nn - 1))))
      have O7 := Lib.hid ((O5.out.keepB (grownBy_set _ w3.heap.size 1 (.int .i64 (f + nn))) (fun b hb => by cases hb; exact (ob_ne (by omega)).symm)).keepB (grownBy_set _ w3.heap.size 2 (.int .i64 (min m (f + nn - 1)))) (fun b hb => by cases hb; exact (ob_ne (by omega)).symm))
      obtain ⟨y0, y1, y2⟩ := Y5.out.cells3
      obtain ⟨g0, g1, g2⟩ := Y5.out.frozen3
      obtain ⟨u0, u1, u2⟩ := Y6.out.cells3
      obtain ⟨v0, v1, v2⟩ := Y6.out.frozen3
      obtain ⟨j0, j1, j2⟩ := Y7.out.cells3
      obtain ⟨z0, z1, z3⟩ := Z7.out.cells3
      obtain ⟨f0, f1, f2⟩ := Z7.out.frozen3
      clear O5 Y5 Z5 A5
      go_wp2
      refine bodyPost_ret (results_log2 Tryd.results39 _ _ (w.heap.size + 1) _ _ _ rfl (Z7.out.st3 _ _ _).cells3) rfl ⟨⟨some ⟨g, 0, none⟩, e + 1, cap, by rw [HM.out]; exact (O7.out.st3 (by omega) _ _ _).mono (by omega), .inl (by rw [HM.out]; show 0 < l.length; have := HE.out; omega), .inl ⟨by rw [HM.out], by rw [HM.out, HNN.out]; rfl⟩⟩, A7.out.st3 (by omega) _ _ _⟩
    by_cases hneg : k < 0
    · clear hbig
      have HXE := Lib.hid (show t.extract 0 (fP (ByteArray.empty) (nF (ByteArray.empty))) = x by rw [← HX.out, cutX_eq, show kC k t.size = 0 by unfold kC; omega, ext_zero]; rfl)
      go_wp2_with fail
      refine (impl_unframe (ByteArray.empty) _ (by decide) HTB.out).mono ?_
      rintro e' w4 ⟨vv, rfl, hgs, hb⟩
      obtain ⟨va, vc, rfl⟩ := growsS_len hgs
      have hxe : t.extract 0 (fP (ByteArray.empty) (nF (ByteArray.empty))) = x := HXE.out
      have hpb := fP_le (ByteArray.empty)
      have hz0 : (ByteArray.empty).size = 0 := rfl
      have T4 := Lib.hid (HTB.out.later hb (Nat.le_refl _))
      have O4' := Lib.hid (R3.out.own.later hb)
      have Y4' := Lib.hid (Y3.out.after hb)
      have Z4' := Lib.hid (Z3.out.after hb)
      have A4' := Lib.hid (A3.out.after hb)
      have hcl := O4'.out.cell0 e (by have := HE.out; omega)
      rw [HTE.out, HFE.out] at hcl
      obtain ⟨_, r2', _, r4'⟩ := hcl
      clear hb hgs R3 Y3 Z3 A3 HTB r1 r2
      obtain ⟨P, hP⟩ : ∃ P, fP (ByteArray.empty) (nF (ByteArray.empty)) = P := ⟨_, rfl⟩
      rw [hP] at hxe hpb ⊢
      have p0 : (P : Int) ≤ (t.size : Int) := by omega
      have p1 : (0 : Int) ≤ (P : Int) := by omega
      have O4 := Lib.hid (show SegOwn (w4.setCell ⟨g, e * 2 + 1, none⟩ (.string x)) w2.heap.size (.slice (some ⟨g, 0, none⟩) (e + 1) cap) (l.set e ⟨f, x⟩) by
        have h := O4'.out.setT e x (by have := HE.out; omega)
        rw [Nat.zero_add, HFE.out, HE.out] at h
        exact h)
      have Y4 := Lib.hid (Y4'.out.set_other ⟨g, e * 2 + 1, none⟩ (.string x) (by simp; omega))
      have Z4 := Lib.hid (Z4'.out.set_other ⟨g, e * 2 + 1, none⟩ (.string x) (by simp; omega))
      have A4 := Lib.hid (A4'.out.set (p := ⟨g, e * 2 + 1, none⟩) (by simp; omega) (.string x))
      have T5 := Lib.hid (show TabC (w4.setCell ⟨g, e * 2 + 1, none⟩ (.string x)) from HTA.out.later A4.out (Nat.le_refl _))
      have hcl := O4.out.cell0 e (by rw [List.length_set]; have := HE.out; omega)
      rw [sT_set _ _ _ _ (by have := HE.out; omega), if_pos rfl] at hcl
      obtain ⟨_, r2, _, _⟩ := hcl
      clear O4' Y4' Z4' A4' T4 hP
      go_wp2_with fail
      refine (impl_count x _ (by omega) T5.out).mono ?_
      rintro e' w5 ⟨rfl, hb⟩
      clear T5
      have O5 := Lib.hid (O4.out.later hb)
      have Y5 := Lib.hid (Y4.out.after hb)
      have Z5 := Lib.hid (Z4.out.after hb)
      have A5 := Lib.hid (A4.out.after hb)
      clear hb O4 Y4 Z4 A4
      have hcl := O5.out.cell0 e (by rw [List.length_set]; have := HE.out; omega)
      rw [sF_set _ _ _ _ (by have := HE.out; omega), if_pos rfl] at hcl
      obtain ⟨r1, _, _, _⟩ := hcl
      obtain ⟨nn, hnn⟩ : ∃ nn, nF x = nn := ⟨_, rfl⟩
      have HNN := Lib.hid hnn
      rw [hnn] at hnx ⊢
      have n6 : (nn : Int) ≤ 209716 := by omega
      clear hnn c2 c4 hkc
      have Y6 := Lib.hid (Y5.out.set 1 (.int .i64 (f + nn)))
      have Y7 := Lib.hid (Y6.out.set 2 (.int .i64 (min m (f + nn - 1))))
      have Z7 := Lib.hid ((Z5.out.set_other ⟨w3.heap.size, 1, none⟩ (.int .i64 (f + nn)) (by simp; omega)).set_other ⟨w3.heap.size, 2, none⟩ (.int .i64 (min m (f + nn - 1))) (by simp; omega))
      have A7 := Lib.hid ((A5.out.set (p := ⟨w3.heap.size, 1, none⟩) (by simp; omega) (.int .i64 (f + nn))).set (p := ⟨w3.heap.size, 2, none⟩) (by simp; omega) (.int .i64 (min m (f + nn - 1))))
      have O7 := Lib.hid ((O5.out.keepB (grownBy_set _ w3.heap.size 1 (.int .i64 (f + nn))) (fun b hb => by cases hb; exact (ob_ne (by omega)).symm)).keepB (grownBy_set _ w3.heap.size 2 (.int .i64 (min m (f + nn - 1)))) (fun b hb => by cases hb; exact (ob_ne (by omega)).symm))
      obtain ⟨y0, y1, y2⟩ := Y5.out.cells3
      obtain ⟨g0, g1, g2⟩ := Y5.out.frozen3
      obtain ⟨u0, u1, u2⟩ := Y6.out.cells3
      obtain ⟨v0, v1, v2⟩ := Y6.out.frozen3
      obtain ⟨j0, j1, j2⟩ := Y7.out.cells3
      obtain ⟨z0, z1, z3⟩ := Z7.out.cells3
      obtain ⟨f0, f1, f2⟩ := Z7.out.frozen3
      clear O5 Y5 Z5 A5
      go_wp2
      refine bodyPost_ret (results_log2 Tryd.results39 _ _ (w.heap.size + 1) _ _ _ rfl (Z7.out.st3 _ _ _).cells3) rfl ⟨⟨some ⟨g, 0, none⟩, e + 1, cap, by rw [HM.out]; exact (O7.out.st3 (by omega) _ _ _).mono (by omega), .inl (by rw [HM.out]; simp only [List.length_set]; have := HE.out; omega), .inl ⟨by rw [HM.out], by rw [HM.out, HNN.out]; rfl⟩⟩, A7.out.st3 (by omega) _ _ _⟩
    · obtain ⟨j, rfl⟩ : ∃ j : Nat, k = j := ⟨k.toNat, by omega⟩
      have hjt : (j : Int) < (t.size : Int) := by omega
      have j0 : (0 : Int) ≤ (j : Int) := by omega
      have d1 : decide ((j : Int) < 0) = false := decide_eq_false (by omega)
      have HXE := Lib.hid (show t.extract 0 (fP (t.extract 0 j) (nF (t.extract 0 j))) = x by rw [← HX.out, cutX_eq, show kC (j : Int) t.size = j by unfold kC; omega])
      clear hbig hneg
      go_wp2_with fail
      refine (impl_unframe (t.extract 0 j) _ (by rw [ext0_size _ _ (by omega)]; omega) HTB.out).mono ?_
      rintro e' w4 ⟨vv, rfl, hgs, hb⟩
      obtain ⟨va, vc, rfl⟩ := growsS_len hgs
      have hxe : t.extract 0 (fP (t.extract 0 j) (nF (t.extract 0 j))) = x := HXE.out
      have hpb := fP_le (t.extract 0 j)
      rw [ext0_size _ _ (by omega)] at hpb
      have T4 := Lib.hid (HTB.out.later hb (Nat.le_refl _))
      have O4' := Lib.hid (R3.out.own.later hb)
      have Y4' := Lib.hid (Y3.out.after hb)
      have Z4' := Lib.hid (Z3.out.after hb)
      have A4' := Lib.hid (A3.out.after hb)
      have hcl := O4'.out.cell0 e (by have := HE.out; omega)
      rw [HTE.out, HFE.out] at hcl
      obtain ⟨_, r2', _, r4'⟩ := hcl
      clear hb hgs R3 Y3 Z3 A3 HTB r1 r2
      obtain ⟨P, hP⟩ : ∃ P, fP (t.extract 0 j) (nF (t.extract 0 j)) = P := ⟨_, rfl⟩
      rw [hP] at hxe hpb ⊢
      have p0 : (P : Int) ≤ (t.size : Int) := by omega
      have p1 : (0 : Int) ≤ (P : Int) := by omega
      have O4 := Lib.hid (show SegOwn (w4.setCell ⟨g, e * 2 + 1, none⟩ (.string x)) w2.heap.size (.slice (some ⟨g, 0, none⟩) (e + 1) cap) (l.set e ⟨f, x⟩) by
        have h := O4'.out.setT e x (by have := HE.out; omega)
        rw [Nat.zero_add, HFE.out, HE.out] at h
        exact h)
      have Y4 := Lib.hid (Y4'.out.set_other ⟨g, e * 2 + 1, none⟩ (.string x) (by simp; omega))
      have Z4 := Lib.hid (Z4'.out.set_other ⟨g, e * 2 + 1, none⟩ (.string x) (by simp; omega))
      have A4 := Lib.hid (A4'.out.set (p := ⟨g, e * 2 + 1, none⟩) (by simp; omega) (.string x))
      have T5 := Lib.hid (show TabC (w4.setCell ⟨g, e * 2 + 1, none⟩ (.string x)) from HTA.out.later A4.out (Nat.le_refl _))
      have hcl := O4.out.cell0 e (by rw [List.length_set]; have := HE.out; omega)
      rw [sT_set _ _ _ _ (by have := HE.out; omega), if_pos rfl] at hcl
      obtain ⟨_, r2, _, _⟩ := hcl
      clear O4' Y4' Z4' A4' T4 hP
      go_wp2_with fail
      refine (impl_count x _ (by omega) T5.out).mono ?_
      rintro e' w5 ⟨rfl, hb⟩
      clear T5
      have O5 := Lib.hid (O4.out.later hb)
      have Y5 := Lib.hid (Y4.out.after hb)
      have Z5 := Lib.hid (Z4.out.after hb)
      have A5 := Lib.hid (A4.out.after hb)
      clear hb O4 Y4 Z4 A4
      have hcl := O5.out.cell0 e (by rw [List.length_set]; have := HE.out; omega)
      rw [sF_set _ _ _ _ (by have := HE.out; omega), if_pos rfl] at hcl
      obtain ⟨r1, _, _, _⟩ := hcl
      obtain ⟨nn, hnn⟩ : ∃ nn, nF x = nn := ⟨_, rfl⟩
      have HNN := Lib.hid hnn
      rw [hnn] at hnx ⊢
      have n6 : (nn : Int) ≤ 209716 := by omega
      clear hnn c2 c4 hkc
      have Y6 := Lib.hid (Y5.out.set 1 (.int .i64 (f + nn)))
      have Y7 := Lib.hid (Y6.out.set 2 (.int .i64 (min m (f + nn - 1))))
      have Z7 := Lib.hid ((Z5.out.set_other ⟨w3.heap.size, 1, none⟩ (.int .i64 (f + nn)) (by simp; omega)).set_other ⟨w3.heap.size, 2, none⟩ (.int .i64 (min m (f + nn - 1))) (by simp; omega))
      have A7 := Lib.hid ((A5.out.set (p := ⟨w3.heap.size, 1, none⟩) (by simp; omega) (.int .i64 (f + nn))).set (p := ⟨w3.heap.size, 2, none⟩) (by simp; omega) (.int .i64 (min m (f + nn - 1))))
      have O7 := Lib.hid ((O5.out.keepB (grownBy_set _ w3.heap.size 1 (.int .i64 (f + nn))) (fun b hb => by cases hb; exact (ob_ne (by omega)).symm)).keepB (grownBy_set _ w3.heap.size 2 (.int .i64 (min m (f + nn - 1)))) (fun b hb => by cases hb; exact (ob_ne (by omega)).symm))
      obtain ⟨y0, y1, y2⟩ := Y5.out.cells3
      obtain ⟨g0, g1, g2⟩ := Y5.out.frozen3
      obtain ⟨u0, u1, u2⟩ := Y6.out.cells3
      obtain ⟨v0, v1, v2⟩ := Y6.out.frozen3
      obtain ⟨j0, j1, j2⟩ := Y7.out.cells3
      obtain ⟨z0, z1, z3⟩ := Z7.out.cells3
      obtain ⟨f0, f1, f2⟩ := Z7.out.frozen3
      clear O5 Y5 Z5 A5
      go_wp2
      refine bodyPost_ret (results_log2 Tryd.results39 _ _ (w.heap.size + 1) _ _ _ rfl (Z7.out.st3 _ _ _).cells3) rfl ⟨⟨some ⟨g, 0, none⟩, e + 1, cap, by rw [HM.out]; exact (O7.out.st3 (by omega) _ _ _).mono (by omega), .inl (by rw [HM.out]; simp only [List.length_set]; have := HE.out; omega), .inl ⟨by rw [HM.out], by rw [HM.out, HNN.out]; rfl⟩⟩, A7.out.st3 (by omega) _ _ _⟩
end Go.Proofs.YtmnglcidklckgaaDoor
