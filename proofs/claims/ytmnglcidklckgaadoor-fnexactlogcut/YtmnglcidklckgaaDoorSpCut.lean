/- The model's LogCut, by one contract. -/
import Derived.Test.YtmnglcidklckgaaDoorSpMark
import Derived.Test.YtmnglcidklckgaaDoorCutI
import Derived.Test.YtmnglcidklckgaaDoorUnfS
namespace Go.Proofs.YtmnglcidklckgaaDoor
open Go.RowKit Go.PlainAid
set_option linter.unusedVariables false

set_option maxRecDepth 100000 in
set_option maxHeartbeats 2000000 in
theorem spec_cut (v : Value) (l : List Sg) (n m k : Int) (w : World) (hv : Segs w v l) (ht : ∀ j, j < l.length → (sT l j).size ≤ 1048576) :
    Calls Tryd.prog 32 #[.agg #[v, .int .i64 n, .int .i64 m], .int .i64 k] w fun e w' => RetLog w.heap.size (cutR l n m k) e w' ∧ Below w.heap.size w w' := by
  obtain ⟨a, k0, cap0, hve⟩ := hv.form
  subst hve
  have V0 := Lib.hid ((hv.alloc (.cells #[.slice a k0 cap0, .int .i64 n, .int .i64 m] 26)).alloc (.cells #[.slice none 0 0, .int .i64 0, .int .i64 0] 26))
  have X0 := Lib.hid ((Bx.new w 26 #[.slice a k0 cap0, .int .i64 n, .int .i64 m] _ rfl).alloc (.cells #[.slice none 0 0, .int .i64 0, .int .i64 0] 26))
  have Z0 := Lib.hid (Bx.new (w.alloc (.cells #[.slice a k0 cap0, .int .i64 n, .int .i64 m] 26)) 26 #[.slice none 0 0, .int .i64 0, .int .i64 0] (w.heap.size + 1) (by simp))
  have A0 := Lib.hid (((Af.refl w).alloc (.cells #[.slice a k0 cap0, .int .i64 n, .int .i64 m] 26)).alloc (.cells #[.slice none 0 0, .int .i64 0, .int .i64 0] 26))
  have HT := Lib.hid ht
  clear hv ht
  go_enter Tryd.func32, Tryd.ntmps32
  go_wp2_with fail
  refine (spec_logOk _ l n m _ V0.out HT.out).mono ?_
  rintro e w2 ⟨rfl, hb⟩
  have V2 := Lib.hid (V0.out.later hb)
  have X2 := Lib.hid (X0.out.after hb)
  have Z2 := Lib.hid (Z0.out.after hb)
  have A2 := Lib.hid (A0.out.after hb)
  have s2 := A2.out.size
  have z2 := Z2.out.lt
  clear hb V0 X0 Z0 A0
  cases hok : okB l n m with
  | false =>
    have HM := Lib.hid (cutR_no l n m k hok)
    obtain ⟨y0, y1, y2⟩ := Z2.out.cells3
    obtain ⟨f0, f1, f2⟩ := Z2.out.frozen3
    clear hok
    go_wp2
    exact bodyPost_ret (results_log2 Tryd.results32 _ _ (w.heap.size + 1) _ _ _ rfl (Z2.out.st3 _ _ _).cells3) rfl ⟨by rw [HM.out]; exact ⟨none, 0, 0, rfl, segOwn_nil _ _ _ _, .inr rfl⟩, A2.out.st3 (by omega) _ _ _⟩
  | true =>
    obtain ⟨l1, l6⟩ := okB_len hok
    obtain ⟨n1, n2, m1, m2⟩ := okB_n hok
    obtain ⟨e, he⟩ : ∃ e, l.length = e + 1 := ⟨l.length - 1, by omega⟩
    obtain ⟨q1, q2, q3, q4⟩ := okB_last hok e he
    have hte := HT.out e (by omega)
    obtain ⟨t, hteq⟩ : ∃ t, sT l e = t := ⟨_, rfl⟩
    obtain ⟨f, hfeq⟩ : ∃ f, sF l e = f := ⟨_, rfl⟩
    rw [hteq] at q1 q2 q3 hte
    rw [hfeq] at q1 q4
    obtain ⟨x, hx⟩ : ∃ x, cutX t (kC k t.size) = x := ⟨_, rfl⟩
    have HM := Lib.hid (cutR_ok l n m k e t x f hok he hteq hfeq hx)
    obtain ⟨c1, c2, c3, c4⟩ := cutX_facts t (kC k t.size) (kC_le _ _)
    have hkc := kC_le k t.size
    rw [hx] at c1 c2 c3 c4
    have hnx := nF_le5 x
    have hnt := nF_le5 t
    have HTE := Lib.hid hteq
    have HFE := Lib.hid hfeq
    have HE := Lib.hid he
    have e6 : (e : Int) ≤ 5 := by omega
    have e0 : (0 : Int) ≤ (e : Int) := by omega
    have t6 : (t.size : Int) ≤ 1048576 := by omega
    have HQ2 := Lib.hid q2
    have HX := Lib.hid hx
    have HQ1 := Lib.hid q1
    have F1 : 1 ≤ f := q4
    have F2 : f ≤ 1000 := by omega
    obtain ⟨x0, x1, x2⟩ := X2.out.cells3
    clear hok l1 l6 he hteq hfeq q2 q3 q4 hx c1 c3 q1
    go_wp2_with fail
    clear x0 x1 x2
    refine (spec_copy _ l n m _ V2.out (by have := HE.out; omega) (by have := HE.out; omega)).mono ?_
    rintro e' w3 ⟨u, rfl, hr, hb⟩
    obtain ⟨g, cap, rfl, hbg, hgw, hcap⟩ := hr.form (by have := HE.out; omega)
    have X3 := Lib.hid (X2.out.after hb)
    have Z3 := Lib.hid (Z2.out.after hb)
    have A3 := Lib.hid (A2.out.after hb)
    have R3 := Lib.hid hr
    have s3 := A3.out.size
    have z3 := Z3.out.lt
    clear hr hb X2 Z2 A2 V2
    rw [HE.out] at hcap ⊢
    have hcl := (R3.out.alloc (.cells #[.slice (some ⟨g, 0, none⟩) (e + 1) cap, .int .i64 n, .int .i64 m] 26)).cell e (by have := HE.out; omega)
    rw [HTE.out, HFE.out] at hcl
    obtain ⟨r1, r2, _, _⟩ := hcl
    have Y3 := Lib.hid (Bx.new w3 26 #[.slice (some ⟨g, 0, none⟩) (e + 1) cap, .int .i64 n, .int .i64 m] _ rfl)
    obtain ⟨x0, x1, x2⟩ := (X3.out.alloc (.cells #[.slice (some ⟨g, 0, none⟩) (e + 1) cap, .int .i64 n, .int .i64 m] 26)).cells3
    by_cases hbig : (t.size : Int) ≤ k
    · have hxt : x = t := by rw [← HX.out, show kC k t.size = t.size by unfold kC; omega]; exact cutX_all t HQ2.out
      subst hxt
      have d1 : decide (k < 0) = false := decide_eq_false (by omega)
      have d2 : decide (k < (x.size : Int)) = false := decide_eq_false (by omega)
      have hself : l.set e ⟨f, x⟩ = l := by rw [← HFE.out, ← HTE.out]; exact sg_self l e (by have := HE.out; omega)
      rw [hself, ← HQ1.out, Int.min_eq_left m2] at HM
      have d3 : decide (n ≤ m) = false := decide_eq_false (by omega)
      obtain ⟨y0, y1, y2⟩ := Z3.out.cells3
      obtain ⟨f0, f1, f2⟩ := Z3.out.frozen3
      clear hself c2 c4 hkc
      go_wp2
      exact bodyPost_ret (results_log2 Tryd.results32 _ _ (w.heap.size + 1) _ _ _ rfl ((Z3.out.st3 _ _ _).alloc _).cells3) rfl ⟨by rw [HM.out]; exact ⟨_, _, _, rfl, by have h := (((R3.out.st3 (q := w.heap.size + 1) (by omega) (.slice (some ⟨g, 0, none⟩) (e + 1) cap) (.int .i64 n) (.int .i64 m)).alloc (.cells #[.slice (some ⟨g, 0, none⟩) (e + 1) cap, .int .i64 n, .int .i64 m] 26)).mono (base' := w.heap.size) (by omega)).own; rw [HE.out] at h; exact h, .inl (by show 0 < l.length; have := HE.out; omega)⟩, (A3.out.st3 (by omega) _ _ _).alloc _⟩
    by_cases hneg : k < 0
    · by_cases hts : t.size = 0
      · have hxt : x = t := by rw [← HX.out, show kC k t.size = t.size by unfold kC; omega]; exact cutX_all t HQ2.out
        subst hxt
        have d2 : decide ((0 : Int) < (x.size : Int)) = false := decide_eq_false (by omega)
        have hself : l.set e ⟨f, x⟩ = l := by rw [← HFE.out, ← HTE.out]; exact sg_self l e (by have := HE.out; omega)
        rw [hself, ← HQ1.out, Int.min_eq_left m2] at HM
        have d3 : decide (n ≤ m) = false := decide_eq_false (by omega)
        obtain ⟨y0, y1, y2⟩ := Z3.out.cells3
        obtain ⟨f0, f1, f2⟩ := Z3.out.frozen3
        clear hself c2 c4 hkc
        go_wp2
        exact bodyPost_ret (results_log2 Tryd.results32 _ _ (w.heap.size + 1) _ _ _ rfl ((Z3.out.st3 _ _ _).alloc _).cells3) rfl ⟨by rw [HM.out]; exact ⟨_, _, _, rfl, by have h := (((R3.out.st3 (q := w.heap.size + 1) (by omega) (.slice (some ⟨g, 0, none⟩) (e + 1) cap) (.int .i64 n) (.int .i64 m)).alloc (.cells #[.slice (some ⟨g, 0, none⟩) (e + 1) cap, .int .i64 n, .int .i64 m] 26)).mono (base' := w.heap.size) (by omega)).own; rw [HE.out] at h; exact h, .inl (by show 0 < l.length; have := HE.out; omega)⟩, (A3.out.st3 (by omega) _ _ _).alloc _⟩
      have htp : (0 : Int) < (t.size : Int) := by omega
      have HXE := Lib.hid (show t.extract 0 (fP (ByteArray.empty) (nF (ByteArray.empty))) = x by rw [← HX.out, cutX_eq, show kC k t.size = 0 by unfold kC; omega, ext_zero]; rfl)
      have HNX := Lib.hid (show nF x = nF (ByteArray.empty) by rw [c2, show kC k t.size = 0 by unfold kC; omega, ext_zero]; rfl)
      clear hbig c2
      go_wp2_with fail
      clear x0 x1 x2
      refine (spec_unframe (ByteArray.empty) _ (by decide)).mono ?_
      rintro e' w4 ⟨vv, rfl, hgs, hb⟩
      obtain ⟨va, vc, rfl⟩ := growsS_len hgs
      have hxe : t.extract 0 (fP (ByteArray.empty) (nF (ByteArray.empty))) = x := HXE.out
      have hpb := fP_le (ByteArray.empty)
      have hz0 : (ByteArray.empty).size = 0 := rfl
      have O4' := Lib.hid ((R3.out.alloc (.cells #[.slice (some ⟨g, 0, none⟩) (e + 1) cap, .int .i64 n, .int .i64 m] 26)).own.later hb)
      have Y4' := Lib.hid (Y3.out.after hb)
      have Z4' := Lib.hid ((Z3.out.alloc (.cells #[.slice (some ⟨g, 0, none⟩) (e + 1) cap, .int .i64 n, .int .i64 m] 26)).after hb)
      have A4' := Lib.hid ((A3.out.alloc (.cells #[.slice (some ⟨g, 0, none⟩) (e + 1) cap, .int .i64 n, .int .i64 m] 26)).after hb)
      have hcl := O4'.out.cell0 e (by have := HE.out; omega)
      rw [HTE.out, HFE.out] at hcl
      obtain ⟨_, r2', _, r4'⟩ := hcl
      clear hb hgs R3 Y3 Z3 A3 r1 r2
      obtain ⟨P, hP⟩ : ∃ P, fP (ByteArray.empty) (nF (ByteArray.empty)) = P := ⟨_, rfl⟩
      rw [hP] at hxe hpb ⊢
      rw [fL_length, ← HNX.out]
      obtain ⟨nn, hnn⟩ : ∃ nn, nF x = nn := ⟨_, rfl⟩
      have HNN := Lib.hid hnn
      rw [hnn] at hnx ⊢
      have n6 : (nn : Int) ≤ 209716 := by omega
      clear hnn
      have p0 : (P : Int) ≤ (t.size : Int) := by omega
      have p1 : (0 : Int) ≤ (P : Int) := by omega
      have O4 := Lib.hid (show SegOwn (w4.setCell ⟨g, e * 2 + 1, none⟩ (.string x)).drew w2.heap.size (.slice (some ⟨g, 0, none⟩) (e + 1) cap) (l.set e ⟨f, x⟩) by
        have h := (O4'.out.setT e x (by have := HE.out; omega)).later (Below.refl _ _).drew
        rw [Nat.zero_add, HFE.out, HE.out] at h
        exact h)
      have Y4 := Lib.hid (Y4'.out.set_other ⟨g, e * 2 + 1, none⟩ (.string x) (by simp; omega)).drew
      have Z4 := Lib.hid (Z4'.out.set_other ⟨g, e * 2 + 1, none⟩ (.string x) (by simp; omega)).drew
      have A4 := Lib.hid (A4'.out.set (p := ⟨g, e * 2 + 1, none⟩) (by simp; omega) (.string x)).drew
      obtain ⟨y0, y1, y2⟩ := Y4'.out.cells3
      have YS := Lib.hid (show (w4.setCell ⟨g, e * 2 + 1, none⟩ (.string x)).drew.cell? ⟨w3.heap.size, 0, none⟩ = some (.slice (some ⟨g, 0, none⟩) (e + 1) cap) from Y4.out.cell 0 _ rfl)
      have YS1 := Lib.hid (show (w4.drew.setCell ⟨g, e * 2 + 1, none⟩ (.string x)).cell? ⟨w3.heap.size, 0, none⟩ = some (.slice (some ⟨g, 0, none⟩) (e + 1) cap) from Y4.out.cell 0 _ rfl)
      have YS2 := YS1
      rw [← hxe] at YS2
      have ie : (e : Int) < ((e + 1 : Nat) : Int) := by omega
      have ie2 : (e : Int) < (e : Int) + 1 := by omega
      clear hP
      go_wp2_with fail
      go_region_held3 (fun w' => w'.cell? ⟨w3.heap.size, 0, none⟩ = some (.slice (some ⟨g, 0, none⟩) (e + 1) cap)) (first | (with_reducible exact y0) | (with_reducible exact YS.out) | (with_reducible exact YS1.out) | (with_reducible exact YS2.out) | go_keep) (fail)
      generalize (w4.setCell ⟨g, e * 2 + 1, none⟩ (.string x)).drew = W4 at O4 Y4 Z4 A4 ⊢
      clear O4' Y4' Z4' A4' YS YS1 YS2 y0 y1 y2 r2' r4'
      have hcl := O4.out.cell0 e (by rw [List.length_set]; have := HE.out; omega)
      rw [sF_set _ _ _ _ (by have := HE.out; omega), if_pos rfl] at hcl
      obtain ⟨r1, _, _, _⟩ := hcl
      have Y5 := Lib.hid (Y4.out.set 1 (.int .i64 (f + nn)))
      have Z5 := Lib.hid (Z4.out.set_other ⟨w3.heap.size, 1, none⟩ (.int .i64 (f + nn)) (by simp; omega))
      have A5 := Lib.hid (A4.out.set (p := ⟨w3.heap.size, 1, none⟩) (by simp; omega) (.int .i64 (f + nn)))
      have O5 := Lib.hid (O4.out.keepB (grownBy_set _ w3.heap.size 1 (.int .i64 (f + nn))) (fun b hb => by cases hb; exact (ob_ne (by omega)).symm))
      obtain ⟨y0, y1, y2⟩ := Y4.out.cells3
      obtain ⟨g0, g1, g2⟩ := Y4.out.frozen3
      obtain ⟨u0, u1, u2⟩ := Y5.out.cells3
      obtain ⟨v0, v1, v2⟩ := Y5.out.frozen3
      rw [HNN.out] at HM
      by_cases hmn : f + nn ≤ m
      · rw [Int.min_eq_right (show f + (nn : Int) - 1 ≤ m by omega)] at HM
        have Y6 := Lib.hid (Y5.out.set 2 (.int .i64 (f + nn - 1)))
        have Z6 := Lib.hid (Z5.out.set_other ⟨w3.heap.size, 2, none⟩ (.int .i64 (f + nn - 1)) (by simp; omega))
        have A6 := Lib.hid (A5.out.set (p := ⟨w3.heap.size, 2, none⟩) (by simp; omega) (.int .i64 (f + nn - 1)))
        have O6 := Lib.hid (O5.out.keepB (grownBy_set _ w3.heap.size 2 (.int .i64 (f + nn - 1))) (fun b hb => by cases hb; exact (ob_ne (by omega)).symm))
        obtain ⟨j0', j1', j2'⟩ := Y6.out.cells3
        obtain ⟨z0, z1, z2'⟩ := Z6.out.cells3
        obtain ⟨f0, f1, f2⟩ := Z6.out.frozen3
        clear O4 Y4 Z4 A4 O5 Z5 A5
        go_wp2
        exact bodyPost_ret (results_log2 Tryd.results32 _ _ (w.heap.size + 1) _ _ _ rfl (Z6.out.st3 _ _ _).cells3) rfl ⟨by rw [HM.out]; exact ⟨_, _, _, rfl, (O6.out.st3 (by omega) _ _ _).mono (by omega), .inl (by simp only [List.length_set]; have := HE.out; omega)⟩, A6.out.st3 (by omega) _ _ _⟩
      · rw [Int.min_eq_left (show m ≤ f + (nn : Int) - 1 by omega)] at HM
        have dmn : decide (f + (nn : Int) ≤ m) = false := decide_eq_false hmn
        obtain ⟨z0, z1, z2'⟩ := Z5.out.cells3
        obtain ⟨f0, f1, f2⟩ := Z5.out.frozen3
        clear O4 Y4 Z4 A4
        go_wp2
        exact bodyPost_ret (results_log2 Tryd.results32 _ _ (w.heap.size + 1) _ _ _ rfl (Z5.out.st3 _ _ _).cells3) rfl ⟨by rw [HM.out]; exact ⟨_, _, _, rfl, (O5.out.st3 (by omega) _ _ _).mono (by omega), .inl (by simp only [List.length_set]; have := HE.out; omega)⟩, A5.out.st3 (by omega) _ _ _⟩
    · obtain ⟨j, rfl⟩ : ∃ j : Nat, k = j := ⟨k.toNat, by omega⟩
      have hjt : (j : Int) < (t.size : Int) := by omega
      have j0 : (0 : Int) ≤ (j : Int) := by omega
      have d1 : decide ((j : Int) < 0) = false := decide_eq_false (by omega)
      have HXE := Lib.hid (show t.extract 0 (fP (t.extract 0 j) (nF (t.extract 0 j))) = x by rw [← HX.out, cutX_eq, show kC (j : Int) t.size = j by unfold kC; omega])
      have HNX := Lib.hid (show nF x = nF (t.extract 0 j) by rw [c2, show kC (j : Int) t.size = j by unfold kC; omega])
      clear hbig hneg c2
      go_wp2_with fail
      clear x0 x1 x2
      refine (spec_unframe (t.extract 0 j) _ (by rw [ext0_size _ _ (by omega)]; omega)).mono ?_
      rintro e' w4 ⟨vv, rfl, hgs, hb⟩
      obtain ⟨va, vc, rfl⟩ := growsS_len hgs
      have hxe : t.extract 0 (fP (t.extract 0 j) (nF (t.extract 0 j))) = x := HXE.out
      have hpb := fP_le (t.extract 0 j)
      rw [ext0_size _ _ (by omega)] at hpb
      have O4' := Lib.hid ((R3.out.alloc (.cells #[.slice (some ⟨g, 0, none⟩) (e + 1) cap, .int .i64 n, .int .i64 m] 26)).own.later hb)
      have Y4' := Lib.hid (Y3.out.after hb)
      have Z4' := Lib.hid ((Z3.out.alloc (.cells #[.slice (some ⟨g, 0, none⟩) (e + 1) cap, .int .i64 n, .int .i64 m] 26)).after hb)
      have A4' := Lib.hid ((A3.out.alloc (.cells #[.slice (some ⟨g, 0, none⟩) (e + 1) cap, .int .i64 n, .int .i64 m] 26)).after hb)
      have hcl := O4'.out.cell0 e (by have := HE.out; omega)
      rw [HTE.out, HFE.out] at hcl
      obtain ⟨_, r2', _, r4'⟩ := hcl
      clear hb hgs R3 Y3 Z3 A3 r1 r2
      obtain ⟨P, hP⟩ : ∃ P, fP (t.extract 0 j) (nF (t.extract 0 j)) = P := ⟨_, rfl⟩
      rw [hP] at hxe hpb ⊢
      rw [fL_length, ← HNX.out]
      obtain ⟨nn, hnn⟩ : ∃ nn, nF x = nn := ⟨_, rfl⟩
      have HNN := Lib.hid hnn
      rw [hnn] at hnx ⊢
      have n6 : (nn : Int) ≤ 209716 := by omega
      clear hnn
      have p0 : (P : Int) ≤ (t.size : Int) := by omega
      have p1 : (0 : Int) ≤ (P : Int) := by omega
      have O4 := Lib.hid (show SegOwn (w4.setCell ⟨g, e * 2 + 1, none⟩ (.string x)).drew w2.heap.size (.slice (some ⟨g, 0, none⟩) (e + 1) cap) (l.set e ⟨f, x⟩) by
        have h := (O4'.out.setT e x (by have := HE.out; omega)).later (Below.refl _ _).drew
        rw [Nat.zero_add, HFE.out, HE.out] at h
        exact h)
      have Y4 := Lib.hid (Y4'.out.set_other ⟨g, e * 2 + 1, none⟩ (.string x) (by simp; omega)).drew
      have Z4 := Lib.hid (Z4'.out.set_other ⟨g, e * 2 + 1, none⟩ (.string x) (by simp; omega)).drew
      have A4 := Lib.hid (A4'.out.set (p := ⟨g, e * 2 + 1, none⟩) (by simp; omega) (.string x)).drew
      obtain ⟨y0, y1, y2⟩ := Y4'.out.cells3
      have YS := Lib.hid (show (w4.setCell ⟨g, e * 2 + 1, none⟩ (.string x)).drew.cell? ⟨w3.heap.size, 0, none⟩ = some (.slice (some ⟨g, 0, none⟩) (e + 1) cap) from Y4.out.cell 0 _ rfl)
      have YS1 := Lib.hid (show (w4.drew.setCell ⟨g, e * 2 + 1, none⟩ (.string x)).cell? ⟨w3.heap.size, 0, none⟩ = some (.slice (some ⟨g, 0, none⟩) (e + 1) cap) from Y4.out.cell 0 _ rfl)
      have YS2 := YS1
      rw [← hxe] at YS2
      have ie : (e : Int) < ((e + 1 : Nat) : Int) := by omega
      have ie2 : (e : Int) < (e : Int) + 1 := by omega
      clear hP
      go_wp2_with fail
      go_region_held3 (fun w' => w'.cell? ⟨w3.heap.size, 0, none⟩ = some (.slice (some ⟨g, 0, none⟩) (e + 1) cap)) (first | (with_reducible exact y0) | (with_reducible exact YS.out) | (with_reducible exact YS1.out) | (with_reducible exact YS2.out) | go_keep) (fail)
      generalize (w4.setCell ⟨g, e * 2 + 1, none⟩ (.string x)).drew = W4 at O4 Y4 Z4 A4 ⊢
      clear O4' Y4' Z4' A4' YS YS1 YS2 y0 y1 y2 r2' r4'
      have hcl := O4.out.cell0 e (by rw [List.length_set]; have := HE.out; omega)
      rw [sF_set _ _ _ _ (by have := HE.out; omega), if_pos rfl] at hcl
      obtain ⟨r1, _, _, _⟩ := hcl
      have Y5 := Lib.hid (Y4.out.set 1 (.int .i64 (f + nn)))
      have Z5 := Lib.hid (Z4.out.set_other ⟨w3.heap.size, 1, none⟩ (.int .i64 (f + nn)) (by simp; omega))
      have A5 := Lib.hid (A4.out.set (p := ⟨w3.heap.size, 1, none⟩) (by simp; omega) (.int .i64 (f + nn)))
      have O5 := Lib.hid (O4.out.keepB (grownBy_set _ w3.heap.size 1 (.int .i64 (f + nn))) (fun b hb => by cases hb; exact (ob_ne (by omega)).symm))
      obtain ⟨y0, y1, y2⟩ := Y4.out.cells3
      obtain ⟨g0, g1, g2⟩ := Y4.out.frozen3
      obtain ⟨u0, u1, u2⟩ := Y5.out.cells3
      obtain ⟨v0, v1, v2⟩ := Y5.out.frozen3
      rw [HNN.out] at HM
      by_cases hmn : f + nn ≤ m
      · rw [Int.min_eq_right (show f + (nn : Int) - 1 ≤ m by omega)] at HM
        have Y6 := Lib.hid (Y5.out.set 2 (.int .i64 (f + nn - 1)))
        have Z6 := Lib.hid (Z5.out.set_other ⟨w3.heap.size, 2, none⟩ (.int .i64 (f + nn - 1)) (by simp; omega))
        have A6 := Lib.hid (A5.out.set (p := ⟨w3.heap.size, 2, none⟩) (by simp; omega) (.int .i64 (f + nn - 1)))
        have O6 := Lib.hid (O5.out.keepB (grownBy_set _ w3.heap.size 2 (.int .i64 (f + nn - 1))) (fun b hb => by cases hb; exact (ob_ne (by omega)).symm))
        obtain ⟨j0', j1', j2'⟩ := Y6.out.cells3
        obtain ⟨z0, z1, z2'⟩ := Z6.out.cells3
        obtain ⟨f0, f1, f2⟩ := Z6.out.frozen3
        clear O4 Y4 Z4 A4 O5 Z5 A5
        go_wp2
        exact bodyPost_ret (results_log2 Tryd.results32 _ _ (w.heap.size + 1) _ _ _ rfl (Z6.out.st3 _ _ _).cells3) rfl ⟨by rw [HM.out]; exact ⟨_, _, _, rfl, (O6.out.st3 (by omega) _ _ _).mono (by omega), .inl (by simp only [List.length_set]; have := HE.out; omega)⟩, A6.out.st3 (by omega) _ _ _⟩
      · rw [Int.min_eq_left (show m ≤ f + (nn : Int) - 1 by omega)] at HM
        have dmn : decide (f + (nn : Int) ≤ m) = false := decide_eq_false hmn
        obtain ⟨z0, z1, z2'⟩ := Z5.out.cells3
        obtain ⟨f0, f1, f2⟩ := Z5.out.frozen3
        clear O4 Y4 Z4 A4
        go_wp2
        exact bodyPost_ret (results_log2 Tryd.results32 _ _ (w.heap.size + 1) _ _ _ rfl (Z5.out.st3 _ _ _).cells3) rfl ⟨by rw [HM.out]; exact ⟨_, _, _, rfl, (O5.out.st3 (by omega) _ _ _).mono (by omega), .inl (by simp only [List.length_set]; have := HE.out; omega)⟩, A5.out.st3 (by omega) _ _ _⟩
end Go.Proofs.YtmnglcidklckgaaDoor
