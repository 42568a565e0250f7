/- The model's LogMark, by one contract. -/
import Derived.Test.YtmnglcidklckgaaDoorSpCopy
import Derived.Test.YtmnglcidklckgaaDoorLogR
import Derived.Test.YtmnglcidklckgaaDoorLogS
namespace Go.Proofs.YtmnglcidklckgaaDoor
open Go.RowKit Go.PlainAid
set_option linter.unusedVariables false

set_option maxRecDepth 100000 in
set_option maxHeartbeats 1000000 in
theorem spec_mark (v : Value) (l : List Sg) (n m k : Int) (w : World) (hv : Segs w v l) (ht : ∀ j, j < l.length → (sT l j).size ≤ 1048576) :
    Calls Tryd.prog 20 #[.agg #[v, .int .i64 n, .int .i64 m], .int .i64 k] w fun e w' => RetLog w.heap.size (markR l n m k) e w' ∧ Below w.heap.size w w' := by
  obtain ⟨a, k0, cap0, hve⟩ := hv.form
  subst hve
  have V0 := Lib.hid ((hv.alloc (.cells #[.slice a k0 cap0, .int .i64 n, .int .i64 m] 26)).alloc (.cells #[.slice none 0 0, .int .i64 0, .int .i64 0] 26))
  have X0 := Lib.hid ((Bx.new w 26 #[.slice a k0 cap0, .int .i64 n, .int .i64 m] _ rfl).alloc (.cells #[.slice none 0 0, .int .i64 0, .int .i64 0] 26))
  have Z0 := Lib.hid (Bx.new (w.alloc (.cells #[.slice a k0 cap0, .int .i64 n, .int .i64 m] 26)) 26 #[.slice none 0 0, .int .i64 0, .int .i64 0] (w.heap.size + 1) (by simp))
  have A0 := Lib.hid (((Af.refl w).alloc (.cells #[.slice a k0 cap0, .int .i64 n, .int .i64 m] 26)).alloc (.cells #[.slice none 0 0, .int .i64 0, .int .i64 0] 26))
  have HT := Lib.hid ht
  clear hv ht
  go_enter Tryd.func20, Tryd.ntmps20
  go_wp2_with fail
  refine (spec_logOk _ l n m _ V0.out HT.out).mono ?_
  rintro e w2 ⟨rfl, hb⟩
  have V2 := Lib.hid (V0.out.later hb)
  have X2 := Lib.hid (X0.out.after hb)
  have Z2 := Lib.hid (Z0.out.after hb)
  have A2 := Lib.hid (A0.out.after hb)
  have s2 := A2.out.size
  have z2 := Z2.out.lt
  clear hb V0 X0 Z0 A0
  cases hok : okB l n m with
  | false =>
    have HM := Lib.hid (markR_no l n m k hok)
    obtain ⟨y0, y1, y2⟩ := Z2.out.cells3
    obtain ⟨f0, f1, f2⟩ := Z2.out.frozen3
    clear hok
    go_wp2
    exact bodyPost_ret (results_log2 Tryd.results20 _ _ (w.heap.size + 1) _ _ _ rfl (Z2.out.st3 _ _ _).cells3) rfl ⟨by rw [HM.out]; exact ⟨none, 0, 0, rfl, segOwn_nil _ _ _ _, .inr rfl⟩, A2.out.st3 (by omega) _ _ _⟩
  | true =>
    obtain ⟨l1, l6⟩ := okB_len hok
    obtain ⟨n1, n2, m1, m2⟩ := okB_n hok
    have HF := Lib.hid (fun j hj => (okB_F hok j hj).2)
    have HM1 := Lib.hid (markR_in l n m k hok)
    have HM2 := Lib.hid (markR_out l n m k hok)
    have HL := Lib.hid (And.intro l1 l6)
    obtain ⟨x0, x1, x2⟩ := X2.out.cells3
    clear hok l1 l6
    go_wp2_with fail
    clear x0 x1 x2
    refine (spec_copy _ l n m _ V2.out HL.out.1 (by have := HL.out.2; omega)).mono ?_
    rintro e w3 ⟨u, rfl, hr, hb⟩
    obtain ⟨g, cap, rfl, hbg, hgw, hcap⟩ := hr.form HL.out.1
    have X3 := Lib.hid (X2.out.after hb)
    have Z3 := Lib.hid (Z2.out.after hb)
    have A3 := Lib.hid (A2.out.after hb)
    have R3 := Lib.hid hr
    clear hr hb X2 Z2 A2 V2
    have s3 := A3.out.size
    have z3 := Z3.out.lt
    by_cases hr : m ≤ k ∧ k ≤ n - 1
    · obtain ⟨r1, r2⟩ := hr
      have HM := Lib.hid (HM1.out ⟨r1, r2⟩)
      have d1 : decide (k < m) = false := decide_eq_false (by omega)
      have d2 : k < n := by omega
      have R4 := Lib.hid (R3.out.alloc (.cells #[.slice (some ⟨g, 0, none⟩) l.length cap, .int .i64 n, .int .i64 k] 26))
      have Z4 := Lib.hid (Z3.out.alloc (.cells #[.slice (some ⟨g, 0, none⟩) l.length cap, .int .i64 n, .int .i64 k] 26))
      have A4 := Lib.hid (A3.out.alloc (.cells #[.slice (some ⟨g, 0, none⟩) l.length cap, .int .i64 n, .int .i64 k] 26))
      obtain ⟨x0, x1, x2⟩ := (X3.out.alloc (.cells #[.slice (some ⟨g, 0, none⟩) l.length cap, .int .i64 n, .int .i64 m] 26)).cells3
      go_wp2_with fail
      clear x0 x1 x2
      refine (spec_trim _ w2.heap.size l n k _ R4.out.own (by simp; omega) HL.out.1 (by have := HL.out.2; omega) (fun j hj => by have := HF.out j hj; omega)).mono ?_
      rintro e w5 ⟨a5, c5, cap5, rfl, ho, hb⟩
      have Z5 := Lib.hid (Z4.out.after hb)
      have A5 := Lib.hid (A4.out.after hb)
      have O5 := Lib.hid ho
      obtain ⟨y0, y1, y2⟩ := Z5.out.cells3
      obtain ⟨f0, f1, f2⟩ := Z5.out.frozen3
      clear ho hb
      go_wp2
      exact bodyPost_ret (results_log2 Tryd.results20 _ _ (w.heap.size + 1) _ _ _ rfl (Z5.out.st3 _ _ _).cells3) rfl ⟨by rw [HM.out]; exact ⟨_, _, _, rfl, (O5.out.st3 (by omega) _ _ _).mono (by omega), .inl (by simp only [List.length_drop]; have := dN_lt l k HL.out.1; omega)⟩, A5.out.st3 (by omega) _ _ _⟩
    · have HM := Lib.hid (HM2.out hr)
      obtain ⟨x0, x1, x2⟩ := (X3.out.alloc (.cells #[.slice (some ⟨g, 0, none⟩) l.length cap, .int .i64 n, .int .i64 m] 26)).cells3
      obtain ⟨y0, y1, y2⟩ := Z3.out.cells3
      obtain ⟨f0, f1, f2⟩ := Z3.out.frozen3
      by_cases hkm : k < m
      · clear hr
        go_wp2
        exact bodyPost_ret (results_log2 Tryd.results20 _ _ (w.heap.size + 1) _ _ _ rfl ((Z3.out.st3 _ _ _).alloc _).cells3) rfl ⟨by rw [HM.out]; exact ⟨_, _, _, rfl, (((R3.out.st3 (by omega) _ _ _).alloc _).mono (by omega)).own, .inl HL.out.1⟩, (A3.out.st3 (by omega) _ _ _).alloc _⟩
      · have d1 : decide (k < m) = false := decide_eq_false (by omega)
        have d2 : n ≤ k := by omega
        clear hr hkm
        go_wp2
        exact bodyPost_ret (results_log2 Tryd.results20 _ _ (w.heap.size + 1) _ _ _ rfl ((Z3.out.st3 _ _ _).alloc _).cells3) rfl ⟨by rw [HM.out]; exact ⟨_, _, _, rfl, (((R3.out.st3 (by omega) _ _ _).alloc _).mono (by omega)).own, .inl HL.out.1⟩, (A3.out.st3 (by omega) _ _ _).alloc _⟩
end Go.Proofs.YtmnglcidklckgaaDoor
