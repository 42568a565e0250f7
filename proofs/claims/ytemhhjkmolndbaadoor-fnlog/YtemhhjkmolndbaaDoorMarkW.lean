/- LogMark, by one contract. -/
import Derived.Test.YtemhhjkmolndbaaDoorChk
namespace Go.Proofs.YtemhhjkmolndbaaDoor
open Go.RowKit Go.PlainAid
set_option linter.unusedVariables false

set_option maxRecDepth 100000 in
set_option maxHeartbeats 1000000 in
theorem impl_mark (v : Value) (l : List Sg) (n m : Int) (k : Int) (w : World) (hv : Segs w v l) (ht : ∀ j, j < l.length → (sT l j).size ≤ 1048576) (hT : TabC w) (hg : ErrT w) :
    Calls Tryd.prog 14 #[.agg #[v, .int .i64 n, .int .i64 m], .int .i64 k] w fun e w' => RetLog w.heap.size (markR l n m k) e w' ∧ Below w.heap.size w w' := by
  obtain ⟨a, k0, cap0, hve⟩ := hv.form
  subst hve
  have V0 := Lib.hid ((hv.alloc (.cells #[.slice a k0 cap0, .int .i64 n, .int .i64 m] 26)).alloc (.cells #[.slice none 0 0, .int .i64 0, .int .i64 0] 26))
  have Z0 := Lib.hid (Bx.new (w.alloc (.cells #[.slice a k0 cap0, .int .i64 n, .int .i64 m] 26)) 26 #[.slice none 0 0, .int .i64 0, .int .i64 0] (w.heap.size + 1) (by simp))
  have A0 := Lib.hid (((Af.refl w).alloc (.cells #[.slice a k0 cap0, .int .i64 n, .int .i64 m] 26)).alloc (.cells #[.slice none 0 0, .int .i64 0, .int .i64 0] 26))
  have HT := Lib.hid ht
  have HTA := Lib.hid hT
  have HG := Lib.hid hg
  clear hv ht hT hg
  go_enter Tryd.func14, Tryd.ntmps14
  go_wp2_with fail
  refine (impl_moveMark _ l n m k _ V0.out HT.out (HTA.out.later A0.out (Nat.le_refl _))).mono ?_
  rintro e w2 ⟨⟨a2, c2, cap2, ho, hne, h⟩, hb⟩
  have Z2 := Lib.hid (Z0.out.after hb)
  have A2 := Lib.hid (A0.out.after hb)
  have O2 := Lib.hid (ho.mono (base' := w.heap.size + 1 + 1) (by simp))
  have HNE := Lib.hid hne
  clear ho hb V0 Z0 A0 hne
  rcases h with ⟨hk, rfl⟩ | ⟨hk, r, rfl⟩
  · have HK := Lib.hid hk
    clear hk
    go_wp2_with fail
    refine (res_nil _ _ _ _ _ _).mono ?_
    rintro e w3 ⟨rfl, hb⟩
    have Z3 := Lib.hid (Z2.out.after hb)
    have A3 := Lib.hid (A2.out.after hb)
    have O3 := Lib.hid (O2.out.later hb)
    obtain ⟨y0, y1, y2⟩ := Z3.out.cells3
    obtain ⟨f0, f1, f2⟩ := Z3.out.frozen3
    clear hb Z2 A2 O2
    go_wp2
    exact bodyPost_ret (results_log2 Tryd.results14 _ _ (w.heap.size + 1) _ _ _ rfl (Z3.out.st3 _ _ _).cells3) rfl ⟨⟨_, _, _, by rw [HK.out]; rfl, (O3.out.st3 (by omega) _ _ _).mono (by omega), HNE.out⟩, A3.out.st3 (by omega) _ _ _⟩
  · have HK := Lib.hid hk
    clear hk
    go_wp2_with fail
    refine (res_rej _ _ _ _ _ _ _ _ _ _ _ _ (HG.out.later A2.out)).mono ?_
    rintro e w3 ⟨rfl, hb⟩
    have Z3 := Lib.hid (Z2.out.after hb)
    have A3 := Lib.hid (A2.out.after hb)
    have O3 := Lib.hid (O2.out.later hb)
    obtain ⟨y0, y1, y2⟩ := Z3.out.cells3
    obtain ⟨f0, f1, f2⟩ := Z3.out.frozen3
    clear hb Z2 A2 O2
    go_wp2
    exact bodyPost_ret (results_log2 Tryd.results14 _ _ (w.heap.size + 1) _ _ _ rfl (Z3.out.st3 _ _ _).cells3) rfl ⟨⟨_, _, _, by rw [HK.out]; rfl, (O3.out.st3 (by omega) _ _ _).mono (by omega), HNE.out⟩, A3.out.st3 (by omega) _ _ _⟩
end Go.Proofs.YtemhhjkmolndbaaDoor
