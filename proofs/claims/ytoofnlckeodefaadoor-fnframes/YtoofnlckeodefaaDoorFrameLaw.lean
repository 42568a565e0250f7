/- The law over Frame and its model: it returns true at every string, where the table holds what the program's text lays. -/
import Derived.Test.YtoofnlckeodefaaDoorFrameC
import Derived.LaidSub
import Derived.MakeChecks
namespace Go.Proofs.YtoofnlckeodefaaDoor
open Go.RowKit Go.PlainAid
set_option linter.unusedVariables false

set_option maxHeartbeats 400000 in
theorem law_frame (s : ByteArray) (w : World) (hs : s.size ≤ maxLen) (ht : TabC w) :
    Calls Tryd.prog 4 #[.string s] w fun e w' => e = .returned (.bool true) ∧ Below w.heap.size w w' := by
  have hs' := hs
  unfold maxLen at hs'
  by_cases hb : (1048576 : Int) < s.size
  · go_enter Tryd.func4, Tryd.ntmps4
    go_wp2
    go_ret
    exact ⟨rfl, Below.refl _ _⟩
  · have h1 : s.size ≤ 1048576 := by omega
    have HT := Lib.hid ht
    clear ht
    go_enter Tryd.func4, Tryd.ntmps4
    go_wp2_with (first | (go_at_call 13; refine (spec_frame s _ h1).mono ?_; rintro e w1 ⟨rfl, hb1⟩; have HT1 := Lib.hid (HT.out.later hb1 (Nat.le_refl _))) | (go_at_call 11; refine (impl_frame s _ h1 HT1.out).mono ?_; rintro e w2 ⟨rfl, hb2⟩))
    go_ret
    exact ⟨rfl, hb1.trans (hb2.mono hb1.size)⟩

/-- What the listed variable holds, from a row's condition. -/
theorem tab_laid {W : World} (h : laidMetH Tryd.prog [("loop.example/g00954/impl.crcTable", Rows.laid_loop_example_g00954_impl_crcTable)] W) : TabC W := fun l hl => by
  have h1 : laidMetH Tryd.prog [("loop.example/g00954/impl.crcTable", Lib.tabData .u32 crcTab)] W := h
  rw [MakeChecks.laidMetH_plain _ _ _ (by kernel_rfl)] at h1
  exact Lib.TabIs.cell (name := "loop.example/g00954/impl.crcTable") (Lib.tabIs_of_head (g := 0) (t := 64) (e := 56) (n := 16) (by kernel_rfl) (by kernel_rfl) Tryd.underlying64 Tryd.underlying56 (by kernel_rfl) (by kernel_rfl) h1) (by kernel_rfl) l hl
end Go.Proofs.YtoofnlckeodefaaDoor
