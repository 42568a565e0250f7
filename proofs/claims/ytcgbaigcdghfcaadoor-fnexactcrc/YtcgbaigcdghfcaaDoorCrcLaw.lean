/- The law over Crc and its model: it returns true at every string, where the table holds what the program's text lays. -/
import Derived.Test.YtcgbaigcdghfcaaDoorCrcI
import Derived.Test.YtcgbaigcdghfcaaDoorCrcS
import Derived.LaidSub
import Derived.MakeChecks
namespace Go.Proofs.YtcgbaigcdghfcaaDoor
open Go.RowKit Go.PlainAid
set_option linter.unusedVariables false

set_option maxHeartbeats 400000 in
theorem law_crc (s : ByteArray) (w : World) (hs : s.size ≤ maxLen) (ht : TabC w) :
    Calls Tryd.prog 3 #[.string s] w fun e w' => e = .returned (.bool true) ∧ Below w.heap.size w w' := by
  have hs' := hs
  unfold maxLen at hs'
  by_cases hb : (1048576 : Int) < s.size
  · go_enter Tryd.func3, Tryd.ntmps3
    go_wp2
    go_ret
    exact ⟨rfl, Below.refl _ _⟩
  · go_enter Tryd.func3, Tryd.ntmps3
    go_wp2_with (first | (go_at_call 4; refine (spec_crc s _ hs).mono ?_; rintro e w1 ⟨rfl, rfl⟩) | (go_at_call 5; refine (impl_crc s _ hs ht).mono ?_; rintro e w2 ⟨rfl, hb2⟩))
    go_ret
    exact ⟨rfl, hb2⟩

/-- What the listed variable holds, from the row's condition. -/
theorem var_of {W : World} (h : laidMetH Tryd.prog Rows.fnExactCrcRow.laid W) : W.var? Tryd.prog "loop.example/g00954/impl.crcTable" = some (crcTab.map fun z => Value.int .u32 z).toArray := by
  have h1 : laidMetH Tryd.prog [("loop.example/g00954/impl.crcTable", Lib.tabData .u32 crcTab)] W := h
  rw [MakeChecks.laidMetH_plain _ _ _ (by kernel_rfl)] at h1
  exact Lib.tabIs_of_head (g := 0) (t := 26) (e := 24) (n := 16) (by kernel_rfl) (by kernel_rfl) Tryd.underlying26 Tryd.underlying24 (by kernel_rfl) (by kernel_rfl) h1
theorem tab_of {W : World} (h : laidMetH Tryd.prog Rows.fnExactCrcRow.laid W) : TabC W := fun l hl =>
  Lib.TabIs.cell (name := "loop.example/g00954/impl.crcTable") (var_of h) (by kernel_rfl) l hl
end Go.Proofs.YtcgbaigcdghfcaaDoor
