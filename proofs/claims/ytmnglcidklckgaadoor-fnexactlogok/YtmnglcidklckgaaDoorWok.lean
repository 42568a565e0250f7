/- The contract of widthOk. -/
import Derived.WalkKit
import Derived.Test.YtmnglcidklckgaaDoorRows
namespace Go.Proofs.YtmnglcidklckgaaDoor
open Go.RowKit
set_option linter.unusedVariables false

theorem wok_yes (a : Int) (w : World) (h1 : 1 ≤ a) (h2 : a ≤ 7) : Calls Tryd.prog 95 #[.int .i64 a] w fun e w' => e = .returned (.bool true) ∧ w = w' := by
  go_enter Tryd.func95, Tryd.ntmps95
  go_wp2
  go_ret
  exact ⟨rfl, rfl⟩
theorem wok_no (a : Int) (w : World) (h : a < 1 ∨ 7 < a) : Calls Tryd.prog 95 #[.int .i64 a] w fun e w' => e = .returned (.bool false) ∧ w = w' := by
  by_cases h1 : 1 ≤ a
  · have h2 : decide (a ≤ 7) = false := by simp; omega
    clear h
    go_enter Tryd.func95, Tryd.ntmps95
    go_wp2
    go_ret
    exact ⟨rfl, rfl⟩
  · clear h
    go_enter Tryd.func95, Tryd.ntmps95
    go_wp2
    go_ret
    exact ⟨rfl, rfl⟩
end Go.Proofs.YtmnglcidklckgaaDoor
