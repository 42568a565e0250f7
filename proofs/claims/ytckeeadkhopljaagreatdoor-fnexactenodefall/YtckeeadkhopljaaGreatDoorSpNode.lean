/- The model's look at a node's number. -/
import Derived.Test.YtckeeadkhopljaaGreatDoorIdW
namespace Go.Proofs.YtckeeadkhopljaaGreatDoor
open Go.RowKit Go.PlainAid
set_option linter.unusedVariables false

theorem spec_node (r : Int) (w : World) : Calls Tryz.prog 27 #[.int .i64 r] w fun e w' => e = .returned (.bool (iv r 0 2)) ∧ w = w' := by
  by_cases h : 0 ≤ r ∧ r ≤ 2
  · rw [iv_t h.1 h.2]
    obtain ⟨h1, h2⟩ := h
    have hd : decide (r < 3) = true := dec_t (by omega)
    go_enter Tryz.func27, Tryz.ntmps27
    go_wp2
    go_ret
    exact ⟨rfl, rfl⟩
  · rw [iv_f (by omega)]
    by_cases h1 : 0 ≤ r
    · have hd : decide (r < 3) = false := dec_f (by omega)
      clear h
      go_enter Tryz.func27, Tryz.ntmps27
      go_wp2
      go_ret
      exact ⟨rfl, rfl⟩
    · have hd : decide (0 ≤ r) = false := dec_f h1
      clear h
      go_enter Tryz.func27, Tryz.ntmps27
      go_wp2
      go_ret
      exact ⟨rfl, rfl⟩
end Go.Proofs.YtckeeadkhopljaaGreatDoor
