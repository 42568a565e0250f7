/- The law FnLog at every argument. -/
import Derived.Test.YtemhhjkmolndbaaDoorFnLogLaw
namespace Go.Proofs.YtemhhjkmolndbaaDoor
open Go.RowKit Go.PlainAid
set_option linter.unusedVariables false

set_option maxRecDepth 100000 in
set_option maxHeartbeats 400000 in
theorem law_log_big (a : Option Addr) (len cap : Nat) (w : World) (h : 1048576 < len) :
    Calls Tryd.prog 3 #[.slice a len cap] w fun e w' => e = .returned (.bool true) ∧ Below w.heap.size w w' := by
  go_enter Tryd.func3, Tryd.ntmps3
  go_wp2_with (go_at_call 11; refine (big_yes a len cap _ h).mono ?_; rintro e w' ⟨rfl, rfl⟩)
  go_ret
  exact ⟨rfl, Below.refl _ _⟩
theorem law_log (a : Option Addr) (len cap : Nat) (zs : List Int) (w : World) (hr : ByteRow w a len cap zs) (hE : ErrT w) (hT : TabC w) :
    Calls Tryd.prog 3 #[.slice a len cap] w fun e w' => e = .returned (.bool true) ∧ Below w.heap.size w w' := by
  by_cases h : len ≤ 1048576
  · exact law_log_small _ w _ (code_of_row w a len cap zs hr h) hT hE
  · exact law_log_big a len cap w (by omega)
end Go.Proofs.YtemhhjkmolndbaaDoor
