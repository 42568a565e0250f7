/- The law FnCmds at every argument. -/
import Derived.Test.YtmdacoppkjclmaaDoorCmdsLaw
namespace Go.Proofs.YtmdacoppkjclmaaDoor
open Go.RowKit Go.PlainAid
set_option linter.unusedVariables false

set_option maxRecDepth 100000 in
set_option maxHeartbeats 400000 in
theorem law_cmds_big (a : Option Addr) (len cap : Nat) (w : World) (h : 1048576 < len) :
    Calls Tryd.prog 3 #[.slice a len cap] w fun e w' => e = .returned (.bool true) ∧ Below w.heap.size w w' := by
  go_enter Tryd.func3, Tryd.ntmps3
  go_wp2_with (go_at_call 8; refine (big_yes a len cap _ h).mono ?_; rintro e w' ⟨rfl, rfl⟩)
  go_ret
  exact ⟨rfl, Below.refl _ _⟩
theorem law_cmds_any (a : Option Addr) (len cap : Nat) (zs : List Int) (sa : Addr) (w : World) (hr : ByteRow w a len cap zs) (hS : Sent w sa) :
    Calls Tryd.prog 3 #[.slice a len cap] w fun e w' => e = .returned (.bool true) ∧ Below w.heap.size w w' := by
  by_cases h : len ≤ 1048576
  · exact law_cmds _ w _ sa (code_of_row w a len cap zs hr h) hS
  · exact law_cmds_big a len cap w (by omega)
end Go.Proofs.YtmdacoppkjclmaaDoor
