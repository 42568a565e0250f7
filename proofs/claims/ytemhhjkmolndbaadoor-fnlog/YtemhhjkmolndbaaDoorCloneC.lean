/- strings.Clone: the same string. -/
import Derived.Test.YtemhhjkmolndbaaDoorStrs
import Derived.Test.YtemhhjkmolndbaaDoorShelf
namespace Go.Proofs.YtemhhjkmolndbaaDoor
open Go.RowKit Go.PlainAid
set_option linter.unusedVariables false

set_option maxHeartbeats 400000 in
theorem clone_c (s : ByteArray) (w : World) (hs : s.size ≤ 1048576) : Calls Tryd.prog 65 #[.string s] w fun e w' => e = .returned (.string s) ∧ Below w.heap.size w w' := by
  go_enter Tryd.func65, Tryd.ntmps65
  go_wp2_with (go_at_call 96; refine (Tryd.stringslite_Clone s _ (by omega)).mono ?_; rintro e w' ⟨rfl, hb⟩)
  go_ret
  exact ⟨rfl, hb⟩

end Go.Proofs.YtemhhjkmolndbaaDoor
