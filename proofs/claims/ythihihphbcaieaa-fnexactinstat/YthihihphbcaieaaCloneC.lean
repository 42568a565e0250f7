/- strings.Clone: the same string. -/
import Derived.Test.YthihihphbcaieaaStrs
import Derived.Test.YthihihphbcaieaaShelf
namespace Go.Proofs.Ythihihphbcaieaa
open Go.RowKit Go.PlainAid
set_option linter.unusedVariables false

set_option maxHeartbeats 400000 in
theorem clone_c (s : ByteArray) (w : World) (hs : s.size ≤ 1048576) : Calls Try.prog 68 #[.string s] w fun e w' => e = .returned (.string s) ∧ Below w.heap.size w w' := by
  go_enter Try.func68, Try.ntmps68
  go_wp2_with (go_at_call 71; refine (Try.stringslite_Clone s _ (by omega)).mono ?_; rintro e w' ⟨rfl, hb⟩)
  go_ret
  exact ⟨rfl, hb⟩

end Go.Proofs.Ythihihphbcaieaa
