/- Var and showText, by one contract each. -/
import Derived.Test.YtkeoeempdkpafaaDoorVarT
import Derived.Test.YtkeoeempdkpafaaDoorVarI
import Derived.Laws.Concat
namespace Go.Proofs.YtkeoeempdkpafaaDoor
open Go.RowKit Go.PlainAid
set_option linter.unusedVariables false

theorem impl_varS (n : Int) (w : World) (h0 : 0 ≤ n) (hm : n ≤ 562949953421311) : Calls Tryd.prog 85 #[.int .i64 n] w fun e w' => e = .returned (.string (varS n)) ∧ Below w.heap.size w w' := by
  unfold varS
  exact impl_var n _ w h0 hm (vkF_le 6 n) (varS_vk n hm)
set_option maxHeartbeats 400000 in
theorem show_text (s : ByteArray) (w : World) (hs : s.size ≤ 1048576) : Calls Tryd.prog 107 #[.string s] w fun e w' => e = .returned (.string (showT s)) ∧ Below w.heap.size w w' := by
  have h7 := varS_size s.size
  have a1 := fun W => run_string_add_sum (P := Tryd.prog) (w := W) (varS s.size) s (by omega)
  have HT := Lib.hid (show varS s.size ++ s = showT s by unfold showT; rfl)
  go_enter Tryd.func107, Tryd.ntmps107
  go_wp2_with (go_at_call 85; refine (impl_varS _ _ (by omega) (by omega)).mono ?_; rintro e w' ⟨rfl, hb⟩)
  go_ret
  exact ⟨by rw [← HT.out]; rfl, hb⟩
end Go.Proofs.YtkeoeempdkpafaaDoor
