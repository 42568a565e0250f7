/- The walks of the model's Var, for every number. -/
import Derived.Test.YtmnglcidklckgaaDoorBytes
import Derived.Test.YtmnglcidklckgaaDoorIn
namespace Go.Proofs.YtmnglcidklckgaaDoor
open Go.RowKit Go.PlainAid
set_option linter.unusedVariables false


set_option maxHeartbeats 400000 in
theorem spec_var (n : Int) (k : Nat) (w : World) (h0 : 0 ≤ n) (hm : n ≤ 562949953421311) (hk : k ≤ 6) (hv : VK n k) :
    Calls Tryd.prog 88 #[.int .i64 n] w fun e w' => e = .returned (.string (strOfNums (varL n k))) ∧ Below w.heap.size w w' := by
  go_enter Tryd.func88, Tryd.ntmps88
  go_wp2_with (go_at_call 36; refine (in_yes _ _ _ _ h0 hm).mono ?_; rintro e w' ⟨rfl, rfl⟩)
  go_loopw [0, 3] (fun a v wr => ∃ j : Nat, j ≤ k ∧ a = .int .i64 (vd n j) ∧ Grows wr w.heap.size v (vpre n j) ∧ Below w.heap.size w wr) (fun a _ _ => (intOf a).toNat)
  case atStart => exact ⟨0, by omega, rfl, grows_empty w, (Below.refl _ _).alloc (Nat.le_refl _) _⟩
  case round =>
    obtain ⟨j, hj, rfl, hgr, hbw⟩ := hrel
    have d0 := vd_nonneg n h0 j
    have d1 := vd_le n h0 j
    have hl : (vpre n j).length ≤ 6 := by rw [vpre_length]; omega
    by_cases hlt : j < k
    · have hge : 128 ≤ vd n j := hv.1 j hlt
      go_wp2_with (at_builtin; refine wp_append_bytes rfl (.tmp 10) (.tmp 15) rfl w.heap.size _ (vpre n j) [_] rfl (hgr.alloc _) wr.heap.size 1 1 rfl rfl (src_one wr _) (by omega) (by have := hbw.size; simp; omega) ?_; intro v' w' hgr' hb')
      go_roundw
      case rel => exact ⟨j + 1, by omega, rfl, hgr', (hbw.alloc hbw.size _).trans hb'⟩
      case measure => simp only [intOf]; omega
    · obtain rfl : j = k := by omega
      have hge : vd n j < 128 := hv.2
      go_wp2_with (at_builtin; refine wp_append_bytes rfl (.tmp 19) (.tmp 22) rfl w.heap.size _ (vpre n j) [_] rfl (hgr.alloc _) wr.heap.size 1 1 rfl rfl (src_one wr _) (by omega) (by have := hbw.size; simp; omega) ?_; intro v' w' hgr' hb'; have hconv := conv_grows w' w.heap.size v' _ hgr')
      go_ret
      exact ⟨rfl, (hbw.alloc hbw.size _).trans hb'⟩

set_option maxHeartbeats 400000 in
theorem spec_var_no (n : Int) (w : World) (h : n < 0 ∨ 562949953421311 < n) :
    Calls Tryd.prog 88 #[.int .i64 n] w fun e w' => e = .returned (.string ByteArray.empty) ∧ w = w' := by
  go_enter Tryd.func88, Tryd.ntmps88
  go_wp2_with (go_at_call 36; refine (in_no _ _ _ _ h).mono ?_; rintro e w' ⟨rfl, rfl⟩)
  go_ret
  exact ⟨rfl, rfl⟩
end Go.Proofs.YtmnglcidklckgaaDoor
