/- The walks of the program's ReadVar, for every string. -/
import Derived.Test.YtmnglcidklckgaaDoorVarMath
import Derived.Test.YtmnglcidklckgaaDoorRows
import Derived.WalkKit
import Derived.WalkSpells
import Derived.WalkLawsBesides
import Derived.Lib.Hide
namespace Go.Proofs.YtmnglcidklckgaaDoor
open Go.RowKit Go.PlainAid
set_option linter.unusedVariables false


set_option maxHeartbeats 400000 in
theorem impl_rv_hit (s : ByteArray) (t : Nat) (w : World) (hs : s.size ≤ maxLen) (ht : t < s.size) (h6 : t ≤ 6) (hh : ∀ i, i < t → 128 ≤ bt s i) (hb : bt s t < 128) (hz : t = 0 ∨ bt s t ≠ 0) :
    Calls Tryd.prog 87 #[.string s] w fun e w' => e = .returned (.tuple #[.int .i64 (acc s (t + 1)), .int .i64 ((t : Int) + 1)]) ∧ w = w' := by
  unfold maxLen at hs
  have HH := Lib.hid hh
  have HB := Lib.hid hb
  have HZ := Lib.hid hz
  clear hh hb hz
  go_enter Tryd.func87, Tryd.ntmps87
  go_wp2
  all_goals
    go_loop [4, 10] (fun a i => ∃ k : Nat, k ≤ t ∧ i = .int .i64 k ∧ a = .int .i64 (acc s k)) (fun _ i => (7 - intOf i).toNat)
    case atStart => exact ⟨0, by omega, rfl, rfl⟩
    case round =>
      obtain ⟨k, hk, rfl, rfl⟩ := hrel
      have hks : k < s.size := by omega
      have hg := get_bt s k hks
      have b0 := bt_nonneg s k
      have b1 := bt_le s k
      have a0 := acc_nonneg s k
      have sg := shl_group s k (by omega)
      have og := or_group s k (by omega)
      by_cases hlt : k < t
      · have h128 : 128 ≤ bt s k := HH.out k hlt
        go_wp2
        go_round
        case rel => exact ⟨k + 1, by omega, by go_num, rfl⟩
        case measure => simp only [intOf]; omega
      · obtain rfl : k = t := by omega
        have h128 : bt s k < 128 := HB.out
        go_wp2
        all_goals first | (go_ret2; exact ⟨rfl, rfl⟩) | (exfalso; rcases HZ.out with h | h <;> omega)

set_option maxHeartbeats 400000 in
theorem impl_rv_zero (s : ByteArray) (t : Nat) (w : World) (hs : s.size ≤ maxLen) (ht : t < s.size) (h6 : t ≤ 6) (hh : ∀ i, i < t → 128 ≤ bt s i) (hb : bt s t = 0) (hz : 0 < t) :
    Calls Tryd.prog 87 #[.string s] w fun e w' => e = .returned (.tuple #[.int .i64 0, .int .i64 0]) ∧ w = w' := by
  unfold maxLen at hs
  have HH := Lib.hid hh
  have HB := Lib.hid hb
  clear hh hb
  go_enter Tryd.func87, Tryd.ntmps87
  go_wp2
  all_goals
    go_loop [4, 10] (fun a i => ∃ k : Nat, k ≤ t ∧ i = .int .i64 k ∧ a = .int .i64 (acc s k)) (fun _ i => (7 - intOf i).toNat)
    case atStart => exact ⟨0, by omega, rfl, rfl⟩
    case round =>
      obtain ⟨k, hk, rfl, rfl⟩ := hrel
      have hks : k < s.size := by omega
      have hg := get_bt s k hks
      have b0 := bt_nonneg s k
      have b1 := bt_le s k
      have a0 := acc_nonneg s k
      have sg := shl_group s k (by omega)
      have og := or_group s k (by omega)
      by_cases hlt : k < t
      · have h128 : 128 ≤ bt s k := HH.out k hlt
        go_wp2
        go_round
        case rel => exact ⟨k + 1, by omega, by go_num, rfl⟩
        case measure => simp only [intOf]; omega
      · obtain rfl : k = t := by omega
        have h128 : bt s k < 1 := by have := HB.out; omega
        go_wp2
        go_ret2
        exact ⟨rfl, rfl⟩

set_option maxHeartbeats 400000 in
theorem impl_rv_none (s : ByteArray) (w : World) (hs : s.size ≤ maxLen) (hh : ∀ i, i < 7 → i < s.size → 128 ≤ bt s i) :
    Calls Tryd.prog 87 #[.string s] w fun e w' => e = .returned (.tuple #[.int .i64 0, .int .i64 0]) ∧ w = w' := by
  unfold maxLen at hs
  have HH := Lib.hid hh
  clear hh
  go_enter Tryd.func87, Tryd.ntmps87
  go_wp2
  all_goals
    go_loop [4, 10] (fun a i => ∃ k : Nat, k ≤ 7 ∧ k ≤ s.size ∧ i = .int .i64 k ∧ a = .int .i64 (acc s k)) (fun _ i => (7 - intOf i).toNat)
    case atStart => exact ⟨0, by omega, by omega, rfl, rfl⟩
    case round =>
      obtain ⟨k, hk, hk2, rfl, rfl⟩ := hrel
      by_cases hlt : k < 7 ∧ k < s.size
      · obtain ⟨hl7, hks⟩ := hlt
        have hg := get_bt s k hks
        have b0 := bt_nonneg s k
        have b1 := bt_le s k
        have a0 := acc_nonneg s k
        have sg := shl_group s k (by omega)
        have og := or_group s k (by omega)
        have h128 : 128 ≤ bt s k := HH.out k hl7 hks
        go_wp2
        go_round
        case rel => exact ⟨k + 1, by omega, by omega, by go_num, rfl⟩
        case measure => simp only [intOf]; omega
      · go_wp2
        go_ret2
        exact ⟨rfl, rfl⟩
end Go.Proofs.YtmnglcidklckgaaDoor
