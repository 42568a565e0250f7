/- The walks of the model's ReadVar, for every string. -/
import Derived.Test.YtmnglcidklckgaaDoorVarMath
import Derived.Test.YtmnglcidklckgaaDoorVarS
import Derived.Deep.RegionWith
namespace Go.Proofs.YtmnglcidklckgaaDoor
open Go.RowKit Go.PlainAid
set_option linter.unusedVariables false


set_option maxHeartbeats 400000 in
theorem spec_rv_hit (s : ByteArray) (t : Nat) (w : World) (hs : s.size ≤ maxLen) (ht : t < s.size) (h6 : t ≤ 6) (hno : ∀ k, 1 ≤ k → k ≤ t → NoVar s k) (hyes : IsVar s (t + 1)) :
    Calls Tryd.prog 98 #[.string s] w fun e w' => e = .returned (.tuple #[.int .i64 (rvr s (t + 1) (t + 1)), .int .i64 ((t : Int) + 1)]) ∧ Below w.heap.size w w' := by
  unfold maxLen at hs
  have HN := Lib.hid hno
  have HY := Lib.hid hyes
  clear hno hyes
  go_enter Tryd.func98, Tryd.ntmps98
  go_wp2
  go_loopw [4] (fun kv wr => ∃ k : Nat, 1 ≤ k ∧ k ≤ t + 1 ∧ kv = .int .i64 k ∧ Below w.heap.size w wr) (fun kv _ => (8 - intOf kv).toNat)
  case atStart => exact ⟨1, by omega, by omega, rfl, Below.refl _ _⟩
  case round =>
    obtain ⟨k, hk1, hk2, rfl, hbw⟩ := hrel
    have hk7 : decide ((k : Int) ≤ 7) = true := by simp; omega
    have hks : decide (k ≤ s.size) = true := by simp; omega
    go_wp2
    go_loop [5, 6] (fun nv iv => ∃ m : Nat, m ≤ k ∧ iv = .int .i64 ((k : Int) - 1 - m) ∧ nv = .int .i64 (rvr s k m)) (fun _ iv => (intOf iv + 1).toNat)
    case atStart => exact ⟨0, by omega, by go_num, rfl⟩
    case round =>
      obtain ⟨m, hm, rfl, rfl⟩ := hrel
      have r0 := rvr_nonneg s k m
      by_cases hlt : m < k
      · have r1 := rvr_lt s k m (by omega)
        have hj : k - 1 - m < s.size := by omega
        have hg := get_bt s (k - 1 - m) hj
        have b0 := bt_nonneg s (k - 1 - m)
        have b1 := bt_le s (k - 1 - m)
        go_wp2
        go_round
        case rel => exact ⟨m + 1, by omega, by go_num, by rw [rvr, show k - (m + 1) = k - 1 - m by omega]⟩
        case measure => simp only [intOf]; omega
      · obtain rfl : m = k := by omega
        have r1 := rvr_max s m m (by omega)
        obtain ⟨K, hK6, hK⟩ := vk_exists _ r0 r1
        by_cases hlt : m < t + 1
        · have hne := HN.out m hk1 (by omega) K hK
          have hms : m ≤ s.size := by omega
          go_wp2
          go_region_with ((go_at_call 88; refine (spec_var _ K _ r0 r1 hK6 hK).mono ?_; rintro e w' ⟨rfl, hb'⟩))
          all_goals go_wp2
          all_goals
            go_roundw
            case rel => exact ⟨m + 1, by omega, by omega, by go_num, hbw.drew.trans (hb'.mono hbw.size)⟩
            case measure => simp only [intOf]; omega
        · obtain rfl : m = t + 1 := by omega
          have hne := HY.out K hK
          have hms : t + 1 ≤ s.size := by omega
          go_wp2
          go_region_with ((go_at_call 88; refine (spec_var _ K _ r0 r1 hK6 hK).mono ?_; rintro e w' ⟨rfl, hb'⟩))
          all_goals go_wp2
          all_goals go_ret2
          all_goals exact ⟨rfl, hbw.drew.trans (hb'.mono hbw.size)⟩

set_option maxHeartbeats 400000 in
theorem spec_rv_miss (s : ByteArray) (w : World) (hs : s.size ≤ maxLen) (hno : ∀ k, 1 ≤ k → k ≤ 7 → k ≤ s.size → NoVar s k) :
    Calls Tryd.prog 98 #[.string s] w fun e w' => e = .returned (.tuple #[.int .i64 0, .int .i64 0]) ∧ Below w.heap.size w w' := by
  unfold maxLen at hs
  have HN := Lib.hid hno
  clear hno
  go_enter Tryd.func98, Tryd.ntmps98
  go_wp2
  go_loopw [4] (fun kv wr => ∃ k : Nat, 1 ≤ k ∧ k ≤ 8 ∧ k ≤ s.size + 1 ∧ kv = .int .i64 k ∧ Below w.heap.size w wr) (fun kv _ => (8 - intOf kv).toNat)
  case atStart => exact ⟨1, by omega, by omega, by omega, rfl, Below.refl _ _⟩
  case round =>
    obtain ⟨k, hk1, hk8, hks1, rfl, hbw⟩ := hrel
    by_cases hin : k ≤ 7 ∧ k ≤ s.size
    · obtain ⟨hi7, his⟩ := hin
      have hk7 : decide ((k : Int) ≤ 7) = true := by simp; omega
      have hks : decide (k ≤ s.size) = true := by simp; omega
      go_wp2
      go_loop [5, 6] (fun nv iv => ∃ m : Nat, m ≤ k ∧ iv = .int .i64 ((k : Int) - 1 - m) ∧ nv = .int .i64 (rvr s k m)) (fun _ iv => (intOf iv + 1).toNat)
      case atStart => exact ⟨0, by omega, by go_num, rfl⟩
      case round =>
        obtain ⟨m, hm, rfl, rfl⟩ := hrel
        have r0 := rvr_nonneg s k m
        by_cases hlt : m < k
        · have r1 := rvr_lt s k m (by omega)
          have hj : k - 1 - m < s.size := by omega
          have hg := get_bt s (k - 1 - m) hj
          have b0 := bt_nonneg s (k - 1 - m)
          have b1 := bt_le s (k - 1 - m)
          go_wp2
          go_round
          case rel => exact ⟨m + 1, by omega, by go_num, by rw [rvr, show k - (m + 1) = k - 1 - m by omega]⟩
          case measure => simp only [intOf]; omega
        · obtain rfl : m = k := by omega
          have r1 := rvr_max s m m (by omega)
          obtain ⟨K, hK6, hK⟩ := vk_exists _ r0 r1
          have hne := HN.out m hk1 hi7 his K hK
          go_wp2
          go_region_with ((go_at_call 88; refine (spec_var _ K _ r0 r1 hK6 hK).mono ?_; rintro e w' ⟨rfl, hb'⟩))
          all_goals go_wp2
          all_goals
            go_roundw
            case rel => exact ⟨m + 1, by omega, by omega, by omega, by go_num, hbw.drew.trans (hb'.mono hbw.size)⟩
            case measure => simp only [intOf]; omega
    · by_cases h7 : k ≤ 7
      · have hk7 : decide ((k : Int) ≤ 7) = true := by simp; omega
        have hks : decide (k ≤ s.size) = false := by simp; omega
        go_wp2
        go_ret2
        exact ⟨rfl, hbw⟩
      · have hk7 : decide ((k : Int) ≤ 7) = false := by simp; omega
        go_wp2
        go_ret2
        exact ⟨rfl, hbw⟩
end Go.Proofs.YtmnglcidklckgaaDoor
