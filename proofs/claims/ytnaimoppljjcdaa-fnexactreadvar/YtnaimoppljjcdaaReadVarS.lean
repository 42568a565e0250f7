/- The walks of ReadVar's model, and the law over both. -/
import Derived.Test.YtnaimoppljjcdaaReadVar
import Derived.Deep.RegionWith
namespace Go.Proofs.Ytnaimoppljjcdaa
open Go.RowKit Go.PlainAid
set_option linter.unusedVariables false

set_option maxHeartbeats 400000 in
theorem spec_rv_hit (s : ByteArray) (t : Nat) (w : World) (hs : s.size ≤ maxLen) (ht : t < s.size) (h6 : t ≤ 6) (hno : ∀ k, 1 ≤ k → k ≤ t → NoVar s k) (hyes : IsVar s (t + 1)) :
    Calls Try.prog 15 #[.string s] w fun e w' => e = .returned (.tuple #[.int .i64 (rvr s (t + 1) (t + 1)), .int .i64 ((t : Int) + 1)]) ∧ Below w.heap.size w w' := by
  unfold maxLen at hs
  have HN := Lib.hid hno
  have HY := Lib.hid hyes
  clear hno hyes
  go_enter Try.func15, Try.ntmps15
  go_wp2
  go_loopw [4] (fun kv wr => ∃ k : Nat, 1 ≤ k ∧ k ≤ t + 1 ∧ kv = .int .i64 k ∧ Below w.heap.size w wr) (fun kv _ => (8 - intOf kv).toNat)
  case atStart => exact ⟨1, by omega, by omega, rfl, Below.refl _ _⟩
  case round =>
    obtain ⟨k, hk1, hk2, rfl, hbw⟩ := hrel
    have hk7 : decide ((k : Int) ≤ 7) = true := by simp; omega
    have hks : decide (k ≤ s.size) = true := by simp; omega
    go_wp2
    go_loop [5, 6] (fun nv iv => ∃ m : Nat, m ≤ k ∧ iv = .int .i64 ((k : Int) - 1 - m) ∧ nv = .int .i64 (rvr s k m)) (fun _ iv => (intOf iv + 1).toNat)
    case atStart => exact ⟨0, by omega, by go_num, rfl⟩
    case round =>
      obtain ⟨m, hm, rfl, rfl⟩ := hrel
      have r0 := rvr_nonneg s k m
      by_cases hlt : m < k
      · have r1 := rvr_lt s k m (by omega)
        have hj : k - 1 - m < s.size := by omega
        have hg := get_bt s (k - 1 - m) hj
        have b0 := bt_nonneg s (k - 1 - m)
        have b1 := bt_le s (k - 1 - m)
        go_wp2
        go_round
        case rel => exact ⟨m + 1, by omega, by go_num, by rw [rvr, show k - (m + 1) = k - 1 - m by omega]⟩
        case measure => simp only [intOf]; omega
      · obtain rfl : m = k := by omega
        have r1 := rvr_max s m m (by omega)
        obtain ⟨K, hK6, hK⟩ := vk_exists _ r0 r1
        by_cases hlt : m < t + 1
        · have hne := HN.out m hk1 (by omega) K hK
          have hms : m ≤ s.size := by omega
          go_wp2
          go_region_with ((go_at_call 13; refine (spec_var _ K _ r0 r1 hK6 hK).mono ?_; rintro e w' ⟨rfl, hb'⟩))
          all_goals go_wp2
          all_goals
            go_roundw
            case rel => exact ⟨m + 1, by omega, by omega, by go_num, hbw.drew.trans (hb'.mono hbw.size)⟩
            case measure => simp only [intOf]; omega
        · obtain rfl : m = t + 1 := by omega
          have hne := HY.out K hK
          have hms : t + 1 ≤ s.size := by omega
          go_wp2
          go_region_with ((go_at_call 13; refine (spec_var _ K _ r0 r1 hK6 hK).mono ?_; rintro e w' ⟨rfl, hb'⟩))
          all_goals go_wp2
          all_goals go_ret2
          all_goals exact ⟨rfl, hbw.drew.trans (hb'.mono hbw.size)⟩

set_option maxHeartbeats 400000 in
theorem spec_rv_miss (s : ByteArray) (w : World) (hs : s.size ≤ maxLen) (hno : ∀ k, 1 ≤ k → k ≤ 7 → k ≤ s.size → NoVar s k) :
    Calls Try.prog 15 #[.string s] w fun e w' => e = .returned (.tuple #[.int .i64 0, .int .i64 0]) ∧ Below w.heap.size w w' := by
  unfold maxLen at hs
  have HN := Lib.hid hno
  clear hno
  go_enter Try.func15, Try.ntmps15
  go_wp2
  go_loopw [4] (fun kv wr => ∃ k : Nat, 1 ≤ k ∧ k ≤ 8 ∧ k ≤ s.size + 1 ∧ kv = .int .i64 k ∧ Below w.heap.size w wr) (fun kv _ => (8 - intOf kv).toNat)
  case atStart => exact ⟨1, by omega, by omega, by omega, rfl, Below.refl _ _⟩
  case round =>
    obtain ⟨k, hk1, hk8, hks1, rfl, hbw⟩ := hrel
    by_cases hin : k ≤ 7 ∧ k ≤ s.size
    · obtain ⟨hi7, his⟩ := hin
      have hk7 : decide ((k : Int) ≤ 7) = true := by simp; omega
      have hks : decide (k ≤ s.size) = true := by simp; omega
      go_wp2
      go_loop [5, 6] (fun nv iv => ∃ m : Nat, m ≤ k ∧ iv = .int .i64 ((k : Int) - 1 - m) ∧ nv = .int .i64 (rvr s k m)) (fun _ iv => (intOf iv + 1).toNat)
      case atStart => exact ⟨0, by omega, by go_num, rfl⟩
      case round =>
        obtain ⟨m, hm, rfl, rfl⟩ := hrel
        have r0 := rvr_nonneg s k m
        by_cases hlt : m < k
        · have r1 := rvr_lt s k m (by omega)
          have hj : k - 1 - m < s.size := by omega
          have hg := get_bt s (k - 1 - m) hj
          have b0 := bt_nonneg s (k - 1 - m)
          have b1 := bt_le s (k - 1 - m)
          go_wp2
          go_round
          case rel => exact ⟨m + 1, by omega, by go_num, by rw [rvr, show k - (m + 1) = k - 1 - m by omega]⟩
          case measure => simp only [intOf]; omega
        · obtain rfl : m = k := by omega
          have r1 := rvr_max s m m (by omega)
          obtain ⟨K, hK6, hK⟩ := vk_exists _ r0 r1
          have hne := HN.out m hk1 hi7 his K hK
          go_wp2
          go_region_with ((go_at_call 13; refine (spec_var _ K _ r0 r1 hK6 hK).mono ?_; rintro e w' ⟨rfl, hb'⟩))
          all_goals go_wp2
          all_goals
            go_roundw
            case rel => exact ⟨m + 1, by omega, by omega, by omega, by go_num, hbw.drew.trans (hb'.mono hbw.size)⟩
            case measure => simp only [intOf]; omega
    · by_cases h7 : k ≤ 7
      · have hk7 : decide ((k : Int) ≤ 7) = true := by simp; omega
        have hks : decide (k ≤ s.size) = false := by simp; omega
        go_wp2
        go_ret2
        exact ⟨rfl, hbw⟩
      · have hk7 : decide ((k : Int) ≤ 7) = false := by simp; omega
        go_wp2
        go_ret2
        exact ⟨rfl, hbw⟩

/-- Of a string: its first seven bytes have a last group, or none has. -/
theorem first_low (s : ByteArray) : (∃ t, t < s.size ∧ t ≤ 6 ∧ (∀ i, i < t → 128 ≤ bt s i) ∧ bt s t < 128) ∨ (∀ i, i < 7 → i < s.size → 128 ≤ bt s i) := by
  have go : ∀ m k : Nat, k + m = 7 → (∀ i, i < k → i < s.size → 128 ≤ bt s i) →
      (∃ t, t < s.size ∧ t ≤ 6 ∧ (∀ i, i < t → 128 ≤ bt s i) ∧ bt s t < 128) ∨ (∀ i, i < 7 → i < s.size → 128 ≤ bt s i) := by
    intro m
    induction m with
    | zero => intro k hk hi; exact .inr (fun i h7 hs => hi i (by omega) hs)
    | succ m ih =>
      intro k hk hi
      by_cases hs : k < s.size
      · by_cases hb : bt s k < 128
        · exact .inl ⟨k, hs, by omega, fun i hik => hi i hik (by omega), hb⟩
        · refine ih (k + 1) (by omega) fun i hik his => ?_
          by_cases e : i = k
          · subst e; omega
          · exact hi i (by omega) his
      · exact .inr (fun i h7 his => hi i (by omega) his)
  exact go 7 0 rfl (fun i hi => by omega)

/-- What ReadVar's model answers, and what the program does, at every string. -/
theorem rv_both (s : ByteArray) (hs : s.size ≤ maxLen) : ∃ a b : Int,
    (∀ w, Calls Try.prog 15 #[.string s] w fun e w' => e = .returned (.tuple #[.int .i64 a, .int .i64 b]) ∧ Below w.heap.size w w') ∧
    (∀ w, Calls Try.prog 16 #[.string s] w fun e w' => e = .returned (.tuple #[.int .i64 a, .int .i64 b]) ∧ w = w') := by
  rcases first_low s with ⟨t, ht, h6, hh, hb⟩ | hh
  · by_cases hz : t = 0 ∨ bt s t ≠ 0
    · refine ⟨rvr s (t + 1) (t + 1), (t : Int) + 1, fun w => ?_, fun w => ?_⟩
      · exact spec_rv_hit s t w hs ht h6 (fun k h1 hk => noVar_high s k h1 (by omega) (hh (k - 1) (by omega))) (isVar_of s t ht hh hb hz)
      · rw [← acc_eq]
        exact impl_rv_hit s t w hs ht h6 hh hb hz
    · have hz0 : bt s t = 0 := by omega
      refine ⟨0, 0, fun w => ?_, fun w => impl_rv_zero s t w hs ht h6 hh hz0 (by omega)⟩
      refine spec_rv_miss s w hs fun k h1 h7 hk => ?_
      rcases Nat.lt_trichotomy k (t + 1) with h | h | h
      · exact noVar_high s k h1 hk (hh (k - 1) (by omega))
      · exact noVar_zero s k (by omega) hk (by rw [show k - 1 = t by omega]; exact hz0)
      · exact noVar_low s k t hk (by omega) hb
  · refine ⟨0, 0, fun w => ?_, fun w => impl_rv_none s w hs hh⟩
    exact spec_rv_miss s w hs fun k h1 h7 hk => noVar_high s k h1 hk (hh (k - 1) (by omega) (by omega))

set_option maxHeartbeats 400000 in
theorem law_rv (s : ByteArray) (w : World) (hs : s.size ≤ maxLen) :
    Calls Try.prog 6 #[.string s] w fun e w' => e = .returned (.bool true) ∧ Below w.heap.size w w' := by
  obtain ⟨a, b, h1, h2⟩ := rv_both s hs
  have H1 := Lib.hid h1
  have H2 := Lib.hid h2
  clear h1 h2
  have hs' := hs
  unfold maxLen at hs'
  by_cases hb : (1048576 : Int) < s.size
  · go_enter Try.func6, Try.ntmps6
    go_wp2
    go_ret
    exact ⟨rfl, Below.refl _ _⟩
  · go_enter Try.func6, Try.ntmps6
    go_wp2_with (first | (go_at_call 15; refine (H1.out _).mono ?_; rintro e w1 ⟨rfl, hb1⟩) | (go_at_call 16; refine (H2.out _).mono ?_; rintro e w2 ⟨rfl, rfl⟩))
    go_ret
    exact ⟨rfl, hb1⟩
end Go.Proofs.Ytnaimoppljjcdaa
