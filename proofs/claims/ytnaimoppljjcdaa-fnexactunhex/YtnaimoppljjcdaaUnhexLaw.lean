/- The walks of the program's Unhex, and the law over it and its model: it returns true at every string. -/
import Derived.Test.YtnaimoppljjcdaaUnhexS
namespace Go.Proofs.Ytnaimoppljjcdaa
open Go.RowKit Go.PlainAid
set_option linter.unusedVariables false

set_option maxHeartbeats 400000 in
theorem impl_unhex_ok (s : ByteArray) (w : World) (hs : s.size ≤ 1048576) (h2 : s.size % 2 = 0) (hv : ∀ j, j < s.size → 0 ≤ hexv (bt s j)) :
    Calls Try.prog 20 #[.string s] w fun e w' => e = .returned (.tuple #[.string (strOfNums (unP s (s.size / 2))), .bool true]) ∧ Below w.heap.size w w' := by
  have HV := Lib.hid hv
  clear hv
  have hodd : ((s.size : Int) % 2 != 0) = false := by
    have : (s.size : Int) % 2 = 0 := by omega
    rw [this]; rfl
  have H2 := Lib.hid h2
  have h2' : s.size % 2 < 1 := by omega
  clear h2
  obtain ⟨w1, hmk, hroom, hb1⟩ := make_room w (s.size / 2) (by omega)
  rw [show ((s.size / 2 : Nat) : Int) = (s.size : Int) / 2 by omega] at hmk
  obtain ⟨g, hg⟩ : ∃ g, g = w.heap.size := ⟨_, rfl⟩
  rw [← hg] at hmk hroom hb1 ⊢
  have HG := Lib.hid hg
  clear hg
  go_enter Try.func20, Try.ntmps20
  go_wp2
  clear hmk
  go_loopw [5, 6] (fun a i wr => ∃ k : Nat, 2 * k ≤ s.size ∧ a = .int .i64 k ∧ i = .int .i64 (2 * (k : Int)) ∧ Room wr g (unP s k) (s.size / 2 - k) ∧ Below g w wr) (fun _ i _ => s.size - (intOf i).toNat)
  case atStart => exact ⟨0, by omega, rfl, rfl, hroom, hb1⟩
  case round =>
    obtain ⟨k, hk, rfl, rfl, hr, hbw⟩ := hrel
    have hglt := hr.lt
    by_cases hlt : 2 * k < s.size
    · have hlt1 : 2 * k + 1 < s.size := by have := H2.out; omega
      have hg0 := get_bt s (2 * k) hlt
      have hg1 := get_bt s (2 * k + 1) hlt1
      have b0 := bt_nonneg s (2 * k)
      have b1 := bt_le s (2 * k)
      have c0 := bt_nonneg s (2 * k + 1)
      have c1 := bt_le s (2 * k + 1)
      have v0 := HV.out (2 * k) hlt
      have v1 := HV.out (2 * k + 1) hlt1
      have r0 := (hexv_range (bt s (2 * k))).2
      have r1 := (hexv_range (bt s (2 * k + 1))).2
      have d0 : decide (hexv (bt s (2 * k)) < 0) = false := by simp; omega
      have d1 : decide (hexv (bt s (2 * k + 1)) < 0) = false := by simp; omega
      have oj : bits .or .i64 (hexv (bt s (2 * k)) * 16) (hexv (bt s (2 * k + 1))) = hexv (bt s (2 * k)) * 16 + hexv (bt s (2 * k + 1)) :=
        i64_or_join 4 _ _ (by omega) (by omega) (by omega) (by omega) (by omega) (by omega)
      go_wp2_with (first | (go_at_call 26; refine (index_hex _ _ (by omega) (by omega)).mono ?_; rintro e w' ⟨rfl, rfl⟩) | (go_at_call 23; refine (put_bytes _ g wr.heap.size (s.size / 2) k 1 (s.size / 2 - k) g (unP s k) [_] (hr.alloc _) (src_one wr _) (unP_length s k) rfl (by omega) (by omega) (by omega) (by omega) (Nat.le_refl _)).mono ?_; rintro e w' ⟨rfl, hr', hb'⟩))
      go_roundw
      case rel =>
        refine ⟨k + 1, by omega, by go_num, by go_num, ?_, (hbw.alloc (Nat.le_of_lt hglt) _).trans hb'⟩
        rw [unP, Int.mul_comm 16, show s.size / 2 - (k + 1) = s.size / 2 - k - 1 by omega]
        exact hr'
      case measure => simp only [intOf]; omega
    · have hk2 : s.size / 2 = k := by omega
      have hconv := conv_room wr g _ (s.size / 2) (s.size / 2) _ hr (by rw [unP_length, hk2])
      have HK := Lib.hid hk2
      clear hk2
      go_wp2
      go_ret2
      exact ⟨by rw [HK.out]; rfl, hbw⟩

set_option maxHeartbeats 400000 in
theorem impl_unhex_bad (s : ByteArray) (w : World) (t : Nat) (hs : s.size ≤ 1048576) (h2 : s.size % 2 = 0) (ht : 2 * t < s.size) (hv : ∀ j, j < 2 * t → 0 ≤ hexv (bt s j)) (hb : hexv (bt s (2 * t)) < 0 ∨ hexv (bt s (2 * t + 1)) < 0) :
    Calls Try.prog 20 #[.string s] w fun e w' => e = .returned (.tuple #[.string ByteArray.empty, .bool false]) ∧ Below w.heap.size w w' := by
  have HV := Lib.hid hv
  have HB := Lib.hid hb
  clear hv hb
  have hodd : ((s.size : Int) % 2 != 0) = false := by
    have : (s.size : Int) % 2 = 0 := by omega
    rw [this]; rfl
  have H2 := Lib.hid h2
  have h2' : s.size % 2 < 1 := by omega
  clear h2
  obtain ⟨w1, hmk, hroom, hb1⟩ := make_room w (s.size / 2) (by omega)
  rw [show ((s.size / 2 : Nat) : Int) = (s.size : Int) / 2 by omega] at hmk
  obtain ⟨g, hg⟩ : ∃ g, g = w.heap.size := ⟨_, rfl⟩
  rw [← hg] at hmk hroom hb1 ⊢
  have HG := Lib.hid hg
  clear hg
  go_enter Try.func20, Try.ntmps20
  go_wp2
  clear hmk
  go_loopw [5, 6] (fun a i wr => ∃ k : Nat, k ≤ t ∧ a = .int .i64 k ∧ i = .int .i64 (2 * (k : Int)) ∧ Room wr g (unP s k) (s.size / 2 - k) ∧ Below g w wr) (fun _ i _ => s.size - (intOf i).toNat)
  case atStart => exact ⟨0, by omega, rfl, rfl, hroom, hb1⟩
  case round =>
    obtain ⟨k, hk, rfl, rfl, hr, hbw⟩ := hrel
    have hglt := hr.lt
    have hlt : 2 * k < s.size := by omega
    have hlt1 : 2 * k + 1 < s.size := by have := H2.out; omega
    have hg0 := get_bt s (2 * k) hlt
    have hg1 := get_bt s (2 * k + 1) hlt1
    have b0 := bt_nonneg s (2 * k)
    have b1 := bt_le s (2 * k)
    have c0 := bt_nonneg s (2 * k + 1)
    have c1 := bt_le s (2 * k + 1)
    have r0 := (hexv_range (bt s (2 * k))).2
    have r1 := (hexv_range (bt s (2 * k + 1))).2
    by_cases hkt : k < t
    · have v0 := HV.out (2 * k) (by omega)
      have v1 := HV.out (2 * k + 1) (by omega)
      have d0 : decide (hexv (bt s (2 * k)) < 0) = false := by simp; omega
      have d1 : decide (hexv (bt s (2 * k + 1)) < 0) = false := by simp; omega
      have oj : bits .or .i64 (hexv (bt s (2 * k)) * 16) (hexv (bt s (2 * k + 1))) = hexv (bt s (2 * k)) * 16 + hexv (bt s (2 * k + 1)) :=
        i64_or_join 4 _ _ (by omega) (by omega) (by omega) (by omega) (by omega) (by omega)
      go_wp2_with (first | (go_at_call 26; refine (index_hex _ _ (by omega) (by omega)).mono ?_; rintro e w' ⟨rfl, rfl⟩) | (go_at_call 23; refine (put_bytes _ g wr.heap.size (s.size / 2) k 1 (s.size / 2 - k) g (unP s k) [_] (hr.alloc _) (src_one wr _) (unP_length s k) rfl (by omega) (by omega) (by omega) (by omega) (Nat.le_refl _)).mono ?_; rintro e w' ⟨rfl, hr', hb'⟩))
      go_roundw
      case rel =>
        refine ⟨k + 1, by omega, by go_num, by go_num, ?_, (hbw.alloc (Nat.le_of_lt hglt) _).trans hb'⟩
        rw [unP, Int.mul_comm 16, show s.size / 2 - (k + 1) = s.size / 2 - k - 1 by omega]
        exact hr'
      case measure => simp only [intOf]; omega
    · obtain rfl : k = t := by omega
      by_cases hn : hexv (bt s (2 * k)) < 0
      · have d0 : decide (hexv (bt s (2 * k)) < 0) = true := by simp; omega
        go_wp2_with (go_at_call 26; refine (index_hex _ _ (by omega) (by omega)).mono ?_; rintro e w' ⟨rfl, rfl⟩)
        go_ret2
        exact ⟨rfl, hbw⟩
      · have d0 : decide (hexv (bt s (2 * k)) < 0) = false := by simp; omega
        have d1 : decide (hexv (bt s (2 * k + 1)) < 0) = true := by rcases HB.out with h | h <;> simp <;> omega
        go_wp2_with (go_at_call 26; refine (index_hex _ _ (by omega) (by omega)).mono ?_; rintro e w' ⟨rfl, rfl⟩)
        go_ret2
        exact ⟨rfl, hbw⟩

set_option maxHeartbeats 400000 in
theorem impl_unhex_odd (s : ByteArray) (w : World) (hs : s.size ≤ 1048576) (h2 : s.size % 2 = 1) :
    Calls Try.prog 20 #[.string s] w fun e w' => e = .returned (.tuple #[.string ByteArray.empty, .bool false]) ∧ w = w' := by
  have hodd : ((s.size : Int) % 2 != 0) = true := by
    have : (s.size : Int) % 2 = 1 := by omega
    rw [this]; rfl
  clear h2
  go_enter Try.func20, Try.ntmps20
  go_wp2
  go_ret2
  exact ⟨rfl, rfl⟩

/-- All digits of the pairs are digits, or there is a first pair with one that is none. -/
theorem first_bad (s : ByteArray) (h2 : s.size % 2 = 0) : (∀ j, j < s.size → 0 ≤ hexv (bt s j)) ∨
    ∃ t, 2 * t < s.size ∧ (∀ j, j < 2 * t → 0 ≤ hexv (bt s j)) ∧ (hexv (bt s (2 * t)) < 0 ∨ hexv (bt s (2 * t + 1)) < 0) := by
  have go : ∀ k, 2 * k ≤ s.size → (∀ j, j < 2 * k → 0 ≤ hexv (bt s j)) ∨
      ∃ t, 2 * t < s.size ∧ (∀ j, j < 2 * t → 0 ≤ hexv (bt s j)) ∧ (hexv (bt s (2 * t)) < 0 ∨ hexv (bt s (2 * t + 1)) < 0) := by
    intro k
    induction k with
    | zero => intro _; exact .inl (fun j hj => by omega)
    | succ k ih =>
      intro hk
      rcases ih (by omega) with h | h
      · by_cases hb : hexv (bt s (2 * k)) < 0 ∨ hexv (bt s (2 * k + 1)) < 0
        · exact .inr ⟨k, by omega, h, hb⟩
        · refine .inl fun j hj => ?_
          by_cases e0 : j = 2 * k
          · subst e0; omega
          · by_cases e1 : j = 2 * k + 1
            · subst e1; omega
            · exact h j (by omega)
      · exact .inr h
  rcases go (s.size / 2) (by omega) with h | h
  · exact .inl fun j hj => h j (by omega)
  · exact .inr h

/-- What Unhex and its model answer at a string of at most 2^20 bytes. -/
theorem unhex_both (s : ByteArray) (hs : s.size ≤ 1048576) : ∃ (a : ByteArray) (b : Bool),
    (∀ w, Calls Try.prog 19 #[.string s] w fun e w' => e = .returned (.tuple #[.string a, .bool b]) ∧ Below w.heap.size w w') ∧
    (∀ w, Calls Try.prog 20 #[.string s] w fun e w' => e = .returned (.tuple #[.string a, .bool b]) ∧ Below w.heap.size w w') := by
  by_cases h2 : s.size % 2 = 0
  · rcases first_bad s h2 with h | ⟨t, ht, hv, hb⟩
    · exact ⟨_, _, fun w => spec_unhex_ok s w hs h2 h, fun w => impl_unhex_ok s w hs h2 h⟩
    · exact ⟨_, _, fun w => spec_unhex_bad s w t hs h2 ht hv hb, fun w => impl_unhex_bad s w t hs h2 ht hv hb⟩
  · exact ⟨_, _, fun w => spec_unhex_odd s w hs (by omega), fun w => (impl_unhex_odd s w hs (by omega)).mono fun e w' ⟨he, hw⟩ => ⟨he, by subst hw; exact Below.refl _ _⟩⟩

set_option maxHeartbeats 400000 in
theorem law_unhex (s : ByteArray) (w : World) (hs : s.size ≤ maxLen) :
    Calls Try.prog 8 #[.string s] w fun e w' => e = .returned (.bool true) ∧ Below w.heap.size w w' := by
  have hs' := hs
  unfold maxLen at hs'
  by_cases hb : (1048576 : Int) < s.size
  · go_enter Try.func8, Try.ntmps8
    go_wp2
    go_ret
    exact ⟨rfl, Below.refl _ _⟩
  · obtain ⟨a, b, h1, h2⟩ := unhex_both s (by omega)
    have H1 := Lib.hid h1
    have H2 := Lib.hid h2
    clear h1 h2
    go_enter Try.func8, Try.ntmps8
    go_wp2_with (first | (go_at_call 19; refine (H1.out _).mono ?_; rintro e w1 ⟨rfl, hb1⟩) | (go_at_call 20; refine (H2.out _).mono ?_; rintro e w2 ⟨rfl, hb2⟩))
    go_ret
    exact ⟨rfl, hb1.trans (hb2.mono hb1.size)⟩
end Go.Proofs.Ytnaimoppljjcdaa
