/- The walks of Fixed: what the program and its model answer, for every number and width, and that the law over both returns true. No conditions but that the numbers are Go's. -/
import Derived.Test.YtnaimoppljjcdaaBytes
namespace Go.Proofs.Ytnaimoppljjcdaa
open Go.RowKit Go.PlainAid
set_option linter.unusedVariables false

theorem strOf_cons (b : Int) (l : List Int) : strOfNums [b] ++ strOfNums l = strOfNums (b :: l) := by
  apply ByteArray.ext
  simp [strOfNums, ByteArray.data_append]

set_option maxHeartbeats 400000 in
theorem spec_fixed (n width : Int) (w : World) (h1 : 1 ≤ width) (h7 : width ≤ 7) (h0 : 0 ≤ n) (hn : n ≤ 9223372036854775807) (hz : dv n width.toNat = 0) :
    Calls Try.prog 9 #[.int .i64 n, .int .i64 width] w fun e w' => e = .returned (.string (strOfNums (fixL n width.toNat))) ∧ Below w.heap.size w w' := by
  have HZ := Lib.hid hz
  clear hz
  have hconv := conv_one
  go_enter Try.func9, Try.ntmps9
  go_wp2_with (go_at_call 21; refine (in_yes _ _ _ _ h1 h7).mono ?_; rintro e w' ⟨rfl, rfl⟩)
  go_loopw [0, 5, 6] (fun a o i wr => ∃ k : Nat, (k : Int) ≤ width ∧ i = .int .i64 k ∧ a = .int .i64 (dv n k) ∧ o = .string (strOfNums (fixL n k)) ∧ Below w.heap.size w wr) (fun _ _ i _ => (width - intOf i).toNat)
  case atStart => exact ⟨0, by omega, rfl, rfl, rfl, Below.refl _ _⟩
  case round =>
    obtain ⟨k, hk, rfl, rfl, rfl, hbw⟩ := hrel
    have d0 := dv_nonneg n h0 k
    have d1 := dv_le n h0 k
    by_cases hlt : (k : Int) < width
    · have hsz : (strOfNums [dv n k % 256]).size + (strOfNums (fixL n k)).size ≤ 9223372036854775807 := by simp only [strOfNums_size, fixL_length, List.length_singleton]; omega
      go_wp2
      go_roundw
      case rel => exact ⟨k + 1, by omega, by go_num, rfl, by rw [strOf_cons, fixL], hbw.alloc hbw.size _⟩
      case measure => simp [intOf]; omega
    · obtain rfl : (k : Int) = width := by omega
      have hz : dv n k = 0 := by simpa using HZ.out
      have hz' : dv n k ≤ 0 := by omega
      clear hz
      go_wp2
      go_ret
      exact ⟨by simp, hbw⟩

set_option maxHeartbeats 400000 in
theorem spec_fixed_big (n width : Int) (w : World) (h1 : 1 ≤ width) (h7 : width ≤ 7) (h0 : 0 ≤ n) (hn : n ≤ 9223372036854775807) (hz : 0 < dv n width.toNat) :
    Calls Try.prog 9 #[.int .i64 n, .int .i64 width] w fun e w' => e = .returned (.string ByteArray.empty) ∧ Below w.heap.size w w' := by
  have HZ := Lib.hid hz
  clear hz
  have hconv := conv_one
  go_enter Try.func9, Try.ntmps9
  go_wp2_with (go_at_call 21; refine (in_yes _ _ _ _ h1 h7).mono ?_; rintro e w' ⟨rfl, rfl⟩)
  go_loopw [0, 5, 6] (fun a o i wr => ∃ k : Nat, (k : Int) ≤ width ∧ i = .int .i64 k ∧ a = .int .i64 (dv n k) ∧ o = .string (strOfNums (fixL n k)) ∧ Below w.heap.size w wr) (fun _ _ i _ => (width - intOf i).toNat)
  case atStart => exact ⟨0, by omega, rfl, rfl, rfl, Below.refl _ _⟩
  case round =>
    obtain ⟨k, hk, rfl, rfl, rfl, hbw⟩ := hrel
    have d0 := dv_nonneg n h0 k
    have d1 := dv_le n h0 k
    by_cases hlt : (k : Int) < width
    · have hsz : (strOfNums [dv n k % 256]).size + (strOfNums (fixL n k)).size ≤ 9223372036854775807 := by simp only [strOfNums_size, fixL_length, List.length_singleton]; omega
      go_wp2
      go_roundw
      case rel => exact ⟨k + 1, by omega, by go_num, rfl, by rw [strOf_cons, fixL], hbw.alloc hbw.size _⟩
      case measure => simp [intOf]; omega
    · obtain rfl : (k : Int) = width := by omega
      have hz : 0 < dv n k := by simpa using HZ.out
      go_wp2
      go_ret
      exact ⟨rfl, hbw⟩

set_option maxHeartbeats 400000 in
theorem spec_fixed_no (n width : Int) (w : World) (h : width < 1 ∨ 7 < width ∨ n < 0) :
    Calls Try.prog 9 #[.int .i64 n, .int .i64 width] w fun e w' => e = .returned (.string ByteArray.empty) ∧ w = w' := by
  by_cases h1 : 1 ≤ width ∧ width ≤ 7
  · have h0 : n < 0 := by omega
    obtain ⟨h1, h7⟩ := h1
    clear h
    go_enter Try.func9, Try.ntmps9
    go_wp2_with (go_at_call 21; refine (in_yes _ _ _ _ h1 h7).mono ?_; rintro e w' ⟨rfl, rfl⟩)
    go_ret
    exact ⟨rfl, rfl⟩
  · have h2 : width < 1 ∨ 7 < width := by omega
    clear h h1
    go_enter Try.func9, Try.ntmps9
    go_wp2_with (go_at_call 21; refine (in_no _ _ _ _ h2).mono ?_; rintro e w' ⟨rfl, rfl⟩)
    go_ret
    exact ⟨rfl, rfl⟩

set_option maxHeartbeats 400000 in
theorem impl_fixed (n : Int) (W : Nat) (w : World) (h1 : 1 ≤ W) (h7 : W ≤ 7) (h0 : 0 ≤ n) (hn : n ≤ 9223372036854775807) (hz : dv n W = 0) :
    Calls Try.prog 10 #[.int .i64 n, .int .i64 W] w fun e w' => e = .returned (.string (strOfNums (fixL n W))) ∧ Below w.heap.size w w' := by
  have hz2 : (n / 2 ^ (8 * W) != 0) = false := by rw [dv_shift, hz]; rfl
  have hd : decide (n < 0) = false := by simp; omega
  clear hz
  obtain ⟨w1, hmk, hroom, hb1⟩ := make_room w W (by omega)
  obtain ⟨g, hg⟩ : ∃ g, g = w.heap.size := ⟨_, rfl⟩
  rw [← hg] at hmk hroom hb1 ⊢
  have HG := Lib.hid hg
  clear hg
  go_enter Try.func10, Try.ntmps10
  go_wp2_with (go_at_call 22; refine (wok_yes _ _ (by omega) (by omega)).mono ?_; rintro e w' ⟨rfl, rfl⟩)
  clear hmk
  go_loopw [6, 7] (fun a s wr => ∃ j : Nat, j ≤ W ∧ a = .int .i64 j ∧ s = .int .i64 (8 * ((W : Int) - 1 - j)) ∧ Room wr g ((fixL n W).take j) (W - j) ∧ Below g w wr) (fun _ s _ => (intOf s + 8).toNat)
  case atStart => exact ⟨0, by omega, rfl, by go_num, hroom, hb1⟩
  case round =>
    obtain ⟨j, hj, rfl, rfl, hr, hbw⟩ := hrel
    have hg := hr.lt
    by_cases hlt : j < W
    · have hlen : ((fixL n W).take j).length = j := by rw [List.length_take, fixL_length]; omega
      have HL := Lib.hid hlen
      clear hlen
      go_wp2_with (go_at_call 23; refine (put_bytes _ g wr.heap.size W j 1 (W - j) g ((fixL n W).take j) [_] (hr.alloc _) (src_one wr _) HL.out rfl (by omega) (by omega) (by omega) (by omega) (Nat.le_refl _)).mono ?_; rintro e w' ⟨rfl, hr', hb'⟩)
      go_roundw
      case rel =>
        refine ⟨j + 1, by omega, by go_num, by go_num, ?_, (hbw.alloc (Nat.le_of_lt hg) _).trans hb'⟩
        rw [fixL_take n W j hlt, ← dv_shift, Nat.sub_add_eq]
        exact hr'
      case measure => simp only [intOf]; omega
    · obtain rfl : j = W := by omega
      rw [List.take_of_length_le (by rw [fixL_length]; exact Nat.le_refl _)] at hr
      have hconv := conv_room wr g _ j j (fixL n j) hr (fixL_length n j)
      go_wp2
      go_ret
      exact ⟨rfl, hbw⟩

set_option maxHeartbeats 400000 in
theorem impl_fixed_no (n width : Int) (w : World) (hn : n ≤ 9223372036854775807) (hn' : -9223372036854775808 ≤ n) (h : width < 1 ∨ 7 < width ∨ n < 0 ∨ 0 < dv n width.toNat) :
    Calls Try.prog 10 #[.int .i64 n, .int .i64 width] w fun e w' => e = .returned (.string ByteArray.empty) ∧ w = w' := by
  by_cases h1 : 1 ≤ width ∧ width ≤ 7
  · obtain ⟨W, rfl⟩ := Int.eq_ofNat_of_zero_le (show 0 ≤ width by omega)
    obtain ⟨h1, h7⟩ := h1
    by_cases h0 : n < 0
    · clear h
      have hd : decide (n < 0) = true := by simp; omega
      go_enter Try.func10, Try.ntmps10
      go_wp2_with (go_at_call 22; refine (wok_yes _ _ (by omega) (by omega)).mono ?_; rintro e w' ⟨rfl, rfl⟩)
      go_ret
      exact ⟨rfl, rfl⟩
    · have hz : 0 < dv n W := by
        rcases h with h | h | h | h
        · omega
        · omega
        · omega
        · simpa using h
      have hz2 : (n / 2 ^ (8 * W) != 0) = true := by rw [dv_shift]; simp; omega
      have hd : decide (n < 0) = false := by simp; omega
      clear h hz
      go_enter Try.func10, Try.ntmps10
      go_wp2_with (go_at_call 22; refine (wok_yes _ _ (by omega) (by omega)).mono ?_; rintro e w' ⟨rfl, rfl⟩)
      go_ret
      exact ⟨rfl, rfl⟩
  · have h2 : width < 1 ∨ 7 < width := by omega
    clear h h1
    go_enter Try.func10, Try.ntmps10
    go_wp2_with (go_at_call 22; refine (wok_no _ _ h2).mono ?_; rintro e w' ⟨rfl, rfl⟩)
    go_ret
    exact ⟨rfl, rfl⟩

set_option maxHeartbeats 400000 in
theorem law_fixed (n width : Int) (w : World) (hn : n ≤ 9223372036854775807) (hn' : -9223372036854775808 ≤ n) :
    Calls Try.prog 3 #[.int .i64 n, .int .i64 width] w fun e w' => e = .returned (.bool true) ∧ Below w.heap.size w w' := by
  by_cases h1 : 1 ≤ width ∧ width ≤ 7 ∧ 0 ≤ n
  · obtain ⟨h1, h7, h0⟩ := h1
    obtain ⟨W, rfl⟩ := Int.eq_ofNat_of_zero_le (show 0 ≤ width by omega)
    by_cases hz : dv n W = 0
    · have HZ := Lib.hid hz
      clear hz
      go_enter Try.func3, Try.ntmps3
      go_wp2_with (first | (go_at_call 9; refine (spec_fixed n W _ h1 h7 h0 hn (by simpa using HZ.out)).mono ?_; rintro e w1 ⟨rfl, hb1⟩) | (go_at_call 10; refine (impl_fixed n W _ (by omega) (by omega) h0 hn HZ.out).mono ?_; rintro e w2 ⟨rfl, hb2⟩))
      go_ret
      exact ⟨rfl, hb1.trans (hb2.mono hb1.size)⟩
    · have hz' : 0 < dv n W := by have := dv_nonneg n h0 W; omega
      have HZ := Lib.hid hz'
      clear hz hz'
      go_enter Try.func3, Try.ntmps3
      go_wp2_with (first | (go_at_call 9; refine (spec_fixed_big n W _ h1 h7 h0 hn (by simpa using HZ.out)).mono ?_; rintro e w1 ⟨rfl, hb1⟩) | (go_at_call 10; refine (impl_fixed_no n W _ hn hn' (Or.inr (Or.inr (Or.inr (by simpa using HZ.out))))).mono ?_; rintro e w2 ⟨rfl, rfl⟩))
      go_ret
      exact ⟨rfl, hb1⟩
  · have h2 : width < 1 ∨ 7 < width ∨ n < 0 := by omega
    clear h1
    go_enter Try.func3, Try.ntmps3
    go_wp2_with (first | (go_at_call 9; refine (spec_fixed_no n width _ h2).mono ?_; rintro e w1 ⟨rfl, rfl⟩) | (go_at_call 10; refine (impl_fixed_no n width _ hn hn' (by omega)).mono ?_; rintro e w2 ⟨rfl, rfl⟩))
    go_ret
    exact ⟨rfl, Below.refl _ _⟩
end Go.Proofs.Ytnaimoppljjcdaa
