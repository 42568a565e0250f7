/- The walks of the model's Fixed, for every number and width. -/
import Derived.Test.YtmnglcidklckgaaDoorBytes
import Derived.Test.YtmnglcidklckgaaDoorIn
namespace Go.Proofs.YtmnglcidklckgaaDoor
open Go.RowKit Go.PlainAid
set_option linter.unusedVariables false


theorem strOf_cons (b : Int) (l : List Int) : strOfNums [b] ++ strOfNums l = strOfNums (b :: l) := by
  apply ByteArray.ext
  simp [strOfNums, ByteArray.data_append]

set_option maxHeartbeats 400000 in
theorem spec_fixed (n width : Int) (w : World) (h1 : 1 ≤ width) (h7 : width ≤ 7) (h0 : 0 ≤ n) (hn : n ≤ 9223372036854775807) (hz : dv n width.toNat = 0) :
    Calls Tryd.prog 74 #[.int .i64 n, .int .i64 width] w fun e w' => e = .returned (.string (strOfNums (fixL n width.toNat))) ∧ Below w.heap.size w w' := by
  have HZ := Lib.hid hz
  clear hz
  have hconv := conv_one
  go_enter Tryd.func74, Tryd.ntmps74
  go_wp2_with (go_at_call 36; refine (in_yes _ _ _ _ h1 h7).mono ?_; rintro e w' ⟨rfl, rfl⟩)
  go_loopw [0, 5, 6] (fun a o i wr => ∃ k : Nat, (k : Int) ≤ width ∧ i = .int .i64 k ∧ a = .int .i64 (dv n k) ∧ o = .string (strOfNums (fixL n k)) ∧ Below w.heap.size w wr) (fun _ _ i _ => (width - intOf i).toNat)
  case atStart => exact ⟨0, by omega, rfl, rfl, rfl, Below.refl _ _⟩
  case round =>
    obtain ⟨k, hk, rfl, rfl, rfl, hbw⟩ := hrel
    have d0 := dv_nonneg n h0 k
    have d1 := dv_le n h0 k
    by_cases hlt : (k : Int) < width
    · have hsz : (strOfNums [dv n k % 256]).size + (strOfNums (fixL n k)).size ≤ 9223372036854775807 := by simp only [strOfNums_size, fixL_length, List.length_singleton]; omega
      go_wp2
      go_roundw
      case rel => exact ⟨k + 1, by omega, by go_num, rfl, by rw [strOf_cons, fixL], hbw.alloc hbw.size _⟩
      case measure => simp [intOf]; omega
    · obtain rfl : (k : Int) = width := by omega
      have hz : dv n k = 0 := by simpa using HZ.out
      have hz' : dv n k ≤ 0 := by omega
      clear hz
      go_wp2
      go_ret
      exact ⟨by simp, hbw⟩

set_option maxHeartbeats 400000 in
theorem spec_fixed_big (n width : Int) (w : World) (h1 : 1 ≤ width) (h7 : width ≤ 7) (h0 : 0 ≤ n) (hn : n ≤ 9223372036854775807) (hz : 0 < dv n width.toNat) :
    Calls Tryd.prog 74 #[.int .i64 n, .int .i64 width] w fun e w' => e = .returned (.string ByteArray.empty) ∧ Below w.heap.size w w' := by
  have HZ := Lib.hid hz
  clear hz
  have hconv := conv_one
  go_enter Tryd.func74, Tryd.ntmps74
  go_wp2_with (go_at_call 36; refine (in_yes _ _ _ _ h1 h7).mono ?_; rintro e w' ⟨rfl, rfl⟩)
  go_loopw [0, 5, 6] (fun a o i wr => ∃ k : Nat, (k : Int) ≤ width ∧ i = .int .i64 k ∧ a = .int .i64 (dv n k) ∧ o = .string (strOfNums (fixL n k)) ∧ Below w.heap.size w wr) (fun _ _ i _ => (width - intOf i).toNat)
  case atStart => exact ⟨0, by omega, rfl, rfl, rfl, Below.refl _ _⟩
  case round =>
    obtain ⟨k, hk, rfl, rfl, rfl, hbw⟩ := hrel
    have d0 := dv_nonneg n h0 k
    have d1 := dv_le n h0 k
    by_cases hlt : (k : Int) < width
    · have hsz : (strOfNums [dv n k % 256]).size + (strOfNums (fixL n k)).size ≤ 9223372036854775807 := by simp only [strOfNums_size, fixL_length, List.length_singleton]; omega
      go_wp2
      go_roundw
      case rel => exact ⟨k + 1, by omega, by go_num, rfl, by rw [strOf_cons, fixL], hbw.alloc hbw.size _⟩
      case measure => simp [intOf]; omega
    · obtain rfl : (k : Int) = width := by omega
      have hz : 0 < dv n k := by simpa using HZ.out
      go_wp2
      go_ret
      exact ⟨rfl, hbw⟩

set_option maxHeartbeats 400000 in
theorem spec_fixed_no (n width : Int) (w : World) (h : width < 1 ∨ 7 < width ∨ n < 0) :
    Calls Tryd.prog 74 #[.int .i64 n, .int .i64 width] w fun e w' => e = .returned (.string ByteArray.empty) ∧ w = w' := by
  by_cases h1 : 1 ≤ width ∧ width ≤ 7
  · have h0 : n < 0 := by omega
    obtain ⟨h1, h7⟩ := h1
    clear h
    go_enter Tryd.func74, Tryd.ntmps74
    go_wp2_with (go_at_call 36; refine (in_yes _ _ _ _ h1 h7).mono ?_; rintro e w' ⟨rfl, rfl⟩)
    go_ret
    exact ⟨rfl, rfl⟩
  · have h2 : width < 1 ∨ 7 < width := by omega
    clear h h1
    go_enter Tryd.func74, Tryd.ntmps74
    go_wp2_with (go_at_call 36; refine (in_no _ _ _ _ h2).mono ?_; rintro e w' ⟨rfl, rfl⟩)
    go_ret
    exact ⟨rfl, rfl⟩
end Go.Proofs.YtmnglcidklckgaaDoor
