/- The walks of the program's Fixed, for every number and width. -/
import Derived.Test.YtmnglcidklckgaaDoorPut
import Derived.Test.YtmnglcidklckgaaDoorWok
namespace Go.Proofs.YtmnglcidklckgaaDoor
open Go.RowKit Go.PlainAid
set_option linter.unusedVariables false
set_option maxRecDepth 100000

set_option maxHeartbeats 400000 in
theorem impl_fixed (n : Int) (W : Nat) (w : World) (h1 : 1 ≤ W) (h7 : W ≤ 7) (h0 : 0 ≤ n) (hn : n ≤ 9223372036854775807) (hz : dv n W = 0) :
    Calls Tryd.prog 84 #[.int .i64 n, .int .i64 W] w fun e w' => e = .returned (.string (strOfNums (fixL n W))) ∧ Below w.heap.size w w' := by
  have hz2 : (n / 2 ^ (8 * W) != 0) = false := by rw [dv_shift, hz]; rfl
  have hd : decide (n < 0) = false := by simp; omega
  clear hz
  obtain ⟨w1, hmk, hroom, hb1⟩ := make_room w W (by omega)
  obtain ⟨g, hg⟩ : ∃ g, g = w.heap.size := ⟨_, rfl⟩
  rw [← hg] at hmk hroom hb1 ⊢
  have HG := Lib.hid hg
  clear hg
  go_enter Tryd.func84, Tryd.ntmps84
  go_wp2_with (go_at_call 95; refine (wok_yes _ _ (by omega) (by omega)).mono ?_; rintro e w' ⟨rfl, rfl⟩)
  clear hmk
  go_loopw [6, 7] (fun a s wr => ∃ j : Nat, j ≤ W ∧ a = .int .i64 j ∧ s = .int .i64 (8 * ((W : Int) - 1 - j)) ∧ Room wr g ((fixL n W).take j) (W - j) ∧ Below g w wr) (fun _ s _ => (intOf s + 8).toNat)
  case atStart => exact ⟨0, by omega, rfl, by go_num, hroom, hb1⟩
  case round =>
    obtain ⟨j, hj, rfl, rfl, hr, hbw⟩ := hrel
    have hg := hr.lt
    by_cases hlt : j < W
    · have hlen : ((fixL n W).take j).length = j := by rw [List.length_take, fixL_length]; omega
      have HL := Lib.hid hlen
      clear hlen
      go_wp2_with (go_at_call 96; refine (put_bytes _ g wr.heap.size W j 1 (W - j) g ((fixL n W).take j) [_] (hr.alloc _) (src_one wr _) HL.out rfl (by omega) (by omega) (by omega) (by omega) (Nat.le_refl _)).mono ?_; rintro e w' ⟨rfl, hr', hb'⟩)
      go_roundw
      case rel =>
        refine ⟨j + 1, by omega, by go_num, by go_num, ?_, (hbw.alloc (Nat.le_of_lt hg) _).trans hb'⟩
        rw [fixL_take n W j hlt, ← dv_shift, Nat.sub_add_eq]
        exact hr'
      case measure => simp only [intOf]; omega
    · obtain rfl : j = W := by omega
      rw [List.take_of_length_le (by rw [fixL_length]; exact Nat.le_refl _)] at hr
      have hconv := conv_room wr g _ j j (fixL n j) hr (fixL_length n j)
      go_wp2
      go_ret
      exact ⟨rfl, hbw⟩

set_option maxHeartbeats 400000 in
theorem impl_fixed_no (n width : Int) (w : World) (hn : n ≤ 9223372036854775807) (hn' : -9223372036854775808 ≤ n) (h : width < 1 ∨ 7 < width ∨ n < 0 ∨ 0 < dv n width.toNat) :
    Calls Tryd.prog 84 #[.int .i64 n, .int .i64 width] w fun e w' => e = .returned (.string ByteArray.empty) ∧ w = w' := by
  by_cases h1 : 1 ≤ width ∧ width ≤ 7
  · obtain ⟨W, rfl⟩ := Int.eq_ofNat_of_zero_le (show 0 ≤ width by omega)
    obtain ⟨h1, h7⟩ := h1
    by_cases h0 : n < 0
    · clear h
      have hd : decide (n < 0) = true := by simp; omega
      go_enter Tryd.func84, Tryd.ntmps84
      go_wp2_with (go_at_call 95; refine (wok_yes _ _ (by omega) (by omega)).mono ?_; rintro e w' ⟨rfl, rfl⟩)
      go_ret
      exact ⟨rfl, rfl⟩
    · have hz : 0 < dv n W := by
        rcases h with h | h | h | h
        · omega
        · omega
        · omega
        · simpa using h
      have hz2 : (n / 2 ^ (8 * W) != 0) = true := by rw [dv_shift]; simp; omega
      have hd : decide (n < 0) = false := by simp; omega
      clear h hz
      go_enter Tryd.func84, Tryd.ntmps84
      go_wp2_with (go_at_call 95; refine (wok_yes _ _ (by omega) (by omega)).mono ?_; rintro e w' ⟨rfl, rfl⟩)
      go_ret
      exact ⟨rfl, rfl⟩
  · have h2 : width < 1 ∨ 7 < width := by omega
    clear h h1
    go_enter Tryd.func84, Tryd.ntmps84
    go_wp2_with (go_at_call 95; refine (wok_no _ _ h2).mono ?_; rintro e w' ⟨rfl, rfl⟩)
    go_ret
    exact ⟨rfl, rfl⟩
end Go.Proofs.YtmnglcidklckgaaDoor
