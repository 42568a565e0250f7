/- The walks of the program's Unhex, for every string of at most 2^20 bytes. -/
import Derived.Test.YtnaimoppljjcdaaDoorUnhexM
import Derived.Test.YtnaimoppljjcdaaDoorPut
namespace Go.Proofs.YtnaimoppljjcdaaDoor
open Go.RowKit Go.PlainAid
set_option linter.unusedVariables false

theorem run28 (s : ByteArray) (c : Int) (w : World) : (callFunc 48 #[.string s, .int .u8 c]).run Tryd.prog w = .ok (.value (.int .i64 (Lib.indexByte s.data.toList c.toNat.toUInt8))) w := by
  rw [run_callFunc_extern Tryd.func48 (by kernel_rfl) (by kernel_rfl) (by kernel_rfl) (e := Extern.BytealgIndexByte.indexByte) (by kernel_rfl), Lib.run_indexByteString]
  rfl
set_option maxHeartbeats 400000 in
theorem index_hex (c : Int) (w : World) (h0 : 0 ≤ c) (h1 : c ≤ 255) :
    Calls Tryd.prog 28 #[.string { data := #[48, 49, 50, 51, 52, 53, 54, 55, 56, 57, 97, 98, 99, 100, 101, 102] }, .int .u8 c] w fun e w' => e = .returned (.int .i64 (hexv c)) ∧ w = w' := by
  have r := run28 { data := #[48, 49, 50, 51, 52, 53, 54, 55, 56, 57, 97, 98, 99, 100, 101, 102] } c
  rw [indexByte_hexv c h0 h1] at r
  go_enter Tryd.func28, Tryd.ntmps28
  go_wp2
  go_ret
  exact ⟨rfl, rfl⟩


set_option maxHeartbeats 400000 in
theorem impl_unhex_ok (s : ByteArray) (w : World) (hs : s.size ≤ 1048576) (h2 : s.size % 2 = 0) (hv : ∀ j, j < s.size → 0 ≤ hexv (bt s j)) :
    Calls Tryd.prog 15 #[.string s] w fun e w' => e = .returned (.tuple #[.string (strOfNums (unP s (s.size / 2))), .bool true]) ∧ Below w.heap.size w w' := by
  have HV := Lib.hid hv
  clear hv
  have hodd : ((s.size : Int) % 2 != 0) = false := by
    have : (s.size : Int) % 2 = 0 := by omega
    rw [this]; rfl
  have H2 := Lib.hid h2
  have h2' : s.size % 2 < 1 := by omega
  clear h2
  obtain ⟨w1, hmk, hroom, hb1⟩ := make_room w (s.size / 2) (by omega)
  rw [show ((s.size / 2 : Nat) : Int) = (s.size : Int) / 2 by omega] at hmk
  obtain ⟨g, hg⟩ : ∃ g, g = w.heap.size := ⟨_, rfl⟩
  rw [← hg] at hmk hroom hb1 ⊢
  have HG := Lib.hid hg
  clear hg
  go_enter Tryd.func15, Tryd.ntmps15
  go_wp2
  clear hmk
  go_loopw [5, 6] (fun a i wr => ∃ k : Nat, 2 * k ≤ s.size ∧ a = .int .i64 k ∧ i = .int .i64 (2 * (k : Int)) ∧ Room wr g (unP s k) (s.size / 2 - k) ∧ Below g w wr) (fun _ i _ => s.size - (intOf i).toNat)
  case atStart => exact ⟨0, by omega, rfl, rfl, hroom, hb1⟩
  case round =>
    obtain ⟨k, hk, rfl, rfl, hr, hbw⟩ := hrel
    have hglt := hr.lt
    by_cases hlt : 2 * k < s.size
    · have hlt1 : 2 * k + 1 < s.size := by have := H2.out; omega
      have hg0 := get_bt s (2 * k) hlt
      have hg1 := get_bt s (2 * k + 1) hlt1
      have b0 := bt_nonneg s (2 * k)
      have b1 := bt_le s (2 * k)
      have c0 := bt_nonneg s (2 * k + 1)
      have c1 := bt_le s (2 * k + 1)
      have v0 := HV.out (2 * k) hlt
      have v1 := HV.out (2 * k + 1) hlt1
      have r0 := (hexv_range (bt s (2 * k))).2
      have r1 := (hexv_range (bt s (2 * k + 1))).2
      have d0 : decide (hexv (bt s (2 * k)) < 0) = false := by simp; omega
      have d1 : decide (hexv (bt s (2 * k + 1)) < 0) = false := by simp; omega
      have oj : bits .or .i64 (hexv (bt s (2 * k)) * 16) (hexv (bt s (2 * k + 1))) = hexv (bt s (2 * k)) * 16 + hexv (bt s (2 * k + 1)) :=
        i64_or_join 4 _ _ (by omega) (by omega) (by omega) (by omega) (by omega) (by omega)
      go_wp2_with (first | (go_at_call 28; refine (index_hex _ _ (by omega) (by omega)).mono ?_; rintro e w' ⟨rfl, rfl⟩) | (go_at_call 23; refine (put_bytes _ g wr.heap.size (s.size / 2) k 1 (s.size / 2 - k) g (unP s k) [_] (hr.alloc _) (src_one wr _) (unP_length s k) rfl (by omega) (by omega) (by omega) (by omega) (Nat.le_refl _)).mono ?_; rintro e w' ⟨rfl, hr', hb'⟩))
      go_roundw
      case rel =>
        refine ⟨k + 1, by omega, by go_num, by go_num, ?_, (hbw.alloc (Nat.le_of_lt hglt) _).trans hb'⟩
        rw [unP, Int.mul_comm 16, show s.size / 2 - (k + 1) = s.size / 2 - k - 1 by omega]
        exact hr'
      case measure => simp only [intOf]; omega
    · have hk2 : s.size / 2 = k := by omega
      have hconv := conv_room wr g _ (s.size / 2) (s.size / 2) _ hr (by rw [unP_length, hk2])
      have HK := Lib.hid hk2
      clear hk2
      go_wp2
      go_ret2
      exact ⟨by rw [HK.out]; rfl, hbw⟩

set_option maxHeartbeats 400000 in
theorem impl_unhex_bad (s : ByteArray) (w : World) (t : Nat) (hs : s.size ≤ 1048576) (h2 : s.size % 2 = 0) (ht : 2 * t < s.size) (hv : ∀ j, j < 2 * t → 0 ≤ hexv (bt s j)) (hb : hexv (bt s (2 * t)) < 0 ∨ hexv (bt s (2 * t + 1)) < 0) :
    Calls Tryd.prog 15 #[.string s] w fun e w' => e = .returned (.tuple #[.string ByteArray.empty, .bool false]) ∧ Below w.heap.size w w' := by
  have HV := Lib.hid hv
  have HB := Lib.hid hb
  clear hv hb
  have hodd : ((s.size : Int) % 2 != 0) = false := by
    have : (s.size : Int) % 2 = 0 := by omega
    rw [this]; rfl
  have H2 := Lib.hid h2
  have h2' : s.size % 2 < 1 := by omega
  clear h2
  obtain ⟨w1, hmk, hroom, hb1⟩ := make_room w (s.size / 2) (by omega)
  rw [show ((s.size / 2 : Nat) : Int) = (s.size : Int) / 2 by omega] at hmk
  obtain ⟨g, hg⟩ : ∃ g, g = w.heap.size := ⟨_, rfl⟩
  rw [← hg] at hmk hroom hb1 ⊢
  have HG := Lib.hid hg
  clear hg
  go_enter Tryd.func15, Tryd.ntmps15
  go_wp2
  clear hmk
  go_loopw [5, 6] (fun a i wr => ∃ k : Nat, k ≤ t ∧ a = .int .i64 k ∧ i = .int .i64 (2 * (k : Int)) ∧ Room wr g (unP s k) (s.size / 2 - k) ∧ Below g w wr) (fun _ i _ => s.size - (intOf i).toNat)
  case atStart => exact ⟨0, by omega, rfl, rfl, hroom, hb1⟩
  case round =>
    obtain ⟨k, hk, rfl, rfl, hr, hbw⟩ := hrel
    have hglt := hr.lt
    have hlt : 2 * k < s.size := by omega
    have hlt1 : 2 * k + 1 < s.size := by have := H2.out; omega
    have hg0 := get_bt s (2 * k) hlt
    have hg1 := get_bt s (2 * k + 1) hlt1
    have b0 := bt_nonneg s (2 * k)
    have b1 := bt_le s (2 * k)
    have c0 := bt_nonneg s (2 * k + 1)
    have c1 := bt_le s (2 * k + 1)
    have r0 := (hexv_range (bt s (2 * k))).2
    have r1 := (hexv_range (bt s (2 * k + 1))).2
    by_cases hkt : k < t
    · have v0 := HV.out (2 * k) (by omega)
      have v1 := HV.out (2 * k + 1) (by omega)
      have d0 : decide (hexv (bt s (2 * k)) < 0) = false := by simp; omega
      have d1 : decide (hexv (bt s (2 * k + 1)) < 0) = false := by simp; omega
      have oj : bits .or .i64 (hexv (bt s (2 * k)) * 16) (hexv (bt s (2 * k + 1))) = hexv (bt s (2 * k)) * 16 + hexv (bt s (2 * k + 1)) :=
        i64_or_join 4 _ _ (by omega) (by omega) (by omega) (by omega) (by omega) (by omega)
      go_wp2_with (first | (go_at_call 28; refine (index_hex _ _ (by omega) (by omega)).mono ?_; rintro e w' ⟨rfl, rfl⟩) | (go_at_call 23; refine (put_bytes _ g wr.heap.size (s.size / 2) k 1 (s.size / 2 - k) g (unP s k) [_] (hr.alloc _) (src_one wr _) (unP_length s k) rfl (by omega) (by omega) (by omega) (by omega) (Nat.le_refl _)).mono ?_; rintro e w' ⟨rfl, hr', hb'⟩))
      go_roundw
      case rel =>
        refine ⟨k + 1, by omega, by go_num, by go_num, ?_, (hbw.alloc (Nat.le_of_lt hglt) _).trans hb'⟩
        rw [unP, Int.mul_comm 16, show s.size / 2 - (k + 1) = s.size / 2 - k - 1 by omega]
        exact hr'
      case measure => simp only [intOf]; omega
    · obtain rfl : k = t := by omega
      by_cases hn : hexv (bt s (2 * k)) < 0
      · have d0 : decide (hexv (bt s (2 * k)) < 0) = true := by simp; omega
        go_wp2_with (go_at_call 28; refine (index_hex _ _ (by omega) (by omega)).mono ?_; rintro e w' ⟨rfl, rfl⟩)
        go_ret2
        exact ⟨rfl, hbw⟩
      · have d0 : decide (hexv (bt s (2 * k)) < 0) = false := by simp; omega
        have d1 : decide (hexv (bt s (2 * k + 1)) < 0) = true := by rcases HB.out with h | h <;> simp <;> omega
        go_wp2_with (go_at_call 28; refine (index_hex _ _ (by omega) (by omega)).mono ?_; rintro e w' ⟨rfl, rfl⟩)
        go_ret2
        exact ⟨rfl, hbw⟩

set_option maxHeartbeats 400000 in
theorem impl_unhex_odd (s : ByteArray) (w : World) (hs : s.size ≤ 1048576) (h2 : s.size % 2 = 1) :
    Calls Tryd.prog 15 #[.string s] w fun e w' => e = .returned (.tuple #[.string ByteArray.empty, .bool false]) ∧ w = w' := by
  have hodd : ((s.size : Int) % 2 != 0) = true := by
    have : (s.size : Int) % 2 = 1 := by omega
    rw [this]; rfl
  clear h2
  go_enter Tryd.func15, Tryd.ntmps15
  go_wp2
  go_ret2
  exact ⟨rfl, rfl⟩
end Go.Proofs.YtnaimoppljjcdaaDoor
