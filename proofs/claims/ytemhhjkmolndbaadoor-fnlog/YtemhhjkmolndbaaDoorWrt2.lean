import Derived.WalkKit
import Derived.Test.YtemhhjkmolndbaaDoorRows
import Derived.Test.YtemhhjkmolndbaaDoorEnc2
import Derived.WalkSpells
import Derived.WalkLawsBesides
import Derived.Lib.Hide
import Derived.Lib.LaidTab
import Derived.Laws.RangeAny
import Derived.Test.YtemhhjkmolndbaaDoorPut
import Derived.Test.YtemhhjkmolndbaaDoorBytes
import Derived.Test.YtemhhjkmolndbaaDoorIn
import Derived.Laws.Concat
/- The contract of widthOk. -/
namespace Go.Proofs.YtemhhjkmolndbaaDoor
open Go.RowKit
set_option linter.unusedVariables false

theorem wok_yes (a : Int) (w : World) (h1 : 1 ≤ a) (h2 : a ≤ 7) : Calls Tryd.prog 128 #[.int .i64 a] w fun e w' => e = .returned (.bool true) ∧ w = w' := by
  go_enter Tryd.func128, Tryd.ntmps128
  go_wp2
  go_ret
  exact ⟨rfl, rfl⟩
theorem wok_no (a : Int) (w : World) (h : a < 1 ∨ 7 < a) : Calls Tryd.prog 128 #[.int .i64 a] w fun e w' => e = .returned (.bool false) ∧ w = w' := by
  by_cases h1 : 1 ≤ a
  · have h2 : decide (a ≤ 7) = false := by simp; omega
    clear h
    go_enter Tryd.func128, Tryd.ntmps128
    go_wp2
    go_ret
    exact ⟨rfl, rfl⟩
  · clear h
    go_enter Tryd.func128, Tryd.ntmps128
    go_wp2
    go_ret
    exact ⟨rfl, rfl⟩
end Go.Proofs.YtemhhjkmolndbaaDoor
/- The walks of the program's Crc, for every string, where the table holds what the program's text lays. -/
namespace Go.Proofs.YtemhhjkmolndbaaDoor
open Go.RowKit Go.PlainAid
set_option linter.unusedVariables false

/-- The table that crcBytes reads. -/
def TabC (w : World) : Prop := ∀ l : Nat, l < 16 → w.cell? ⟨2, l, none⟩ = some (.int .u32 (crcTab.getD l 0))

set_option maxHeartbeats 400000 in
theorem crc_bytes (c : Nat) (s : ByteArray) (w : World) (hc : c < 4294967296) (hs : s.size ≤ maxLen) (ht : TabC w) :
    Calls Tryd.prog 129 #[.int .u32 c, .string s] w fun e w' => e = .returned (.int .u32 (crcF c s s.size : Nat)) ∧ w = w' := by
  unfold maxLen at hs
  have HT := Lib.hid ht
  clear ht
  go_enter Tryd.func129, Tryd.ntmps129
  go_wp2
  go_loop [0, 8] (fun a i => ∃ k : Nat, k ≤ s.size ∧ i = .int .i64 k ∧ a = .int .u32 (crcF c s k : Nat)) (fun _ i => s.size - (intOf i).toNat)
  case atStart => exact ⟨0, by omega, rfl, rfl⟩
  case round =>
    obtain ⟨k, hk, rfl, rfl⟩ := hrel
    by_cases hlt : k < s.size
    · have hC := crcF_lt c hc s k
      have hg := get_bt s k hlt
      have b0 := bt_nonneg s k
      have b1 := bt_le s k
      have hX := xor_bt_lt _ hC s k
      have x1 := u32_xor (crcF c s k : Nat) (bt s k) (by omega) (by omega) (by omega) (by omega)
      rw [Int.toNat_natCast] at x1
      have hnext : crcF c s (k + 1) = stepsN (stepsN (crcF c s k ^^^ (bt s k).toNat) 4) 4 := by rw [crcF, stepsN_add]
      generalize crcF c s k ^^^ (bt s k).toNat = X at hX x1 hnext
      have hY := stepsN_lt X 4 hX
      have a1 := u32_and15 X hX
      have c1 := HT.out (X % 16) (by omega)
      rw [tab_at _ (by omega)] at c1
      have y1 := u32_xor_nat (stepsN (X % 16) 4) (X / 16) (stepsN_lt _ _ (by omega)) (by omega)
      rw [nib, show ((X / 16 : Nat) : Int) = (X : Int) / 16 by omega] at y1
      generalize stepsN X 4 = Y at hY y1 hnext
      have a2 := u32_and15 Y hY
      have c2 := HT.out (Y % 16) (by omega)
      rw [tab_at _ (by omega)] at c2
      have y2 := u32_xor_nat (stepsN (Y % 16) 4) (Y / 16) (stepsN_lt _ _ (by omega)) (by omega)
      rw [nib, show ((Y / 16 : Nat) : Int) = (Y : Int) / 16 by omega] at y2
      have HN := Lib.hid hnext
      clear hnext
      go_wp2
      go_round
      case rel => exact ⟨k + 1, by omega, by go_num, by rw [HN.out]⟩
      case measure => simp [intOf]; omega
    · obtain rfl : k = s.size := by omega
      go_wp2
      go_ret
      exact ⟨rfl, rfl⟩

theorem TabC.iter {w : World} (h : TabC w) (s : ByteArray) (p : Nat) : TabC (w.iter s p) := by
  intro l hl
  have := h l hl
  exact cell_later ((Below.refl _ _).alloc (Nat.le_refl _) _) this

theorem width_pos (s : ByteArray) (pos : Nat) (h : pos < s.size) : 1 ≤ (Utf8.decode s pos).2 := by
  by_cases ha : (s[pos]'h).toNat < 128
  · rw [decode_ascii s pos h ha]
    exact Nat.le_refl _
  · exact (decode_high s pos h (by omega)).2

set_option maxHeartbeats 400000 in
theorem impl_crc (s : ByteArray) (w : World) (hs : s.size ≤ maxLen) (ht : TabC w) :
    Calls Tryd.prog 111 #[.string s] w fun e w' => e = .returned (.int .i64 (4294967295 - (crcF 4294967295 s s.size : Nat))) ∧ Below w.heap.size w w' := by
  unfold maxLen at hs
  have HT := Lib.hid ht
  clear ht
  go_enter Tryd.func111, Tryd.ntmps111
  go_wp2
  go_loopw [3, 4] (fun c d wr => ∃ pos k : Nat, k ≤ pos ∧ k ≤ s.size ∧ wr = w.iter s pos ∧ c = .int .u32 (crcF 4294967295 s k : Nat) ∧ d = .int .i64 k) (fun _ _ wr => s.size - wr.iterPos w.heap.size)
  case atStart => exact ⟨0, 0, by omega, by omega, rfl, rfl, rfl⟩
  case round =>
    obtain ⟨pos, k, hkp, hks, rfl, rfl, rfl⟩ := hrel
    have hC := crcF_lt 4294967295 (by decide) s k
    by_cases hp : pos < s.size
    · have hnx : ∀ ty, (Instr.next (.pointer (some ⟨w.heap.size, 0, none⟩)) true ty).run Tryd.prog (w.iter s pos) = _ := fun ty => run_next_any w s pos ty hp
      have hwd := width_pos s pos hp
      go_wp2_with (go_at_call 129; refine (crc_bytes _ _ _ hC ?_ (HT.out.iter _ _)).mono ?_; (· rw [ByteArray.size_extract]; unfold maxLen; omega); rintro e w' ⟨rfl, rfl⟩)
      go_roundw
      case rel =>
        refine ⟨pos + (Utf8.decode s pos).2, pos, by omega, by omega, rfl, ?_, rfl⟩
        rw [crcF_extract 4294967295 s k pos _ (by omega) (by omega)]
        rw [show k + (min pos s.size - k) = pos by omega]
      case measure => simp; omega
    · have hnx : ∀ ty, (Instr.next (.pointer (some ⟨w.heap.size, 0, none⟩)) true ty).run Tryd.prog (w.iter s pos) = _ := fun ty => run_next_end w s pos ty hp
      go_wp2_with (go_at_call 129; refine (crc_bytes _ _ _ hC ?_ (HT.out.iter _ _)).mono ?_; (· rw [ByteArray.size_extract]; unfold maxLen; omega); rintro e w' ⟨rfl, rfl⟩)
      go_ret
      have e : crcF (crcF 4294967295 s k) (s.extract k s.size) (s.size - k) = crcF 4294967295 s s.size := by
        rw [crcF_extract 4294967295 s k s.size _ (by omega) (by omega)]
        rw [show k + (s.size - k) = s.size by omega]
      have hE := crcF_lt 4294967295 (by decide) s s.size
      refine ⟨?_, (Below.refl _ _).alloc (Nat.le_refl _) _⟩
      rw [e]
      show Ending.returned (Value.int .i64 ((4294967295 - ((crcF 4294967295 s s.size : Nat) : Int)) % 4294967296)) = _
      rw [Int.emod_eq_of_lt (by omega) (by omega)]
end Go.Proofs.YtemhhjkmolndbaaDoor
/- The walks of the model's Crc, for every string. -/
namespace Go.Proofs.YtemhhjkmolndbaaDoor
open Go.RowKit Go.PlainAid
set_option linter.unusedVariables false

set_option maxHeartbeats 400000 in
theorem spec_crc (s : ByteArray) (w : World) (hs : s.size ≤ maxLen) :
    Calls Tryd.prog 133 #[.string s] w fun e w' => e = .returned (.int .i64 (4294967295 - (crcF 4294967295 s s.size : Nat))) ∧ w = w' := by
  unfold maxLen at hs
  go_enter Tryd.func133, Tryd.ntmps133
  go_wp2
  go_loop [3, 4] (fun a i => ∃ k : Nat, k ≤ s.size ∧ i = .int .i64 k ∧ a = .int .i64 (crcF 4294967295 s k : Nat)) (fun _ i => s.size - (intOf i).toNat)
  case atStart => exact ⟨0, by omega, rfl, rfl⟩
  case round =>
    obtain ⟨k, hk, rfl, rfl⟩ := hrel
    have hC := crcF_lt 4294967295 (by decide) s k
    by_cases hlt : k < s.size
    · have hg := get_bt s k hlt
      have b0 := bt_nonneg s k
      have b1 := bt_le s k
      have hX := xor_bt_lt _ hC s k
      have x1 := i64_xor (crcF 4294967295 s k : Nat) (bt s k) (by omega) (by omega) (by omega) (by omega)
      rw [Int.toNat_natCast] at x1
      have hnext : crcF 4294967295 s (k + 1) = stepsN (crcF 4294967295 s k ^^^ (bt s k).toNat) 8 := rfl
      generalize crcF 4294967295 s k ^^^ (bt s k).toNat = X at hX x1 hnext
      have HN := Lib.hid hnext
      clear hnext
      go_wp2
      go_loop [3, 5] (fun a j => ∃ m : Nat, m ≤ 8 ∧ j = .int .i64 m ∧ a = .int .i64 (stepsN X m : Nat)) (fun _ j => 8 - (intOf j).toNat)
      case atStart => exact ⟨0, by omega, rfl, rfl⟩
      case round =>
        obtain ⟨m, hm, rfl, rfl⟩ := hrel
        have hM := stepsN_lt X m hX
        by_cases hlm : m < 8
        · have hs1 : stepsN X (m + 1) = stepN (stepsN X m) := rfl
          generalize stepsN X m = M at hM hs1
          have HS := Lib.hid hs1
          clear hs1
          by_cases ho : M % 2 = 1
          · have o1 : (M : Int) % 2 = 1 := by omega
            have x2 : bits .xor .i64 ((M : Int) / 2) 2197175160 = ((M / 2 ^^^ 2197175160 : Nat) : Int) := i64_xor_nat (M / 2) 2197175160 (by omega) (by decide)
            have HO := Lib.hid ho
            clear ho
            go_wp2
            go_round
            case rel =>
              refine ⟨m + 1, by omega, by go_num, ?_⟩
              rw [HS.out, stepN, if_pos HO.out]
            case measure => simp [intOf]; omega
          · have o1 : (M : Int) % 2 = 0 := by omega
            have HO := Lib.hid ho
            clear ho
            go_wp2
            go_round
            case rel =>
              refine ⟨m + 1, by omega, by go_num, ?_⟩
              rw [HS.out, stepN, if_neg HO.out]
              congr 1
            case measure => simp [intOf]; omega
        · obtain rfl : m = 8 := by omega
          go_wp2
          go_round
          case rel => exact ⟨k + 1, by omega, by go_num, by rw [HN.out]⟩
          case measure => simp [intOf]; omega
    · obtain rfl : k = s.size := by omega
      go_wp2
      go_ret
      exact ⟨rfl, rfl⟩
end Go.Proofs.YtemhhjkmolndbaaDoor
/- The walks of the program's Fixed, for every number and width. -/
namespace Go.Proofs.YtemhhjkmolndbaaDoor
open Go.RowKit Go.PlainAid
set_option linter.unusedVariables false
set_option maxRecDepth 100000

set_option maxHeartbeats 400000 in
theorem impl_fixed (n : Int) (W : Nat) (w : World) (h1 : 1 ≤ W) (h7 : W ≤ 7) (h0 : 0 ≤ n) (hn : n ≤ 9223372036854775807) (hz : dv n W = 0) :
    Calls Tryd.prog 110 #[.int .i64 n, .int .i64 W] w fun e w' => e = .returned (.string (strOfNums (fixL n W))) ∧ Below w.heap.size w w' := by
  have hz2 : (n / 2 ^ (8 * W) != 0) = false := by rw [dv_shift, hz]; rfl
  have hd : decide (n < 0) = false := by simp; omega
  clear hz
  obtain ⟨w1, hmk, hroom, hb1⟩ := make_room w W (by omega)
  obtain ⟨g, hg⟩ : ∃ g, g = w.heap.size := ⟨_, rfl⟩
  rw [← hg] at hmk hroom hb1 ⊢
  have HG := Lib.hid hg
  clear hg
  go_enter Tryd.func110, Tryd.ntmps110
  go_wp2_with (go_at_call 128; refine (wok_yes _ _ (by omega) (by omega)).mono ?_; rintro e w' ⟨rfl, rfl⟩)
  clear hmk
  go_loopw [6, 7] (fun a s wr => ∃ j : Nat, j ≤ W ∧ a = .int .i64 j ∧ s = .int .i64 (8 * ((W : Int) - 1 - j)) ∧ Room wr g ((fixL n W).take j) (W - j) ∧ Below g w wr) (fun _ s _ => (intOf s + 8).toNat)
  case atStart => exact ⟨0, by omega, rfl, by go_num, hroom, hb1⟩
  case round =>
    obtain ⟨j, hj, rfl, rfl, hr, hbw⟩ := hrel
    have hg := hr.lt
    by_cases hlt : j < W
    · have hlen : ((fixL n W).take j).length = j := by rw [List.length_take, fixL_length]; omega
      have HL := Lib.hid hlen
      clear hlen
      go_wp2_with (go_at_call 121; refine (put_bytes _ g wr.heap.size W j 1 (W - j) g ((fixL n W).take j) [_] (hr.alloc _) (src_one wr _) HL.out rfl (by omega) (by omega) (by omega) (by omega) (Nat.le_refl _)).mono ?_; rintro e w' ⟨rfl, hr', hb'⟩)
      go_roundw
      case rel =>
        refine ⟨j + 1, by omega, by go_num, by go_num, ?_, (hbw.alloc (Nat.le_of_lt hg) _).trans hb'⟩
        rw [fixL_take n W j hlt, ← dv_shift, Nat.sub_add_eq]
        exact hr'
      case measure => simp only [intOf]; omega
    · obtain rfl : j = W := by omega
      rw [List.take_of_length_le (by rw [fixL_length]; exact Nat.le_refl _)] at hr
      have hconv := conv_room wr g _ j j (fixL n j) hr (fixL_length n j)
      go_wp2
      go_ret
      exact ⟨rfl, hbw⟩

set_option maxHeartbeats 400000 in
theorem impl_fixed_no (n width : Int) (w : World) (hn : n ≤ 9223372036854775807) (hn' : -9223372036854775808 ≤ n) (h : width < 1 ∨ 7 < width ∨ n < 0 ∨ 0 < dv n width.toNat) :
    Calls Tryd.prog 110 #[.int .i64 n, .int .i64 width] w fun e w' => e = .returned (.string ByteArray.empty) ∧ w = w' := by
  by_cases h1 : 1 ≤ width ∧ width ≤ 7
  · obtain ⟨W, rfl⟩ := Int.eq_ofNat_of_zero_le (show 0 ≤ width by omega)
    obtain ⟨h1, h7⟩ := h1
    by_cases h0 : n < 0
    · clear h
      have hd : decide (n < 0) = true := by simp; omega
      go_enter Tryd.func110, Tryd.ntmps110
      go_wp2_with (go_at_call 128; refine (wok_yes _ _ (by omega) (by omega)).mono ?_; rintro e w' ⟨rfl, rfl⟩)
      go_ret
      exact ⟨rfl, rfl⟩
    · have hz : 0 < dv n W := by
        rcases h with h | h | h | h
        · omega
        · omega
        · omega
        · simpa using h
      have hz2 : (n / 2 ^ (8 * W) != 0) = true := by rw [dv_shift]; simp; omega
      have hd : decide (n < 0) = false := by simp; omega
      clear h hz
      go_enter Tryd.func110, Tryd.ntmps110
      go_wp2_with (go_at_call 128; refine (wok_yes _ _ (by omega) (by omega)).mono ?_; rintro e w' ⟨rfl, rfl⟩)
      go_ret
      exact ⟨rfl, rfl⟩
  · have h2 : width < 1 ∨ 7 < width := by omega
    clear h h1
    go_enter Tryd.func110, Tryd.ntmps110
    go_wp2_with (go_at_call 128; refine (wok_no _ _ h2).mono ?_; rintro e w' ⟨rfl, rfl⟩)
    go_ret
    exact ⟨rfl, rfl⟩
end Go.Proofs.YtemhhjkmolndbaaDoor
/- The walks of the model's Fixed, for every number and width. -/
namespace Go.Proofs.YtemhhjkmolndbaaDoor
open Go.RowKit Go.PlainAid
set_option linter.unusedVariables false


theorem strOf_cons (b : Int) (l : List Int) : strOfNums [b] ++ strOfNums l = strOfNums (b :: l) := by
  apply ByteArray.ext
  simp [strOfNums, ByteArray.data_append]

set_option maxHeartbeats 400000 in
theorem spec_fixed (n width : Int) (w : World) (h1 : 1 ≤ width) (h7 : width ≤ 7) (h0 : 0 ≤ n) (hn : n ≤ 9223372036854775807) (hz : dv n width.toNat = 0) :
    Calls Tryd.prog 132 #[.int .i64 n, .int .i64 width] w fun e w' => e = .returned (.string (strOfNums (fixL n width.toNat))) ∧ Below w.heap.size w w' := by
  have HZ := Lib.hid hz
  clear hz
  have hconv := conv_one
  go_enter Tryd.func132, Tryd.ntmps132
  go_wp2_with (go_at_call 45; refine (in_yes _ _ _ _ h1 h7).mono ?_; rintro e w' ⟨rfl, rfl⟩)
  go_loopw [0, 5, 6] (fun a o i wr => ∃ k : Nat, (k : Int) ≤ width ∧ i = .int .i64 k ∧ a = .int .i64 (dv n k) ∧ o = .string (strOfNums (fixL n k)) ∧ Below w.heap.size w wr) (fun _ _ i _ => (width - intOf i).toNat)
  case atStart => exact ⟨0, by omega, rfl, rfl, rfl, Below.refl _ _⟩
  case round =>
    obtain ⟨k, hk, rfl, rfl, rfl, hbw⟩ := hrel
    have d0 := dv_nonneg n h0 k
    have d1 := dv_le n h0 k
    by_cases hlt : (k : Int) < width
    · have hsz : (strOfNums [dv n k % 256]).size + (strOfNums (fixL n k)).size ≤ 9223372036854775807 := by simp only [strOfNums_size, fixL_length, List.length_singleton]; omega
      go_wp2
      go_roundw
      case rel => exact ⟨k + 1, by omega, by go_num, rfl, by rw [strOf_cons, fixL], hbw.alloc hbw.size _⟩
      case measure => simp [intOf]; omega
    · obtain rfl : (k : Int) = width := by omega
      have hz : dv n k = 0 := by simpa using HZ.out
      have hz' : dv n k ≤ 0 := by omega
      clear hz
      go_wp2
      go_ret
      exact ⟨by simp, hbw⟩

set_option maxHeartbeats 400000 in
theorem spec_fixed_big (n width : Int) (w : World) (h1 : 1 ≤ width) (h7 : width ≤ 7) (h0 : 0 ≤ n) (hn : n ≤ 9223372036854775807) (hz : 0 < dv n width.toNat) :
    Calls Tryd.prog 132 #[.int .i64 n, .int .i64 width] w fun e w' => e = .returned (.string ByteArray.empty) ∧ Below w.heap.size w w' := by
  have HZ := Lib.hid hz
  clear hz
  have hconv := conv_one
  go_enter Tryd.func132, Tryd.ntmps132
  go_wp2_with (go_at_call 45; refine (in_yes _ _ _ _ h1 h7).mono ?_; rintro e w' ⟨rfl, rfl⟩)
  go_loopw [0, 5, 6] (fun a o i wr => ∃ k : Nat, (k : Int) ≤ width ∧ i = .int .i64 k ∧ a = .int .i64 (dv n k) ∧ o = .string (strOfNums (fixL n k)) ∧ Below w.heap.size w wr) (fun _ _ i _ => (width - intOf i).toNat)
  case atStart => exact ⟨0, by omega, rfl, rfl, rfl, Below.refl _ _⟩
  case round =>
    obtain ⟨k, hk, rfl, rfl, rfl, hbw⟩ := hrel
    have d0 := dv_nonneg n h0 k
    have d1 := dv_le n h0 k
    by_cases hlt : (k : Int) < width
    · have hsz : (strOfNums [dv n k % 256]).size + (strOfNums (fixL n k)).size ≤ 9223372036854775807 := by simp only [strOfNums_size, fixL_length, List.length_singleton]; omega
      go_wp2
      go_roundw
      case rel => exact ⟨k + 1, by omega, by go_num, rfl, by rw [strOf_cons, fixL], hbw.alloc hbw.size _⟩
      case measure => simp [intOf]; omega
    · obtain rfl : (k : Int) = width := by omega
      have hz : 0 < dv n k := by simpa using HZ.out
      go_wp2
      go_ret
      exact ⟨rfl, hbw⟩

set_option maxHeartbeats 400000 in
theorem spec_fixed_no (n width : Int) (w : World) (h : width < 1 ∨ 7 < width ∨ n < 0) :
    Calls Tryd.prog 132 #[.int .i64 n, .int .i64 width] w fun e w' => e = .returned (.string ByteArray.empty) ∧ w = w' := by
  by_cases h1 : 1 ≤ width ∧ width ≤ 7
  · have h0 : n < 0 := by omega
    obtain ⟨h1, h7⟩ := h1
    clear h
    go_enter Tryd.func132, Tryd.ntmps132
    go_wp2_with (go_at_call 45; refine (in_yes _ _ _ _ h1 h7).mono ?_; rintro e w' ⟨rfl, rfl⟩)
    go_ret
    exact ⟨rfl, rfl⟩
  · have h2 : width < 1 ∨ 7 < width := by omega
    clear h h1
    go_enter Tryd.func132, Tryd.ntmps132
    go_wp2_with (go_at_call 45; refine (in_no _ _ _ _ h2).mono ?_; rintro e w' ⟨rfl, rfl⟩)
    go_ret
    exact ⟨rfl, rfl⟩
end Go.Proofs.YtemhhjkmolndbaaDoor
/- The walks of the program's Var, for every number. -/
namespace Go.Proofs.YtemhhjkmolndbaaDoor
open Go.RowKit Go.PlainAid
set_option linter.unusedVariables false

set_option maxHeartbeats 400000 in
theorem impl_var_no (n : Int) (w : World) (h : n < 0 ∨ 562949953421311 < n) :
    Calls Tryd.prog 127 #[.int .i64 n] w fun e w' => e = .returned (.string ByteArray.empty) ∧ w = w' := by
  by_cases h0 : n < 0
  · have hd : decide (n < 0) = true := by simpa using h0
    clear h
    go_enter Tryd.func127, Tryd.ntmps127
    go_wp2
    go_ret
    exact ⟨rfl, rfl⟩
  · have hd : decide (n < 0) = false := by simpa using h0
    have hb : decide (562949953421311 < n) = true := by simp; omega
    clear h
    go_enter Tryd.func127, Tryd.ntmps127
    go_wp2
    go_ret
    exact ⟨rfl, rfl⟩

set_option maxHeartbeats 400000 in
theorem impl_var (n : Int) (k : Nat) (w : World) (h0 : 0 ≤ n) (hm : n ≤ 562949953421311) (hk : k ≤ 6) (hv : VK n k) :
    Calls Tryd.prog 127 #[.int .i64 n] w fun e w' => e = .returned (.string (strOfNums (varL n k))) ∧ Below w.heap.size w w' := by
  have hd : decide (n < 0) = false := by simp; omega
  have hb : decide (562949953421311 < n) = false := by simp; omega
  obtain ⟨w1, hmk, hroom, hb1⟩ := make_room w 7 (by omega)
  obtain ⟨g, hg⟩ : ∃ g, g = w.heap.size := ⟨_, rfl⟩
  rw [← hg] at hmk hroom hb1 ⊢
  have HG := Lib.hid hg
  clear hg
  have hmk' : (Instr.makeSlice 22 (.int .i64 7) (.int .i64 7)).run Tryd.prog w = .ok (.slice (some ⟨g, 0, none⟩) 7 7) w1 := hmk
  clear hmk
  go_enter Tryd.func127, Tryd.ntmps127
  go_wp2
  clear hmk'
  go_loopw [0, 4] (fun a c wr => ∃ j : Nat, j ≤ k ∧ a = .int .i64 (vd n j) ∧ c = .int .i64 j ∧ Room wr g (vpre n j) (7 - j) ∧ Below g w wr) (fun a _ _ => (intOf a).toNat)
  case atStart => exact ⟨0, by omega, rfl, rfl, hroom, hb1⟩
  case round =>
    obtain ⟨j, hj, rfl, rfl, hr, hbw⟩ := hrel
    have hg := hr.lt
    have d0 := vd_nonneg n h0 j
    have d1 := vd_le n h0 j
    by_cases hlt : j < k
    · have hge : 128 ≤ vd n j := hv.1 j hlt
      go_wp2_with (go_at_call 121; refine (put_bytes _ g wr.heap.size 7 j 1 (7 - j) g (vpre n j) [_] (hr.alloc _) (src_one wr _) (vpre_length n j) rfl (by omega) (by omega) (by omega) (by omega) (Nat.le_refl _)).mono ?_; rintro e w' ⟨rfl, hr', hb'⟩)
      go_roundw
      case rel =>
        refine ⟨j + 1, by omega, rfl, by go_num, ?_, (hbw.alloc (Nat.le_of_lt hg) _).trans hb'⟩
        rw [vpre, Int.add_comm 128, Nat.sub_add_eq]
        exact hr'
      case measure => simp only [intOf]; omega
    · obtain rfl : j = k := by omega
      have hge : vd n j < 128 := hv.2
      go_wp2_with (go_at_call 121; refine (put_bytes _ g wr.heap.size 7 j 1 (7 - j) g (vpre n j) [_] (hr.alloc _) (src_one wr _) (vpre_length n j) rfl (by omega) (by omega) (by omega) (by omega) (Nat.le_refl _)).mono ?_; rintro e w' ⟨rfl, hr', hb'⟩; have hconv := fun c => conv_room w' g _ (j + 1) c _ hr' (by simp [vpre_length]))
      go_ret
      exact ⟨rfl, (hbw.alloc (Nat.le_of_lt hg) _).trans hb'⟩
end Go.Proofs.YtemhhjkmolndbaaDoor
/- The walks of the model's Var, for every number. -/
namespace Go.Proofs.YtemhhjkmolndbaaDoor
open Go.RowKit Go.PlainAid
set_option linter.unusedVariables false


set_option maxHeartbeats 400000 in
theorem spec_var (n : Int) (k : Nat) (w : World) (h0 : 0 ≤ n) (hm : n ≤ 562949953421311) (hk : k ≤ 6) (hv : VK n k) :
    Calls Tryd.prog 140 #[.int .i64 n] w fun e w' => e = .returned (.string (strOfNums (varL n k))) ∧ Below w.heap.size w w' := by
  go_enter Tryd.func140, Tryd.ntmps140
  go_wp2_with (go_at_call 45; refine (in_yes _ _ _ _ h0 hm).mono ?_; rintro e w' ⟨rfl, rfl⟩)
  go_loopw [0, 3] (fun a v wr => ∃ j : Nat, j ≤ k ∧ a = .int .i64 (vd n j) ∧ Grows wr w.heap.size v (vpre n j) ∧ Below w.heap.size w wr) (fun a _ _ => (intOf a).toNat)
  case atStart => exact ⟨0, by omega, rfl, grows_empty w, (Below.refl _ _).alloc (Nat.le_refl _) _⟩
  case round =>
    obtain ⟨j, hj, rfl, hgr, hbw⟩ := hrel
    have d0 := vd_nonneg n h0 j
    have d1 := vd_le n h0 j
    have hl : (vpre n j).length ≤ 6 := by rw [vpre_length]; omega
    by_cases hlt : j < k
    · have hge : 128 ≤ vd n j := hv.1 j hlt
      go_wp2_with (at_builtin; refine wp_append_bytes rfl (.tmp 10) (.tmp 15) rfl w.heap.size _ (vpre n j) [_] rfl (hgr.alloc _) wr.heap.size 1 1 rfl rfl (src_one wr _) (by omega) (by have := hbw.size; simp; omega) ?_; intro v' w' hgr' hb')
      go_roundw
      case rel => exact ⟨j + 1, by omega, rfl, hgr', (hbw.alloc hbw.size _).trans hb'⟩
      case measure => simp only [intOf]; omega
    · obtain rfl : j = k := by omega
      have hge : vd n j < 128 := hv.2
      go_wp2_with (at_builtin; refine wp_append_bytes rfl (.tmp 19) (.tmp 22) rfl w.heap.size _ (vpre n j) [_] rfl (hgr.alloc _) wr.heap.size 1 1 rfl rfl (src_one wr _) (by omega) (by have := hbw.size; simp; omega) ?_; intro v' w' hgr' hb'; have hconv := conv_grows w' w.heap.size v' _ hgr')
      go_ret
      exact ⟨rfl, (hbw.alloc hbw.size _).trans hb'⟩

set_option maxHeartbeats 400000 in
theorem spec_var_no (n : Int) (w : World) (h : n < 0 ∨ 562949953421311 < n) :
    Calls Tryd.prog 140 #[.int .i64 n] w fun e w' => e = .returned (.string ByteArray.empty) ∧ w = w' := by
  go_enter Tryd.func140, Tryd.ntmps140
  go_wp2_with (go_at_call 45; refine (in_no _ _ _ _ h).mono ?_; rintro e w' ⟨rfl, rfl⟩)
  go_ret
  exact ⟨rfl, rfl⟩
end Go.Proofs.YtemhhjkmolndbaaDoor
/- Var and showText, by one contract each. -/
namespace Go.Proofs.YtemhhjkmolndbaaDoor
open Go.RowKit Go.PlainAid
set_option linter.unusedVariables false

theorem impl_varS (n : Int) (w : World) (h0 : 0 ≤ n) (hm : n ≤ 562949953421311) : Calls Tryd.prog 127 #[.int .i64 n] w fun e w' => e = .returned (.string (varS n)) ∧ Below w.heap.size w w' := by
  unfold varS
  exact impl_var n _ w h0 hm (vkF_le 6 n) (varS_vk n hm)
set_option maxHeartbeats 400000 in
theorem show_text (s : ByteArray) (w : World) (hs : s.size ≤ 1048576) : Calls Tryd.prog 109 #[.string s] w fun e w' => e = .returned (.string (showT s)) ∧ Below w.heap.size w w' := by
  have h7 := varS_size s.size
  have a1 := fun W => run_string_add_sum (P := Tryd.prog) (w := W) (varS s.size) s (by omega)
  have HT := Lib.hid (show varS s.size ++ s = showT s by unfold showT; rfl)
  go_enter Tryd.func109, Tryd.ntmps109
  go_wp2_with (go_at_call 127; refine (impl_varS _ _ (by omega) (by omega)).mono ?_; rintro e w' ⟨rfl, hb⟩)
  go_ret
  exact ⟨by rw [← HT.out]; rfl, hb⟩
end Go.Proofs.YtemhhjkmolndbaaDoor
/- The model's Var and l4Piece, by one contract each. -/
namespace Go.Proofs.YtemhhjkmolndbaaDoor
open Go.RowKit Go.PlainAid
set_option linter.unusedVariables false

theorem spec_varS (n : Int) (w : World) (h0 : 0 ≤ n) (hm : n ≤ 562949953421311) : Calls Tryd.prog 140 #[.int .i64 n] w fun e w' => e = .returned (.string (varS n)) ∧ Below w.heap.size w w' := by
  unfold varS
  exact spec_var n _ w h0 hm (vkF_le 6 n) (varS_vk n hm)
set_option maxHeartbeats 400000 in
theorem show_piece (s : ByteArray) (w : World) (hs : s.size ≤ 1048576) : Calls Tryd.prog 131 #[.string s] w fun e w' => e = .returned (.string (showT s)) ∧ Below w.heap.size w w' := by
  have h7 := varS_size s.size
  have a1 := fun W => run_string_add_sum (P := Tryd.prog) (w := W) (varS s.size) s (by omega)
  have HT := Lib.hid (show varS s.size ++ s = showT s by unfold showT; rfl)
  go_enter Tryd.func131, Tryd.ntmps131
  go_wp2_with (go_at_call 140; refine (spec_varS _ _ (by omega) (by omega)).mono ?_; rintro e w' ⟨rfl, hb⟩)
  go_ret
  exact ⟨by rw [← HT.out]; rfl, hb⟩
end Go.Proofs.YtemhhjkmolndbaaDoor
/- Frame and its model, by one contract each. -/
namespace Go.Proofs.YtemhhjkmolndbaaDoor
open Go.RowKit Go.PlainAid
set_option linter.unusedVariables false

theorem TabC.later {w w' : World} {B : Nat} (h : TabC w) (hb : Below B w w') (hB : w.heap.size ≤ B) : TabC w' := by
  intro l hl
  have hc := h l hl
  have := cell_lt hc
  rw [hb.cell (p := ⟨2, l, none⟩) (Nat.lt_of_lt_of_le this hB)]
  exact hc
theorem TabC.lt {w : World} (h : TabC w) : 2 < w.heap.size := cell_lt (h 0 (by decide))
theorem TabC.below {w w' : World} {B : Nat} (h : TabC w) (hb : Below B w w') (hB : 2 < B) : TabC w' := by
  intro l hl
  rw [hb.cell (p := ⟨2, l, none⟩) hB]
  exact h l hl
theorem impl_crcV (s : ByteArray) (w : World) (hs : s.size ≤ 1048600) (ht : TabC w) :
    Calls Tryd.prog 111 #[.string s] w fun e w' => e = .returned (.int .i64 (crcV s)) ∧ Below w.heap.size w w' := by
  rw [← crcV_eq]
  exact impl_crc s w (by unfold maxLen; omega) ht
theorem spec_crcV (s : ByteArray) (w : World) (hs : s.size ≤ 1048600) :
    Calls Tryd.prog 133 #[.string s] w fun e w' => e = .returned (.int .i64 (crcV s)) ∧ w = w' := by
  rw [← crcV_eq]
  exact spec_crc s w (by unfold maxLen; omega)
theorem impl_fix4 (n : Int) (w : World) (h0 : 0 ≤ n) (h1 : n ≤ 4294967295) :
    Calls Tryd.prog 110 #[.int .i64 n, .int .i64 4] w fun e w' => e = .returned (.string (fix4 n)) ∧ Below w.heap.size w w' := by
  rw [← fix4_eq]
  exact impl_fixed n 4 w (by decide) (by decide) h0 (by omega) (dv4 n h0 h1)
theorem spec_fix4 (n : Int) (w : World) (h0 : 0 ≤ n) (h1 : n ≤ 4294967295) :
    Calls Tryd.prog 132 #[.int .i64 n, .int .i64 4] w fun e w' => e = .returned (.string (fix4 n)) ∧ Below w.heap.size w w' := by
  rw [← fix4_eq]
  exact spec_fixed n 4 w (by decide) (by decide) h0 (by omega) (dv4 n h0 h1)

set_option maxHeartbeats 400000 in
theorem impl_frame (s : ByteArray) (w : World) (hs : s.size ≤ 1048576) (ht : TabC w) :
    Calls Tryd.prog 79 #[.string s] w fun e w' => e = .returned (.string (frameS s)) ∧ Below w.heap.size w w' := by
  by_cases hb : (200 : Int) < s.size
  · rw [frameS_big s (by omega)]
    go_enter Tryd.func79, Tryd.ntmps79
    go_wp2
    go_ret
    exact ⟨rfl, Below.refl _ _⟩
  · have hF := frameS_ok s (by omega)
    have h7 := showT_size s
    have h8 := fix4_size (crcV (showT s))
    have c0 := crcV_nonneg (showT s)
    have c1 := crcV_le (showT s)
    have a1 := fun W => run_string_add_sum (P := Tryd.prog) (w := W) (fix4 (crcV (showT s))) (showT s) (by omega)
    rw [hF]
    have HT := Lib.hid ht
    clear ht hF
    go_enter Tryd.func79, Tryd.ntmps79
    go_wp2_with (first
      | (go_at_call 109; refine (show_text s _ hs).mono ?_; rintro e w1 ⟨rfl, hb1⟩; have HT1 := Lib.hid (HT.out.later hb1 (Nat.le_refl _)))
      | (go_at_call 111; refine (impl_crcV (showT s) _ (by omega) HT1.out).mono ?_; rintro e w2 ⟨rfl, hb2⟩)
      | (go_at_call 110; refine (impl_fix4 (crcV (showT s)) _ c0 c1).mono ?_; rintro e w3 ⟨rfl, hb3⟩))
    go_ret
    exact ⟨rfl, hb1.trans ((hb2.trans (hb3.mono hb2.size)).mono hb1.size)⟩
set_option maxHeartbeats 400000 in
theorem spec_frame (s : ByteArray) (w : World) (hs : s.size ≤ 1048576) :
    Calls Tryd.prog 113 #[.string s] w fun e w' => e = .returned (.string (frameS s)) ∧ Below w.heap.size w w' := by
  by_cases hb : (200 : Int) < s.size
  · rw [frameS_big s (by omega)]
    go_enter Tryd.func113, Tryd.ntmps113
    go_wp2
    go_ret
    exact ⟨rfl, Below.refl _ _⟩
  · have hF := frameS_ok s (by omega)
    have h7 := showT_size s
    have h8 := fix4_size (crcV (showT s))
    have c0 := crcV_nonneg (showT s)
    have c1 := crcV_le (showT s)
    have a1 := fun W => run_string_add_sum (P := Tryd.prog) (w := W) (fix4 (crcV (showT s))) (showT s) (by omega)
    rw [hF]
    clear hF
    go_enter Tryd.func113, Tryd.ntmps113
    go_wp2_with (first
      | (go_at_call 131; refine (show_piece s _ hs).mono ?_; rintro e w1 ⟨rfl, hb1⟩)
      | (go_at_call 133; refine (spec_crcV (showT s) _ (by omega)).mono ?_; rintro e w2 ⟨rfl, rfl⟩)
      | (go_at_call 132; refine (spec_fix4 (crcV (showT s)) _ c0 c1).mono ?_; rintro e w3 ⟨rfl, hb3⟩))
    go_ret
    exact ⟨rfl, hb1.trans (hb3.mono hb1.size)⟩
end Go.Proofs.YtemhhjkmolndbaaDoor
