/- The walks of the model's Crc, for every string. -/
import Derived.Test.YtmnglcidklckgaaDoorCrcM
import Derived.Test.YtmnglcidklckgaaDoorRows
import Derived.WalkKit
import Derived.WalkSpells
import Derived.WalkLawsBesides
import Derived.Lib.Hide
namespace Go.Proofs.YtmnglcidklckgaaDoor
open Go.RowKit Go.PlainAid
set_option linter.unusedVariables false

set_option maxHeartbeats 400000 in
theorem spec_crc (s : ByteArray) (w : World) (hs : s.size ≤ maxLen) :
    Calls Tryd.prog 75 #[.string s] w fun e w' => e = .returned (.int .i64 (4294967295 - (crcF 4294967295 s s.size : Nat))) ∧ w = w' := by
  unfold maxLen at hs
  go_enter Tryd.func75, Tryd.ntmps75
  go_wp2
  go_loop [3, 4] (fun a i => ∃ k : Nat, k ≤ s.size ∧ i = .int .i64 k ∧ a = .int .i64 (crcF 4294967295 s k : Nat)) (fun _ i => s.size - (intOf i).toNat)
  case atStart => exact ⟨0, by omega, rfl, rfl⟩
  case round =>
    obtain ⟨k, hk, rfl, rfl⟩ := hrel
    have hC := crcF_lt 4294967295 (by decide) s k
    by_cases hlt : k < s.size
    · have hg := get_bt s k hlt
      have b0 := bt_nonneg s k
      have b1 := bt_le s k
      have hX := xor_bt_lt _ hC s k
      have x1 := i64_xor (crcF 4294967295 s k : Nat) (bt s k) (by omega) (by omega) (by omega) (by omega)
      rw [Int.toNat_natCast] at x1
      have hnext : crcF 4294967295 s (k + 1) = stepsN (crcF 4294967295 s k ^^^ (bt s k).toNat) 8 := rfl
      generalize crcF 4294967295 s k ^^^ (bt s k).toNat = X at hX x1 hnext
      have HN := Lib.hid hnext
      clear hnext
      go_wp2
      go_loop [3, 5] (fun a j => ∃ m : Nat, m ≤ 8 ∧ j = .int .i64 m ∧ a = .int .i64 (stepsN X m : Nat)) (fun _ j => 8 - (intOf j).toNat)
      case atStart => exact ⟨0, by omega, rfl, rfl⟩
      case round =>
        obtain ⟨m, hm, rfl, rfl⟩ := hrel
        have hM := stepsN_lt X m hX
        by_cases hlm : m < 8
        · have hs1 : stepsN X (m + 1) = stepN (stepsN X m) := rfl
          generalize stepsN X m = M at hM hs1
          have HS := Lib.hid hs1
          clear hs1
          by_cases ho : M % 2 = 1
          · have o1 : (M : Int) % 2 = 1 := by omega
            have x2 : bits .xor .i64 ((M : Int) / 2) 2197175160 = ((M / 2 ^^^ 2197175160 : Nat) : Int) := i64_xor_nat (M / 2) 2197175160 (by omega) (by decide)
            have HO := Lib.hid ho
            clear ho
            go_wp2
            go_round
            case rel =>
              refine ⟨m + 1, by omega, by go_num, ?_⟩
              rw [HS.out, stepN, if_pos HO.out]
            case measure => simp [intOf]; omega
          · have o1 : (M : Int) % 2 = 0 := by omega
            have HO := Lib.hid ho
            clear ho
            go_wp2
            go_round
            case rel =>
              refine ⟨m + 1, by omega, by go_num, ?_⟩
              rw [HS.out, stepN, if_neg HO.out]
              congr 1
            case measure => simp [intOf]; omega
        · obtain rfl : m = 8 := by omega
          go_wp2
          go_round
          case rel => exact ⟨k + 1, by omega, by go_num, by rw [HN.out]⟩
          case measure => simp [intOf]; omega
    · obtain rfl : k = s.size := by omega
      go_wp2
      go_ret
      exact ⟨rfl, rfl⟩
end Go.Proofs.YtmnglcidklckgaaDoor
