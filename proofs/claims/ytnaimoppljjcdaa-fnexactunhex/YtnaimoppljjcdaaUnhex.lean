/- The walks of Unhex: what the program and its model answer, for every string of at most 2^20 bytes. -/
import Derived.Test.YtnaimoppljjcdaaHex
import Derived.Lib.Bytealg
namespace Go.Proofs.Ytnaimoppljjcdaa
open Go.RowKit Go.PlainAid
set_option linter.unusedVariables false

/-- What the byte c says as a digit, -1 if it is none. -/
def hexv (c : Int) : Int := if 48 ≤ c ∧ c ≤ 57 then c - 48 else if 97 ≤ c ∧ c ≤ 102 then c - 87 else -1
theorem hexv_range (c : Int) : -1 ≤ hexv c ∧ hexv c ≤ 15 := by unfold hexv; repeat' split <;> omega
theorem hexv_hexd (k : Int) (h0 : 0 ≤ k) (h1 : k ≤ 15) : hexv (hexd k) = k := by
  unfold hexd hexv; repeat' split <;> omega
theorem hexd_hexv (c : Int) (h : 0 ≤ hexv c) : hexd (hexv c) = c := by
  unfold hexv at *
  unfold hexd
  repeat' split at * <;> omega
theorem indexByte_hexv (c : Int) (h0 : 0 ≤ c) (h1 : c ≤ 255) : Lib.indexByte [48, 49, 50, 51, 52, 53, 54, 55, 56, 57, 97, 98, 99, 100, 101, 102] c.toNat.toUInt8 = hexv c := by
  obtain ⟨n, rfl⟩ := Int.eq_ofNat_of_zero_le h0
  have all : ∀ m : Fin 256, Lib.indexByte [48, 49, 50, 51, 52, 53, 54, 55, 56, 57, 97, 98, 99, 100, 101, 102] (UInt8.ofNat m.val) = hexv (m.val : Int) := by decide +kernel
  exact all ⟨n, by omega⟩

theorem run28 (s : ByteArray) (c : Int) (w : World) : (callFunc 28 #[.string s, .int .u8 c]).run Try.prog w = .ok (.value (.int .i64 (Lib.indexByte s.data.toList c.toNat.toUInt8))) w := by
  rw [run_callFunc_extern Try.func28 (by kernel_rfl) (by kernel_rfl) (by kernel_rfl) (e := Extern.BytealgIndexByte.indexByte) (by kernel_rfl), Lib.run_indexByteString]
  rfl
set_option maxHeartbeats 400000 in
theorem index_hex (c : Int) (w : World) (h0 : 0 ≤ c) (h1 : c ≤ 255) :
    Calls Try.prog 26 #[.string { data := #[48, 49, 50, 51, 52, 53, 54, 55, 56, 57, 97, 98, 99, 100, 101, 102] }, .int .u8 c] w fun e w' => e = .returned (.int .i64 (hexv c)) ∧ w = w' := by
  have r := run28 { data := #[48, 49, 50, 51, 52, 53, 54, 55, 56, 57, 97, 98, 99, 100, 101, 102] } c
  rw [indexByte_hexv c h0 h1] at r
  go_enter Try.func26, Try.ntmps26
  go_wp2
  go_ret
  exact ⟨rfl, rfl⟩

set_option maxHeartbeats 400000 in
theorem from_hex (c : Int) (w : World) (h0 : 0 ≤ c) (h1 : c ≤ 255) : Calls Try.prog 25 #[.int .u8 c] w fun e w' => e = .returned (.int .i64 (hexv c)) ∧ w = w' := by
  go_enter Try.func25, Try.ntmps25
  go_wp2
  go_loop [3] (fun i => ∃ k : Nat, k ≤ 16 ∧ i = .int .i64 k ∧ ∀ j : Nat, j < k → hexd j ≠ c) (fun i => (16 - intOf i).toNat)
  case atStart => exact ⟨0, by omega, rfl, fun j hj => by omega⟩
  case round =>
    obtain ⟨k, hk, rfl, hno⟩ := hrel
    have HN := Lib.hid hno
    clear hno
    by_cases hlt : k < 16
    · by_cases he : hexd k = c
      · have hb : (hexd k == c) = true := by simpa using he
        have hv : hexv c = k := by rw [← he, hexv_hexd k (by omega) (by omega)]
        have HV := Lib.hid hv
        clear he hv
        go_wp2_with (go_at_call 24; refine (digit_ok _ _ (by omega) (by omega)).mono ?_; rintro e w' ⟨rfl, rfl⟩)
        go_ret
        exact ⟨by rw [HV.out]; rfl, rfl⟩
      · have hb : (hexd k == c) = false := by simpa using he
        have HE := Lib.hid he
        clear he
        go_wp2_with (go_at_call 24; refine (digit_ok _ _ (by omega) (by omega)).mono ?_; rintro e w' ⟨rfl, rfl⟩)
        go_round
        case rel =>
          refine ⟨k + 1, by omega, by go_num, fun j hj => ?_⟩
          by_cases e : j = k
          · subst e; exact HE.out
          · exact HN.out j (by omega)
        case measure => simp only [intOf]; omega
    · obtain rfl : k = 16 := by omega
      have hv : hexv c = -1 := by
        have r := hexv_range c
        by_cases h : 0 ≤ hexv c
        · exfalso
          have := HN.out (hexv c).toNat (by omega)
          rw [Int.toNat_of_nonneg h] at this
          exact this (hexd_hexv c h)
        · omega
      have HV := Lib.hid hv
      clear hv
      go_wp2
      go_ret
      exact ⟨by rw [HV.out]; rfl, rfl⟩
end Go.Proofs.Ytnaimoppljjcdaa
