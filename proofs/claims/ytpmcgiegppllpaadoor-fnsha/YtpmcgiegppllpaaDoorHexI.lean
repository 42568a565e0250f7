/- The walks of the program's Hex, for every string of at most 2^20 bytes. -/
import Derived.Test.YtpmcgiegppllpaaDoorHexM
import Derived.Test.YtpmcgiegppllpaaDoorPut
import Derived.Deep.RegionLaw
namespace Go.Proofs.YtpmcgiegppllpaaDoor
open Go.RowKit Go.PlainAid
set_option linter.unusedVariables false

theorem index_digit (x : Int) (h0 : 0 ≤ x) (h1 : x ≤ 15) (w : World) :
    (Instr.index 9 (.string { data := #[48, 49, 50, 51, 52, 53, 54, 55, 56, 57, 97, 98, 99, 100, 101, 102] }) (.int .u8 x)).run Tryd.prog w = .ok (.int .u8 (hexd x)) w := by
  have hk : x = 0 ∨ x = 1 ∨ x = 2 ∨ x = 3 ∨ x = 4 ∨ x = 5 ∨ x = 6 ∨ x = 7 ∨ x = 8 ∨ x = 9 ∨ x = 10 ∨ x = 11 ∨ x = 12 ∨ x = 13 ∨ x = 14 ∨ x = 15 := by omega
  clear h0 h1
  rcases hk with rfl | rfl | rfl | rfl | rfl | rfl | rfl | rfl | rfl | rfl | rfl | rfl | rfl | rfl | rfl | rfl
  all_goals (go_simp; rfl)

theorem and15 (b : Int) (h0 : 0 ≤ b) (h1 : b ≤ 255) : bits .and .u8 b 15 = b % 16 := by
  rw [u8_and b 15 h0 (by omega) (by decide) (by decide), show (15 : Int).toNat = 15 from rfl, nat_mask4]
  omega

set_option maxHeartbeats 400000 in
theorem impl_hex (s : ByteArray) (w : World) (hs : s.size ≤ 1048576) :
    Calls Tryd.prog 11 #[.string s] w fun e w' => e = .returned (.string (strOfNums (hexP s s.size))) ∧ Below w.heap.size w w' := by
  obtain ⟨w1, hmk, hroom, hb1⟩ := make_room w (2 * s.size) (by omega)
  rw [show ((2 * s.size : Nat) : Int) = 2 * (s.size : Int) by omega] at hmk
  obtain ⟨g, hg⟩ : ∃ g, g = w.heap.size := ⟨_, rfl⟩
  rw [← hg] at hmk hroom hb1 ⊢
  have HG := Lib.hid hg
  clear hg
  go_enter Tryd.func11, Tryd.ntmps11
  go_wp2
  clear hmk
  go_loopw [4, 12] (fun a i wr => ∃ k : Nat, k ≤ s.size ∧ a = .int .i64 (2 * (k : Int)) ∧ i = .int .i64 k ∧ Room wr g (hexP s k) (2 * s.size - 2 * k) ∧ Below g w wr) (fun _ i _ => s.size - (intOf i).toNat)
  case atStart => exact ⟨0, by omega, rfl, rfl, hroom, hb1⟩
  case round =>
    obtain ⟨k, hk, rfl, rfl, hr, hbw⟩ := hrel
    have hglt := hr.lt
    by_cases hlt : k < s.size
    · have hg := get_bt s k hlt
      have b0 := bt_nonneg s k
      have b1 := bt_le s k
      have i1 := index_digit (bt s k / 16) (by omega) (by omega)
      have i2 := index_digit (bt s k % 16) (by omega) (by omega)
      have e1 := and15 (bt s k) b0 b1
      go_wp2_with fail
      go_region_with ((go_at_call 18; refine (put_bytes_at _ _ g wr.heap.size (2 * s.size) (2 * k) 2 (2 * s.size - 2 * k) g (hexP s k) [_, _] (hr.alloc _).drew (src_two wr _ _).drew (by omega) (hexP_length s k) rfl (by omega) (by omega) (by omega) (by omega) (Nat.le_refl _)).mono ?_; rintro e w' ⟨rfl, hr', hb'⟩))
      all_goals go_wp2
      all_goals
        go_roundw
        case rel =>
          refine ⟨k + 1, by omega, by go_num, by go_num, ?_, ((hbw.alloc (Nat.le_of_lt hglt) _).drew).trans hb'⟩
          rw [show 2 * s.size - 2 * (k + 1) = 2 * s.size - 2 * k - 2 by omega]
          exact hr'
        case measure => simp only [intOf]; omega
    · obtain rfl : k = s.size := by omega
      have hconv := conv_room wr g _ (2 * s.size) (2 * s.size) _ hr (hexP_length s s.size)
      go_wp2
      go_ret
      exact ⟨rfl, hbw⟩
end Go.Proofs.YtpmcgiegppllpaaDoor
