/- The walks of Hex: what the program and its model answer, for every string of at most 2^20 bytes, and that the law over both returns true. -/
import Derived.Test.YtnaimoppljjcdaaBytes
import Derived.Deep.RegionLaw
namespace Go.Proofs.Ytnaimoppljjcdaa
open Go.RowKit Go.PlainAid
set_option linter.unusedVariables false

/-- The digit of k, from 0 to 15. -/
def hexd (k : Int) : Int := if k < 10 then 48 + k else 87 + k
theorem hexd_range (k : Int) (h0 : 0 ≤ k) (h1 : k ≤ 15) : 48 ≤ hexd k ∧ hexd k ≤ 102 := by unfold hexd; split <;> omega
/-- The digits of the first k bytes of s. -/
def hexP (s : ByteArray) : Nat → List Int
  | 0 => []
  | k + 1 => hexP s k ++ [hexd (bt s k / 16), hexd (bt s k % 16)]
theorem hexP_length (s : ByteArray) (k : Nat) : (hexP s k).length = 2 * k := by
  induction k with
  | zero => rfl
  | succ k ih => simp [hexP, ih]; omega

theorem digit_ok (k : Int) (w : World) (h0 : 0 ≤ k) (h1 : k ≤ 15) : Calls Try.prog 24 #[.int .i64 k] w fun e w' => e = .returned (.int .u8 (hexd k)) ∧ w' = w := by
  have hk : k = 0 ∨ k = 1 ∨ k = 2 ∨ k = 3 ∨ k = 4 ∨ k = 5 ∨ k = 6 ∨ k = 7 ∨ k = 8 ∨ k = 9 ∨ k = 10 ∨ k = 11 ∨ k = 12 ∨ k = 13 ∨ k = 14 ∨ k = 15 := by omega
  clear h0 h1
  rcases hk with rfl | rfl | rfl | rfl | rfl | rfl | rfl | rfl | rfl | rfl | rfl | rfl | rfl | rfl | rfl | rfl
  all_goals
    go_enter Try.func24, Try.ntmps24
    go_wp2
    go_ret
    exact ⟨rfl, rfl⟩

set_option maxHeartbeats 400000 in
theorem spec_hex (s : ByteArray) (w : World) (hs : s.size ≤ 1048576) :
    Calls Try.prog 17 #[.string s] w fun e w' => e = .returned (.string (strOfNums (hexP s s.size))) ∧ Below w.heap.size w w' := by
  go_enter Try.func17, Try.ntmps17
  go_wp2
  go_loopw [3, 4] (fun v i wr => ∃ k : Nat, k ≤ s.size ∧ i = .int .i64 k ∧ Grows wr w.heap.size v (hexP s k) ∧ Below w.heap.size w wr) (fun _ i _ => s.size - (intOf i).toNat)
  case atStart => exact ⟨0, by omega, rfl, grows_empty w, (Below.refl _ _).alloc (Nat.le_refl _) _⟩
  case round =>
    obtain ⟨k, hk, rfl, hgr, hbw⟩ := hrel
    have hl : (hexP s k).length ≤ 2097152 := by rw [hexP_length]; omega
    by_cases hlt : k < s.size
    · have hg := get_bt s k hlt
      have b0 := bt_nonneg s k
      have b1 := bt_le s k
      have e1 : IntKind.i64.wrap (bt s k) = bt s k := IntWalk.i64_in _ (by omega)
      have e2 : IntKind.i64.wrap (Int.tdiv (bt s k) 16) = bt s k / 16 := IntWalk.i64_quo _ _ (by omega)
      have e3 : Int.tmod (bt s k) 16 = bt s k % 16 := IntWalk.rem_in _ _ b0
      go_wp2_with fail
      go_region_law (first | (refine step_append_bytes rfl (.tmp 12) (.tmp 25) rfl w.heap.size u3 (hexP s k) [hexd (bt s k / 16), hexd (bt s k % 16)] (by simp [Act.eval]) (hgr.alloc _).drew wr.heap.size 2 2 (by simp [Act.eval]) rfl (src_two wr _ _).drew (by omega) (by have := hbw.size; simp; omega) ?_; intro v' w' hgr' hb') | (go_simp; go_at_call 24; refine (digit_ok _ _ (by omega) (by omega)).mono ?_; rintro e w' ⟨rfl, rfl⟩))
      all_goals go_wp2
      all_goals
        go_roundw
        case rel => exact ⟨k + 1, by omega, by go_num, hgr', ((hbw.alloc hbw.size _).drew).trans hb'⟩
        case measure => simp only [intOf]; omega
    · obtain rfl : k = s.size := by omega
      have hconv := conv_grows wr w.heap.size _ _ hgr
      go_wp2
      go_ret
      exact ⟨rfl, hbw⟩

theorem put_bytes_at (w : World) (c : Int) (g h n k m r B : Nat) (pre X : List Int) (hr : Room w g pre r) (hX : Src w h X) (hc : c = (k : Int)) (hk : pre.length = k) (hm : X.length = m)
    (h0 : 0 < m) (hfit : m ≤ r) (hn : k + r = n) (hb : n ≤ 1099511627776) (hB : B ≤ g) :
    Calls Try.prog 23 #[.slice (some ⟨g, 0, none⟩) n n, .int .i64 c, .slice (some ⟨h, 0, none⟩) m m] w fun e w' =>
      e = .returned (.int .i64 (c + (m : Int))) ∧ Room w' g (pre ++ X) (r - m) ∧ Below B w w' := by
  subst hc
  exact (put_bytes w g h n k m r B pre X hr hX hk hm h0 hfit hn hb hB).mono fun e w' ⟨he, h1, h2⟩ => ⟨by rw [he, Int.natCast_add], h1, h2⟩

theorem index_digit (x : Int) (h0 : 0 ≤ x) (h1 : x ≤ 15) (w : World) :
    (Instr.index 9 (.string { data := #[48, 49, 50, 51, 52, 53, 54, 55, 56, 57, 97, 98, 99, 100, 101, 102] }) (.int .u8 x)).run Try.prog w = .ok (.int .u8 (hexd x)) w := by
  have hk : x = 0 ∨ x = 1 ∨ x = 2 ∨ x = 3 ∨ x = 4 ∨ x = 5 ∨ x = 6 ∨ x = 7 ∨ x = 8 ∨ x = 9 ∨ x = 10 ∨ x = 11 ∨ x = 12 ∨ x = 13 ∨ x = 14 ∨ x = 15 := by omega
  clear h0 h1
  rcases hk with rfl | rfl | rfl | rfl | rfl | rfl | rfl | rfl | rfl | rfl | rfl | rfl | rfl | rfl | rfl | rfl
  all_goals (go_simp; rfl)

theorem and15 (b : Int) (h0 : 0 ≤ b) (h1 : b ≤ 255) : bits .and .u8 b 15 = b % 16 := by
  rw [u8_and b 15 h0 (by omega) (by decide) (by decide), show (15 : Int).toNat = 15 from rfl, nat_mask4]
  omega

set_option maxHeartbeats 400000 in
theorem impl_hex (s : ByteArray) (w : World) (hs : s.size ≤ 1048576) :
    Calls Try.prog 18 #[.string s] w fun e w' => e = .returned (.string (strOfNums (hexP s s.size))) ∧ Below w.heap.size w w' := by
  obtain ⟨w1, hmk, hroom, hb1⟩ := make_room w (2 * s.size) (by omega)
  rw [show ((2 * s.size : Nat) : Int) = 2 * (s.size : Int) by omega] at hmk
  obtain ⟨g, hg⟩ : ∃ g, g = w.heap.size := ⟨_, rfl⟩
  rw [← hg] at hmk hroom hb1 ⊢
  have HG := Lib.hid hg
  clear hg
  go_enter Try.func18, Try.ntmps18
  go_wp2
  clear hmk
  go_loopw [4, 12] (fun a i wr => ∃ k : Nat, k ≤ s.size ∧ a = .int .i64 (2 * (k : Int)) ∧ i = .int .i64 k ∧ Room wr g (hexP s k) (2 * s.size - 2 * k) ∧ Below g w wr) (fun _ i _ => s.size - (intOf i).toNat)
  case atStart => exact ⟨0, by omega, rfl, rfl, hroom, hb1⟩
  case round =>
    obtain ⟨k, hk, rfl, rfl, hr, hbw⟩ := hrel
    have hglt := hr.lt
    by_cases hlt : k < s.size
    · have hg := get_bt s k hlt
      have b0 := bt_nonneg s k
      have b1 := bt_le s k
      have i1 := index_digit (bt s k / 16) (by omega) (by omega)
      have i2 := index_digit (bt s k % 16) (by omega) (by omega)
      have e1 := and15 (bt s k) b0 b1
      go_wp2_with fail
      go_region_with ((go_at_call 23; refine (put_bytes_at _ _ g wr.heap.size (2 * s.size) (2 * k) 2 (2 * s.size - 2 * k) g (hexP s k) [_, _] (hr.alloc _).drew (src_two wr _ _).drew (by omega) (hexP_length s k) rfl (by omega) (by omega) (by omega) (by omega) (Nat.le_refl _)).mono ?_; rintro e w' ⟨rfl, hr', hb'⟩))
      all_goals go_wp2
      all_goals
        go_roundw
        case rel =>
          refine ⟨k + 1, by omega, by go_num, by go_num, ?_, ((hbw.alloc (Nat.le_of_lt hglt) _).drew).trans hb'⟩
          rw [show 2 * s.size - 2 * (k + 1) = 2 * s.size - 2 * k - 2 by omega]
          exact hr'
        case measure => simp only [intOf]; omega
    · obtain rfl : k = s.size := by omega
      have hconv := conv_room wr g _ (2 * s.size) (2 * s.size) _ hr (hexP_length s s.size)
      go_wp2
      go_ret
      exact ⟨rfl, hbw⟩
end Go.Proofs.Ytnaimoppljjcdaa
