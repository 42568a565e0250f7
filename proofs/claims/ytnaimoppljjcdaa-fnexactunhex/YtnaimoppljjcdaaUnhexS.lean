/- The walks of Unhex and of its model, and the law over both: it returns true at every string. -/
import Derived.Test.YtnaimoppljjcdaaUnhex
namespace Go.Proofs.Ytnaimoppljjcdaa
open Go.RowKit Go.PlainAid
set_option linter.unusedVariables false

/-- The bytes that the first k pairs of digits of s say. -/
def unP (s : ByteArray) : Nat → List Int
  | 0 => []
  | k + 1 => unP s k ++ [16 * hexv (bt s (2 * k)) + hexv (bt s (2 * k + 1))]
theorem unP_length (s : ByteArray) (k : Nat) : (unP s k).length = k := by
  induction k with
  | zero => rfl
  | succ k ih => simp [unP, ih]

set_option maxHeartbeats 400000 in
theorem spec_unhex_ok (s : ByteArray) (w : World) (hs : s.size ≤ 1048576) (h2 : s.size % 2 = 0) (hv : ∀ j, j < s.size → 0 ≤ hexv (bt s j)) :
    Calls Try.prog 19 #[.string s] w fun e w' => e = .returned (.tuple #[.string (strOfNums (unP s (s.size / 2))), .bool true]) ∧ Below w.heap.size w w' := by
  have HV := Lib.hid hv
  clear hv
  have hodd : ((s.size : Int) % 2 == 1) = false := by
    have : (s.size : Int) % 2 = 0 := by omega
    rw [this]; rfl
  have H2 := Lib.hid h2
  have h2' : s.size % 2 < 1 := by omega
  clear h2
  go_enter Try.func19, Try.ntmps19
  go_wp2
  go_loopw [4, 5] (fun v i wr => ∃ k : Nat, 2 * k ≤ s.size ∧ i = .int .i64 (2 * (k : Int)) ∧ Grows wr w.heap.size v (unP s k) ∧ Below w.heap.size w wr) (fun _ i _ => s.size - (intOf i).toNat)
  case atStart => exact ⟨0, by omega, rfl, grows_empty w, (Below.refl _ _).alloc (Nat.le_refl _) _⟩
  case round =>
    obtain ⟨k, hk, rfl, hgr, hbw⟩ := hrel
    have hl : (unP s k).length ≤ 1048576 := by rw [unP_length]; omega
    by_cases hlt : 2 * k < s.size
    · have hlt1 : 2 * k + 1 < s.size := by have := H2.out; omega
      have hg0 := get_bt s (2 * k) hlt
      have hg1 := get_bt s (2 * k + 1) hlt1
      have b0 := bt_nonneg s (2 * k)
      have b1 := bt_le s (2 * k)
      have c0 := bt_nonneg s (2 * k + 1)
      have c1 := bt_le s (2 * k + 1)
      have v0 := HV.out (2 * k) hlt
      have v1 := HV.out (2 * k + 1) hlt1
      have r0 := (hexv_range (bt s (2 * k))).2
      have r1 := (hexv_range (bt s (2 * k + 1))).2
      have d0 : decide (hexv (bt s (2 * k)) < 0) = false := by simp; omega
      have d1 : decide (hexv (bt s (2 * k + 1)) < 0) = false := by simp; omega
      go_wp2_with (first | (go_at_call 25; refine (from_hex _ _ (by omega) (by omega)).mono ?_; rintro e w' ⟨rfl, rfl⟩) | (at_builtin; refine wp_append_bytes rfl (.tmp 34) (.tmp 40) rfl w.heap.size _ (unP s k) [_] rfl (hgr.alloc _) wr.heap.size 1 1 rfl rfl (src_one wr _) (by omega) (by have := hbw.size; simp; omega) ?_; intro v' w' hgr' hb'))
      go_roundw
      case rel => exact ⟨k + 1, by omega, by go_num, hgr', (hbw.alloc hbw.size _).trans hb'⟩
      case measure => simp only [intOf]; omega
    · have hk2 : s.size / 2 = k := by omega
      have HK := Lib.hid hk2
      clear hk2
      have hconv := conv_grows wr w.heap.size _ _ hgr
      go_wp2
      go_ret2
      exact ⟨by rw [HK.out]; rfl, hbw⟩

set_option maxHeartbeats 400000 in
theorem spec_unhex_bad (s : ByteArray) (w : World) (t : Nat) (hs : s.size ≤ 1048576) (h2 : s.size % 2 = 0) (ht : 2 * t < s.size) (hv : ∀ j, j < 2 * t → 0 ≤ hexv (bt s j)) (hb : hexv (bt s (2 * t)) < 0 ∨ hexv (bt s (2 * t + 1)) < 0) :
    Calls Try.prog 19 #[.string s] w fun e w' => e = .returned (.tuple #[.string ByteArray.empty, .bool false]) ∧ Below w.heap.size w w' := by
  have HV := Lib.hid hv
  have HB := Lib.hid hb
  clear hv hb
  have hodd : ((s.size : Int) % 2 == 1) = false := by
    have : (s.size : Int) % 2 = 0 := by omega
    rw [this]; rfl
  have H2 := Lib.hid h2
  have h2' : s.size % 2 < 1 := by omega
  clear h2
  go_enter Try.func19, Try.ntmps19
  go_wp2
  go_loopw [4, 5] (fun v i wr => ∃ k : Nat, k ≤ t ∧ i = .int .i64 (2 * (k : Int)) ∧ Grows wr w.heap.size v (unP s k) ∧ Below w.heap.size w wr) (fun _ i _ => s.size - (intOf i).toNat)
  case atStart => exact ⟨0, by omega, rfl, grows_empty w, (Below.refl _ _).alloc (Nat.le_refl _) _⟩
  case round =>
    obtain ⟨k, hk, rfl, hgr, hbw⟩ := hrel
    have hl : (unP s k).length ≤ 1048576 := by rw [unP_length]; omega
    have hlt : 2 * k < s.size := by omega
    have hlt1 : 2 * k + 1 < s.size := by have := H2.out; omega
    have hg0 := get_bt s (2 * k) hlt
    have hg1 := get_bt s (2 * k + 1) hlt1
    have b0 := bt_nonneg s (2 * k)
    have b1 := bt_le s (2 * k)
    have c0 := bt_nonneg s (2 * k + 1)
    have c1 := bt_le s (2 * k + 1)
    have r0 := (hexv_range (bt s (2 * k))).2
    have r1 := (hexv_range (bt s (2 * k + 1))).2
    by_cases hkt : k < t
    · have v0 := HV.out (2 * k) (by omega)
      have v1 := HV.out (2 * k + 1) (by omega)
      have d0 : decide (hexv (bt s (2 * k)) < 0) = false := by simp; omega
      have d1 : decide (hexv (bt s (2 * k + 1)) < 0) = false := by simp; omega
      go_wp2_with (first | (go_at_call 25; refine (from_hex _ _ (by omega) (by omega)).mono ?_; rintro e w' ⟨rfl, rfl⟩) | (at_builtin; refine wp_append_bytes rfl (.tmp 34) (.tmp 40) rfl w.heap.size _ (unP s k) [_] rfl (hgr.alloc _) wr.heap.size 1 1 rfl rfl (src_one wr _) (by omega) (by have := hbw.size; simp; omega) ?_; intro v' w' hgr' hb'))
      go_roundw
      case rel => exact ⟨k + 1, by omega, by go_num, hgr', (hbw.alloc hbw.size _).trans hb'⟩
      case measure => simp only [intOf]; omega
    · obtain rfl : k = t := by omega
      by_cases hn : hexv (bt s (2 * k)) < 0
      · have d0 : decide (hexv (bt s (2 * k)) < 0) = true := by simp; omega
        go_wp2_with (go_at_call 25; refine (from_hex _ _ (by omega) (by omega)).mono ?_; rintro e w' ⟨rfl, rfl⟩)
        go_ret2
        exact ⟨rfl, hbw⟩
      · have d0 : decide (hexv (bt s (2 * k)) < 0) = false := by simp; omega
        have d1 : decide (hexv (bt s (2 * k + 1)) < 0) = true := by rcases HB.out with h | h <;> simp <;> omega
        go_wp2_with (go_at_call 25; refine (from_hex _ _ (by omega) (by omega)).mono ?_; rintro e w' ⟨rfl, rfl⟩)
        go_ret2
        exact ⟨rfl, hbw⟩

set_option maxHeartbeats 400000 in
theorem spec_unhex_odd (s : ByteArray) (w : World) (hs : s.size ≤ 1048576) (h2 : s.size % 2 = 1) :
    Calls Try.prog 19 #[.string s] w fun e w' => e = .returned (.tuple #[.string ByteArray.empty, .bool false]) ∧ Below w.heap.size w w' := by
  have hodd : ((s.size : Int) % 2 == 1) = true := by
    have : (s.size : Int) % 2 = 1 := by omega
    rw [this]; rfl
  clear h2
  go_enter Try.func19, Try.ntmps19
  go_wp2
  go_ret2
  exact ⟨rfl, (Below.refl _ _).alloc (Nat.le_refl _) _⟩
end Go.Proofs.Ytnaimoppljjcdaa
