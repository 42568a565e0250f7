/- Plain facts on numbers and bytes: nothing of the program is used here. -/
import Derived.PlainAid
import Derived.Laws.BitsAllLaws
namespace Go.Proofs.YtlbebeedkcdgpaaDoor
open Go.PlainAid

/-- The number that the first k bytes of s say, most significant first. -/
def rf (s : ByteArray) : Nat → Int
  | 0 => 0
  | k + 1 => rf s k * 256 + bt s k
theorem rf_nonneg (s : ByteArray) (k : Nat) : 0 ≤ rf s k := by
  induction k with
  | zero => simp [rf]
  | succ k ih => have := bt_nonneg s k; simp only [rf]; omega
theorem rf_le6 (s : ByteArray) (k : Nat) (h : k ≤ 6) : rf s k ≤ 281474976710655 := by
  have b0 := bt_le s 0; have b1 := bt_le s 1; have b2 := bt_le s 2; have b3 := bt_le s 3; have b4 := bt_le s 4; have b5 := bt_le s 5
  have hk : k = 0 ∨ k = 1 ∨ k = 2 ∨ k = 3 ∨ k = 4 ∨ k = 5 ∨ k = 6 := by omega
  rcases hk with rfl | rfl | rfl | rfl | rfl | rfl | rfl <;> simp only [rf] <;> omega
/-- OR of two numbers of a 64-bit int that share no bit is their sum. -/
theorem i64_or_nat (a b : Nat) (ha : a < 9223372036854775808) (hb : b < 9223372036854775808) : bits .or .i64 (a : Int) (b : Int) = ((a ||| b : Nat) : Int) := by
  have hx : a ||| b < 2 ^ 63 := Nat.or_lt_two_pow (by omega) (by omega)
  show IntKind.i64.wrap ((BitVec.ofInt 64 (a : Int) ||| BitVec.ofInt 64 (b : Int)).toNat : Int) = _
  rw [BitVec.toNat_or, ofInt_u64 a (by omega), ofInt_u64 b (by omega)]
  exact IntWalk.i64_in _ (by omega)
theorem i64_or_join (i : Nat) (a b : Int) (h1 : 0 ≤ a) (h2 : a < 9223372036854775808) (h3 : 0 ≤ b) (h4 : b < 9223372036854775808)
    (hd : a.toNat % 2 ^ i = 0) (hb : b.toNat < 2 ^ i) : bits .or .i64 a b = a + b := by
  obtain ⟨A, rfl⟩ := Int.eq_ofNat_of_zero_le h1
  obtain ⟨B, rfl⟩ := Int.eq_ofNat_of_zero_le h3
  rw [i64_or_nat A B (by omega) (by omega), nat_join i A B (by simpa using hd) (by simpa using hb)]
  omega
/-- n without its k low bytes. -/
def dv (n : Int) : Nat → Int
  | 0 => n
  | k + 1 => dv n k / 256
/-- The k low bytes of n, most significant first. -/
def fixL (n : Int) : Nat → List Int
  | 0 => []
  | k + 1 => (dv n k % 256) :: fixL n k
theorem fixL_length (n : Int) (k : Nat) : (fixL n k).length = k := by
  induction k with
  | zero => rfl
  | succ k ih => simp [fixL, ih]
theorem dv_nonneg (n : Int) (h : 0 ≤ n) (k : Nat) : 0 ≤ dv n k := by
  induction k with
  | zero => exact h
  | succ k ih => simp only [dv]; omega
theorem dv_le (n : Int) (h : 0 ≤ n) (k : Nat) : dv n k ≤ n := by
  induction k with
  | zero => exact Int.le_refl _
  | succ k ih => have := dv_nonneg n h k; simp only [dv]; omega
theorem fixL_get (n : Int) (k j : Nat) (h : j < k) : (fixL n k)[j]? = some (dv n (k - 1 - j) % 256) := by
  induction k generalizing j with
  | zero => omega
  | succ k ih =>
    match j with
    | 0 => simp [fixL]
    | j + 1 =>
      simp only [fixL, List.getElem?_cons_succ]
      rw [ih j (by omega)]
      congr 3
      omega
theorem fixL_take (n : Int) (k j : Nat) (h : j < k) : (fixL n k).take (j + 1) = (fixL n k).take j ++ [dv n (k - 1 - j) % 256] := by
  rw [List.take_add_one, fixL_get n k j h]
  rfl
theorem dv_shift (n : Int) (k : Nat) : n / 2 ^ (8 * k) = dv n k := by
  induction k with
  | zero => simp [dv]
  | succ k ih =>
    rw [dv, ← ih, Nat.mul_succ, Int.pow_add, ← Int.ediv_ediv_of_nonneg (by exact Int.pow_nonneg (by decide))]
    rfl
/-- n without its k low groups of seven bits. -/
def vd (n : Int) : Nat → Int
  | 0 => n
  | k + 1 => vd n k / 128
/-- The k low groups of n, least significant first, each with 128 added. -/
def vpre (n : Int) : Nat → List Int
  | 0 => []
  | k + 1 => vpre n k ++ [128 + vd n k % 128]
/-- The varint of n, if k groups stand before its last one. -/
def varL (n : Int) (k : Nat) : List Int := vpre n k ++ [vd n k]
/-- k groups stand before the last one of n. -/
def VK (n : Int) (k : Nat) : Prop := (∀ i, i < k → 128 ≤ vd n i) ∧ vd n k < 128
theorem vpre_length (n : Int) (k : Nat) : (vpre n k).length = k := by
  induction k with
  | zero => rfl
  | succ k ih => simp [vpre, ih]
theorem varL_length (n : Int) (k : Nat) : (varL n k).length = k + 1 := by simp [varL, vpre_length]
theorem vd_nonneg (n : Int) (h : 0 ≤ n) (k : Nat) : 0 ≤ vd n k := by
  induction k with
  | zero => exact h
  | succ k ih => simp only [vd]; omega
theorem vd_le (n : Int) (h : 0 ≤ n) (k : Nat) : vd n k ≤ n := by
  induction k with
  | zero => exact Int.le_refl _
  | succ k ih => have := vd_nonneg n h k; simp only [vd]; omega
theorem vk_exists (n : Int) (h0 : 0 ≤ n) (h : n ≤ 562949953421311) : ∃ k, k ≤ 6 ∧ VK n k := by
  have h6 : vd n 6 < 128 := by simp only [vd]; omega
  have go : ∀ m k : Nat, k + m = 6 → (∀ i, i < k → 128 ≤ vd n i) → ∃ k, k ≤ 6 ∧ VK n k := by
    intro m
    induction m with
    | zero =>
      intro k hk hi
      obtain rfl : k = 6 := by omega
      exact ⟨6, by omega, hi, h6⟩
    | succ m ih =>
      intro k hk hi
      by_cases hlt : vd n k < 128
      · exact ⟨k, by omega, hi, hlt⟩
      · refine ih (k + 1) (by omega) ?_
        intro i hik
        by_cases e : i = k
        · subst e; omega
        · exact hi i (by omega)
  exact go 6 0 rfl (fun i hi => by omega)
end Go.Proofs.YtlbebeedkcdgpaaDoor
