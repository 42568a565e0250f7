/- Plain facts on numbers and bytes: nothing of the program is used here. -/
import Derived.PlainAid
import Derived.Laws.BitsAllLaws
namespace Go.Proofs.Ytnaimoppljjcdaa
open Go.PlainAid

/-- The number that the first k bytes of s say, most significant first. -/
def rf (s : ByteArray) : Nat → Int
  | 0 => 0
  | k + 1 => rf s k * 256 + bt s k
theorem rf_nonneg (s : ByteArray) (k : Nat) : 0 ≤ rf s k := by
  induction k with
  | zero => simp [rf]
  | succ k ih => have := bt_nonneg s k; simp only [rf]; omega
theorem rf_le6 (s : ByteArray) (k : Nat) (h : k ≤ 6) : rf s k ≤ 281474976710655 := by
  have b0 := bt_le s 0; have b1 := bt_le s 1; have b2 := bt_le s 2; have b3 := bt_le s 3; have b4 := bt_le s 4; have b5 := bt_le s 5
  have hk : k = 0 ∨ k = 1 ∨ k = 2 ∨ k = 3 ∨ k = 4 ∨ k = 5 ∨ k = 6 := by omega
  rcases hk with rfl | rfl | rfl | rfl | rfl | rfl | rfl <;> simp only [rf] <;> omega
/-- OR of two numbers of a 64-bit int that share no bit is their sum. -/
theorem i64_or_nat (a b : Nat) (ha : a < 9223372036854775808) (hb : b < 9223372036854775808) : bits .or .i64 (a : Int) (b : Int) = ((a ||| b : Nat) : Int) := by
  have hx : a ||| b < 2 ^ 63 := Nat.or_lt_two_pow (by omega) (by omega)
  show IntKind.i64.wrap ((BitVec.ofInt 64 (a : Int) ||| BitVec.ofInt 64 (b : Int)).toNat : Int) = _
  rw [BitVec.toNat_or, ofInt_u64 a (by omega), ofInt_u64 b (by omega)]
  exact IntWalk.i64_in _ (by omega)
theorem i64_or_join (i : Nat) (a b : Int) (h1 : 0 ≤ a) (h2 : a < 9223372036854775808) (h3 : 0 ≤ b) (h4 : b < 9223372036854775808)
    (hd : a.toNat % 2 ^ i = 0) (hb : b.toNat < 2 ^ i) : bits .or .i64 a b = a + b := by
  obtain ⟨A, rfl⟩ := Int.eq_ofNat_of_zero_le h1
  obtain ⟨B, rfl⟩ := Int.eq_ofNat_of_zero_le h3
  rw [i64_or_nat A B (by omega) (by omega), nat_join i A B (by simpa using hd) (by simpa using hb)]
  omega
end Go.Proofs.Ytnaimoppljjcdaa
