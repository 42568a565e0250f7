/- Plain facts on the CRC's numbers: nothing of the program is used here. -/
import Derived.PlainAid
import Derived.Laws.BitsAllLaws
namespace Go.Proofs.YtmnglcidklckgaaDoor
open Go.PlainAid

/-- One bit step of the register. -/
def stepN (c : Nat) : Nat := if c % 2 = 1 then c / 2 ^^^ 2197175160 else c / 2
/-- So many bit steps. -/
def stepsN (c : Nat) : Nat → Nat
  | 0 => c
  | k + 1 => stepN (stepsN c k)
/-- The register behind k bytes of s, begun at c. -/
def crcF (c : Nat) (s : ByteArray) : Nat → Nat
  | 0 => c
  | k + 1 => stepsN (crcF c s k ^^^ (bt s k).toNat) 8
/-- The table of the half bytes. -/
def crcTab : List Int := [0, 274646895, 549293790, 820201905, 1098587580, 1361435347, 1640403810, 1905808397, 2197175160, 2460548119, 2722870694, 2987750089, 3280807620, 3553878443, 3811616794, 4084100981]

theorem stepN_lt (c : Nat) (h : c < 4294967296) : stepN c < 4294967296 := by
  unfold stepN
  split
  · exact Nat.xor_lt_two_pow (n := 32) (by omega) (by omega)
  · omega
theorem stepsN_lt (c k : Nat) (h : c < 4294967296) : stepsN c k < 4294967296 := by
  induction k with
  | zero => exact h
  | succ k ih => exact stepN_lt _ ih
theorem xor_bt_lt (c : Nat) (h : c < 4294967296) (s : ByteArray) (k : Nat) : c ^^^ (bt s k).toNat < 4294967296 := by
  have := bt_le s k
  have := bt_nonneg s k
  exact Nat.xor_lt_two_pow (n := 32) (by omega) (by omega)
theorem crcF_lt (c : Nat) (h : c < 4294967296) (s : ByteArray) (k : Nat) : crcF c s k < 4294967296 := by
  induction k with
  | zero => exact h
  | succ k ih => exact stepsN_lt _ _ (xor_bt_lt _ ih s k)

theorem stepN_lin (x y : Nat) : stepN (x ^^^ 2 * y) = stepN x ^^^ y := by
  have h1 : (x ^^^ 2 * y) % 2 = x % 2 := by
    have h := Nat.xor_mod_two_eq_one (a := x) (b := 2 * y)
    have e : (2 * y) % 2 = 0 := by omega
    rw [e] at h
    by_cases hx : x % 2 = 1
    · have := h.2 (by simp [hx]); omega
    · have : ¬ (x ^^^ 2 * y) % 2 = 1 := fun h1 => by have := h.1 h1; simp [hx] at this
      omega
  have h2 : (x ^^^ 2 * y) / 2 = x / 2 ^^^ y := by
    rw [Nat.xor_div_two, Nat.mul_div_cancel_left y (by decide)]
  unfold stepN
  rw [h1, h2]
  split
  · rw [Nat.xor_assoc, Nat.xor_comm y, ← Nat.xor_assoc]
  · rfl
theorem steps4_lin (x y : Nat) : stepsN (x ^^^ 16 * y) 4 = stepsN x 4 ^^^ y := by
  have e0 : 16 * y = 2 * (8 * y) := by omega
  have e1 : 8 * y = 2 * (4 * y) := by omega
  have e2 : 4 * y = 2 * (2 * y) := by omega
  simp only [stepsN]
  rw [e0, stepN_lin, e1, stepN_lin, e2, stepN_lin, stepN_lin]
theorem split16 (c : Nat) : c = c % 16 ^^^ 16 * (c / 16) := by
  have h : 16 * (c / 16) ^^^ c % 16 = 16 * (c / 16) + c % 16 := by
    apply Nat.eq_of_testBit_eq
    intro i
    rw [Nat.testBit_xor, show (16 : Nat) = 2 ^ 4 from rfl, Nat.testBit_two_pow_mul_add _ (Nat.mod_lt _ (by decide)), Nat.testBit_two_pow_mul, Nat.testBit_mod_two_pow]
    by_cases hi : i < 4
    · simp [hi, show ¬ 4 ≤ i by omega]
    · simp [hi, show 4 ≤ i by omega]
  rw [Nat.xor_comm, h]
  omega
theorem tab_steps : ∀ l : Fin 16, ((stepsN l.val 4 : Nat) : Int) = crcTab.getD l.val 0 := by decide
theorem tab_at (l : Nat) (h : l < 16) : crcTab.getD l 0 = ((stepsN l 4 : Nat) : Int) := (tab_steps ⟨l, h⟩).symm
/-- Four bit steps by the table. -/
theorem nib (c : Nat) : stepsN (c % 16) 4 ^^^ c / 16 = stepsN c 4 := by
  conv => rhs; rw [split16 c, steps4_lin]
theorem stepsN_add (c a b : Nat) : stepsN (stepsN c a) b = stepsN c (a + b) := by
  induction b with
  | zero => rfl
  | succ b ih => rw [stepsN, ih]; rfl

theorem bt_extract (s : ByteArray) (a b j : Nat) (h : a + j < b) (hb : b ≤ s.size) : bt (s.extract a b) j = bt s (a + j) := by
  rw [← get_bt s (a + j) (by omega), ← get_bt (s.extract a b) j (by rw [ByteArray.size_extract]; omega)]
  rw [ByteArray.getElem_extract]
theorem crcF_extract (c : Nat) (s : ByteArray) (a b k : Nat) (h : a + k ≤ b) (hb : b ≤ s.size) : crcF (crcF c s a) (s.extract a b) k = crcF c s (a + k) := by
  induction k with
  | zero => rfl
  | succ k ih =>
    rw [crcF, ih (by omega), bt_extract s a b k (by omega) hb]
    rfl

theorem i64_xor_nat (a b : Nat) (ha : a < 9223372036854775808) (hb : b < 9223372036854775808) : bits .xor .i64 (a : Int) (b : Int) = ((a ^^^ b : Nat) : Int) := by
  have hx : a ^^^ b < 2 ^ 63 := Nat.xor_lt_two_pow (by omega) (by omega)
  show IntKind.i64.wrap ((BitVec.ofInt 64 (a : Int) ^^^ BitVec.ofInt 64 (b : Int)).toNat : Int) = _
  rw [BitVec.toNat_xor, ofInt_u64 a (by omega), ofInt_u64 b (by omega)]
  exact IntWalk.i64_in _ (by omega)
theorem i64_xor (a b : Int) (h1 : 0 ≤ a) (h2 : a < 9223372036854775808) (h3 : 0 ≤ b) (h4 : b < 9223372036854775808) : bits .xor .i64 a b = ((a.toNat ^^^ b.toNat : Nat) : Int) := by
  obtain ⟨A, rfl⟩ := Int.eq_ofNat_of_zero_le h1
  obtain ⟨B, rfl⟩ := Int.eq_ofNat_of_zero_le h3
  simpa using i64_xor_nat A B (by omega) (by omega)
theorem u32_and15 (a : Nat) (ha : a < 4294967296) : bits .and .u32 (a : Int) 15 = ((a % 16 : Nat) : Int) := by
  have h := u32_and_nat a 15 ha (by decide)
  rw [show a &&& 15 = a % 16 from Nat.and_two_pow_sub_one_eq_mod a 4] at h
  exact h
end Go.Proofs.YtmnglcidklckgaaDoor
