/- Plain facts on the draws: what a cursor over the bytes xs gives next, as functions of the bytes and the cursor's two numbers. Nothing of the program is used here. -/
import Derived.PlainAid
import Derived.Laws.BitsAllLaws
namespace Go.Proofs.YtemhhjkmolndbaaDoor
open Go.RowKit

/-- A cursor's two numbers: how many bytes were taken, and what is mixed in. -/
abbrev St := Nat × Int
/-- The number mixed in at the start, k bytes taken in. -/
def hS (xs : List Int) : Nat → Int
  | 0 => 10101 + xs.length
  | k + 1 => (hS xs k * 131 + xs.getD k 0 + 7) % 1073741824
def cur0 (xs : List Int) : St := (0, hS xs (min xs.length 4000))
def hNext (h : Int) : Int := wrap64 (wrap64 (h * 6364136223846793005) + 1442695040888963407)
def raw (h : Int) : Int := bits .and .i64 (bits .xor .i64 (h / 8589934592) (h / 35184372088832)) 255
/-- The next byte. -/
def bV (xs : List Int) (s : St) : Int := if s.1 < xs.length then bits .and .i64 (raw (hNext s.2) + xs.getD s.1 0) 255 else raw (hNext s.2)
def sN (xs : List Int) (s : St) : St := (if s.1 < xs.length then s.1 + 1 else s.1, hNext s.2)
def itS (xs : List Int) (s : St) : Nat → St
  | 0 => s
  | k + 1 => sN xs (itS xs s k)
/-- A number below n. -/
def beV (xs : List Int) (n : Int) (s : St) : Int :=
  if n ≤ 0 then 0 else if n ≤ 256 then bV xs s % n
  else (bV xs s * 16777216 + bV xs (itS xs s 1) * 65536 + bV xs (itS xs s 2) * 256 + bV xs (itS xs s 3)) % n
def beS (xs : List Int) (n : Int) (s : St) : St := if n ≤ 0 then s else if n ≤ 256 then itS xs s 1 else itS xs s 4
/-- A byte of a text, by the text's style. -/
def tB (style b : Int) : Int := if style = 1 then b % 2 else if style = 2 then 97 + b % 4 else b
def tL (xs : List Int) (style : Int) (s : St) : Nat → List Int
  | 0 => []
  | k + 1 => tL xs style s k ++ [tB style (bV xs (itS xs s k))]
/-- A text of at most so many bytes. -/
def teL (xs : List Int) (most : Int) (s : St) : List Int := tL xs (beV xs 4 s) (beS xs (most + 1) (beS xs 4 s)) (beV xs (most + 1) (beS xs 4 s)).toNat
def teS (xs : List Int) (most : Int) (s : St) : St := itS xs (beS xs (most + 1) (beS xs 4 s)) (beV xs (most + 1) (beS xs 4 s)).toNat

theorem i64_and_bits (a b : Nat) (ha : a < 18446744073709551616) (hb : b < 9223372036854775808) : (BitVec.ofInt 64 (a : Int) &&& BitVec.ofInt 64 (b : Int)).toNat = a &&& b := by
  rw [BitVec.toNat_and, ofInt_u64 a ha, ofInt_u64 b (by omega)]
theorem and255 (a : Int) : 0 ≤ bits .and .i64 a 255 ∧ bits .and .i64 a 255 ≤ 255 := by
  have hx : (BitVec.ofInt 64 a &&& BitVec.ofInt 64 255).toNat ≤ 255 := by
    rw [BitVec.toNat_and, show (BitVec.ofInt 64 255).toNat = 255 from rfl]
    exact Nat.and_le_right
  show 0 ≤ IntKind.i64.wrap ((BitVec.ofInt 64 a &&& BitVec.ofInt 64 255).toNat : Int) ∧ IntKind.i64.wrap ((BitVec.ofInt 64 a &&& BitVec.ofInt 64 255).toNat : Int) ≤ 255
  rw [IntWalk.i64_in _ (by omega)]
  omega
theorem and30 (a : Int) (h0 : 0 ≤ a) (h1 : a < 9223372036854775808) : bits .and .i64 a 1073741823 = a % 1073741824 := by
  obtain ⟨A, rfl⟩ := Int.eq_ofNat_of_zero_le h0
  show IntKind.i64.wrap ((BitVec.ofInt 64 (A : Int) &&& BitVec.ofInt 64 ((1073741823 : Nat) : Int)).toNat : Int) = _
  have e : A &&& 1073741823 = A % 1073741824 := Nat.and_two_pow_sub_one_eq_mod A 30
  rw [i64_and_bits A 1073741823 (by omega) (by omega), e, IntWalk.i64_in _ (by omega)]
  omega
theorem raw_range (h : Int) : 0 ≤ raw h ∧ raw h ≤ 255 := and255 _
theorem bV_range (xs : List Int) (s : St) : 0 ≤ bV xs s ∧ bV xs s ≤ 255 := by
  unfold bV; split
  · exact and255 _
  · exact raw_range _
theorem beV_range (xs : List Int) (n : Int) (s : St) (h : 0 < n) : 0 ≤ beV xs n s ∧ beV xs n s < n := by
  unfold beV
  rw [if_neg (by omega)]
  split
  · have := bV_range xs s
    exact ⟨Int.emod_nonneg _ (by omega), Int.emod_lt_of_pos _ h⟩
  · exact ⟨Int.emod_nonneg _ (by omega), Int.emod_lt_of_pos _ h⟩
theorem tB_range (style b : Int) (h0 : 0 ≤ b) (h1 : b ≤ 255) : 0 ≤ tB style b ∧ tB style b ≤ 255 := by
  unfold tB; split
  · omega
  · split <;> omega
theorem tL_length (xs : List Int) (style : Int) (s : St) (k : Nat) : (tL xs style s k).length = k := by
  induction k with
  | zero => rfl
  | succ k ih => simp [tL, ih]
theorem tL_range (xs : List Int) (style : Int) (s : St) (k : Nat) : ∀ x ∈ tL xs style s k, 0 ≤ x ∧ x ≤ 255 := by
  induction k with
  | zero => intro x hx; cases hx
  | succ k ih =>
    intro x hx
    simp only [tL, List.mem_append, List.mem_singleton] at hx
    rcases hx with hx | rfl
    · exact ih x hx
    · have := bV_range xs (itS xs s k)
      exact tB_range _ _ this.1 this.2
theorem teL_range (xs : List Int) (most : Int) (s : St) : ∀ x ∈ teL xs most s, 0 ≤ x ∧ x ≤ 255 := tL_range _ _ _ _
theorem teL_length (xs : List Int) (most : Int) (s : St) (h : 0 ≤ most) : ((teL xs most s).length : Int) ≤ most := by
  unfold teL
  rw [tL_length]
  have := beV_range xs (most + 1) (beS xs 4 s) (by omega)
  omega
theorem hS_range (xs : List Int) (hl : xs.length ≤ 1048576) (k : Nat) : 0 ≤ hS xs k ∧ hS xs k ≤ 1073741823 := by
  cases k with
  | zero => simp only [hS]; omega
  | succ k => simp only [hS]; omega
theorem hNext_range (h : Int) : -9223372036854775808 ≤ hNext h ∧ hNext h ≤ 9223372036854775807 := by
  unfold hNext
  have h2 : ∀ x : Int, -9223372036854775808 ≤ wrap64 x ∧ wrap64 x ≤ 9223372036854775807 := fun x => by unfold wrap64; omega
  exact h2 _
/-- The numbers at limits that a drawn number may be. -/
def nums17 : List Int := [-1, 0, 127, 128, 255, 256, 16383, 16384, 65535, 65536, 562949953421311, 562949953421312, 999999999, 1000000000, -999999999, 9223372036854775807, -9223372036854775808]
theorem nums17_range : ∀ x ∈ nums17, -9223372036854775808 ≤ x ∧ x ≤ 9223372036854775807 := by decide
/-- A drawn number. -/
def numV (xs : List Int) (s : St) : Int :=
  if beV xs 8 s = 0 then nums17.getD (beV xs 17 (beS xs 8 s)).toNat 0
  else if beV xs 8 s = 1 then beV xs 1000000000 (beS xs 8 s) * beV xs 1000000000 (beS xs 1000000000 (beS xs 8 s))
  else if beV xs 8 s = 2 then -beV xs 100000 (beS xs 8 s)
  else beV xs 70000 (beS xs 8 s)
def numS (xs : List Int) (s : St) : St :=
  if beV xs 8 s = 0 then beS xs 17 (beS xs 8 s)
  else if beV xs 8 s = 1 then beS xs 1000000000 (beS xs 1000000000 (beS xs 8 s))
  else if beV xs 8 s = 2 then beS xs 100000 (beS xs 8 s)
  else beS xs 70000 (beS xs 8 s)
theorem mul_range (a b : Int) (a0 : 0 ≤ a) (a1 : a < 1000000000) (b0 : 0 ≤ b) (b1 : b < 1000000000) : 0 ≤ a * b ∧ a * b ≤ 1000000000000000000 := by
  have h0 := Int.mul_nonneg a0 b0
  have h1 : a * b ≤ 1000000000 * b := Int.mul_le_mul_of_nonneg_right (by omega) b0
  omega
theorem numV_range (xs : List Int) (s : St) : -9223372036854775808 ≤ numV xs s ∧ numV xs s ≤ 9223372036854775807 := by
  unfold numV
  split
  · generalize (beV xs 17 (beS xs 8 s)).toNat = k
    rw [List.getD_eq_getElem?_getD]
    match h : nums17[k]? with
    | none => simp
    | some x =>
      exact nums17_range x (List.mem_of_getElem? h)
  · split
    · have r1 := beV_range xs 1000000000 (beS xs 8 s) (by omega)
      have r2 := beV_range xs 1000000000 (beS xs 1000000000 (beS xs 8 s)) (by omega)
      have := mul_range _ _ r1.1 r1.2 r2.1 r2.2
      omega
    · split
      · have r1 := beV_range xs 100000 (beS xs 8 s) (by omega)
        omega
      · have r1 := beV_range xs 70000 (beS xs 8 s) (by omega)
        omega
end Go.Proofs.YtemhhjkmolndbaaDoor
