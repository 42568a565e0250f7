/- Plain facts on decimal numerals: what the digits of a string say, and which string is the numeral of that number. Nothing of the program is used here. -/
import Derived.Lib.ItoaNum
import Derived.Lib.Atoi
import Derived.Lib.Strings
namespace Go.Proofs.YtnaimoppljjcdaaDoor
open Go.Lib

/-- One byte more: a digit counts, another byte doesn't. -/
def vstep (a : Nat) (b : UInt8) : Nat := if 48 ≤ b.toNat ∧ b.toNat ≤ 57 then a * 10 + (b.toNat - 48) else a
/-- What the digits of l say. -/
def val (l : List UInt8) : Nat := l.foldl vstep 0
/-- How many digits l has. -/
def cnt (l : List UInt8) : Nat := l.countP fun b => decide (48 ≤ b.toNat ∧ b.toNat ≤ 57)
theorem val_snoc (l : List UInt8) (b : UInt8) : val (l ++ [b]) = vstep (val l) b := by simp [val]
theorem cnt_snoc (l : List UInt8) (b : UInt8) : cnt (l ++ [b]) = cnt l + if 48 ≤ b.toNat ∧ b.toNat ≤ 57 then 1 else 0 := by
  unfold cnt
  rw [List.countP_append, List.countP_singleton]
  simp
theorem cnt_le (l : List UInt8) : cnt l ≤ l.length := List.countP_le_length
theorem val_lt (l : List UInt8) : val l < 10 ^ l.length := by
  have go : ∀ (l : List UInt8) (a : Nat), l.foldl vstep a < (a + 1) * 10 ^ l.length := by
    intro l
    induction l with
    | nil => intro a; simp
    | cons b l ih =>
      intro a
      have h := ih (vstep a b)
      have hv : vstep a b + 1 ≤ (a + 1) * 10 := by unfold vstep; split <;> omega
      have := Nat.mul_le_mul_right (10 ^ l.length) hv
      simp only [List.foldl_cons, List.length_cons, Nat.pow_succ]
      have e : (a + 1) * 10 * 10 ^ l.length = (a + 1) * (10 ^ l.length * 10) := by rw [Nat.mul_assoc, Nat.mul_comm 10]
      omega
  simpa [val] using go l 0
theorem val_small (l : List UInt8) (h : l.length ≤ 10) : val l ≤ 9999999999 := by
  have h1 := val_lt l
  have h2 := Nat.pow_le_pow_right (n := 10) (by decide) h
  have e : (10 : Nat) ^ 10 = 10000000000 := by decide
  omega

/-- The bytes of l are digits. -/
def AllDig (l : List UInt8) : Prop := ∀ b ∈ l, 48 ≤ b.toNat ∧ b.toNat ≤ 57
theorem digit_byte (d : Nat) (h : d < 10) : (UInt8.ofNat (48 + d)).toNat = 48 + d := by
  rw [UInt8.toNat_ofNat']; omega
theorem dec_all (u : Nat) : AllDig (decDigits u) := by
  induction u using Nat.strongRecOn with
  | ind u ih =>
    rw [decDigits]
    split
    · intro b hb
      simp only [List.mem_singleton] at hb
      subst hb
      rw [digit_byte u (by assumption)]; omega
    · intro b hb
      rw [List.mem_append] at hb
      rcases hb with hb | hb
      · exact ih (u / 10) (by omega) b hb
      · simp only [List.mem_singleton] at hb
        subst hb
        rw [digit_byte (u % 10) (by omega)]; omega
theorem dec_ne (u : Nat) : decDigits u ≠ [] := by
  rw [decDigits]; split <;> simp
theorem val_dec (u : Nat) : val (decDigits u) = u := by
  induction u using Nat.strongRecOn with
  | ind u ih =>
    rw [decDigits]
    split
    · rename_i h
      simp only [val, List.foldl_cons, List.foldl_nil, vstep]
      rw [digit_byte u h, if_pos (by omega)]; omega
    · rw [val_snoc, ih (u / 10) (by omega), vstep, digit_byte (u % 10) (by omega), if_pos (by omega)]; omega
theorem cnt_all (l : List UInt8) (h : AllDig l) : cnt l = l.length := by
  unfold cnt
  rw [List.countP_eq_length]
  intro b hb
  simpa using h b hb
theorem decFrom_all (l : List UInt8) (h : AllDig l) (a : Nat) : decFrom a l = some (l.foldl vstep a) := by
  induction l generalizing a with
  | nil => rfl
  | cons b l ih =>
    have hb := h b (by simp)
    simp only [decFrom, digitVal, if_pos hb, List.foldl_cons]
    rw [ih (fun c hc => h c (by simp [hc]))]
    simp [vstep, hb]
theorem decNat_dec (u : Nat) : decNat (decDigits u) = some u := by
  unfold decNat
  rw [if_neg (by simp [dec_ne u]), decFrom_all _ (dec_all u) 0]
  exact congrArg some (val_dec u)

/-- The number that Dec's reader takes off a string: its digits, and a '-' in front. -/
def rdv (l : List UInt8) : Int := if l.head? = some 45 then -(val l : Int) else (val l : Int)
theorem val_minus (l : List UInt8) : val (45 :: l) = val l := by simp [val, vstep]
theorem itoa_neg (n : Int) (h : n < 0) : itoa n = 45 :: decDigits n.natAbs := by unfold itoa; rw [if_pos h]
theorem itoa_pos (n : Int) (h : ¬ n < 0) : itoa n = decDigits n.toNat := by unfold itoa; rw [if_neg h]
theorem head_dec (u : Nat) : (decDigits u).head? ≠ some 45 := by
  intro h
  have hm : (45 : UInt8) ∈ decDigits u := List.mem_of_mem_head? h
  have := dec_all u 45 hm
  revert this
  decide
theorem rdv_itoa (n : Int) : rdv (itoa n) = n := by
  by_cases h : n < 0
  · rw [itoa_neg n h]
    unfold rdv
    rw [if_pos (show (45 :: decDigits n.natAbs).head? = some 45 from rfl), val_minus, val_dec]; omega
  · rw [itoa_pos n h]
    unfold rdv
    rw [if_neg (head_dec _), val_dec]; omega
theorem atoi_itoa (n : Int) : atoi (itoa n) = some n := by
  by_cases h : n < 0
  · rw [itoa_neg n h]
    simp only [atoi]
    rw [if_pos (by decide), decNat_dec]
    simp only [Option.map_some, Option.some.injEq]
    omega
  · rw [itoa_pos n h]
    match hd : decDigits n.toNat with
    | [] => exact absurd hd (dec_ne _)
    | b :: r =>
      have hall := dec_all n.toNat
      rw [hd] at hall
      have hb := hall b (by simp)
      have h45 : ¬ (b == 45) = true := by
        intro e; rw [beq_iff_eq] at e; subst e; revert hb; decide
      have h43 : ¬ (b == 43) = true := by
        intro e; rw [beq_iff_eq] at e; subst e; revert hb; decide
      simp only [atoi]
      rw [if_neg h45, if_neg h43, ← hd, decNat_dec]
      simp only [Option.map_some, Option.some.injEq]
      omega

/-- What ReadDec answers: the number, where the string is a numeral of at most nine digits. -/
def RdOk (l : List UInt8) (n : Int) : Prop := (trimPrefix l [45]).length ≤ 9 ∧ itoa n = l
theorem trim_minus (l : List UInt8) : trimPrefix (45 :: l) [45] = l := by
  unfold trimPrefix hasPrefix
  simp
theorem trim_other (l : List UInt8) (h : l.head? ≠ some 45) : trimPrefix l [45] = l := by
  unfold trimPrefix hasPrefix
  match l with
  | [] => rfl
  | b :: r =>
    have hb : b ≠ 45 := by simpa using h
    have : List.isPrefixOf [45] (b :: r) = false := by
      simp only [List.isPrefixOf, Bool.and_eq_false_iff]
      left
      rw [beq_eq_false_iff_ne]
      exact fun e => hb e.symm
    rw [this]
    simp
/-- The model's test, where it says yes: the same. -/
theorem model_ok (l : List UInt8) (h1 : cnt l ≤ 9) (h2 : l.length ≤ 10) (h3 : itoa (rdv l) = l) : RdOk l (rdv l) := by
  refine ⟨?_, h3⟩
  by_cases hh : l.head? = some 45
  · match l, hh with
    | b :: r, hh =>
      have hb : b = 45 := by simpa using hh
      subst hb
      rw [trim_minus]
      simp at h2
      omega
  · rw [trim_other l hh]
    have hn : ¬ rdv l < 0 := by unfold rdv; rw [if_neg hh]; omega
    rw [itoa_pos _ hn] at h3
    have := cnt_all l (by rw [← h3]; exact dec_all _)
    omega
theorem ok_model (l : List UInt8) (n : Int) (h : RdOk l n) : rdv l = n ∧ cnt l ≤ 9 ∧ l.length ≤ 10 ∧ itoa (rdv l) = l := by
  obtain ⟨h1, h2⟩ := h
  have e : rdv l = n := by rw [← h2]; exact rdv_itoa n
  refine ⟨e, ?_, ?_, by rw [e]; exact h2⟩
  · by_cases hn : n < 0
    · rw [itoa_neg n hn] at h2
      rw [← h2, trim_minus] at h1
      have hc : cnt (45 :: decDigits n.natAbs) = cnt (decDigits n.natAbs) := by unfold cnt; rw [List.countP_cons]; simp
      rw [← h2, hc]
      have := cnt_le (decDigits n.natAbs)
      omega
    · rw [itoa_pos n hn] at h2
      rw [← h2, trim_other _ (head_dec _)] at h1
      rw [← h2]
      have := cnt_le (decDigits n.toNat)
      omega
  · by_cases hn : n < 0
    · rw [itoa_neg n hn] at h2
      rw [← h2, trim_minus] at h1
      rw [← h2]; simp; omega
    · rw [itoa_pos n hn] at h2
      rw [← h2, trim_other _ (head_dec _)] at h1
      rw [← h2]; omega
end Go.Proofs.YtnaimoppljjcdaaDoor
