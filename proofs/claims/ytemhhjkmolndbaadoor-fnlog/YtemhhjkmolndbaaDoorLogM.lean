/- Logs, in plain words. -/
import Derived.Test.YtemhhjkmolndbaaDoorSgM
import Derived.Test.YtemhhjkmolndbaaDoorEnc2
namespace Go.Proofs.YtemhhjkmolndbaaDoor
open Go.RowKit Go.PlainAid
set_option linter.unusedVariables false

/-- The text is frames and nothing else. -/
@[irreducible] def whl (t : ByteArray) : Bool := decide (fP t (nF t) = t.size)
theorem whl_eq (t : ByteArray) : whl t = true ↔ fP t (nF t) = t.size := by unfold whl; exact decide_eq_true_iff
theorem nF_le5 (s : ByteArray) : 5 * nF s ≤ s.size := by have := fS_size s (nF s) (Nat.le_refl _); omega
/-- The number behind k segments. -/
def atN (l : List Sg) : Nat → Int
  | 0 => sF l 0
  | k + 1 => atN l k + nF (sT l k)
theorem atN_succ (l : List Sg) (k : Nat) : atN l (k + 1) = atN l k + nF (sT l k) := rfl
theorem atN_bd (l : List Sg) (h : ∀ j, j < l.length → (sT l j).size ≤ 1048576) (k : Nat) (hk : k ≤ l.length) : sF l 0 ≤ atN l k ∧ atN l k ≤ sF l 0 + 209716 * k := by
  induction k with
  | zero => exact ⟨Int.le_refl _, by simp [atN]⟩
  | succ k ih =>
    obtain ⟨a, b⟩ := ih (by omega)
    have c := nF_le5 (sT l k)
    have d := h k (by omega)
    rw [atN_succ]
    omega
/-- Segment k is as it must be. -/
@[irreducible] def gB (l : List Sg) (m : Int) (k : Nat) : Bool := decide (sF l k = atN l k) && whl (sT l k) && (decide ((sT l k).size ≤ 60) || decide (nF (sT l k) = 1)) && (decide (k + 1 = l.length) || (decide (nF (sT l k) ≠ 0) && decide (m < atN l k + nF (sT l k) - 1)))
theorem gB_iff (l : List Sg) (m : Int) (k : Nat) : gB l m k = true ↔ sF l k = atN l k ∧ whl (sT l k) = true ∧ ((sT l k).size ≤ 60 ∨ nF (sT l k) = 1) ∧ (k + 1 = l.length ∨ (nF (sT l k) ≠ 0 ∧ m < atN l k + nF (sT l k) - 1)) := by
  unfold gB
  simp only [Bool.and_eq_true, Bool.or_eq_true, decide_eq_true_eq]
  constructor
  · rintro ⟨⟨⟨a, b⟩, c⟩, d⟩; exact ⟨a, b, c, d⟩
  · rintro ⟨a, b, c, d⟩; exact ⟨⟨⟨a, b⟩, c⟩, d⟩
theorem gB_pq {l : List Sg} {m p : Int} {k q k0 : Nat} (hp : atN l k = p) (hq : nF (sT l k) = q) (h0 : l.length = k0) : gB l m k = true ↔ sF l k = p ∧ whl (sT l k) = true ∧ ((sT l k).size ≤ 60 ∨ q = 1) ∧ (k + 1 = k0 ∨ (q ≠ 0 ∧ m < p + q - 1)) := by
  rw [gB_iff, hp, hq, h0]
/-- The log is valid. -/
@[irreducible] def okB (l : List Sg) (n m : Int) : Bool := decide (1 ≤ l.length ∧ l.length ≤ 6 ∧ 1 ≤ sF l 0 ∧ n ≤ 1000 ∧ 0 ≤ m ∧ m ≤ n - 1 ∧ n = atN l l.length ∧ ∀ k, k < l.length → gB l m k = true)
theorem okB_iff (l : List Sg) (n m : Int) : okB l n m = true ↔ (1 ≤ l.length ∧ l.length ≤ 6 ∧ 1 ≤ sF l 0 ∧ n ≤ 1000 ∧ 0 ≤ m ∧ m ≤ n - 1 ∧ n = atN l l.length ∧ ∀ k, k < l.length → gB l m k = true) := by
  unfold okB
  exact decide_eq_true_iff
theorem okB_no (l : List Sg) (n m : Int) (h : ¬ (1 ≤ l.length ∧ l.length ≤ 6 ∧ 1 ≤ sF l 0 ∧ n ≤ 1000 ∧ 0 ≤ m ∧ m ≤ n - 1 ∧ n = atN l l.length ∧ ∀ k, k < l.length → gB l m k = true)) : okB l n m = false := by
  cases e : okB l n m with
  | false => rfl
  | true => exact absurd ((okB_iff l n m).1 e) h
theorem okB_stop (l : List Sg) (n m : Int) (k : Nat) (hk : k < l.length) (h : gB l m k ≠ true) : okB l n m = false := okB_no l n m fun ⟨_, _, _, _, _, _, _, e⟩ => h (e k hk)
theorem atN_mono (l : List Sg) (k j : Nat) (h : k ≤ j) : atN l k ≤ atN l j := by
  induction j with
  | zero => have : k = 0 := by omega
            subst this; exact Int.le_refl _
  | succ j ih =>
    by_cases e : k = j + 1
    · subst e; exact Int.le_refl _
    · have := ih (by omega)
      rw [atN_succ]
      omega
end Go.Proofs.YtemhhjkmolndbaaDoor
