/- How many segments a checkpoint covers, in plain words. -/
import Derived.Test.YtemhhjkmolndbaaDoorLogM
namespace Go.Proofs.YtemhhjkmolndbaaDoor
open Go.RowKit Go.PlainAid
set_option linter.unusedVariables false

/-- Segment k is not the last one, and all its records are at most m. -/
def Cov (l : List Sg) (m : Int) (k : Nat) : Prop := k + 1 < l.length ∧ sF l (k + 1) - 1 ≤ m
instance (l : List Sg) (m : Int) (k : Nat) : Decidable (Cov l m k) := by unfold Cov; infer_instance
def dNu (l : List Sg) (m : Int) : Nat → Nat → Nat
  | 0, k => k
  | f + 1, k => if Cov l m k then dNu l m f (k + 1) else k
@[irreducible] def dN (l : List Sg) (m : Int) : Nat := dNu l m l.length 0
theorem dNu_ok (l : List Sg) (m : Int) (f k : Nat) (h : l.length ≤ f + k) (hk : ∀ j, j < k → Cov l m j) : (∀ j, j < dNu l m f k → Cov l m j) ∧ ¬ Cov l m (dNu l m f k) := by
  induction f generalizing k with
  | zero => exact ⟨hk, fun h' => by have := h'.1; simp only [dNu] at this; omega⟩
  | succ f ih =>
    unfold dNu
    by_cases hc : Cov l m k
    · rw [if_pos hc]
      refine ih (k + 1) (by omega) fun j hj => ?_
      by_cases e : j = k
      · subst e; exact hc
      · exact hk j (by omega)
    · rw [if_neg hc]
      exact ⟨hk, hc⟩
theorem dN_ok (l : List Sg) (m : Int) : (∀ j, j < dN l m → Cov l m j) ∧ ¬ Cov l m (dN l m) := by
  unfold dN
  exact dNu_ok l m l.length 0 (by omega) (fun j hj => by omega)
theorem dN_eq (l : List Sg) (m : Int) (k : Nat) (h : ∀ j, j < k → Cov l m j) (hk : ¬ Cov l m k) : k = dN l m := by
  obtain ⟨a, b⟩ := dN_ok l m
  rcases Nat.lt_trichotomy k (dN l m) with h' | h' | h'
  · exact absurd (a k h') hk
  · exact h'
  · exact absurd (h _ h') b
theorem dN_lt (l : List Sg) (m : Int) (h : 0 < l.length) : dN l m < l.length := by
  obtain ⟨a, b⟩ := dN_ok l m
  rcases Nat.eq_zero_or_pos (dN l m) with h' | h'
  · omega
  · have := (a (dN l m - 1) (by omega)).1
    omega
end Go.Proofs.YtemhhjkmolndbaaDoor
