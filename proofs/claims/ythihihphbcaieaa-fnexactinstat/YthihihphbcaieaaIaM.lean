/- InstAt in plain words. -/
import Derived.Test.YthihihphbcaieaaInSz
namespace Go.Proofs.Ythihihphbcaieaa
set_option linter.unusedVariables false

/-- What is there where nothing is. -/
abbrev inD (r s : Int) : In := ⟨r, s, -1, -1, 0, cmd0, 0, [], false⟩
@[irreducible] def atX (l : List In) (r s : Int) : In :=
  match (List.range l.length).find? (fun j => (nth l j).rep == r && (nth l j).slot == s) with
  | some j => nth l j
  | none => inD r s
theorem atX_hit (l : List In) (r s : Int) (k : Nat) (hk : k < l.length) (h : ∀ j, j < k → ¬ ((nth l j).rep = r ∧ (nth l j).slot = s)) (h1 : (nth l k).rep = r) (h2 : (nth l k).slot = s) : atX l r s = nth l k := by
  have e : (List.range l.length).find? (fun j => (nth l j).rep == r && (nth l j).slot == s) = some k := by
    rw [List.find?_range_eq_some]
    refine ⟨by simp [h1, h2], by simpa using hk, fun j hj => ?_⟩
    have := h j hj
    rw [Bool.not_eq_true', Bool.eq_false_iff]
    simpa using this
  unfold atX
  rw [e]
theorem atX_miss (l : List In) (r s : Int) (h : ∀ j, j < l.length → ¬ ((nth l j).rep = r ∧ (nth l j).slot = s)) : atX l r s = inD r s := by
  have e : (List.range l.length).find? (fun j => (nth l j).rep == r && (nth l j).slot == s) = none := by
    rw [List.find?_range_eq_none]
    intro j hj
    have := h j hj
    rw [Bool.not_eq_true', Bool.eq_false_iff]
    simpa using this
  unfold atX
  rw [e]
end Go.Proofs.Ythihihphbcaieaa
