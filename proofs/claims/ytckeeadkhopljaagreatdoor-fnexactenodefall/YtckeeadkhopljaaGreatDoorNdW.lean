/- Valid nodes in plain words. -/
import Derived.Test.YtckeeadkhopljaaGreatDoorNdM
import Derived.Test.YtckeeadkhopljaaGreatDoorLdP
import Derived.Test.YtckeeadkhopljaaGreatDoorInLX
namespace Go.Proofs.YtckeeadkhopljaaGreatDoor
open Go.RowKit Go.PlainAid
set_option linter.unusedVariables false

/-- An Id of the node's own that it has not given out yet. -/
@[irreducible] def earlyB (me next r s : Int) : Bool := (r == me) && decide (next ≤ s)
theorem earlyB_eq (me next r s : Int) : earlyB me next r s = ((r == me) && decide (next ≤ s)) := by unfold earlyB; rfl
@[irreducible] def noneB (me next : Int) (l : List In) : Bool := (List.range l.length).all (fun j => !earlyB me next (nth l j).rep (nth l j).slot)
theorem noneB_yes (me next : Int) (l : List In) (h : ∀ j, j < l.length → earlyB me next (nth l j).rep (nth l j).slot = false) : noneB me next l = true := by
  unfold noneB
  rw [List.all_eq_true]
  intro j hj
  rw [h j (by simpa using hj)]
  rfl
theorem noneB_no (me next : Int) (l : List In) (k : Nat) (hk : k < l.length) (h : earlyB me next (nth l k).rep (nth l k).slot = true) : noneB me next l = false := by
  unfold noneB
  rw [List.all_eq_false]
  exact ⟨k, by simpa using hk, by rw [h]; simp⟩
/-- The first Lead of an Id: its place, or -1. -/
@[irreducible] def atZ (l : List Ld) (r s : Int) : Int :=
  match (List.range l.length).find? (fun j => (nthL l j).rep == r && (nthL l j).slot == s) with
  | some j => (j : Int)
  | none => -1
theorem atZ_hit (l : List Ld) (r s : Int) (k : Nat) (hk : k < l.length) (h : ∀ j, j < k → ¬ ((nthL l j).rep = r ∧ (nthL l j).slot = s)) (h1 : (nthL l k).rep = r) (h2 : (nthL l k).slot = s) : atZ l r s = k := by
  have e : (List.range l.length).find? (fun j => (nthL l j).rep == r && (nthL l j).slot == s) = some k := by
    rw [List.find?_range_eq_some]
    refine ⟨by simp [h1, h2], by simpa using hk, fun j hj => ?_⟩
    have := h j hj
    rw [Bool.not_eq_true', Bool.eq_false_iff]
    simpa using this
  unfold atZ
  rw [e]
theorem atZ_miss (l : List Ld) (r s : Int) (h : ∀ j, j < l.length → ¬ ((nthL l j).rep = r ∧ (nthL l j).slot = s)) : atZ l r s = -1 := by
  have e : (List.range l.length).find? (fun j => (nthL l j).rep == r && (nthL l j).slot == s) = none := by
    rw [List.find?_range_eq_none]
    intro j hj
    have := h j hj
    rw [Bool.not_eq_true', Bool.eq_false_iff]
    simpa using this
  unfold atZ
  rw [e]
/-- A Lead ahead of the k-th has its Id. -/
@[irreducible] def dupB (l : List Ld) (k : Nat) : Bool := (List.range k).any (fun j => decide ((nthL l j).rep = (nthL l k).rep ∧ (nthL l j).slot = (nthL l k).slot))
theorem dupB_yes (l : List Ld) (k j : Nat) (hj : j < k) (h : (nthL l j).rep = (nthL l k).rep ∧ (nthL l j).slot = (nthL l k).slot) : dupB l k = true := by
  unfold dupB
  rw [List.any_eq_true]
  exact ⟨j, by simpa using hj, decide_eq_true h⟩
theorem dupB_no (l : List Ld) (k : Nat) (h : ∀ j, j < k → ¬ ((nthL l j).rep = (nthL l k).rep ∧ (nthL l j).slot = (nthL l k).slot)) : dupB l k = false := by
  unfold dupB
  rw [List.any_eq_false]
  intro j hj
  simp only [decide_eq_true_eq]
  exact h j (by simpa using hj)
theorem dupB_iff (l : List Ld) (k : Nat) : dupB l k = true ↔ ∃ j, j < k ∧ (nthL l j).rep = (nthL l k).rep ∧ (nthL l j).slot = (nthL l k).slot := by
  constructor
  · intro h
    unfold dupB at h
    rw [List.any_eq_true] at h
    obtain ⟨j, hj, e⟩ := h
    exact ⟨j, by simpa using hj, of_decide_eq_true e⟩
  · rintro ⟨j, hj, e⟩
    exact dupB_yes l k j hj e
theorem atZ_range (l : List Ld) (r s : Int) : -1 ≤ atZ l r s ∧ atZ l r s < (l.length : Int) ∨ atZ l r s = -1 := by
  unfold atZ
  split
  · rename_i j hj
    rw [List.find?_range_eq_some] at hj
    have := hj.2.1
    rw [List.mem_range] at this
    left; omega
  · right; rfl
theorem atZ_dup (l : List Ld) (k : Nat) (hk : k < l.length) : (atZ l (nthL l k).rep (nthL l k).slot == (k : Int)) = !dupB l k := by
  cases h : dupB l k
  · have hn : ∀ j, j < k → ¬ ((nthL l j).rep = (nthL l k).rep ∧ (nthL l j).slot = (nthL l k).slot) := fun j hj e => by rw [dupB_yes l k j hj e] at h; cases h
    rw [atZ_hit l _ _ k hk hn rfl rfl]
    simp
  · obtain ⟨j, hj, e1, e2⟩ := (dupB_iff l k).1 h
    rw [Bool.not_true, beq_eq_false_iff_ne]
    intro e
    unfold atZ at e
    split at e
    · rename_i q hq
      have hqk : q = k := by omega
      subst hqk
      rw [List.find?_range_eq_some] at hq
      have := hq.2.2 j hj
      simp [e1, e2] at this
    · omega
@[irreducible] def ldsAt (l : List Ld) (k : Nat) : Bool := ldB (nthL l k) && !dupB l k
theorem ldsAt_eq (l : List Ld) (k : Nat) : ldsAt l k = (ldB (nthL l k) && !dupB l k) := by unfold ldsAt; rfl
/-- Valid Leads. -/
@[irreducible] def ldsB (l : List Ld) : Bool := decide (l.length ≤ 8) && (List.range l.length).all (ldsAt l)
theorem ldsB_yes (l : List Ld) (h8 : l.length ≤ 8) (h : ∀ j, j < l.length → ldsAt l j = true) : ldsB l = true := by
  unfold ldsB
  rw [decide_eq_true h8, Bool.true_and, List.all_eq_true]
  intro j hj
  exact h j (by simpa using hj)
theorem ldsB_no (l : List Ld) (k : Nat) (hk : k < l.length) (h : ldsAt l k = false) : ldsB l = false := by
  unfold ldsB
  rw [Bool.and_eq_false_iff]
  right
  rw [List.all_eq_false]
  exact ⟨k, by simpa using hk, by rw [h]; simp⟩
theorem ldsB_big (l : List Ld) (h : 8 < l.length) : ldsB l = false := by
  unfold ldsB
  rw [decide_eq_false (by omega)]
  rfl
/-- A valid node. -/
@[irreducible] def nodeB (x : Nd) : Bool := iv x.me 0 2 && (iv x.next 1 7 && (instsB x.insts && (noneB x.me x.next x.insts && ldsB x.leads)))
theorem nodeB_eq (x : Nd) : nodeB x = (iv x.me 0 2 && (iv x.next 1 7 && (instsB x.insts && (noneB x.me x.next x.insts && ldsB x.leads)))) := by unfold nodeB; rfl
end Go.Proofs.YtckeeadkhopljaaGreatDoor
