/- Valid Leads in plain words. -/
import Derived.Test.YtckeeadkhopljaaGreatDoorLdB
import Derived.Test.YtckeeadkhopljaaGreatDoorInVX
namespace Go.Proofs.YtckeeadkhopljaaGreatDoor
open Go.RowKit Go.PlainAid
set_option linter.unusedVariables false

/-- The j-th is a node's number and behind the one ahead of it. -/
@[irreducible] def okNs (l : List Int) (j : Nat) : Bool := iv (nI l j) 0 2 && (decide (j = 0) || decide (nI l (j - 1) < nI l j))
theorem okNs_eq (l : List Int) (j : Nat) : okNs l j = (iv (nI l j) 0 2 && (decide (j = 0) || decide (nI l (j - 1) < nI l j))) := by unfold okNs; rfl
theorem okNs_zero (l : List Int) : okNs l 0 = iv (nI l 0) 0 2 := by rw [okNs_eq]; simp
theorem okNs_succ (l : List Int) (j : Nat) (h : 0 < j) : okNs l j = (iv (nI l j) 0 2 && decide (nI l (j - 1) < nI l j)) := by rw [okNs_eq, decide_eq_false (by omega : ¬ j = 0)]; simp
/-- The numbers of the nodes that answered. -/
@[irreducible] def frmB (l : List Int) : Bool := (List.range l.length).all (okNs l)
theorem frmB_eq (l : List Int) : frmB l = (List.range l.length).all (okNs l) := by unfold frmB; rfl
theorem frmB_yes (l : List Int) (h : ∀ j, j < l.length → okNs l j = true) : frmB l = true := by
  rw [frmB_eq, List.all_eq_true]
  intro j hj
  exact h j (by simpa using hj)
theorem frmB_no (l : List Int) (k : Nat) (hk : k < l.length) (h : okNs l k = false) : frmB l = false := by
  rw [frmB_eq, List.all_eq_false]
  exact ⟨k, by simpa using hk, by rw [h]; simp⟩
theorem frmB_at {l : List Int} (h : frmB l = true) (j : Nat) (hj : j < l.length) : okNs l j = true := by
  rw [frmB_eq, List.all_eq_true] at h
  exact h j (by simpa using hj)
theorem iv_iff (a lo hi : Int) : iv a lo hi = true ↔ lo ≤ a ∧ a ≤ hi := by unfold iv; simp
theorem frmB_ge {l : List Int} (h : frmB l = true) : ∀ j, j < l.length → (j : Int) ≤ nI l j
  | 0, hj => by
    have := frmB_at h 0 hj
    rw [okNs_zero, iv_iff] at this
    omega
  | j + 1, hj => by
    have ih := frmB_ge h j (by omega)
    have := frmB_at h (j + 1) hj
    rw [okNs_succ _ _ (by omega)] at this
    simp only [Bool.and_eq_true, decide_eq_true_eq, Nat.add_sub_cancel] at this
    omega
theorem frmB_len {l : List Int} (h : frmB l = true) : l.length ≤ 3 := by
  by_cases h3 : l.length ≤ 3
  · exact h3
  · have a := frmB_ge h 3 (by omega)
    have b := frmB_at h 3 (by omega)
    rw [okNs_succ _ _ (by omega)] at b
    simp only [Bool.and_eq_true, iv_iff] at b
    omega
/-- A valid Lead. -/
@[irreducible] def ldB (x : Ld) : Bool := idB x.rep x.slot && (iv x.bal 0 600 && (iv x.ph 1 3 && (iv x.seq 0 60 && (idlB x.deps && (!(hasB x.deps x.rep x.slot) && frmB x.frm)))))
theorem ldB_eq (x : Ld) : ldB x = (idB x.rep x.slot && (iv x.bal 0 600 && (iv x.ph 1 3 && (iv x.seq 0 60 && (idlB x.deps && (!(hasB x.deps x.rep x.slot) && frmB x.frm)))))) := by unfold ldB; rfl
end Go.Proofs.YtckeeadkhopljaaGreatDoor
