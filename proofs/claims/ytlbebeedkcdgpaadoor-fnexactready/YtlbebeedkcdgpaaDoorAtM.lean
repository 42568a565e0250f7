/- AttrsOf in plain words. -/
import Derived.Test.YtlbebeedkcdgpaaDoorInL
import Derived.Test.YtlbebeedkcdgpaaDoorClash
namespace Go.Proofs.YtlbebeedkcdgpaaDoor
set_option linter.unusedVariables false

theorem clashB_comm (c d : CmdM) : clashB c d = clashB d c := by
  unfold clashB
  have e : decide (c.set = d.set) = decide (d.set = c.set) := by rw [Bool.eq_iff_iff]; simp [eq_comm]
  rw [e]
  cases okB c <;> cases okB d <;> cases (c.kind == 0) <;> cases (d.kind == 0) <;> cases (c.kind == 7) <;> cases (d.kind == 7) <;> simp
/-- x counts for the attributes of c at the Id (r, s). -/
@[irreducible] def pickB (r s : Int) (c : CmdM) (x : In) : Bool := !(x.rep == r && x.slot == s) && (!(x.st == 0) && clashB x.cmd c)
theorem pickB_eq (r s : Int) (c : CmdM) (x : In) : pickB r s c x = (!(x.rep == r && x.slot == s) && (!(x.st == 0) && clashB x.cmd c)) := by unfold pickB; rfl
theorem pickB_same {r s : Int} {x : In} (c : CmdM) (h1 : x.rep = r) (h2 : x.slot = s) : pickB r s c x = false := by rw [pickB_eq]; simp [h1, h2]
theorem pickB_none {x : In} (r s : Int) (c : CmdM) (h : x.st = 0) : pickB r s c x = false := by rw [pickB_eq]; simp [h]
theorem pickB_other {r s : Int} {x : In} (c : CmdM) (h : ¬ (x.rep = r ∧ x.slot = s)) (h2 : x.st ≠ 0) : pickB r s c x = clashB x.cmd c := by
  rw [pickB_eq]
  have e1 : (x.rep == r && x.slot == s) = false := by rw [Bool.eq_false_iff]; simpa using h
  have e2 : (x.st == 0) = false := by simpa using h2
  rw [e1, e2]; simp
def depL (r s : Int) (c : CmdM) (l : List In) : List Ii := (l.filter (pickB r s c)).map fun x => ⟨x.rep, x.slot⟩
def mxL (r s : Int) (c : CmdM) (l : List In) : Int := (l.filter (pickB r s c)).foldl (fun m x => max m x.seq) 0
theorem take_in_succ (l : List In) (k : Nat) (h : k < l.length) : l.take (k + 1) = l.take k ++ [nth l k] := by
  rw [List.take_add_one, nth_get l k h]; rfl
theorem depL_no {r s : Int} {c : CmdM} {l : List In} {k : Nat} (h : k < l.length) (hp : pickB r s c (nth l k) = false) : depL r s c (l.take (k + 1)) = depL r s c (l.take k) := by
  rw [depL, depL, take_in_succ l k h, List.filter_append]; simp [hp]
theorem depL_yes {r s : Int} {c : CmdM} {l : List In} {k : Nat} (h : k < l.length) (hp : pickB r s c (nth l k) = true) : depL r s c (l.take (k + 1)) = depL r s c (l.take k) ++ [⟨(nth l k).rep, (nth l k).slot⟩] := by
  rw [depL, depL, take_in_succ l k h, List.filter_append]; simp [hp]
theorem mxL_no {r s : Int} {c : CmdM} {l : List In} {k : Nat} (h : k < l.length) (hp : pickB r s c (nth l k) = false) : mxL r s c (l.take (k + 1)) = mxL r s c (l.take k) := by
  rw [mxL, mxL, take_in_succ l k h, List.filter_append]; simp [hp]
theorem mxL_yes {r s : Int} {c : CmdM} {l : List In} {k : Nat} (h : k < l.length) (hp : pickB r s c (nth l k) = true) : mxL r s c (l.take (k + 1)) = max (mxL r s c (l.take k)) (nth l k).seq := by
  rw [mxL, mxL, take_in_succ l k h, List.filter_append]; simp [hp]
theorem seq_of_ok {l : List In} (h : instsB l = true) (k : Nat) (hk : k < l.length) : 0 ≤ (nth l k).seq ∧ (nth l k).seq ≤ 60 := by
  have h1 := instsB_at h k hk
  rw [okIn_eq, instB_eq] at h1
  simp only [Bool.and_eq_true] at h1
  have h2 := h1.1.2.2.2.2.2.1
  by_cases e : 0 ≤ (nth l k).seq ∧ (nth l k).seq ≤ 60
  · exact e
  · rw [iv_f (by omega)] at h2; cases h2
theorem depL_length (r s : Int) (c : CmdM) (l : List In) (k : Nat) : (depL r s c (l.take k)).length ≤ k := by
  rw [depL, List.length_map]
  have := List.length_filter_le (pickB r s c) (l.take k)
  rw [List.length_take] at this
  omega
/-- AttrsOf. -/
@[irreducible] def atSeq (r s : Int) (c : CmdM) (l : List In) : Int := if instsB l then mxL r s c l + 1 else 0
@[irreducible] def atDep (r s : Int) (c : CmdM) (l : List In) : List Ii := if instsB l then depL r s c l else []
theorem atSeq_eq (r s : Int) (c : CmdM) (l : List In) : atSeq r s c l = if instsB l then mxL r s c l + 1 else 0 := by unfold atSeq; rfl
theorem atDep_eq (r s : Int) (c : CmdM) (l : List In) : atDep r s c l = if instsB l then depL r s c l else [] := by unfold atDep; rfl
end Go.Proofs.YtlbebeedkcdgpaaDoor
