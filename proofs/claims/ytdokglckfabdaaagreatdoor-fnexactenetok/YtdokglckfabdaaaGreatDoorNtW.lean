/- Valid networks in plain words. -/
import Derived.Test.YtdokglckfabdaaaGreatDoorNtM
import Derived.Test.YtdokglckfabdaaaGreatDoorNdW
import Derived.Test.YtdokglckfabdaaaGreatDoorEmV
namespace Go.Proofs.YtdokglckfabdaaaGreatDoor
open Go.RowKit Go.PlainAid
set_option linter.unusedVariables false

/-- One of the first k is the message. -/
@[irreducible] def hasE (l : List Em) (k : Nat) (m : Em) : Bool := (List.range k).any (fun j => smB (nthE l j) m)
theorem hasE_yes (l : List Em) (k j : Nat) (m : Em) (hj : j < k) (h : smB (nthE l j) m = true) : hasE l k m = true := by
  unfold hasE
  rw [List.any_eq_true]
  exact ⟨j, by simpa using hj, h⟩
theorem hasE_no (l : List Em) (k : Nat) (m : Em) (h : ∀ j, j < k → smB (nthE l j) m = false) : hasE l k m = false := by
  unfold hasE
  rw [List.any_eq_false]
  intro j hj
  rw [h j (by simpa using hj)]
  simp
theorem hasE_take (l : List Em) (k : Nat) (m : Em) (hk : k ≤ l.length) : hasE (l.take k) (l.take k).length m = hasE l k m := by
  have hl : (l.take k).length = k := by rw [List.length_take]; omega
  have e : ∀ j, j < k → nthE (l.take k) j = nthE l j := fun j hj => nthE_of (by rw [List.getElem?_take, if_pos hj, nthE_get l j (by omega)])
  rw [hl]
  cases h : hasE l k m
  · refine hasE_no _ _ _ (fun j hj => ?_)
    rw [e j hj]
    cases h2 : smB (nthE l j) m
    · rfl
    · rw [hasE_yes l k j m hj h2] at h; cases h
  · cases h2 : hasE (l.take k) k m
    · rw [hasE_no l k m (fun j hj => by
        cases h3 : smB (nthE l j) m
        · rfl
        · rw [hasE_yes (l.take k) k j m hj (by rw [e j hj]; exact h3)] at h2; cases h2)] at h
      cases h
    · rfl
@[irreducible] def okM (l : List Em) (k : Nat) : Bool := emB (nthE l k) && !hasE l k (nthE l k)
theorem okM_eq (l : List Em) (k : Nat) : okM l k = (emB (nthE l k) && !hasE l k (nthE l k)) := by unfold okM; rfl
@[irreducible] def poolB (l : List Em) : Bool := decide (l.length ≤ 160) && (List.range l.length).all (okM l)
theorem poolB_big (l : List Em) (h : 160 < l.length) : poolB l = false := by
  unfold poolB
  rw [decide_eq_false (by omega)]
  rfl
theorem poolB_no (l : List Em) (k : Nat) (hk : k < l.length) (h : okM l k = false) : poolB l = false := by
  unfold poolB
  rw [show (List.range l.length).all (okM l) = false by rw [List.all_eq_false]; exact ⟨k, by simpa using hk, by rw [h]; simp⟩]
  simp
theorem poolB_yes (l : List Em) (hl : l.length ≤ 160) (h : ∀ j, j < l.length → okM l j = true) : poolB l = true := by
  unfold poolB
  rw [decide_eq_true hl, show (List.range l.length).all (okM l) = true by rw [List.all_eq_true]; exact fun j hj => h j (by simpa using hj)]
  rfl
@[irreducible] def okN (l : List Nd) (k : Nat) : Bool := decide ((nthN l k).me = (k : Int)) && nodeB (nthN l k)
theorem okN_eq (l : List Nd) (k : Nat) : okN l k = (decide ((nthN l k).me = (k : Int)) && nodeB (nthN l k)) := by unfold okN; rfl
@[irreducible] def nodesB (l : List Nd) : Bool := decide (l.length = 3) && (List.range 3).all (okN l)
theorem nodesB_len (l : List Nd) (h : l.length ≠ 3) : nodesB l = false := by
  unfold nodesB
  rw [decide_eq_false h]
  rfl
theorem nodesB_no (l : List Nd) (k : Nat) (hk : k < 3) (h : okN l k = false) : nodesB l = false := by
  unfold nodesB
  rw [show (List.range 3).all (okN l) = false by rw [List.all_eq_false]; exact ⟨k, by simpa using hk, by rw [h]; simp⟩]
  simp
theorem nodesB_yes (l : List Nd) (hl : l.length = 3) (h : ∀ j, j < 3 → okN l j = true) : nodesB l = true := by
  unfold nodesB
  rw [decide_eq_true hl, show (List.range 3).all (okN l) = true by rw [List.all_eq_true]; exact fun j hj => h j (by simpa using hj)]
  rfl
@[irreducible] def netB (x : Nt) : Bool := nodesB x.nodes && poolB x.pool
theorem netB_eq (x : Nt) : netB x = (nodesB x.nodes && poolB x.pool) := by unfold netB; rfl
theorem netB_n {x : Nt} (h : nodesB x.nodes = false) : netB x = false := by rw [netB_eq, h]; rfl
theorem netB_p {x : Nt} (h : poolB x.pool = false) : netB x = false := by rw [netB_eq, h]; simp
end Go.Proofs.YtdokglckfabdaaaGreatDoor
