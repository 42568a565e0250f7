/- The encoding of a command, in plain words. Nothing of the program is used here. -/
import Derived.Test.YtkeoeempdkpafaaDoorOkM
import Derived.Test.YtkeoeempdkpafaaDoorVarT
import Derived.Lib.Join
namespace Go.Proofs.YtkeoeempdkpafaaDoor
open Go.RowKit Go.PlainAid
set_option linter.unusedVariables false

theorem els_map (l : List ByteArray) : (List.range l.length).map (fun j => (el l j).data.toList) = l.map (·.data.toList) := by
  apply List.ext_getElem?
  intro j
  by_cases hj : j < l.length
  · rw [List.getElem?_map, List.getElem?_map, List.getElem?_range hj, el_get l j hj]
    rfl
  · rw [List.getElem?_eq_none (by simp; omega), List.getElem?_eq_none (by simp; omega)]
theorem join_flat (xs : List (List UInt8)) : Lib.join xs [] = xs.flatten := by
  cases xs with
  | nil => rfl
  | cons x r =>
    rw [Lib.join_cons, Lib.joinTail]
    simp
theorem join_cat (l : List ByteArray) : (⟨(Lib.join (l.map (·.data.toList)) []).toArray⟩ : ByteArray) = catN l l.length := by
  unfold catN
  rw [els_map, join_flat]
/-- The encoding of a valid command. -/
@[irreducible] def showB (c : CmdM) : ByteArray := varS c.kind ++ varS c.client ++ varS c.no ++ varS c.n ++ showT c.set ++ showT c.name ++ showT c.tag ++ varS c.ch.length ++ catN c.ch c.ch.length
@[irreducible] def showS (c : CmdM) : ByteArray := if okB c then showB c else ⟨#[]⟩
/-- The bounds of a valid command. -/
theorem okB_fit (c : CmdM) (h : okB c = true) : (0 ≤ c.kind ∧ c.kind ≤ 7) ∧ (0 ≤ c.client ∧ c.client ≤ 9) ∧ (0 ≤ c.no ∧ c.no ≤ 1000) ∧ (0 ≤ c.n ∧ c.n ≤ 9) ∧ c.set.size ≤ 8 ∧ c.name.size ≤ 8 ∧ c.tag.size ≤ 8 ∧ c.ch.length ≤ 4 ∧ ∀ j, j < c.ch.length → (el c.ch j).size = 8 := by
  have may : ∀ b s, mayB b s = true → s.size ≤ 8 := by
    intro b s hm
    cases b
    · rw [mayB_false] at hm; have := of_decide_eq_true hm; omega
    · rw [mayB_true, wordB_iff, inB_iff] at hm; omega
  unfold okB at h
  rw [Bool.or_eq_true] at h
  rcases h with h | h
  · have e : c = zeroC := of_decide_eq_true h
    subst e
    refine ⟨by decide, by decide, by decide, by decide, by decide, by decide, by decide, by decide, fun j hj => ?_⟩
    simp [zeroC] at hj
  · rw [Bool.and_eq_true, Bool.and_eq_true] at h
    obtain ⟨h1, h2, h3⟩ := h
    unfold numsB at h1
    unfold textsB at h2
    simp only [Bool.and_eq_true, inB_iff] at h1 h2
    obtain ⟨a1, a2, a3, a4⟩ := h1
    obtain ⟨t1, t2, t3⟩ := h2
    have hch : c.ch.length ≤ 4 ∧ ∀ j, j < c.ch.length → (el c.ch j).size = 8 := by
      unfold chunksB at h3
      split at h3
      · rw [idsB_iff, inB_iff] at h3
        exact ⟨by omega, h3.2⟩
      · have := of_decide_eq_true h3
        exact ⟨by omega, fun j hj => by omega⟩
    refine ⟨by omega, by omega, by omega, ?_, may _ _ t1, may _ _ t2, may _ _ t3, hch.1, hch.2⟩
    split at a4 <;> omega
end Go.Proofs.YtkeoeempdkpafaaDoor
