/- When a command is valid, in plain words. Nothing of the program is used here. -/
import Derived.Test.YtlbebeedkcdgpaaDoorCmdM
import Derived.Test.YtlbebeedkcdgpaaDoorMath
import Derived.Test.YtlbebeedkcdgpaaDoorStrs
namespace Go.Proofs.YtlbebeedkcdgpaaDoor
open Go.RowKit Go.PlainAid
set_option linter.unusedVariables false

@[irreducible] def inB (a lo hi : Int) : Bool := decide (lo ≤ a) && decide (a ≤ hi)
theorem inB_iff (a lo hi : Int) : inB a lo hi = true ↔ lo ≤ a ∧ a ≤ hi := by unfold inB; simp
theorem inB_t {a lo hi : Int} (h1 : lo ≤ a) (h2 : a ≤ hi) : inB a lo hi = true := (inB_iff a lo hi).2 ⟨h1, h2⟩
theorem inB_f {a lo hi : Int} (h : a < lo ∨ hi < a) : inB a lo hi = false := by
  rw [Bool.eq_false_iff, ne_eq, inB_iff]; omega
theorem inB_no {a lo hi : Int} (h : inB a lo hi = false) : a < lo ∨ hi < a := by
  have : ¬ inB a lo hi = true := by rw [h]; decide
  rw [inB_iff] at this; omega
/-- A word: one to eight letters a to z. -/
@[irreducible] def wordB (s : ByteArray) : Bool := inB s.size 1 8 && (List.range s.size).all (fun j => inB (bt s j) 97 122)
theorem wordB_iff (s : ByteArray) : wordB s = true ↔ inB s.size 1 8 = true ∧ ∀ j, j < s.size → 97 ≤ bt s j ∧ bt s j ≤ 122 := by
  unfold wordB; simp [inB_iff]
theorem wordB_len {s : ByteArray} (h : inB s.size 1 8 = false) : wordB s = false := by
  rw [Bool.eq_false_iff, ne_eq, wordB_iff, h]; simp
theorem wordB_bad {s : ByteArray} (j : Nat) (hj : j < s.size) (h : bt s j < 97 ∨ 122 < bt s j) : wordB s = false := by
  rw [Bool.eq_false_iff, ne_eq, wordB_iff]
  intro ⟨_, h2⟩
  have := h2 j hj
  omega
/-- A word where one must be, and nothing elsewhere. -/
@[irreducible] def mayB (b : Bool) (s : ByteArray) : Bool := if b then wordB s else decide (s.size = 0)
theorem mayB_true (s : ByteArray) : mayB true s = wordB s := by unfold mayB; rfl
theorem mayB_false (s : ByteArray) : mayB false s = decide (s.size = 0) := by unfold mayB; rfl
/-- One to four strings of eight bytes. -/
@[irreducible] def idsB (l : List ByteArray) : Bool := inB l.length 1 4 && (List.range l.length).all (fun j => decide ((el l j).size = 8))
theorem idsB_iff (l : List ByteArray) : idsB l = true ↔ inB l.length 1 4 = true ∧ ∀ j, j < l.length → (el l j).size = 8 := by
  unfold idsB; simp
theorem idsB_len {l : List ByteArray} (h : inB l.length 1 4 = false) : idsB l = false := by
  rw [Bool.eq_false_iff, ne_eq, idsB_iff, h]; simp
theorem idsB_bad {l : List ByteArray} (j : Nat) (hj : j < l.length) (h : (el l j).size ≠ 8) : idsB l = false := by
  rw [Bool.eq_false_iff, ne_eq, idsB_iff]
  intro ⟨_, h2⟩
  exact h (h2 j hj)
def zeroC : CmdM := ⟨0, 0, 0, ⟨#[]⟩, ⟨#[]⟩, ⟨#[]⟩, 0, []⟩
@[irreducible] def numsB (c : CmdM) : Bool := inB c.kind 1 7 && (inB c.client 1 9 && (inB c.no 1 1000 && inB c.n 0 (if c.kind == 5 then 9 else 0)))
@[irreducible] def textsB (c : CmdM) : Bool := mayB (c.kind != 7) c.set && (mayB (c.kind == 3 || c.kind == 4) c.name && mayB (c.kind == 4) c.tag)
@[irreducible] def chunksB (c : CmdM) : Bool := if c.kind == 3 then idsB c.ch else decide (c.ch.length = 0)
/-- A valid command. -/
@[irreducible] def okB (c : CmdM) : Bool := decide (c = zeroC) || (numsB c && (textsB c && chunksB c))
theorem size_zero {s : ByteArray} (h : s.size = 0) : s = ⟨#[]⟩ := by
  apply ByteArray.ext
  exact Array.eq_empty_of_size_eq_zero h
theorem bne_yes {a b : Int} (h : a ≠ b) : (a != b) = true := by simpa using h
end Go.Proofs.YtlbebeedkcdgpaaDoor
