/- Slices of strings: how they are read, compared, copied and measured. -/
import Derived.Test.YtlbebeedkcdgpaaDoorRows
import Derived.WalkKit
import Derived.WalkSpells
import Derived.WalkLawsBesides
import Derived.Lib.Hide
import Derived.Laws.CopyOwn
import Derived.Lib.SmallJoins
import Derived.Deep.OwnRows
import Derived.BigQuiet
import Derived.Below
import Derived.PlainAid
import Derived.Lib.IndexBytes
import Derived.Laws.BytesArg
namespace Go.Proofs.YtlbebeedkcdgpaaDoor
open Go.RowKit Go.PlainAid
set_option linter.unusedVariables false

/-- Element j of a list of strings. -/
@[irreducible] def el (l : List ByteArray) (j : Nat) : ByteArray := l.getD j ByteArray.empty
theorem el_eq (l : List ByteArray) (j : Nat) : el l j = l.getD j ByteArray.empty := by unfold el; rfl
theorem el_get (l : List ByteArray) (j : Nat) (h : j < l.length) : l[j]? = some (el l j) := by
  rw [el_eq, List.getD, List.getElem?_eq_getElem h]; rfl
theorem el_mem (l : List ByteArray) (j : Nat) (h : j < l.length) : el l j ∈ l := by
  have := el_get l j h
  exact List.mem_of_getElem? this
theorem el_ext (l m : List ByteArray) (h : l.length = m.length) (he : ∀ j, j < l.length → el l j = el m j) : l = m := by
  apply List.ext_getElem?
  intro j
  by_cases hj : j < l.length
  · rw [el_get l j hj, el_get m j (by omega), he j hj]
  · rw [List.getElem?_eq_none (by omega), List.getElem?_eq_none (by omega)]

/-- The value v is a slice of strings that reads as l. -/
structure Strs (w : World) (v : Value) (l : List ByteArray) : Prop where
  len : l.length ≤ 9223372036854775807
  size : ∀ j, j < l.length → (el l j).size ≤ 9223372036854775807
  at_ : ∃ a cap, v = .slice a l.length cap ∧ l.length ≤ cap ∧ (0 < l.length → ∃ b o, a = some ⟨b, o, none⟩ ∧ b < w.heap.size ∧ ∀ j, j < l.length → w.cell? ⟨b, o + j, none⟩ = some (.string (el l j)))
theorem cell_lt {w : World} {p : Addr} {v : Value} (h : w.cell? p = some v) : p.block < w.heap.size := by
  rcases Nat.lt_or_ge p.block w.heap.size with h' | h'
  · exact h'
  · exfalso
    unfold World.cell? at h
    rw [Array.getElem?_eq_none h'] at h
    cases h
theorem Strs.form {w : World} {v : Value} {l : List ByteArray} (h : Strs w v l) : ∃ a n cap, v = .slice a n cap := by
  obtain ⟨_, _, a, cap, e, _⟩ := h
  exact ⟨a, _, cap, e⟩
theorem Strs.later {w w' : World} {v : Value} {l : List ByteArray} (h : Strs w v l) (hb : Below w.heap.size w w') : Strs w' v l := by
  obtain ⟨h1, h2, a, cap, e, hc, h3⟩ := h
  refine ⟨h1, h2, a, cap, e, hc, fun h0 => ?_⟩
  obtain ⟨b, o, ha, hbl, hcl⟩ := h3 h0
  exact ⟨b, o, ha, Nat.lt_of_lt_of_le hbl hb.size, fun j hj => by rw [hb.cell (p := ⟨b, o + j, none⟩) hbl]; exact hcl j hj⟩
theorem Strs.alloc {w : World} {v : Value} {l : List ByteArray} (h : Strs w v l) (o : Obj) : Strs (w.alloc o) v l := h.later ((Below.refl _ _).alloc (Nat.le_refl _) _)
theorem Strs.drew {w : World} {v : Value} {l : List ByteArray} (h : Strs w v l) : Strs w.drew v l := h.later (Below.refl _ _).drew
theorem Strs.set {w : World} {g o n cap : Nat} {l : List ByteArray} (h : Strs w (.slice (some ⟨g, o, none⟩) n cap) l) (p : Addr) (u : Value) (hp : g ≠ p.block) : Strs (w.setCell p u) (.slice (some ⟨g, o, none⟩) n cap) l := by
  obtain ⟨h1, h2, a, c, e, hc, h3⟩ := h
  refine ⟨h1, h2, a, c, e, hc, fun h0 => ?_⟩
  obtain ⟨b, q, ha, hbl, hcl⟩ := h3 h0
  subst ha
  simp only [Value.slice.injEq, Option.some.injEq, Addr.mk.injEq] at e
  obtain ⟨⟨rfl, rfl, _⟩, _, _⟩ := e
  have hs : (w.setCell p u).heap.size = w.heap.size := by unfold World.setCell; split <;> simp
  exact ⟨_, _, rfl, by rw [hs]; exact hbl, fun j hj => by rw [World.cell?_of_block (w := w) (Below.heap_setCell w p u g hp)]; exact hcl j hj⟩
theorem strs_nil (w : World) (a : Option Addr) (cap : Nat) : Strs w (.slice a 0 cap) [] := ⟨by simp, fun j hj => by simp at hj, a, cap, rfl, by simp, fun h => by simp at h⟩

/-! ### a made row of strings -/
def strC (n : Nat) (f : Nat → ByteArray) : Array Value := ((List.range n).map fun j => Value.string (f j)).toArray
theorem strC_size (n : Nat) (f : Nat → ByteArray) : (strC n f).size = n := by simp [strC]
theorem strC_get (n : Nat) (f : Nat → ByteArray) (j : Nat) (h : j < n) : (strC n f)[j]? = some (.string (f j)) := by simp [strC, h]
theorem strC_set (n : Nat) (f : Nat → ByteArray) (j : Nat) (s : ByteArray) : (strC n f).setIfInBounds j (.string s) = strC n (fun i => if i = j then s else f i) := by
  apply Array.ext_getElem?
  intro i
  rw [Array.getElem?_setIfInBounds]
  by_cases hi : i < n
  · rw [strC_get _ _ _ hi]
    by_cases e : j = i
    · subst e; rw [if_pos rfl, if_pos (by rw [strC_size]; exact hi), strC_get _ _ _ hi, if_pos rfl]
    · rw [if_neg e, strC_get _ _ _ hi, if_neg (fun h => e h.symm)]
  · rw [Array.getElem?_eq_none (by rw [strC_size]; omega)]
    by_cases e : j = i
    · subst e; simp [strC, hi]
    · rw [if_neg e, Array.getElem?_eq_none (by rw [strC_size]; omega)]
/-- Block g is a row of n strings: f. -/
def SRow (w : World) (g n : Nat) (f : Nat → ByteArray) : Prop := w.heap[g]? = some (.cells (strC n f) 9 (0, 0))
theorem SRow.lt {w : World} {g n : Nat} {f : Nat → ByteArray} (h : SRow w g n f) : g < w.heap.size := (Array.getElem?_eq_some_iff.1 h).1
theorem SRow.cell {w : World} {g n : Nat} {f : Nat → ByteArray} (h : SRow w g n f) (j : Nat) (hj : j < n) : w.cell? ⟨g, j, none⟩ = some (.string (f j)) := by
  rw [cell_of_row w g j _ 9 (0, 0) h, strC_get _ _ _ hj]
theorem SRow.frozen {w : World} {g n : Nat} {f : Nat → ByteArray} (h : SRow w g n f) (j : Nat) : w.frozen? ⟨g, j, none⟩ = false := frozen_of_row w g j _ 9 h
theorem SRow.set {w : World} {g n : Nat} {f : Nat → ByteArray} (h : SRow w g n f) (j : Nat) (s : ByteArray) : SRow (w.setCell ⟨g, j, none⟩ (.string s)) g n (fun i => if i = j then s else f i) := by
  unfold SRow
  rw [setCell_eq_setRow w g j _ 9 _ _ h, setRow_heap w g _ _ 9 _ h, strC_set]
theorem SRow.later {w w' : World} {g n B : Nat} {f : Nat → ByteArray} (h : SRow w g n f) (hb : Below B w w') (hg : g < B) : SRow w' g n f := by
  unfold SRow
  rw [hb.block g hg]
  exact h
theorem SRow.strs {w : World} {g n : Nat} {f : Nat → ByteArray} (h : SRow w g n f) (l : List ByteArray) (hl : l.length = n) (hn : n ≤ 9223372036854775807) (hs : ∀ j, j < n → (el l j).size ≤ 9223372036854775807) (hf : ∀ j, j < n → f j = el l j) : Strs w (.slice (some ⟨g, 0, none⟩) n n) l := by
  subst hl
  exact ⟨hn, hs, _, _, rfl, Nat.le_refl _, fun _ => ⟨g, 0, rfl, h.lt, fun j hj => by rw [Nat.zero_add, h.cell j hj, hf j hj]⟩⟩
theorem Tryd.info9 : (Tryd.prog.info? 9).map (fun i => (i.zero, i.size, i.bytes)) = some (some (.string ByteArray.empty), 1, 16) := by kernel_rfl
/-- make([]string, n). -/
theorem make_strs (w : World) (n : Nat) (hn : n ≤ 1048576) :
    ∃ w1, (Instr.makeSlice 39 (.int .i64 (n : Int)) (.int .i64 (n : Int))).run Tryd.prog w = .ok (.slice (some ⟨w.heap.size, 0, none⟩) n n) w1 ∧ SRow w1 w.heap.size n (fun _ => ByteArray.empty) ∧ Below w.heap.size w w1 := by
  have h := run_make_row' (P := Tryd.prog) 39 9 (.string ByteArray.empty) 16 Tryd.underlying39 Tryd.info9 rfl .i64 .i64 n (by omega) (by omega) w
  refine ⟨_, h, ?_, (Below.refl _ _).alloc (Nat.le_refl _) _⟩
  unfold SRow
  have e : madeCells #[Value.string ByteArray.empty] n = strC n (fun _ => ByteArray.empty) := by
    apply Array.ext_getElem?
    intro i
    by_cases hi : i < n
    · rw [strC_get _ _ _ hi]
      simp [madeCells, hi, Nat.mod_one]
    · rw [Array.getElem?_eq_none (by simp [madeCells]; omega), Array.getElem?_eq_none (by rw [strC_size]; omega)]
  rw [← e]
  show (w.heap.push _)[w.heap.size]? = _
  simp

/-! ### the loops -/
theorem dn {B : Nat} {a w : World} (h : Below B a w) (m : Nat) : Below B a (w.drewN m) := ⟨h.os, h.tape, h.output, h.size, h.block⟩
theorem str_eq {a b : ByteArray} (h : a.toList = b.toList) : a = b := by
  apply ByteArray.ext
  apply Array.ext'
  rw [← Lib.toList_data a, ← Lib.toList_data b, h]
theorem beq_no {a b : Int} (h : a ≠ b) : (a == b) = false := by simpa using h
end Go.Proofs.YtlbebeedkcdgpaaDoor
