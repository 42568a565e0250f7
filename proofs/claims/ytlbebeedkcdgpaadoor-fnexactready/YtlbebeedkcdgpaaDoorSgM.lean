/- Segments: how slices of them are read and owned. -/
import Derived.Test.YtlbebeedkcdgpaaDoorStrs
import Derived.Deep.RegionHeld3
namespace Go.Proofs.YtlbebeedkcdgpaaDoor
open Go.RowKit Go.PlainAid
set_option linter.unusedVariables false

/-- A segment, in plain words. -/
structure Sg where
  fst : Int
  txt : ByteArray
instance : DecidableEq Sg := fun a b => decidable_of_iff (a.fst = b.fst ∧ a.txt = b.txt) (by cases a; cases b; simp)
@[irreducible] def sF (l : List Sg) (j : Nat) : Int := (l.getD j ⟨0, ByteArray.empty⟩).fst
@[irreducible] def sT (l : List Sg) (j : Nat) : ByteArray := (l.getD j ⟨0, ByteArray.empty⟩).txt
theorem sF_eq (l : List Sg) (j : Nat) : sF l j = (l.getD j ⟨0, ByteArray.empty⟩).fst := by unfold sF; rfl
theorem sT_eq (l : List Sg) (j : Nat) : sT l j = (l.getD j ⟨0, ByteArray.empty⟩).txt := by unfold sT; rfl
theorem sg_get (l : List Sg) (j : Nat) (h : j < l.length) : l[j]? = some ⟨sF l j, sT l j⟩ := by
  rw [sF_eq, sT_eq, List.getD, List.getElem?_eq_getElem h]; rfl
theorem sF_of {l : List Sg} {j : Nat} {x : Sg} (h : l[j]? = some x) : sF l j = x.fst := by rw [sF_eq, List.getD, h]; rfl
theorem sT_of {l : List Sg} {j : Nat} {x : Sg} (h : l[j]? = some x) : sT l j = x.txt := by rw [sT_eq, List.getD, h]; rfl
theorem sg_ext (l m : List Sg) (h : l.length = m.length) (he : ∀ j, j < l.length → sF l j = sF m j ∧ sT l j = sT m j) : l = m := by
  apply List.ext_getElem?
  intro j
  by_cases hj : j < l.length
  · obtain ⟨a, b⟩ := he j hj
    rw [sg_get l j hj, sg_get m j (by omega), a, b]
  · rw [List.getElem?_eq_none (by omega), List.getElem?_eq_none (by omega)]
theorem sF_left (l m : List Sg) (j : Nat) (h : j < l.length) : sF (l ++ m) j = sF l j := by
  rw [sF_of (x := ⟨sF l j, sT l j⟩)]; rw [List.getElem?_append_left h]; exact sg_get l j h
theorem sT_left (l m : List Sg) (j : Nat) (h : j < l.length) : sT (l ++ m) j = sT l j := by
  rw [sT_of (x := ⟨sF l j, sT l j⟩)]; rw [List.getElem?_append_left h]; exact sg_get l j h
theorem sF_snoc (l : List Sg) (x : Sg) : sF (l ++ [x]) l.length = x.fst := sF_of (by simp)
theorem sT_snoc (l : List Sg) (x : Sg) : sT (l ++ [x]) l.length = x.txt := sT_of (by simp)
theorem sF_drop (l : List Sg) (d j : Nat) : sF (l.drop d) j = sF l (d + j) := by simp only [sF_eq, List.getD, List.getElem?_drop]
theorem sT_drop (l : List Sg) (d j : Nat) : sT (l.drop d) j = sT l (d + j) := by simp only [sT_eq, List.getD, List.getElem?_drop]
/-- Segment j turned to x. -/
theorem sF_set (l : List Sg) (j i : Nat) (x : Sg) (h : j < l.length) : sF (l.set j x) i = if i = j then x.fst else sF l i := by
  by_cases e : i = j
  · subst e; rw [if_pos rfl]; exact sF_of (by rw [List.getElem?_set_self h])
  · rw [if_neg e]; simp only [sF_eq, List.getD, List.getElem?_set_ne (Ne.symm e)]
theorem sT_set (l : List Sg) (j i : Nat) (x : Sg) (h : j < l.length) : sT (l.set j x) i = if i = j then x.txt else sT l i := by
  by_cases e : i = j
  · subst e; rw [if_pos rfl]; exact sT_of (by rw [List.getElem?_set_self h])
  · rw [if_neg e]; simp only [sT_eq, List.getD, List.getElem?_set_ne (Ne.symm e)]

/-- The value v is a slice of segments that reads as l. -/
structure Segs (w : World) (v : Value) (l : List Sg) : Prop where
  len : l.length ≤ 9223372036854775807
  size : ∀ j, j < l.length → (sT l j).size ≤ 9223372036854775807
  at_ : ∃ a cap, v = .slice a l.length cap ∧ l.length ≤ cap ∧ (0 < l.length → ∃ b o, a = some ⟨b, o, none⟩ ∧ b < w.heap.size ∧ ∀ j, j < l.length → w.cell? ⟨b, o + j * 2, none⟩ = some (.int .i64 (sF l j)) ∧ w.cell? ⟨b, o + j * 2 + 1, none⟩ = some (.string (sT l j)))
theorem Segs.form {w : World} {v : Value} {l : List Sg} (h : Segs w v l) : ∃ a n cap, v = .slice a n cap := by
  obtain ⟨_, _, a, cap, e, _⟩ := h
  exact ⟨a, _, cap, e⟩
theorem Segs.later {w w' : World} {v : Value} {l : List Sg} (h : Segs w v l) (hb : Below w.heap.size w w') : Segs w' v l := by
  obtain ⟨h1, h2, a, cap, e, hc, h3⟩ := h
  refine ⟨h1, h2, a, cap, e, hc, fun h0 => ?_⟩
  obtain ⟨b, o, ha, hbl, hcl⟩ := h3 h0
  exact ⟨b, o, ha, Nat.lt_of_lt_of_le hbl hb.size, fun j hj => by rw [hb.cell (p := ⟨b, o + j * 2, none⟩) hbl, hb.cell (p := ⟨b, o + j * 2 + 1, none⟩) hbl]; exact hcl j hj⟩
theorem Segs.alloc {w : World} {v : Value} {l : List Sg} (h : Segs w v l) (o : Obj) : Segs (w.alloc o) v l := h.later ((Below.refl _ _).alloc (Nat.le_refl _) _)
theorem Segs.drew {w : World} {v : Value} {l : List Sg} (h : Segs w v l) : Segs w.drew v l := h.later (Below.refl _ _).drew
theorem Segs.keep {w w' : World} {v : Value} {l : List Sg} {row : Option Nat} (h : Segs w v l) (hg : w.grownBy w' row) (hne : ∀ k, row = some k → v.ownBlock ≠ some k) : Segs w' v l := by
  obtain ⟨h1, h2, a, cap, e, hc, h3⟩ := h
  refine ⟨h1, h2, a, cap, e, hc, fun h0 => ?_⟩
  obtain ⟨b, o, ha, hbl, hcl⟩ := h3 h0
  subst e; subst ha
  have hk := hg.block b hbl (fun e => hne b e.symm rfl)
  exact ⟨b, o, rfl, Nat.lt_of_lt_of_le hbl hg.size, fun j hj => ⟨(World.cell?_of_block (w := w) (a := ⟨b, o + j * 2, none⟩) hk).trans (hcl j hj).1, (World.cell?_of_block (w := w) (a := ⟨b, o + j * 2 + 1, none⟩) hk).trans (hcl j hj).2⟩⟩
theorem Segs.block {w : World} {v : Value} {l : List Sg} (h : Segs w v l) (h0 : 0 < l.length) (k : Nat) (hk : v.ownBlock = some k) : k < w.heap.size := by
  obtain ⟨h1, h2, a, cap, rfl, hc, h3⟩ := h
  obtain ⟨b, o, rfl, hbl, hcl⟩ := h3 h0
  simp only [Value.ownBlock, Option.some.injEq] at hk
  omega
theorem segs_nil (w : World) (a : Option Addr) (cap : Nat) : Segs w (.slice a 0 cap) [] := ⟨by simp, fun j hj => by simp at hj, a, cap, rfl, by simp, fun h => by simp at h⟩
end Go.Proofs.YtlbebeedkcdgpaaDoor
