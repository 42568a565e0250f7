/- Chunks: how slices of them are read. -/
import Derived.Test.YtemhhjkmolndbaaDoorStrs
import Derived.Deep.RegionHeld3
namespace Go.Proofs.YtemhhjkmolndbaaDoor
open Go.RowKit Go.PlainAid
set_option linter.unusedVariables false

/-- A chunk, in plain words. -/
structure Bb where
  id : ByteArray
  dat : ByteArray
  bad : Bool
instance : DecidableEq Bb := fun a b => decidable_of_iff (a.id = b.id ∧ a.dat = b.dat ∧ a.bad = b.bad) (by cases a; cases b; simp)
instance : Inhabited Bb := ⟨⟨ByteArray.empty, ByteArray.empty, false⟩⟩
abbrev bb0 : Bb := ⟨ByteArray.empty, ByteArray.empty, false⟩
@[irreducible] def bI (l : List Bb) (j : Nat) : ByteArray := (l.getD j bb0).id
@[irreducible] def bD (l : List Bb) (j : Nat) : ByteArray := (l.getD j bb0).dat
@[irreducible] def bX (l : List Bb) (j : Nat) : Bool := (l.getD j bb0).bad
theorem bI_eq (l : List Bb) (j : Nat) : bI l j = (l.getD j bb0).id := by unfold bI; rfl
theorem bD_eq (l : List Bb) (j : Nat) : bD l j = (l.getD j bb0).dat := by unfold bD; rfl
theorem bX_eq (l : List Bb) (j : Nat) : bX l j = (l.getD j bb0).bad := by unfold bX; rfl
theorem bb_get (l : List Bb) (j : Nat) (h : j < l.length) : l[j]? = some ⟨bI l j, bD l j, bX l j⟩ := by
  rw [bI_eq, bD_eq, bX_eq, List.getD, List.getElem?_eq_getElem h]; rfl
theorem bI_of {l : List Bb} {j : Nat} {x : Bb} (h : l[j]? = some x) : bI l j = x.id := by rw [bI_eq, List.getD, h]; rfl
theorem bD_of {l : List Bb} {j : Nat} {x : Bb} (h : l[j]? = some x) : bD l j = x.dat := by rw [bD_eq, List.getD, h]; rfl
theorem bX_of {l : List Bb} {j : Nat} {x : Bb} (h : l[j]? = some x) : bX l j = x.bad := by rw [bX_eq, List.getD, h]; rfl
theorem bb_ext (l m : List Bb) (h : l.length = m.length) (he : ∀ j, j < l.length → bI l j = bI m j ∧ bD l j = bD m j ∧ bX l j = bX m j) : l = m := by
  apply List.ext_getElem?
  intro j
  by_cases hj : j < l.length
  · obtain ⟨a, b, c⟩ := he j hj
    rw [bb_get l j hj, bb_get m j (by omega), a, b, c]
  · rw [List.getElem?_eq_none (by omega), List.getElem?_eq_none (by omega)]
theorem bb_set (l : List Bb) (j i : Nat) (x : Bb) (h : j < l.length) : bI (l.set j x) i = (if i = j then x.id else bI l i) ∧ bD (l.set j x) i = (if i = j then x.dat else bD l i) ∧ bX (l.set j x) i = (if i = j then x.bad else bX l i) := by
  by_cases e : i = j
  · subst e
    rw [if_pos rfl, if_pos rfl, if_pos rfl]
    have hh : (l.set i x)[i]? = some x := by rw [List.getElem?_set_self h]
    exact ⟨bI_of hh, bD_of hh, bX_of hh⟩
  · rw [if_neg e, if_neg e, if_neg e]
    simp only [bI_eq, bD_eq, bX_eq, List.getD, List.getElem?_set_ne (Ne.symm e), and_true]

/-- The cells of a chunk lie at o in block b. -/
def BbAt (w : World) (b o : Nat) (l : List Bb) (j : Nat) : Prop :=
  w.cell? ⟨b, o + j * 3, none⟩ = some (.string (bI l j)) ∧ w.cell? ⟨b, o + j * 3 + 1, none⟩ = some (.string (bD l j)) ∧ w.cell? ⟨b, o + j * 3 + 2, none⟩ = some (.bool (bX l j))
theorem BbAt.below {w w' : World} {b o B : Nat} {l : List Bb} {j : Nat} (h : BbAt w b o l j) (hb : Below B w w') (hlt : b < B) : BbAt w' b o l j := by
  unfold BbAt
  rw [hb.cell (p := ⟨b, o + j * 3, none⟩) hlt, hb.cell (p := ⟨b, o + j * 3 + 1, none⟩) hlt, hb.cell (p := ⟨b, o + j * 3 + 2, none⟩) hlt]
  exact h
theorem BbAt.block {w w' : World} {b o : Nat} {l : List Bb} {j : Nat} (h : BbAt w b o l j) (hk : w'.heap[b]? = w.heap[b]?) : BbAt w' b o l j :=
  ⟨(World.cell?_of_block (w := w) (a := ⟨b, o + j * 3, none⟩) hk).trans h.1, (World.cell?_of_block (w := w) (a := ⟨b, o + j * 3 + 1, none⟩) hk).trans h.2.1, (World.cell?_of_block (w := w) (a := ⟨b, o + j * 3 + 2, none⟩) hk).trans h.2.2⟩
/-- The value v is a slice of chunks that reads as l. -/
structure Blbs (w : World) (v : Value) (l : List Bb) : Prop where
  len : l.length ≤ 9223372036854775807
  size : ∀ j, j < l.length → (bI l j).size ≤ 9223372036854775807 ∧ (bD l j).size ≤ 9223372036854775807
  at_ : ∃ a cap, v = .slice a l.length cap ∧ l.length ≤ cap ∧ (0 < l.length → ∃ b o, a = some ⟨b, o, none⟩ ∧ b < w.heap.size ∧ ∀ j, j < l.length → BbAt w b o l j)
theorem Blbs.form {w : World} {v : Value} {l : List Bb} (h : Blbs w v l) : ∃ a n cap, v = .slice a n cap := by
  obtain ⟨_, _, a, cap, e, _⟩ := h
  exact ⟨a, _, cap, e⟩
theorem Blbs.later {w w' : World} {v : Value} {l : List Bb} (h : Blbs w v l) (hb : Below w.heap.size w w') : Blbs w' v l := by
  obtain ⟨h1, h2, a, cap, e, hc, h3⟩ := h
  refine ⟨h1, h2, a, cap, e, hc, fun h0 => ?_⟩
  obtain ⟨b, o, ha, hbl, hcl⟩ := h3 h0
  exact ⟨b, o, ha, Nat.lt_of_lt_of_le hbl hb.size, fun j hj => (hcl j hj).below hb hbl⟩
theorem Blbs.alloc {w : World} {v : Value} {l : List Bb} (h : Blbs w v l) (o : Obj) : Blbs (w.alloc o) v l := h.later ((Below.refl _ _).alloc (Nat.le_refl _) _)
theorem Blbs.drew {w : World} {v : Value} {l : List Bb} (h : Blbs w v l) : Blbs w.drew v l := h.later (Below.refl _ _).drew
theorem Blbs.keep0 {w w' : World} {v : Value} {l : List Bb} {row : Option Nat} (h : Blbs w v l) (hg : w.grownBy w' row) (hne : 0 < l.length → ∀ k, row = some k → v.ownBlock ≠ some k) : Blbs w' v l := by
  obtain ⟨h1, h2, a, cap, e, hc, h3⟩ := h
  refine ⟨h1, h2, a, cap, e, hc, fun h0 => ?_⟩
  obtain ⟨b, o, ha, hbl, hcl⟩ := h3 h0
  subst e; subst ha
  have hk := hg.block b hbl (fun e => hne h0 b e.symm rfl)
  exact ⟨b, o, rfl, Nat.lt_of_lt_of_le hbl hg.size, fun j hj => (hcl j hj).block hk⟩
theorem Blbs.block {w : World} {v : Value} {l : List Bb} (h : Blbs w v l) (h0 : 0 < l.length) (k : Nat) (hk : v.ownBlock = some k) : k < w.heap.size := by
  obtain ⟨h1, h2, a, cap, rfl, hc, h3⟩ := h
  obtain ⟨b, o, rfl, hbl, hcl⟩ := h3 h0
  simp only [Value.ownBlock, Option.some.injEq] at hk
  omega
theorem blbs_nil (w : World) (a : Option Addr) (cap : Nat) : Blbs w (.slice a 0 cap) [] := ⟨by simp, fun j hj => by simp at hj, a, cap, rfl, by simp, fun h => by simp at h⟩
end Go.Proofs.YtemhhjkmolndbaaDoor
