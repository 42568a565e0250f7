/- Ids: how slices of them are read. -/
import Derived.Test.YtlbebeedkcdgpaaDoorStrs
import Derived.Deep.RegionHeld3
namespace Go.Proofs.YtlbebeedkcdgpaaDoor
open Go.RowKit Go.PlainAid
set_option linter.unusedVariables false

/-- An Id, in plain words. -/
structure Ii where
  rep : Int
  slot : Int
instance : DecidableEq Ii := fun a b => decidable_of_iff (a.rep = b.rep ∧ a.slot = b.slot) (by cases a; cases b; simp)
instance : Inhabited Ii := ⟨⟨0, 0⟩⟩
abbrev ii0 : Ii := ⟨0, 0⟩
@[irreducible] def iR (l : List Ii) (j : Nat) : Int := (l.getD j ii0).rep
@[irreducible] def iS (l : List Ii) (j : Nat) : Int := (l.getD j ii0).slot
theorem iR_eq (l : List Ii) (j : Nat) : iR l j = (l.getD j ii0).rep := by unfold iR; rfl
theorem iS_eq (l : List Ii) (j : Nat) : iS l j = (l.getD j ii0).slot := by unfold iS; rfl
theorem ii_get (l : List Ii) (j : Nat) (h : j < l.length) : l[j]? = some ⟨iR l j, iS l j⟩ := by
  rw [iR_eq, iS_eq, List.getD, List.getElem?_eq_getElem h]; rfl
theorem iR_of {l : List Ii} {j : Nat} {x : Ii} (h : l[j]? = some x) : iR l j = x.rep := by rw [iR_eq, List.getD, h]; rfl
theorem iS_of {l : List Ii} {j : Nat} {x : Ii} (h : l[j]? = some x) : iS l j = x.slot := by rw [iS_eq, List.getD, h]; rfl
theorem ii_ext (l m : List Ii) (h : l.length = m.length) (he : ∀ j, j < l.length → iR l j = iR m j ∧ iS l j = iS m j) : l = m := by
  apply List.ext_getElem?
  intro j
  by_cases hj : j < l.length
  · obtain ⟨a, b⟩ := he j hj
    rw [ii_get l j hj, ii_get m j (by omega), a, b]
  · rw [List.getElem?_eq_none (by omega), List.getElem?_eq_none (by omega)]
theorem ii_set (l : List Ii) (j i : Nat) (x : Ii) (h : j < l.length) : iR (l.set j x) i = (if i = j then x.rep else iR l i) ∧ iS (l.set j x) i = (if i = j then x.slot else iS l i) := by
  by_cases e : i = j
  · subst e
    rw [if_pos rfl, if_pos rfl]
    have hh : (l.set i x)[i]? = some x := by rw [List.getElem?_set_self h]
    exact ⟨iR_of hh, iS_of hh⟩
  · rw [if_neg e, if_neg e]
    simp only [iR_eq, iS_eq, List.getD, List.getElem?_set_ne (Ne.symm e), and_true]

/-- The cells of an Id lie at o in block b. -/
def IiAt (w : World) (b o : Nat) (l : List Ii) (j : Nat) : Prop :=
  w.cell? ⟨b, o + j * 2, none⟩ = some (.int .i64 (iR l j)) ∧ w.cell? ⟨b, o + j * 2 + 1, none⟩ = some (.int .i64 (iS l j))
theorem IiAt.below {w w' : World} {b o B : Nat} {l : List Ii} {j : Nat} (h : IiAt w b o l j) (hb : Below B w w') (hlt : b < B) : IiAt w' b o l j := by
  unfold IiAt
  rw [hb.cell (p := ⟨b, o + j * 2, none⟩) hlt, hb.cell (p := ⟨b, o + j * 2 + 1, none⟩) hlt]
  exact h
theorem IiAt.block {w w' : World} {b o : Nat} {l : List Ii} {j : Nat} (h : IiAt w b o l j) (hk : w'.heap[b]? = w.heap[b]?) : IiAt w' b o l j :=
  ⟨(World.cell?_of_block (w := w) (a := ⟨b, o + j * 2, none⟩) hk).trans h.1, (World.cell?_of_block (w := w) (a := ⟨b, o + j * 2 + 1, none⟩) hk).trans h.2⟩
theorem IiAt.drew {w : World} {b o : Nat} {l : List Ii} {j : Nat} (h : IiAt w b o l j) : IiAt w.drew b o l j := h
/-- The value v is a slice of Ids that reads as l. -/
structure Ids (w : World) (v : Value) (l : List Ii) : Prop where
  len : l.length ≤ 9223372036854775807
  at_ : ∃ a cap, v = .slice a l.length cap ∧ l.length ≤ cap ∧ (0 < l.length → ∃ b o, a = some ⟨b, o, none⟩ ∧ b < w.heap.size ∧ ∀ j, j < l.length → IiAt w b o l j)
theorem Ids.form {w : World} {v : Value} {l : List Ii} (h : Ids w v l) : ∃ a n cap, v = .slice a n cap := by
  obtain ⟨_, a, cap, e, _⟩ := h
  exact ⟨a, _, cap, e⟩
theorem Ids.later {w w' : World} {v : Value} {l : List Ii} (h : Ids w v l) (hb : Below w.heap.size w w') : Ids w' v l := by
  obtain ⟨h1, a, cap, e, hc, h3⟩ := h
  refine ⟨h1, a, cap, e, hc, fun h0 => ?_⟩
  obtain ⟨b, o, ha, hbl, hcl⟩ := h3 h0
  exact ⟨b, o, ha, Nat.lt_of_lt_of_le hbl hb.size, fun j hj => (hcl j hj).below hb hbl⟩
theorem Ids.alloc {w : World} {v : Value} {l : List Ii} (h : Ids w v l) (o : Obj) : Ids (w.alloc o) v l := h.later ((Below.refl _ _).alloc (Nat.le_refl _) _)
theorem Ids.drew {w : World} {v : Value} {l : List Ii} (h : Ids w v l) : Ids w.drew v l := h.later (Below.refl _ _).drew
theorem Ids.keep0 {w w' : World} {v : Value} {l : List Ii} {row : Option Nat} (h : Ids w v l) (hg : w.grownBy w' row) (hne : 0 < l.length → ∀ k, row = some k → v.ownBlock ≠ some k) : Ids w' v l := by
  obtain ⟨h1, a, cap, e, hc, h3⟩ := h
  refine ⟨h1, a, cap, e, hc, fun h0 => ?_⟩
  obtain ⟨b, o, ha, hbl, hcl⟩ := h3 h0
  subst e; subst ha
  have hk := hg.block b hbl (fun e => hne h0 b e.symm rfl)
  exact ⟨b, o, rfl, Nat.lt_of_lt_of_le hbl hg.size, fun j hj => (hcl j hj).block hk⟩
theorem Ids.block {w : World} {v : Value} {l : List Ii} (h : Ids w v l) (h0 : 0 < l.length) (k : Nat) (hk : v.ownBlock = some k) : k < w.heap.size := by
  obtain ⟨h1, a, cap, rfl, hc, h3⟩ := h
  obtain ⟨b, o, rfl, hbl, hcl⟩ := h3 h0
  simp only [Value.ownBlock, Option.some.injEq] at hk
  omega
theorem ids_nil (w : World) (a : Option Addr) (cap : Nat) : Ids w (.slice a 0 cap) [] := ⟨by simp, a, cap, rfl, by simp, fun h => by simp at h⟩
end Go.Proofs.YtlbebeedkcdgpaaDoor
