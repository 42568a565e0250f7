/- Blocks that are known whole, and worlds behind one another. -/
import Derived.Test.YtlbebeedkcdgpaaDoorSgM
namespace Go.Proofs.YtlbebeedkcdgpaaDoor
open Go.RowKit Go.PlainAid
set_option linter.unusedVariables false

/-- Block g holds the cells cs. -/
def Bx (w : World) (g : Nat) (t : TypeId) (cs : Array Value) : Prop := w.heap[g]? = some (.cells cs t (0, 0))
theorem Bx.lt {w : World} {g : Nat} {t : TypeId} {cs : Array Value} (h : Bx w g t cs) : g < w.heap.size := (Array.getElem?_eq_some_iff.1 h).1
theorem Bx.cell {w : World} {g : Nat} {t : TypeId} {cs : Array Value} (h : Bx w g t cs) (j : Nat) (x : Value) (hx : cs[j]? = some x) : w.cell? ⟨g, j, none⟩ = some x := by
  rw [cell_of_row w g j _ t (0, 0) h, hx]
theorem Bx.frozen {w : World} {g : Nat} {t : TypeId} {cs : Array Value} (h : Bx w g t cs) (j : Nat) : w.frozen? ⟨g, j, none⟩ = false := frozen_of_row w g j _ t h
theorem Bx.later {w w' : World} {g B : Nat} {t : TypeId} {cs : Array Value} (h : Bx w g t cs) (hb : Below B w w') (hg : g < B) : Bx w' g t cs := by
  unfold Bx
  rw [hb.block g hg]
  exact h
theorem Bx.after {w w' : World} {g : Nat} {t : TypeId} {cs : Array Value} (h : Bx w g t cs) (hb : Below w.heap.size w w') : Bx w' g t cs := h.later hb h.lt
theorem Bx.alloc {w : World} {g : Nat} {t : TypeId} {cs : Array Value} (h : Bx w g t cs) (o : Obj) : Bx (w.alloc o) g t cs := h.after ((Below.refl _ _).alloc (Nat.le_refl _) _)
theorem Bx.drew {w : World} {g : Nat} {t : TypeId} {cs : Array Value} (h : Bx w g t cs) : Bx w.drew g t cs := h
theorem Bx.drewN {w : World} {g : Nat} {t : TypeId} {cs : Array Value} (h : Bx w g t cs) (m : Nat) : Bx (w.drewN m) g t cs := h
theorem Bx.new (w : World) (t : TypeId) (cs : Array Value) (g : Nat) (hg : w.heap.size = g) : Bx (w.alloc (.cells cs t)) g t cs := by
  subst hg
  exact heap_alloc_new w _
theorem Bx.keep {w w' : World} {g : Nat} {t : TypeId} {cs : Array Value} {row : Option Nat} (h : Bx w g t cs) (hb : w.grownBy w' row) (hne : some g ≠ row) : Bx w' g t cs := by
  have := h.lt
  unfold Bx at *
  rw [hb.block g this (by simpa using hne)]
  exact h
theorem Bx.set {w : World} {g : Nat} {t : TypeId} {cs : Array Value} (h : Bx w g t cs) (j : Nat) (x : Value) : Bx (w.setCell ⟨g, j, none⟩ x) g t (cs.setIfInBounds j x) := by
  unfold Bx at *
  rw [heap_setCell_same w g j _ _ _ h]
theorem Bx.set_other {w : World} {g : Nat} {t : TypeId} {cs : Array Value} (h : Bx w g t cs) (a : Addr) (x : Value) (hne : g ≠ a.block) : Bx (w.setCell a x) g t cs := by
  unfold Bx at *
  rw [heap_setCell_other w a g x hne]
  exact h
theorem Bx.cells3 {w : World} {g : Nat} {t : TypeId} {x0 x1 x2 : Value} (h : Bx w g t #[x0, x1, x2]) : w.cell? ⟨g, 0, none⟩ = some x0 ∧ w.cell? ⟨g, 1, none⟩ = some x1 ∧ w.cell? ⟨g, 2, none⟩ = some x2 :=
  ⟨h.cell 0 _ rfl, h.cell 1 _ rfl, h.cell 2 _ rfl⟩
theorem Bx.frozen3 {w : World} {g : Nat} {t : TypeId} {cs : Array Value} (h : Bx w g t cs) : w.frozen? ⟨g, 0, none⟩ = false ∧ w.frozen? ⟨g, 1, none⟩ = false ∧ w.frozen? ⟨g, 2, none⟩ = false := ⟨h.frozen 0, h.frozen 1, h.frozen 2⟩
/-- All that stood in w0 stands in w. -/
def Af (w0 w : World) : Prop := Below w0.heap.size w0 w
theorem Af.refl (w : World) : Af w w := Below.refl _ _
theorem Af.after {w0 w w' : World} (h : Af w0 w) (hb : Below w.heap.size w w') : Af w0 w' := Below.trans h (hb.mono (Below.size h))
theorem Af.trans {w0 w w' : World} (h : Af w0 w) (h2 : Af w w') : Af w0 w' := h.after h2
theorem Af.alloc {w0 w : World} (h : Af w0 w) (o : Obj) : Af w0 (w.alloc o) := h.after ((Below.refl _ _).alloc (Nat.le_refl _) _)
theorem Af.drew {w0 w : World} (h : Af w0 w) : Af w0 w.drew := Below.drew h
theorem Af.drewN {w0 w : World} (h : Af w0 w) (m : Nat) : Af w0 (w.drewN m) := dn h m
theorem Af.size {w0 w : World} (h : Af w0 w) : w0.heap.size ≤ w.heap.size := Below.size h
theorem Af.set {w0 w : World} (h : Af w0 w) {p : Addr} (hp : w0.heap.size ≤ p.block) (v : Value) : Af w0 (w.setCell p v) := Below.setCell h hp v
theorem Af.grow {w0 w w' : World} {row : Option Nat} (h : Af w0 w) (hb : w.grownBy w' row) (hr : ∀ k, row = some k → w0.heap.size ≤ k) : Af w0 w' := Below.grown h hb (Below.size h) hr
theorem wp_at {P : Program} {c : Code} {Q : Exit → Act → World → Prop} {a : Act} {w : World} (R : World → Prop) (hR : R w) (h : ∀ w1, R w1 → Code.wp P c Q a w1) : Code.wp P c Q a w := h w hR
end Go.Proofs.YtlbebeedkcdgpaaDoor
