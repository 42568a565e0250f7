/- What stands through a law's walk over logs. -/
import Derived.Test.YtmnglcidklckgaaDoorLogR
namespace Go.Proofs.YtmnglcidklckgaaDoor
open Go.RowKit Go.PlainAid
set_option linter.unusedVariables false

theorem Segs.keep0 {w w' : World} {v : Value} {l : List Sg} {row : Option Nat} (h : Segs w v l) (hg : w.grownBy w' row) (hne : 0 < l.length → ∀ k, row = some k → v.ownBlock ≠ some k) : Segs w' v l := by
  obtain ⟨h1, h2, a, cap, e, hc, h3⟩ := h
  refine ⟨h1, h2, a, cap, e, hc, fun h0 => ?_⟩
  obtain ⟨b, o, ha, hbl, hcl⟩ := h3 h0
  subst e; subst ha
  have hk := hg.block b hbl (fun e => hne h0 b e.symm rfl)
  exact ⟨b, o, rfl, Nat.lt_of_lt_of_le hbl hg.size, fun j hj => ⟨(World.cell?_of_block (w := w) (a := ⟨b, o + j * 2, none⟩) hk).trans (hcl j hj).1, (World.cell?_of_block (w := w) (a := ⟨b, o + j * 2 + 1, none⟩) hk).trans (hcl j hj).2⟩⟩
/-- The argument's box and segments, and the model's answer at gy, in a world W behind w. -/
structure Ctx (w : World) (ca : Array Value) (va : Value) (l : List Sg) (gy : Nat) (cy : Array Value) (vy : Value) (ly : List Sg) (W : World) : Prop where
  af : Af w W
  xa : Bx W w.heap.size 41 ca
  sa : Segs W va l
  xy : Bx W gy 26 cy
  sy : Segs W vy ly
  ba : 0 < l.length → ∀ k, va.ownBlock = some k → k < w.heap.size
  bY : 0 < ly.length → ∀ k, vy.ownBlock = some k → k < gy
  lt : w.heap.size < gy
section
variable {w : World} {ca : Array Value} {va : Value} {l : List Sg} {gy : Nat} {cy : Array Value} {vy : Value} {ly : List Sg} {W W' : World}
theorem Ctx.after (h : Ctx w ca va l gy cy vy ly W) (hb : Below W.heap.size W W') : Ctx w ca va l gy cy vy ly W' := ⟨h.af.after hb, h.xa.after hb, h.sa.later hb, h.xy.after hb, h.sy.later hb, h.ba, h.bY, h.lt⟩
theorem Ctx.alloc (h : Ctx w ca va l gy cy vy ly W) (o : Obj) : Ctx w ca va l gy cy vy ly (W.alloc o) := h.after ((Below.refl _ _).alloc (Nat.le_refl _) _)
theorem Ctx.drew (h : Ctx w ca va l gy cy vy ly W) : Ctx w ca va l gy cy vy ly W.drew := h.after (Below.refl _ _).drew
theorem Ctx.keep {row : Option Nat} (h : Ctx w ca va l gy cy vy ly W) (hg : W.grownBy W' row) (hr : ∀ k, row = some k → gy < k) : Ctx w ca va l gy cy vy ly W' := by
  have hlt := h.lt
  refine ⟨h.af.grow hg (fun k hk => by have := hr k hk; omega), h.xa.keep hg (fun e => by have := hr _ e.symm; omega), h.sa.keep0 hg (fun h0 k hk e => ?_), h.xy.keep hg (fun e => by have := hr _ e.symm; omega), h.sy.keep0 hg (fun h0 k hk e => ?_), h.ba, h.bY, h.lt⟩
  · have := hr k hk; have := h.ba h0 k e; omega
  · have := hr k hk; have := h.bY h0 k e; omega
end
theorem Ctx.new {w W : World} {ca : Array Value} {va : Value} {l : List Sg} {vy : Value} {ly : List Sg} (cy : Array Value) (af : Af w W) (xa : Bx W w.heap.size 41 ca) (sa : Segs W va l) (sy : Segs W vy ly)
    (ba : 0 < l.length → ∀ k, va.ownBlock = some k → k < w.heap.size) (bY : ∀ k, vy.ownBlock = some k → k < W.heap.size) : Ctx w ca va l W.heap.size cy vy ly (W.alloc (.cells cy 26)) :=
  ⟨af.alloc _, xa.alloc _, sa.alloc _, Bx.new W _ _ _ rfl, sy.alloc _, ba, fun _ => bY, xa.lt⟩
theorem ret_own {base : Nat} {r : LR} {w : World} {a : Option Addr} {c cap : Nat} (h : SegOwn w base (.slice a c cap) r.sg) (hne : 0 < r.sg.length ∨ a = none) : ∀ k, Value.ownBlock (.slice a c cap) = some k → base ≤ k ∧ k < w.heap.size := fun k hk => by
  rcases hne with h0 | rfl
  · exact h.block h0 k hk
  · cases hk
end Go.Proofs.YtmnglcidklckgaaDoor
