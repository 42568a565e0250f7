/- What stands through a law's walk over stores. -/
import Derived.Test.YtemhhjkmolndbaaDoorBdM
namespace Go.Proofs.YtemhhjkmolndbaaDoor
open Go.RowKit Go.PlainAid
set_option linter.unusedVariables false

/-- The argument's box and chunks, and the model's answer at gy, in a world W behind w. -/
structure Ctx (w : World) (ca : Array Value) (va : Value) (l : List Bb) (gy : Nat) (cy : Array Value) (vy : Value) (ly : List Bb) (W : World) : Prop where
  af : Af w W
  xa : Bx W w.heap.size 55 ca
  sa : Blbs W va l
  xy : Bx W gy 41 cy
  sy : Blbs W vy ly
  ba : 0 < l.length → ∀ k, va.ownBlock = some k → k < w.heap.size
  bY : 0 < ly.length → ∀ k, vy.ownBlock = some k → k < gy
  lt : w.heap.size < gy
section
variable {w : World} {ca : Array Value} {va : Value} {l : List Bb} {gy : Nat} {cy : Array Value} {vy : Value} {ly : List Bb} {W W' : World}
theorem Ctx.after (h : Ctx w ca va l gy cy vy ly W) (hb : Below W.heap.size W W') : Ctx w ca va l gy cy vy ly W' := ⟨h.af.after hb, h.xa.after hb, h.sa.later hb, h.xy.after hb, h.sy.later hb, h.ba, h.bY, h.lt⟩
theorem Ctx.alloc (h : Ctx w ca va l gy cy vy ly W) (o : Obj) : Ctx w ca va l gy cy vy ly (W.alloc o) := h.after ((Below.refl _ _).alloc (Nat.le_refl _) _)
theorem Ctx.drew (h : Ctx w ca va l gy cy vy ly W) : Ctx w ca va l gy cy vy ly W.drew := h.after (Below.refl _ _).drew
theorem Ctx.keep {row : Option Nat} (h : Ctx w ca va l gy cy vy ly W) (hg : W.grownBy W' row) (hr : ∀ k, row = some k → gy < k) : Ctx w ca va l gy cy vy ly W' := by
  have hlt := h.lt
  refine ⟨h.af.grow hg (fun k hk => by have := hr k hk; omega), h.xa.keep hg (fun e => by have := hr _ e.symm; omega), h.sa.keep0 hg (fun h0 k hk e => ?_), h.xy.keep hg (fun e => by have := hr _ e.symm; omega), h.sy.keep0 hg (fun h0 k hk e => ?_), h.ba, h.bY, h.lt⟩
  · have := hr k hk; have := h.ba h0 k e; omega
  · have := hr k hk; have := h.bY h0 k e; omega
end
theorem Ctx.new {w W : World} {ca : Array Value} {va : Value} {l : List Bb} {vy : Value} {ly : List Bb} (cy : Array Value) (af : Af w W) (xa : Bx W w.heap.size 55 ca) (sa : Blbs W va l) (sy : Blbs W vy ly)
    (ba : 0 < l.length → ∀ k, va.ownBlock = some k → k < w.heap.size) (bY : ∀ k, vy.ownBlock = some k → k < W.heap.size) : Ctx w ca va l W.heap.size cy vy ly (W.alloc (.cells cy 41)) :=
  ⟨af.alloc _, xa.alloc _, sa.alloc _, Bx.new W _ _ _ rfl, sy.alloc _, ba, fun _ => bY, xa.lt⟩
theorem fit_drop {q : Int} {l : List Bb} (i : ByteArray) (h : Sml l) : Sml (dropL q l i) := by
  cases e : okS q l with
  | false => rw [dropL_no i e]; exact fun j hj => by simp at hj
  | true => rw [dropL_yes i e]; exact sml_filter h _
theorem len_drop (q : Int) (l : List Bb) (i : ByteArray) : (dropL q l i).length ≤ l.length := by
  cases e : okS q l with
  | false => rw [dropL_no i e]; simp
  | true => rw [dropL_yes i e]; exact List.length_filter_le _ _
theorem fit_bend {q : Int} {l : List Bb} (i : ByteArray) (h : Sml l) : Sml (bendL q l i) := by
  cases e : okS q l with
  | false => rw [bendL_no i e]; exact fun j hj => by simp at hj
  | true => rw [bendL_yes i e]; exact sml_map h i
theorem len_bend (q : Int) (l : List Bb) (i : ByteArray) : (bendL q l i).length ≤ l.length := by
  cases e : okS q l with
  | false => rw [bendL_no i e]; simp
  | true => rw [bendL_yes i e, List.length_map]; exact Nat.le_refl _
end Go.Proofs.YtemhhjkmolndbaaDoor
