/- The cursor's draws, without what they are settled by. -/
import Derived.Test.YtoofnlckeodefaaDoorDraw6b
namespace Go.Proofs.YtoofnlckeodefaaDoor
open Go.RowKit Go.PlainAid
set_option linter.unusedVariables false

/-- A cursor in block g; what it reads lies below B. -/
def Dr (B : Nat) (w : World) (g : Nat) : Prop := g < B ∧ ∃ xs v s, At xs w g v s ∧ Under v B
theorem Dr.keep {B g : Nat} {w w' : World} (h : Dr B w g) (hb : Below B w w') : Dr B w' g := by
  obtain ⟨hg, xs, v, s, ha, hu⟩ := h
  exact ⟨hg, xs, v, s, ha.keep hb hg hu, hu⟩
theorem dr_below (B g : Nat) (n : Int) (w : World) (h : Dr B w g) (h0 : 0 < n) (h1 : n ≤ 1000) :
    Calls Tryd.prog 18 #[.pointer (some ⟨g, 0, none⟩), .int .i64 n] w fun e w' => (∃ x : Int, e = .returned (.int .i64 x) ∧ 0 ≤ x ∧ x < n) ∧ Dr B w' g ∧ w.grownBy w' (some g) := by
  obtain ⟨hg, xs, v, s, ha, hu⟩ := h
  have r := beV_range xs n s (by omega)
  exact (below_at xs n w g v s ha (by omega)).mono fun e w' ⟨he, hA, hgr⟩ => ⟨⟨_, he, r.1, r.2⟩, ⟨hg, xs, v, _, hA, hu⟩, hgr⟩
theorem dr_textN (B g : Nat) (m : Int) (w : World) (h : Dr B w g) (h0 : 0 ≤ m) (h1 : m ≤ 1000) :
    Calls Tryd.prog 19 #[.pointer (some ⟨g, 0, none⟩), .int .i64 m] w fun e w' => (∃ t : ByteArray, e = .returned (.string t) ∧ (t.size : Int) ≤ m) ∧ Dr B w' g ∧ w.grownBy w' (some g) := by
  obtain ⟨hg, xs, v, s, ha, hu⟩ := h
  have hl := teL_length xs m s (by omega)
  exact (text_at xs m w g v s ha (by omega) (by omega)).mono fun e w' ⟨he, hA, hgr⟩ => ⟨⟨_, he, by rw [strOfNums_size]; omega⟩, ⟨hg, xs, v, _, hA, hu⟩, hgr⟩
theorem dr_spoil (B g : Nat) (t : ByteArray) (w : World) (h : Dr B w g) (h1 : t.size ≤ 1000) :
    Calls Tryd.prog 20 #[.pointer (some ⟨g, 0, none⟩), .string t] w fun e w' => (∃ r : ByteArray, e = .returned (.string r) ∧ r.size ≤ 2003) ∧ Dr B w' g ∧ w.grownBy w' (some g) := by
  obtain ⟨hg, xs, v, s, ha, hu⟩ := h
  obtain ⟨r, s', hr, hd⟩ := spoil_det xs t s h1
  exact (hd w g v ha).mono fun e w' ⟨he, hA, hgr⟩ => ⟨⟨r, he, by omega⟩, ⟨hg, xs, v, _, hA, hu⟩, hgr⟩
theorem dr_new {xs : List Int} {w : World} {g : Nat} {v : Value} {s : St} (h : At xs w g v s) : Dr w.heap.size w g := ⟨h.cur.lt, xs, v, s, h, h.under⟩
end Go.Proofs.YtoofnlckeodefaaDoor
