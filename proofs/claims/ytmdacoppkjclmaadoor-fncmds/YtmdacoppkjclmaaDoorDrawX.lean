/- A command that is changed behind its drawing. -/
import Derived.Test.YtmdacoppkjclmaaDoorDrawR
namespace Go.Proofs.YtmdacoppkjclmaaDoor
open Go.RowKit Go.PlainAid
set_option linter.unusedVariables false

theorem box_ne {w : World} {gx base : Nat} {cs : Array Value} {v : Value} {l : List ByteArray} (hb : Box w gx 26 cs) (hg : GrowsS w base v l) : v.ownBlock ≠ some gx := by
  rcases hg.2 with ⟨rfl, h0⟩ | ⟨g, cap, cur, rfl, hb', hheap, hn, hm, hc, ht⟩
  · simp [Value.ownBlock]
  · intro e
    have e' : g = gx := by simpa [Value.ownBlock] using e
    subst e'
    unfold Box at hb
    rw [hb] at hheap
    simp at hheap
/-- A command that has been drawn: the cursor in block g, the result's box r0, the command's box gx; its chunks behind r0. -/
structure Dx (B g r0 gx : Nat) (w0 w : World) (c : CmdM) (a : Option Addr) (n cap : Nat) : Prop where
  dr : Dr B w g
  b0 : Box w r0 26 #[.int .i64 0, .int .i64 0, .int .i64 0, .string ⟨#[]⟩, .string ⟨#[]⟩, .string ⟨#[]⟩, .int .i64 0, .slice none 0 0]
  bx : Box w gx 26 #[.int .i64 c.kind, .int .i64 c.client, .int .i64 c.no, .string c.set, .string c.name, .string c.tag, .int .i64 c.n, .slice a n cap]
  gr : GrowsS w (r0 + 1) (.slice a n cap) c.ch
  sm : Small c
  af : w0.grownBy w (some g)
  o1 : B ≤ r0
  o2 : r0 < gx
  o3 : w0.heap.size ≤ r0
theorem Dx.gB {B g r0 gx : Nat} {w0 w : World} {c : CmdM} {a : Option Addr} {n cap : Nat} (h : Dx B g r0 gx w0 w c a n cap) : g < B := h.dr.1
theorem Dx.call {B g r0 gx : Nat} {w0 w w' : World} {c : CmdM} {a : Option Addr} {n cap : Nat} (h : Dx B g r0 gx w0 w c a n cap) (hd : Dr B w' g) (hg : w.grownBy w' (some g)) : Dx B g r0 gx w0 w' c a n cap := by
  have h1 := h.gB
  have h2 := h.o1
  have h3 := h.o2
  exact ⟨hd, h.b0.keep hg (by simp; omega), h.bx.keep hg (by simp; omega), h.gr.kept hg (by omega), h.sm, h.af.trans hg, h.o1, h.o2, h.o3⟩
theorem Dx.later {B g r0 gx : Nat} {w0 w w' : World} {c : CmdM} {a : Option Addr} {n cap : Nat} (h : Dx B g r0 gx w0 w c a n cap) (hb : Below w.heap.size w w') : Dx B g r0 gx w0 w' c a n cap := by
  have h1 := h.o1
  have h2 := h.b0.lt
  exact ⟨h.dr.keep (hb.mono (by omega)), h.b0.after hb, h.bx.after hb, h.gr.later hb, h.sm, h.af.trans (grown_of_below hb _), h.o1, h.o2, h.o3⟩
theorem Dx.alloc {B g r0 gx : Nat} {w0 w : World} {c : CmdM} {a : Option Addr} {n cap : Nat} (h : Dx B g r0 gx w0 w c a n cap) (o : Obj) : Dx B g r0 gx w0 (w.alloc o) c a n cap := h.later ((Below.refl _ _).alloc (Nat.le_refl _) _)
theorem Dx.drew {B g r0 gx : Nat} {w0 w : World} {c : CmdM} {a : Option Addr} {n cap : Nat} (h : Dx B g r0 gx w0 w c a n cap) : Dx B g r0 gx w0 w.drew c a n cap := h.later (Below.refl _ _).drew
theorem Dx.put {B g r0 gx : Nat} {w0 w : World} {c c' : CmdM} {a : Option Addr} {n cap : Nat} (h : Dx B g r0 gx w0 w c a n cap) (j : Nat) (x : Value) (hx : (#[.int .i64 c.kind, .int .i64 c.client, .int .i64 c.no, .string c.set, .string c.name, .string c.tag, .int .i64 c.n, .slice a n cap] : Array Value).setIfInBounds j x = #[.int .i64 c'.kind, .int .i64 c'.client, .int .i64 c'.no, .string c'.set, .string c'.name, .string c'.tag, .int .i64 c'.n, .slice a n cap]) (hc : c'.ch = c.ch) (hs : Small c') :
    Dx B g r0 gx w0 (w.setCell ⟨gx, j, none⟩ x) c' a n cap := by
  have h1 := h.gB
  have h2 := h.o1
  have h3 := h.o2
  have h4 := h.o3
  have hB : Below B w (w.setCell ⟨gx, j, none⟩ x) := (Below.refl _ _).setCell (by simp only; omega) _
  refine ⟨h.dr.keep hB, h.b0.set_other _ _ (by simp only [ne_eq]; omega), h.bx.setTo j x _ hx, ?_, hs, ?_, h2, h3, h4⟩
  · rw [hc]
    exact World.ownsRow.kept h.gr (setG _ _ _ _) (.inr (box_ne h.bx h.gr))
  · exact grown_then h.af (setG _ gx j x) (fun k hk => by cases hk; omega)
theorem Dx.push {B g r0 gx : Nat} {w0 w w' : World} {c : CmdM} {a a' : Option Addr} {n cap n' cap' : Nat} (h : Dx B g r0 gx w0 w c a n cap) (t : ByteArray) (hg : w.grownBy w' (Value.ownBlock (.slice a n cap))) (hv : GrowsS w' (r0 + 1) (.slice a' n' cap') (c.ch ++ [t])) (ht : t.size ≤ 9) (hl : c.ch.length ≤ 7) :
    Dx B g r0 gx w0 (w'.setCell ⟨gx, 7, none⟩ (.slice a' n' cap')) { c with ch := c.ch ++ [t] } a' n' cap' := by
  have h1 := h.gB
  have h2 := h.o1
  have h3 := h.o2
  have h4 := h.o3
  have hbl : r0 < w.heap.size := h.b0.lt
  have own : ∀ k, Value.ownBlock (.slice a n cap) = some k → r0 + 1 ≤ k := fun k hk => (World.ownsRow.lt h.gr k hk).1
  have hB : Below (r0 + 1) w w' := below_of_grown h.gr (by omega) hg
  have hx : Box w' gx 26 _ := h.bx.keep hg (fun e => box_ne h.bx h.gr e.symm)
  obtain ⟨m1, m2, m3, m4, m5⟩ := h.sm
  refine ⟨h.dr.keep ((hB.mono (by omega)).setCell (by simp only; omega) _), (h.b0.later hB (by omega)).set_other _ _ (by simp only [ne_eq]; omega), hx.setTo 7 _ _ rfl, World.ownsRow.kept hv (setG _ _ _ _) (.inr (box_ne hx hv)), ⟨m1, m2, m3, by simp; omega, fun j hj => ?_⟩, ?_, h2, h3, h4⟩
  · simp only [List.length_append, List.length_singleton] at hj
    show (el (c.ch ++ [t]) j).size ≤ 9
    rw [el_eq, List.getD]
    by_cases e : j < c.ch.length
    · rw [List.getElem?_append_left e]
      have := m5 j e
      rw [el_eq, List.getD] at this
      exact this
    · have : j = c.ch.length := by omega
      subst this
      rw [List.getElem?_append_right (Nat.le_refl _)]
      simpa using ht
  · exact grown_then (grown_then h.af hg (fun k hk => by have := own k hk; omega)) (setG _ gx 7 _) (fun k hk => by cases hk; omega)
theorem Dx.done {B g r0 gx : Nat} {w0 w : World} {c : CmdM} {a : Option Addr} {n cap : Nat} (h : Dx B g r0 gx w0 w c a n cap) (x0 x1 x2 x3 x4 x5 x6 x7 : Value) :
    GrowsS ((((((((w.setCell ⟨r0, 0, none⟩ x0).setCell ⟨r0, 1, none⟩ x1).setCell ⟨r0, 2, none⟩ x2).setCell ⟨r0, 3, none⟩ x3).setCell ⟨r0, 4, none⟩ x4).setCell ⟨r0, 5, none⟩ x5).setCell ⟨r0, 6, none⟩ x6).setCell ⟨r0, 7, none⟩ x7) (r0 + 1) (.slice a n cap) c.ch
    ∧ Dr B ((((((((w.setCell ⟨r0, 0, none⟩ x0).setCell ⟨r0, 1, none⟩ x1).setCell ⟨r0, 2, none⟩ x2).setCell ⟨r0, 3, none⟩ x3).setCell ⟨r0, 4, none⟩ x4).setCell ⟨r0, 5, none⟩ x5).setCell ⟨r0, 6, none⟩ x6).setCell ⟨r0, 7, none⟩ x7) g
    ∧ w0.grownBy ((((((((w.setCell ⟨r0, 0, none⟩ x0).setCell ⟨r0, 1, none⟩ x1).setCell ⟨r0, 2, none⟩ x2).setCell ⟨r0, 3, none⟩ x3).setCell ⟨r0, 4, none⟩ x4).setCell ⟨r0, 5, none⟩ x5).setCell ⟨r0, 6, none⟩ x6).setCell ⟨r0, 7, none⟩ x7) (some g) := by
  have h1 := h.o1
  have h3 := h.o3
  have hr : ∀ k, some r0 = some k → w0.heap.size ≤ k := fun k hk => by cases hk; exact h3
  refine ⟨h.gr.set8 r0 (by omega) _ _ _ _ _ _ _ _, h.dr.keep ?_, ?_⟩
  · exact ((((((((Below.refl B w).setCell h1 x0).setCell h1 x1).setCell h1 x2).setCell h1 x3).setCell h1 x4).setCell h1 x5).setCell h1 x6).setCell h1 x7
  · exact grown_then (grown_then (grown_then (grown_then (grown_then (grown_then (grown_then (grown_then h.af (setG _ r0 0 x0) hr) (setG _ r0 1 x1) hr) (setG _ r0 2 x2) hr) (setG _ r0 3 x3) hr) (setG _ r0 4 x4) hr) (setG _ r0 5 x5) hr) (setG _ r0 6 x6) hr) (setG _ r0 7 x7) hr
end Go.Proofs.YtmdacoppkjclmaaDoor
