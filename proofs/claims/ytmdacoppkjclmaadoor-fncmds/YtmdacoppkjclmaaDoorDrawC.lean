/- The cursor's draws, without what they are settled by. -/
import Derived.Test.YtmdacoppkjclmaaDoorCur
import Derived.Test.YtmdacoppkjclmaaDoorReadQ
import Derived.Test.YtmdacoppkjclmaaDoorSpAll
namespace Go.Proofs.YtmdacoppkjclmaaDoor
open Go.RowKit Go.PlainAid
set_option linter.unusedVariables false

/-- A cursor in block g; what it reads lies below B. -/
def Dr (B : Nat) (w : World) (g : Nat) : Prop := g < B ∧ ∃ xs v s, At xs w g v s ∧ Under v B
theorem Dr.keep {B g : Nat} {w w' : World} (h : Dr B w g) (hb : Below B w w') : Dr B w' g := by
  obtain ⟨hg, xs, v, s, ha, hu⟩ := h
  exact ⟨hg, xs, v, s, ha.keep hb hg hu, hu⟩
theorem dr_below (B g : Nat) (n : Int) (w : World) (h : Dr B w g) (h0 : 0 < n) (h1 : n ≤ 1000) :
    Calls Tryd.prog 50 #[.pointer (some ⟨g, 0, none⟩), .int .i64 n] w fun e w' => (∃ x : Int, e = .returned (.int .i64 x) ∧ 0 ≤ x ∧ x < n) ∧ Dr B w' g ∧ w.grownBy w' (some g) := by
  obtain ⟨hg, xs, v, s, ha, hu⟩ := h
  have r := beV_range xs n s (by omega)
  exact (below_at xs n w g v s ha (by omega)).mono fun e w' ⟨he, hA, hgr⟩ => ⟨⟨_, he, r.1, r.2⟩, ⟨hg, xs, v, _, hA, hu⟩, hgr⟩
theorem dr_once (B g : Nat) (n : Int) (w : World) (h : Dr B w g) (h1 : n ≤ 1000) :
    Calls Tryd.prog 33 #[.pointer (some ⟨g, 0, none⟩), .int .i64 n] w fun e w' => (∃ x : Bool, e = .returned (.bool x)) ∧ Dr B w' g ∧ w.grownBy w' (some g) := by
  obtain ⟨hg, xs, v, s, ha, hu⟩ := h
  exact (once_at xs n w g v s ha (by omega)).mono fun e w' ⟨he, hA, hgr⟩ => ⟨⟨_, he⟩, ⟨hg, xs, v, _, hA, hu⟩, hgr⟩
theorem dr_text (B g : Nat) (w : World) (h : Dr B w g) :
    Calls Tryd.prog 53 #[.pointer (some ⟨g, 0, none⟩), .int .i64 9] w fun e w' => (∃ t : ByteArray, e = .returned (.string t) ∧ t.size ≤ 9) ∧ Dr B w' g ∧ w.grownBy w' (some g) := by
  obtain ⟨hg, xs, v, s, ha, hu⟩ := h
  have hl := teL_length xs 9 s (by omega)
  exact (text_at xs 9 w g v s ha (by omega) (by omega)).mono fun e w' ⟨he, hA, hgr⟩ => ⟨⟨_, he, by rw [strOfNums_size]; omega⟩, ⟨hg, xs, v, _, hA, hu⟩, hgr⟩
theorem dr_spoil (B g : Nat) (t : ByteArray) (w : World) (h : Dr B w g) (h1 : t.size ≤ 1000) :
    Calls Tryd.prog 34 #[.pointer (some ⟨g, 0, none⟩), .string t] w fun e w' => (∃ r : ByteArray, e = .returned (.string r) ∧ r.size ≤ 2003) ∧ Dr B w' g ∧ w.grownBy w' (some g) := by
  obtain ⟨hg, xs, v, s, ha, hu⟩ := h
  obtain ⟨r, s', hr, hd⟩ := spoil_det xs t s h1
  exact (hd w g v ha).mono fun e w' ⟨he, hA, hgr⟩ => ⟨⟨r, he, by omega⟩, ⟨hg, xs, v, _, hA, hu⟩, hgr⟩
theorem dr_pickI (B g q m : Nat) (l : List Int) (w : World) (h : Dr B w g) (hm : l.length = m) (h0 : 0 < m) (h1 : m ≤ 1000) (hq : q ≠ g) (hc : ∀ j, j < m → w.cell? ⟨q, j, none⟩ = some (.int .i64 (l.getD j 0))) :
    Calls Tryd.prog 51 #[.pointer (some ⟨g, 0, none⟩), .slice (some ⟨q, 0, none⟩) m m] w fun e w' => (∃ x : Int, e = .returned (.int .i64 x)) ∧ Dr B w' g ∧ w.grownBy w' (some g) := by
  obtain ⟨hg, xs, v, s, ha, hu⟩ := h
  exact (pick_at xs l w g q m v s ha hm h0 h1 hq hc).mono fun e w' ⟨he, hA, hgr⟩ => ⟨⟨_, he⟩, ⟨hg, xs, v, _, hA, hu⟩, hgr⟩
theorem dr_pickS (B g q m : Nat) (l : List ByteArray) (w : World) (h : Dr B w g) (hm : l.length = m) (h0 : 0 < m) (h1 : m ≤ 1000) (hq : q ≠ g) (hc : ∀ j, j < m → w.cell? ⟨q, j, none⟩ = some (.string (l.getD j ByteArray.empty))) (hs : ∀ j, (l.getD j ByteArray.empty).size ≤ 9) :
    Calls Tryd.prog 52 #[.pointer (some ⟨g, 0, none⟩), .slice (some ⟨q, 0, none⟩) m m] w fun e w' => (∃ t : ByteArray, e = .returned (.string t) ∧ t.size ≤ 9) ∧ Dr B w' g ∧ w.grownBy w' (some g) := by
  obtain ⟨hg, xs, v, s, ha, hu⟩ := h
  exact (pickS_at xs l w g q m v s ha hm h0 h1 hq hc).mono fun e w' ⟨he, hA, hgr⟩ => ⟨⟨_, he, hs _⟩, ⟨hg, xs, v, _, hA, hu⟩, hgr⟩

/-- The strings of a command are short. -/
def Small (c : CmdM) : Prop := c.set.size ≤ 9 ∧ c.name.size ≤ 9 ∧ c.tag.size ≤ 9 ∧ c.ch.length ≤ 8 ∧ ∀ j, j < c.ch.length → (el c.ch j).size ≤ 9
/-- A command that is being drawn: the cursor in block g, the result's box r0, the command's box gx. -/
structure Dw (B g r0 gx : Nat) (w0 w : World) (c : CmdM) (a : Option Addr) (n cap : Nat) : Prop where
  dr : Dr B w g
  b0 : Box w r0 26 #[.int .i64 0, .int .i64 0, .int .i64 0, .string ⟨#[]⟩, .string ⟨#[]⟩, .string ⟨#[]⟩, .int .i64 0, .slice none 0 0]
  bx : Box w gx 26 #[.int .i64 c.kind, .int .i64 c.client, .int .i64 c.no, .string c.set, .string c.name, .string c.tag, .int .i64 c.n, .slice a n cap]
  gr : GrowsS w (gx + 1) (.slice a n cap) c.ch
  sm : Small c
  af : w0.grownBy w (some g)
  o1 : B ≤ r0
  o2 : r0 < gx
  o3 : w0.heap.size ≤ r0
theorem Dw.gB {B g r0 gx : Nat} {w0 w : World} {c : CmdM} {a : Option Addr} {n cap : Nat} (h : Dw B g r0 gx w0 w c a n cap) : g < B := h.dr.1
theorem Dw.call {B g r0 gx : Nat} {w0 w w' : World} {c : CmdM} {a : Option Addr} {n cap : Nat} (h : Dw B g r0 gx w0 w c a n cap) (hd : Dr B w' g) (hg : w.grownBy w' (some g)) : Dw B g r0 gx w0 w' c a n cap := by
  have h1 := h.gB
  have h2 := h.o1
  have h3 := h.o2
  exact ⟨hd, h.b0.keep hg (by simp; omega), h.bx.keep hg (by simp; omega), h.gr.kept hg (by omega), h.sm, h.af.trans hg, h.o1, h.o2, h.o3⟩
theorem Dw.later {B g r0 gx : Nat} {w0 w w' : World} {c : CmdM} {a : Option Addr} {n cap : Nat} (h : Dw B g r0 gx w0 w c a n cap) (hb : Below w.heap.size w w') : Dw B g r0 gx w0 w' c a n cap := by
  have h1 := h.o1
  have h2 := h.b0.lt
  exact ⟨h.dr.keep (hb.mono (by omega)), h.b0.after hb, h.bx.after hb, h.gr.later hb, h.sm, h.af.trans (grown_of_below hb _), h.o1, h.o2, h.o3⟩
theorem Dw.alloc {B g r0 gx : Nat} {w0 w : World} {c : CmdM} {a : Option Addr} {n cap : Nat} (h : Dw B g r0 gx w0 w c a n cap) (o : Obj) : Dw B g r0 gx w0 (w.alloc o) c a n cap := h.later ((Below.refl _ _).alloc (Nat.le_refl _) _)
theorem Dw.drew {B g r0 gx : Nat} {w0 w : World} {c : CmdM} {a : Option Addr} {n cap : Nat} (h : Dw B g r0 gx w0 w c a n cap) : Dw B g r0 gx w0 w.drew c a n cap := h.later (Below.refl _ _).drew
theorem Dw.put {B g r0 gx : Nat} {w0 w : World} {c c' : CmdM} {a : Option Addr} {n cap : Nat} (h : Dw B g r0 gx w0 w c a n cap) (j : Nat) (x : Value) (hx : (#[.int .i64 c.kind, .int .i64 c.client, .int .i64 c.no, .string c.set, .string c.name, .string c.tag, .int .i64 c.n, .slice a n cap] : Array Value).setIfInBounds j x = #[.int .i64 c'.kind, .int .i64 c'.client, .int .i64 c'.no, .string c'.set, .string c'.name, .string c'.tag, .int .i64 c'.n, .slice a n cap]) (hc : c'.ch = c.ch) (hs : Small c') :
    Dw B g r0 gx w0 (w.setCell ⟨gx, j, none⟩ x) c' a n cap := by
  have h1 := h.gB
  have h2 := h.o1
  have h3 := h.o2
  have h4 := h.o3
  have hB : Below B w (w.setCell ⟨gx, j, none⟩ x) := (Below.refl _ _).setCell (by simp only; omega) _
  refine ⟨h.dr.keep hB, h.b0.set_other _ _ (by simp only [ne_eq]; omega), h.bx.setTo j x _ hx, ?_, hs, ?_, h2, h3, h4⟩
  · rw [hc]
    exact h.gr.kept (setG _ _ _ _) (by omega)
  · exact grown_then h.af (setG _ gx j x) (fun k hk => by cases hk; omega)
theorem Dw.push {B g r0 gx : Nat} {w0 w w' : World} {c : CmdM} {a a' : Option Addr} {n cap n' cap' : Nat} (h : Dw B g r0 gx w0 w c a n cap) (t : ByteArray) (hg : w.grownBy w' (Value.ownBlock (.slice a n cap))) (hv : GrowsS w' (gx + 1) (.slice a' n' cap') (c.ch ++ [t])) (ht : t.size ≤ 9) (hl : c.ch.length ≤ 7) :
    Dw B g r0 gx w0 (w'.setCell ⟨gx, 7, none⟩ (.slice a' n' cap')) { c with ch := c.ch ++ [t] } a' n' cap' := by
  have h1 := h.gB
  have h2 := h.o1
  have h3 := h.o2
  have h4 := h.o3
  have hbl : gx < w.heap.size := h.bx.lt
  have own : ∀ k, Value.ownBlock (.slice a n cap) = some k → gx + 1 ≤ k := fun k hk => (World.ownsRow.lt h.gr k hk).1
  have hB : Below (gx + 1) w w' := below_of_grown h.gr (by omega) hg
  have hx : Box w' gx 26 _ := h.bx.later hB (by omega)
  obtain ⟨m1, m2, m3, m4, m5⟩ := h.sm
  refine ⟨h.dr.keep ((hB.mono (by omega)).setCell (by simp only; omega) _), (h.b0.later hB (by omega)).set_other _ _ (by simp only [ne_eq]; omega), hx.setTo 7 _ _ rfl, hv.kept (setG _ _ _ _) (by omega), ⟨m1, m2, m3, by simp; omega, fun j hj => ?_⟩, ?_, h2, h3, h4⟩
  · simp only [List.length_append, List.length_singleton] at hj
    show (el (c.ch ++ [t]) j).size ≤ 9
    rw [el_eq, List.getD]
    by_cases e : j < c.ch.length
    · rw [List.getElem?_append_left e]
      have := m5 j e
      rw [el_eq, List.getD] at this
      exact this
    · have : j = c.ch.length := by omega
      subst this
      rw [List.getElem?_append_right (Nat.le_refl _)]
      simpa using ht
  · exact grown_then (grown_then h.af hg (fun k hk => by have := own k hk; omega)) (setG _ gx 7 _) (fun k hk => by cases hk; omega)
theorem lit3 (w : World) (x y z : Value) (t : TypeId) (f : Nat → Value) (h0 : f 0 = x) (h1 : f 1 = y) (h2 : f 2 = z) : ∀ j, j < 3 → (w.alloc (.cells #[x, y, z] t)).cell? ⟨w.heap.size, j, none⟩ = some (f j) := by
  intro j hj
  match j, hj with
  | 0, _ => simp [h0]
  | 1, _ => simp [h1]
  | 2, _ => simp [h2]
theorem lit2 (w : World) (x y : Value) (t : TypeId) (f : Nat → Value) (h0 : f 0 = x) (h1 : f 1 = y) : ∀ j, j < 2 → (w.alloc (.cells #[x, y] t)).cell? ⟨w.heap.size, j, none⟩ = some (f j) := by
  intro j hj
  match j, hj with
  | 0, _ => simp [h0]
  | 1, _ => simp [h1]
theorem lit4 (w : World) (x y z u : Value) (t : TypeId) (f : Nat → Value) (h0 : f 0 = x) (h1 : f 1 = y) (h2 : f 2 = z) (h3 : f 3 = u) : ∀ j, j < 4 → (w.alloc (.cells #[x, y, z, u] t)).cell? ⟨w.heap.size, j, none⟩ = some (f j) := by
  intro j hj
  match j, hj with
  | 0, _ => simp [h0]
  | 1, _ => simp [h1]
  | 2, _ => simp [h2]
  | 3, _ => simp [h3]
end Go.Proofs.YtmdacoppkjclmaaDoor
