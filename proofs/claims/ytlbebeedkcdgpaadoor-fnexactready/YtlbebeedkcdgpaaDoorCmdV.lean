/- Commands as values: how large one is, and a copy of one. -/
import Derived.Test.YtlbebeedkcdgpaaDoorCmdE
namespace Go.Proofs.YtlbebeedkcdgpaaDoor
open Go.RowKit Go.PlainAid
set_option linter.unusedVariables false

/-- Block g holds the cells cs. -/
def Box (w : World) (g : Nat) (t : TypeId) (cs : Array Value) : Prop := w.heap[g]? = some (.cells cs t (0, 0))
theorem Box.lt {w : World} {g : Nat} {t : TypeId} {cs : Array Value} (h : Box w g t cs) : g < w.heap.size := (Array.getElem?_eq_some_iff.1 h).1
theorem Box.cell {w : World} {g : Nat} {t : TypeId} {cs : Array Value} (h : Box w g t cs) (j : Nat) (x : Value) (hx : cs[j]? = some x) : w.cell? ⟨g, j, none⟩ = some x := by
  rw [cell_of_row w g j _ t (0, 0) h, hx]
theorem Box.frozen {w : World} {g : Nat} {t : TypeId} {cs : Array Value} (h : Box w g t cs) (j : Nat) : w.frozen? ⟨g, j, none⟩ = false := frozen_of_row w g j _ t h
theorem Box.later {w w' : World} {g B : Nat} {t : TypeId} {cs : Array Value} (h : Box w g t cs) (hb : Below B w w') (hg : g < B) : Box w' g t cs := by
  unfold Box
  rw [hb.block g hg]
  exact h
theorem Box.after {w w' : World} {g : Nat} {t : TypeId} {cs : Array Value} (h : Box w g t cs) (hb : Below w.heap.size w w') : Box w' g t cs := h.later hb h.lt
theorem Box.alloc {w : World} {g : Nat} {t : TypeId} {cs : Array Value} (h : Box w g t cs) (o : Obj) : Box (w.alloc o) g t cs := h.after ((Below.refl _ _).alloc (Nat.le_refl _) _)
theorem Box.drew {w : World} {g : Nat} {t : TypeId} {cs : Array Value} (h : Box w g t cs) : Box w.drew g t cs := h
theorem Box.drewN {w : World} {g : Nat} {t : TypeId} {cs : Array Value} (h : Box w g t cs) (m : Nat) : Box (w.drewN m) g t cs := h
theorem Box.new (w : World) (t : TypeId) (cs : Array Value) (g : Nat) (hg : w.heap.size = g) : Box (w.alloc (.cells cs t)) g t cs := by
  subst hg
  exact heap_alloc_new w _
/-- What is known of the eight cells of a block. -/
def Cells8 (w : World) (g : Nat) (x0 x1 x2 x3 x4 x5 x6 x7 : Value) : Prop :=
  w.cell? ⟨g, 0, none⟩ = some x0 ∧ w.cell? ⟨g, 1, none⟩ = some x1 ∧ w.cell? ⟨g, 2, none⟩ = some x2 ∧ w.cell? ⟨g, 3, none⟩ = some x3 ∧ w.cell? ⟨g, 4, none⟩ = some x4 ∧ w.cell? ⟨g, 5, none⟩ = some x5 ∧ w.cell? ⟨g, 6, none⟩ = some x6 ∧ w.cell? ⟨g, 7, none⟩ = some x7
theorem Box.cells8 {w : World} {g : Nat} {t : TypeId} {x0 x1 x2 x3 x4 x5 x6 x7 : Value} (h : Box w g t #[x0, x1, x2, x3, x4, x5, x6, x7]) : Cells8 w g x0 x1 x2 x3 x4 x5 x6 x7 :=
  ⟨h.cell 0 _ rfl, h.cell 1 _ rfl, h.cell 2 _ rfl, h.cell 3 _ rfl, h.cell 4 _ rfl, h.cell 5 _ rfl, h.cell 6 _ rfl, h.cell 7 _ rfl⟩

set_option maxHeartbeats 400000 in
theorem load_cmd (w : World) (g : Nat) (x0 x1 x2 x3 x4 x5 x6 x7 : Value) (h : Cells8 w g x0 x1 x2 x3 x4 x5 x6 x7) : (loadVar 46 ⟨g, 0, none⟩).run Tryd.prog w = .ok (.agg #[x0, x1, x2, x3, x4, x5, x6, x7]) w := by
  obtain ⟨h0, h1, h2, h3, h4, h5, h6, h7⟩ := h
  go_simp
theorem asAddr_ptr (P : Program) (w : World) (a : Addr) : (asAddr (.pointer (some a))).run P w = .ok a w := rfl
theorem results_cmd {fn : Func} {p : Tmp} (h : fn.results = #[.cell p 46]) (tmps : Array Value) (w : World) (g : Nat) (x0 x1 x2 x3 x4 x5 x6 x7 : Value)
    (hp : tmps.getD p undef = .pointer (some ⟨g, 0, none⟩)) (hc : Cells8 w g x0 x1 x2 x3 x4 x5 x6 x7) : (results fn tmps).run Tryd.prog w = .ok (.agg #[x0, x1, x2, x3, x4, x5, x6, x7]) w := by
  have e : (results fn tmps).run Tryd.prog w = ((asAddr (tmps.getD p undef)).run Tryd.prog w).andThen fun a w₁ => (loadVar 46 a).run Tryd.prog w₁ := by
    simp only [results, h]
    simp [Sem.run_bind, Result.andThen]
  rw [e, hp, asAddr_ptr]
  simp only [Result.andThen]
  exact load_cmd w g x0 x1 x2 x3 x4 x5 x6 x7 hc

/-- What is left when a command is measured. -/
def SzCmd (c : CmdM) (left : Int) (e : Ending) : Prop := e = .returned (.int .i64 (-1)) ∨ ∃ r : Int, e = .returned (.int .i64 r) ∧ 0 ≤ r ∧ r ≤ left ∧ (c.ch.length : Int) ≤ left
set_option maxHeartbeats 1000000 in
theorem sz_cmd (c : CmdM) (v : Value) (left : Int) (w : World) (hv : Strs w v c.ch) (h0 : 0 ≤ left) (h1 : left ≤ 1048576) (hs : c.set.size ≤ 9223372036854775807) (hn : c.name.size ≤ 9223372036854775807) (ht : c.tag.size ≤ 9223372036854775807) :
    Calls Tryd.prog 30 #[.agg #[.int .i64 c.kind, .int .i64 c.client, .int .i64 c.no, .string c.set, .string c.name, .string c.tag, .int .i64 c.n, v], .int .i64 left] w fun e w' => SzCmd c left e ∧ Below w.heap.size w w' := by
  have HV := Lib.hid hv
  clear hv
  go_enter Tryd.func30, Tryd.ntmps30
  by_cases g1 : (c.set.size : Int) ≤ left
  case neg =>
    go_wp2
    go_ret
    exact ⟨.inl rfl, (Below.refl _ _).alloc (Nat.le_refl _) _⟩
  by_cases g2 : (c.set.size : Int) + c.name.size ≤ left
  case neg =>
    go_wp2
    go_ret
    exact ⟨.inl rfl, (Below.refl _ _).alloc (Nat.le_refl _) _⟩
  by_cases g3 : (c.set.size : Int) + c.name.size + c.tag.size ≤ left
  case neg =>
    go_wp2
    go_ret
    exact ⟨.inl rfl, (Below.refl _ _).alloc (Nat.le_refl _) _⟩
  go_wp2_with (go_at_call 46; refine (sz_strs v c.ch _ _ (HV.out.alloc _) (by omega) (by omega)).mono ?_; rintro e w' ⟨(rfl | ⟨r, rfl, r0, r1, r2, r3⟩), rfl⟩)
  · go_wp2
    go_ret
    exact ⟨.inl rfl, (Below.refl _ _).alloc (Nat.le_refl _) _⟩
  · clear r3
    go_wp2
    go_ret
    exact ⟨.inr ⟨r, rfl, r0, by omega, by omega⟩, (Below.refl _ _).alloc (Nat.le_refl _) _⟩

set_option maxHeartbeats 1000000 in
theorem to_cmd (c : CmdM) (v : Value) (w : World) (hv : Strs w v c.ch) (hn : c.ch.length ≤ 1048576) :
    Calls Tryd.prog 36 #[.agg #[.int .i64 c.kind, .int .i64 c.client, .int .i64 c.no, .string c.set, .string c.name, .string c.tag, .int .i64 c.n, v]] w fun e w' => (∃ a n cap, e = .returned (.agg #[.int .i64 c.kind, .int .i64 c.client, .int .i64 c.no, .string c.set, .string c.name, .string c.tag, .int .i64 c.n, .slice a n cap]) ∧ Strs w' (.slice a n cap) c.ch) ∧ Below w.heap.size w w' := by
  have HV := Lib.hid hv
  clear hv
  go_enter Tryd.func36, Tryd.ntmps36
  go_wp2_with fail
  refine (to_strs v c.ch _ (((HV.out.alloc _).alloc _).alloc _) hn).mono ?_
  rintro e w1 ⟨⟨g', n', cap', rfl, hg', hv'⟩, hb⟩
  have HV' := Lib.hid hv'
  have HB := Lib.hid hb
  have B1 := (((Box.new w 41 _ _ rfl).alloc _).alloc _).after hb
  have B2 := ((Box.new _ 46 _ _ rfl).alloc _).after hb
  have B3 := (Box.new _ 46 _ _ rfl).after hb
  clear hv' hb
  simp only [World.size_alloc] at B1 B2 B3
  obtain ⟨d0, d1, d2, d3, d4, d5, d6, d7⟩ := B3.cells8
  have f7 := B3.frozen 7
  have e0 := B2.frozen 0
  have e1 := B2.frozen 1
  have e2 := B2.frozen 2
  have e3 := B2.frozen 3
  have e4 := B2.frozen 4
  have e5 := B2.frozen 5
  have e6 := B2.frozen 6
  have e7 := B2.frozen 7
  obtain ⟨x0, x1, x2, x3, x4, x5, x6, x7⟩ := B2.cells8
  have l2 := B2.lt
  clear B1 B2 B3
  go_wp2
  refine bodyPost_ret (results_cmd Tryd.results36 _ _ (w.heap.size + 1) _ _ _ _ _ _ _ (.slice (some ⟨g', 0, none⟩) n' cap') rfl ⟨by go_simp, by go_simp, by go_simp, by go_simp, by go_simp, by go_simp, by go_simp, by go_simp⟩) rfl ⟨⟨_, _, _, rfl, ?_⟩, ?_⟩
  · simp only [World.size_alloc] at hg'
    refine ((((((((HV'.out.set _ _ ?_).set _ _ ?_).set _ _ ?_).set _ _ ?_).set _ _ ?_).set _ _ ?_).set _ _ ?_).set _ _ ?_).set _ _ ?_
    all_goals (simp only; omega)
  · have hb := HB.out
    have hb0 : Below w.heap.size w w1 := ((((Below.refl _ _).alloc (Nat.le_refl _) _).alloc (by simp) _).alloc (by simp; omega) _).trans (hb.mono (by simp; omega))
    refine ((((((((hb0.setCell ?_ _).setCell ?_ _).setCell ?_ _).setCell ?_ _).setCell ?_ _).setCell ?_ _).setCell ?_ _).setCell ?_ _).setCell ?_ _
    all_goals (simp only; omega)
end Go.Proofs.YtlbebeedkcdgpaaDoor
