/- Nodes: their cells; what a call owns of them. -/
import Derived.Test.YtckeeadkhopljaaGreatDoorLdCs
namespace Go.Proofs.YtckeeadkhopljaaGreatDoor
open Go.RowKit Go.PlainAid
set_option linter.unusedVariables false

/-- A node, in plain words. -/
structure Nd where
  me : Int
  next : Int
  insts : List In
  leads : List Ld
def NdP (w : World) (x : Nd) (u v : Value) : Prop := Insts w u x.insts ∧ Leads w v x.leads
theorem NdP.later {w w' : World} {x : Nd} {u v : Value} (h : NdP w x u v) (hb : Below w.heap.size w w') : NdP w' x u v := ⟨h.1.later hb, h.2.later hb⟩
theorem NdP.alloc {w : World} {x : Nd} {u v : Value} (h : NdP w x u v) (o : Obj) : NdP (w.alloc o) x u v := h.later ((Below.refl _ _).alloc (Nat.le_refl _) _)
theorem NdP.form {w : World} {x : Nd} {u v : Value} (h : NdP w x u v) : (∃ a n c, u = .slice a n c) ∧ ∃ a n c, v = .slice a n c := ⟨h.1.form, h.2.form⟩
theorem cells4 {w : World} {g : Nat} {t : TypeId} {x0 x1 x2 x3 : Value} (h : Bx w g t #[x0, x1, x2, x3]) : w.cell? ⟨g, 0, none⟩ = some x0 ∧ w.cell? ⟨g, 1, none⟩ = some x1 ∧ w.cell? ⟨g, 2, none⟩ = some x2 ∧ w.cell? ⟨g, 3, none⟩ = some x3 :=
  ⟨h.cell 0 _ rfl, h.cell 1 _ rfl, h.cell 2 _ rfl, h.cell 3 _ rfl⟩
theorem froz4 {w : World} {g : Nat} {t : TypeId} {cs : Array Value} (h : Bx w g t cs) : w.frozen? ⟨g, 0, none⟩ = false ∧ w.frozen? ⟨g, 1, none⟩ = false ∧ w.frozen? ⟨g, 2, none⟩ = false ∧ w.frozen? ⟨g, 3, none⟩ = false := ⟨h.frozen 0, h.frozen 1, h.frozen 2, h.frozen 3⟩
set_option maxHeartbeats 400000 in
theorem load_node (w : World) (g : Nat) (x0 x1 x2 x3 : Value) (h : w.cell? ⟨g, 0, none⟩ = some x0 ∧ w.cell? ⟨g, 1, none⟩ = some x1 ∧ w.cell? ⟨g, 2, none⟩ = some x2 ∧ w.cell? ⟨g, 3, none⟩ = some x3) : (loadVar 30 ⟨g, 0, none⟩).run Tryz.prog w = .ok (.agg #[x0, x1, x2, x3]) w := by
  obtain ⟨h0, h1, h2, h3⟩ := h
  go_simp
theorem results_node {fn : Func} {p : Tmp} (h : fn.results = #[.cell p 30]) (tmps : Array Value) (w : World) (g : Nat) (x0 x1 x2 x3 : Value)
    (hp : tmps.getD p undef = .pointer (some ⟨g, 0, none⟩)) (hc : w.cell? ⟨g, 0, none⟩ = some x0 ∧ w.cell? ⟨g, 1, none⟩ = some x1 ∧ w.cell? ⟨g, 2, none⟩ = some x2 ∧ w.cell? ⟨g, 3, none⟩ = some x3) : (results fn tmps).run Tryz.prog w = .ok (.agg #[x0, x1, x2, x3]) w := by
  have e : (results fn tmps).run Tryz.prog w = ((asAddr (tmps.getD p undef)).run Tryz.prog w).andThen fun a w₁ => (loadVar 30 a).run Tryz.prog w₁ := by
    simp only [results, h]
    simp [Sem.run_bind, Result.andThen]
  rw [e, hp, asAddr_ptr]
  simp only [Result.andThen]
  exact load_node w g x0 x1 x2 x3 hc
theorem InOwn.mono {w : World} {lo hi lo' hi' : Nat} {v : Value} {l : List In} (h : InOwn w lo hi v l) (h1 : lo' ≤ lo) (h2 : hi ≤ hi') : InOwn w lo' hi' v l := by
  obtain ⟨a, cap, e, q1, q2, h3⟩ := h
  refine ⟨a, cap, e, q1, q2, fun h0 => ?_⟩
  obtain ⟨g, o, cur, r1, r2, r3, r4⟩ := h3 h0
  refine ⟨g, o, cur, r1, ⟨by omega, by omega, r2.2.2⟩, r3, fun j hj => ?_⟩
  obtain ⟨u, d, s1, s2, s3⟩ := r4 j hj
  exact ⟨u, d, s1, s2.mono h1 h2, s3⟩
theorem InOwn.kept {w w' : World} {lo hi : Nat} {v : Value} {l : List In} {row : Option Nat} (h : InOwn w lo hi v l) (hg : w.grownBy w' row) (hne : ∀ k, row = some k → k < lo) : InOwn w' lo hi v l := by
  obtain ⟨a, cap, e, q1, q2, h3⟩ := h
  refine ⟨a, cap, e, q1, q2, fun h0 => ?_⟩
  obtain ⟨g, o, cur, r1, r2, r3, r4⟩ := h3 h0
  refine ⟨g, o, cur, r1, r2, ?_, fun j hj => ?_⟩
  · rw [hg.block g (Array.getElem?_eq_some_iff.1 r3).1 (fun e => by have := hne g e.symm; omega)]
    exact r3
  obtain ⟨u, d, s1, s2, s3⟩ := r4 j hj
  exact ⟨u, d, s1, s2.kept hg (fun k hk => ⟨fun e => by have := (s2.bu k e).1; have := hne k hk; omega, fun e => by have := (s2.bd k e).1; have := hne k hk; omega⟩), s3⟩
theorem LdOwn.mono {w : World} {lo hi lo' hi' : Nat} {v : Value} {l : List Ld} (h : LdOwn w lo hi v l) (h1 : lo' ≤ lo) (h2 : hi ≤ hi') : LdOwn w lo' hi' v l := by
  obtain ⟨a, cap, e, q1, q2, h3⟩ := h
  refine ⟨a, cap, e, q1, q2, fun h0 => ?_⟩
  obtain ⟨g, o, cur, r1, r2, r3, r4⟩ := h3 h0
  refine ⟨g, o, cur, r1, ⟨by omega, by omega, r2.2.2⟩, r3, fun j hj => ?_⟩
  obtain ⟨u, d, s1, s2, s3⟩ := r4 j hj
  exact ⟨u, d, s1, s2.mono h1 h2, s3⟩
theorem LdOwn.kept {w w' : World} {lo hi : Nat} {v : Value} {l : List Ld} {row : Option Nat} (h : LdOwn w lo hi v l) (hg : w.grownBy w' row) (hne : ∀ k, row = some k → k < lo) : LdOwn w' lo hi v l := by
  obtain ⟨a, cap, e, q1, q2, h3⟩ := h
  refine ⟨a, cap, e, q1, q2, fun h0 => ?_⟩
  obtain ⟨g, o, cur, r1, r2, r3, r4⟩ := h3 h0
  refine ⟨g, o, cur, r1, r2, ?_, fun j hj => ?_⟩
  · rw [hg.block g (Array.getElem?_eq_some_iff.1 r3).1 (fun e => by have := hne g e.symm; omega)]
    exact r3
  obtain ⟨u, d, s1, s2, s3⟩ := r4 j hj
  exact ⟨u, d, s1, s2.kept hg (fun k hk => ⟨fun e => by have := (s2.bd k e).1; have := hne k hk; omega, fun e => by have := (s2.bf k e).1; have := hne k hk; omega⟩), s3⟩
end Go.Proofs.YtckeeadkhopljaaGreatDoor
