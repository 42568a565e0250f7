/- Networks in plain words: how their slices read. -/
import Derived.Test.YtdokglckfabdaaaGreatDoorLdB
import Derived.Test.YtdokglckfabdaaaGreatDoorEmM
import Derived.Test.YtdokglckfabdaaaGreatDoorSmM
namespace Go.Proofs.YtdokglckfabdaaaGreatDoor
open Go.RowKit Go.PlainAid
set_option linter.unusedVariables false

abbrev emZ0 : Em := ⟨0, 0, 0, nth [] 0⟩
abbrev ndA (x : Nd) (u v : Value) : List Value := [.int .i64 x.me, .int .i64 x.next, u, v]
/-- The parts of a node, owned: their blocks lie in [lo, hi). -/
def NdO (w : World) (lo hi : Nat) (x : Nd) (u v : Value) : Prop := InOwn w lo hi u x.insts ∧ LdOwn w lo hi v x.leads
theorem NdO.pts {w : World} {lo hi : Nat} {x : Nd} {u v : Value} (h : NdO w lo hi x u v) : NdP w x u v := ⟨h.1.insts, h.2.leads⟩
theorem NdO.later {w w' : World} {lo hi : Nat} {x : Nd} {u v : Value} (h : NdO w lo hi x u v) (hb : Below w.heap.size w w') : NdO w' lo hi x u v := ⟨h.1.later hb, h.2.later hb⟩
theorem NdO.mono {w : World} {lo hi lo' hi' : Nat} {x : Nd} {u v : Value} (h : NdO w lo hi x u v) (h1 : lo' ≤ lo) (h2 : hi ≤ hi') : NdO w lo' hi' x u v := ⟨h.1.mono h1 h2, h.2.mono h1 h2⟩
theorem NdO.keptB {w w' : World} {lo hi : Nat} {x : Nd} {u v : Value} {row : Option Nat} (h : NdO w lo hi x u v) (hg : w.grownBy w' row) (hne : ∀ k, row = some k → k < lo) : NdO w' lo hi x u v := ⟨h.1.kept hg hne, h.2.kept hg hne⟩
theorem ptO_keptB {w w' : World} {lo hi : Nat} {x : In} {u v : Value} {row : Option Nat} (h : PtO w lo hi x u v) (hg : w.grownBy w' row) (hne : ∀ k, row = some k → k < lo) : PtO w' lo hi x u v :=
  h.kept hg (fun k hk => ⟨fun e => by have := (h.bu k e).1; have := hne k hk; omega, fun e => by have := (h.bd k e).1; have := hne k hk; omega⟩)
@[irreducible] def nthN (l : List Nd) (j : Nat) : Nd := l.getD j ⟨0, 0, [], []⟩
theorem nthN_eq (l : List Nd) (j : Nat) : nthN l j = l.getD j ⟨0, 0, [], []⟩ := by unfold nthN; rfl
theorem nthN_get (l : List Nd) (j : Nat) (h : j < l.length) : l[j]? = some (nthN l j) := by
  rw [nthN_eq, List.getD, List.getElem?_eq_getElem h]; rfl
theorem nthN_of {l : List Nd} {j : Nat} {x : Nd} (h : l[j]? = some x) : nthN l j = x := by rw [nthN_eq, List.getD, h]; rfl
def NtC (w : World) (b o : Nat) (x : Nd) (u v : Value) : Prop :=
  w.cell? ⟨b, o, none⟩ = some (.int .i64 x.me) ∧ w.cell? ⟨b, o + 1, none⟩ = some (.int .i64 x.next) ∧ w.cell? ⟨b, o + 2, none⟩ = some (u) ∧ w.cell? ⟨b, o + 3, none⟩ = some (v)
theorem NtC.below {w w' : World} {b o B : Nat} {x : Nd} {u v : Value} (h : NtC w b o x u v) (hb : Below B w w') (hlt : b < B) : NtC w' b o x u v := by
  unfold NtC
  rw [hb.cell (p := ⟨b, o, none⟩) hlt, hb.cell (p := ⟨b, o + 1, none⟩) hlt, hb.cell (p := ⟨b, o + 2, none⟩) hlt, hb.cell (p := ⟨b, o + 3, none⟩) hlt]
  exact h
/-- The cells lie at o in a row. -/
def NtB (cur : Array Value) (o : Nat) (x : Nd) (u v : Value) : Prop := ∀ i, i < 4 → cur[o + i]? = (ndA x u v)[i]?
theorem NtB.toC {w : World} {g o : Nat} {t : TypeId} {cur : Array Value} {x : Nd} {u v : Value} (h : NtB cur o x u v) (hg : w.heap[g]? = some (.cells cur t (0, 0))) : NtC w g o x u v := by
  have hc : ∀ i, i < 4 → w.cell? ⟨g, o + i, none⟩ = (ndA x u v)[i]? := fun i hi => by rw [cell_of_row w g _ cur _ (0, 0) hg]; exact h i hi
  exact ⟨hc 0 (by omega), hc 1 (by omega), hc 2 (by omega), hc 3 (by omega)⟩
theorem NtB.upd {cur : Array Value} {o q : Nat} {x : Nd} {u v : Value} (h : NtB cur o x u v) (vs : List Value) (hv : vs.length = 4) (hq : q + 4 ≤ cur.size) (hne : o + 4 ≤ q ∨ q + 4 ≤ o) : NtB (updL cur q vs) o x u v := by
  intro i hi
  rw [updL_get vs cur q (o + i) (by omega), if_neg (by omega)]
  exact h i hi
theorem NtB.new (cur : Array Value) (q : Nat) (x : Nd) (u v : Value) (hq : q + 4 ≤ cur.size) : NtB (updL cur q (ndA x u v)) q x u v := by
  intro i hi
  rw [updL_get (ndA x u v) cur q (q + i) (show q + 4 ≤ cur.size from hq), if_pos ⟨by omega, by show q + i < q + 4; omega⟩, show q + i - q = i by omega]
/-- The value v is a slice that reads as l. -/
structure Nodes (w : World) (v : Value) (l : List Nd) : Prop where
  len : l.length ≤ 9223372036854775807
  at_ : ∃ a cap, v = .slice a l.length cap ∧ l.length ≤ cap ∧ (0 < l.length → ∃ b o, a = some ⟨b, o, none⟩ ∧ b < w.heap.size ∧ ∀ j, j < l.length → ∃ u v, NtC w b (o + j * 4) (nthN l j) u v ∧ NdP w (nthN l j) u v)
theorem Nodes.form {w : World} {v : Value} {l : List Nd} (h : Nodes w v l) : ∃ a n cap, v = .slice a n cap := by
  obtain ⟨_, a, cap, e, _⟩ := h
  exact ⟨a, _, cap, e⟩
theorem Nodes.later {w w' : World} {v : Value} {l : List Nd} (h : Nodes w v l) (hb : Below w.heap.size w w') : Nodes w' v l := by
  obtain ⟨h1, a, cap, e, hc, h3⟩ := h
  refine ⟨h1, a, cap, e, hc, fun h0 => ?_⟩
  obtain ⟨b, o, ha, hbl, hcl⟩ := h3 h0
  refine ⟨b, o, ha, Nat.lt_of_lt_of_le hbl hb.size, fun j hj => ?_⟩
  obtain ⟨d, f, q1, q2⟩ := hcl j hj
  exact ⟨d, f, q1.below hb hbl, q2.later hb⟩
theorem Nodes.alloc {w : World} {v : Value} {l : List Nd} (h : Nodes w v l) (o : Obj) : Nodes (w.alloc o) v l := h.later ((Below.refl _ _).alloc (Nat.le_refl _) _)
theorem nodes_nil (w : World) (a : Option Addr) (cap : Nat) : Nodes w (.slice a 0 cap) [] := ⟨by simp, a, cap, rfl, by simp, fun h => by simp at h⟩
@[irreducible] def nthE (l : List Em) (j : Nat) : Em := l.getD j emZ0
theorem nthE_eq (l : List Em) (j : Nat) : nthE l j = l.getD j emZ0 := by unfold nthE; rfl
theorem nthE_get (l : List Em) (j : Nat) (h : j < l.length) : l[j]? = some (nthE l j) := by
  rw [nthE_eq, List.getD, List.getElem?_eq_getElem h]; rfl
theorem nthE_of {l : List Em} {j : Nat} {x : Em} (h : l[j]? = some x) : nthE l j = x := by rw [nthE_eq, List.getD, h]; rfl
def MsC (w : World) (b o : Nat) (x : Em) (u v : Value) : Prop :=
  w.cell? ⟨b, o, none⟩ = some (.int .i64 x.kind) ∧ w.cell? ⟨b, o + 1, none⟩ = some (.int .i64 x.frm) ∧ w.cell? ⟨b, o + 2, none⟩ = some (.int .i64 x.dst) ∧ w.cell? ⟨b, o + 3, none⟩ = some (.int .i64 x.i.rep) ∧ w.cell? ⟨b, o + 4, none⟩ = some (.int .i64 x.i.slot) ∧ w.cell? ⟨b, o + 5, none⟩ = some (.int .i64 x.i.bal) ∧ w.cell? ⟨b, o + 6, none⟩ = some (.int .i64 x.i.cmd.kind) ∧ w.cell? ⟨b, o + 7, none⟩ = some (.int .i64 x.i.cmd.client) ∧ w.cell? ⟨b, o + 8, none⟩ = some (.int .i64 x.i.cmd.no) ∧ w.cell? ⟨b, o + 9, none⟩ = some (.string x.i.cmd.set) ∧ w.cell? ⟨b, o + 10, none⟩ = some (.string x.i.cmd.name) ∧ w.cell? ⟨b, o + 11, none⟩ = some (.string x.i.cmd.tag) ∧ w.cell? ⟨b, o + 12, none⟩ = some (.int .i64 x.i.cmd.n) ∧ w.cell? ⟨b, o + 13, none⟩ = some (u) ∧ w.cell? ⟨b, o + 14, none⟩ = some (.int .i64 x.i.seq) ∧ w.cell? ⟨b, o + 15, none⟩ = some (v) ∧ w.cell? ⟨b, o + 16, none⟩ = some (.int .i64 x.i.st) ∧ w.cell? ⟨b, o + 17, none⟩ = some (.int .i64 x.i.vbal) ∧ w.cell? ⟨b, o + 18, none⟩ = some (.bool x.i.same)
theorem MsC.below {w w' : World} {b o B : Nat} {x : Em} {u v : Value} (h : MsC w b o x u v) (hb : Below B w w') (hlt : b < B) : MsC w' b o x u v := by
  unfold MsC
  rw [hb.cell (p := ⟨b, o, none⟩) hlt, hb.cell (p := ⟨b, o + 1, none⟩) hlt, hb.cell (p := ⟨b, o + 2, none⟩) hlt, hb.cell (p := ⟨b, o + 3, none⟩) hlt, hb.cell (p := ⟨b, o + 4, none⟩) hlt, hb.cell (p := ⟨b, o + 5, none⟩) hlt, hb.cell (p := ⟨b, o + 6, none⟩) hlt, hb.cell (p := ⟨b, o + 7, none⟩) hlt, hb.cell (p := ⟨b, o + 8, none⟩) hlt, hb.cell (p := ⟨b, o + 9, none⟩) hlt, hb.cell (p := ⟨b, o + 10, none⟩) hlt, hb.cell (p := ⟨b, o + 11, none⟩) hlt, hb.cell (p := ⟨b, o + 12, none⟩) hlt, hb.cell (p := ⟨b, o + 13, none⟩) hlt, hb.cell (p := ⟨b, o + 14, none⟩) hlt, hb.cell (p := ⟨b, o + 15, none⟩) hlt, hb.cell (p := ⟨b, o + 16, none⟩) hlt, hb.cell (p := ⟨b, o + 17, none⟩) hlt, hb.cell (p := ⟨b, o + 18, none⟩) hlt]
  exact h
/-- The cells lie at o in a row. -/
def MsB (cur : Array Value) (o : Nat) (x : Em) (u v : Value) : Prop := ∀ i, i < 19 → cur[o + i]? = (emA x u v)[i]?
theorem MsB.toC {w : World} {g o : Nat} {t : TypeId} {cur : Array Value} {x : Em} {u v : Value} (h : MsB cur o x u v) (hg : w.heap[g]? = some (.cells cur t (0, 0))) : MsC w g o x u v := by
  have hc : ∀ i, i < 19 → w.cell? ⟨g, o + i, none⟩ = (emA x u v)[i]? := fun i hi => by rw [cell_of_row w g _ cur _ (0, 0) hg]; exact h i hi
  exact ⟨hc 0 (by omega), hc 1 (by omega), hc 2 (by omega), hc 3 (by omega), hc 4 (by omega), hc 5 (by omega), hc 6 (by omega), hc 7 (by omega), hc 8 (by omega), hc 9 (by omega), hc 10 (by omega), hc 11 (by omega), hc 12 (by omega), hc 13 (by omega), hc 14 (by omega), hc 15 (by omega), hc 16 (by omega), hc 17 (by omega), hc 18 (by omega)⟩
theorem MsB.upd {cur : Array Value} {o q : Nat} {x : Em} {u v : Value} (h : MsB cur o x u v) (vs : List Value) (hv : vs.length = 19) (hq : q + 19 ≤ cur.size) (hne : o + 19 ≤ q ∨ q + 19 ≤ o) : MsB (updL cur q vs) o x u v := by
  intro i hi
  rw [updL_get vs cur q (o + i) (by omega), if_neg (by omega)]
  exact h i hi
theorem MsB.new (cur : Array Value) (q : Nat) (x : Em) (u v : Value) (hq : q + 19 ≤ cur.size) : MsB (updL cur q (emA x u v)) q x u v := by
  intro i hi
  rw [updL_get (emA x u v) cur q (q + i) (show q + 19 ≤ cur.size from hq), if_pos ⟨by omega, by show q + i < q + 19; omega⟩, show q + i - q = i by omega]
/-- The value v is a slice that reads as l. -/
structure Msgs (w : World) (v : Value) (l : List Em) : Prop where
  len : l.length ≤ 9223372036854775807
  at_ : ∃ a cap, v = .slice a l.length cap ∧ l.length ≤ cap ∧ (0 < l.length → ∃ b o, a = some ⟨b, o, none⟩ ∧ b < w.heap.size ∧ ∀ j, j < l.length → ∃ u v, MsC w b (o + j * 19) (nthE l j) u v ∧ Pts w ((nthE l j)).i u v)
theorem Msgs.form {w : World} {v : Value} {l : List Em} (h : Msgs w v l) : ∃ a n cap, v = .slice a n cap := by
  obtain ⟨_, a, cap, e, _⟩ := h
  exact ⟨a, _, cap, e⟩
theorem Msgs.later {w w' : World} {v : Value} {l : List Em} (h : Msgs w v l) (hb : Below w.heap.size w w') : Msgs w' v l := by
  obtain ⟨h1, a, cap, e, hc, h3⟩ := h
  refine ⟨h1, a, cap, e, hc, fun h0 => ?_⟩
  obtain ⟨b, o, ha, hbl, hcl⟩ := h3 h0
  refine ⟨b, o, ha, Nat.lt_of_lt_of_le hbl hb.size, fun j hj => ?_⟩
  obtain ⟨d, f, q1, q2⟩ := hcl j hj
  exact ⟨d, f, q1.below hb hbl, q2.later hb⟩
theorem Msgs.alloc {w : World} {v : Value} {l : List Em} (h : Msgs w v l) (o : Obj) : Msgs (w.alloc o) v l := h.later ((Below.refl _ _).alloc (Nat.le_refl _) _)
theorem msgs_nil (w : World) (a : Option Addr) (cap : Nat) : Msgs w (.slice a 0 cap) [] := ⟨by simp, a, cap, rfl, by simp, fun h => by simp at h⟩
/-- The slice v holds l, all of it in blocks behind lo. -/
def NodesO (w : World) (lo : Nat) (v : Value) (l : List Nd) : Prop :=
  ∃ a cap, v = .slice a l.length cap ∧ l.length ≤ cap ∧ l.length ≤ 9223372036854775807 ∧ (0 < l.length → ∃ (g hi : Nat) (cur : Array Value), a = some ⟨g, 0, none⟩ ∧ lo ≤ g ∧ w.heap[g]? = some (.cells cur 41 (0, 0)) ∧ ∀ j, j < l.length → ∃ u v, NtB cur (j * 4) (nthN l j) u v ∧ NdO w lo hi (nthN l j) u v)
theorem NodesO.toL {w : World} {lo : Nat} {v : Value} {l : List Nd} (h : NodesO w lo v l) : Nodes w v l := by
  obtain ⟨a, cap, e, h1, h2, h3⟩ := h
  refine ⟨h2, a, cap, e, h1, fun h0 => ?_⟩
  obtain ⟨g, hi, cur, r1, r2, r3, r4⟩ := h3 h0
  refine ⟨g, 0, r1, (Array.getElem?_eq_some_iff.1 r3).1, fun j hj => ?_⟩
  obtain ⟨u, d, q1, q2⟩ := r4 j hj
  rw [Nat.zero_add]
  exact ⟨u, d, q1.toC r3, q2.pts⟩
theorem NodesO.keptB {w w' : World} {lo : Nat} {v : Value} {l : List Nd} {row : Option Nat} (h : NodesO w lo v l) (hg : w.grownBy w' row) (hne : ∀ k, row = some k → k < lo) : NodesO w' lo v l := by
  obtain ⟨a, cap, e, h1, h2, h3⟩ := h
  refine ⟨a, cap, e, h1, h2, fun h0 => ?_⟩
  obtain ⟨g, hi, cur, r1, r2, r3, r4⟩ := h3 h0
  refine ⟨g, hi, cur, r1, r2, ?_, fun j hj => ?_⟩
  · rw [hg.block g (Array.getElem?_eq_some_iff.1 r3).1 (fun e => by have := hne g e.symm; omega)]
    exact r3
  · obtain ⟨u, d, q1, q2⟩ := r4 j hj
    exact ⟨u, d, q1, NdO.keptB q2 hg hne⟩
theorem NodesO.later {w w' : World} {lo : Nat} {v : Value} {l : List Nd} (h : NodesO w lo v l) (hb : Below w.heap.size w w') : NodesO w' lo v l := h.keptB (grown_of hb none) (fun k hk => by cases hk)
theorem NodesO.form {w : World} {lo : Nat} {v : Value} {l : List Nd} (h : NodesO w lo v l) : ∃ a n cap, v = .slice a n cap := by
  obtain ⟨a, cap, e, _⟩ := h
  exact ⟨a, _, cap, e⟩
/-- The slice v holds l, all of it in blocks behind lo. -/
def MsgsO (w : World) (lo : Nat) (v : Value) (l : List Em) : Prop :=
  ∃ a cap, v = .slice a l.length cap ∧ l.length ≤ cap ∧ l.length ≤ 9223372036854775807 ∧ (0 < l.length → ∃ (g hi : Nat) (cur : Array Value), a = some ⟨g, 0, none⟩ ∧ lo ≤ g ∧ w.heap[g]? = some (.cells cur 50 (0, 0)) ∧ ∀ j, j < l.length → ∃ u v, MsB cur (j * 19) (nthE l j) u v ∧ PtO w lo hi ((nthE l j)).i u v)
theorem MsgsO.toL {w : World} {lo : Nat} {v : Value} {l : List Em} (h : MsgsO w lo v l) : Msgs w v l := by
  obtain ⟨a, cap, e, h1, h2, h3⟩ := h
  refine ⟨h2, a, cap, e, h1, fun h0 => ?_⟩
  obtain ⟨g, hi, cur, r1, r2, r3, r4⟩ := h3 h0
  refine ⟨g, 0, r1, (Array.getElem?_eq_some_iff.1 r3).1, fun j hj => ?_⟩
  obtain ⟨u, d, q1, q2⟩ := r4 j hj
  rw [Nat.zero_add]
  exact ⟨u, d, q1.toC r3, q2.pts⟩
theorem MsgsO.keptB {w w' : World} {lo : Nat} {v : Value} {l : List Em} {row : Option Nat} (h : MsgsO w lo v l) (hg : w.grownBy w' row) (hne : ∀ k, row = some k → k < lo) : MsgsO w' lo v l := by
  obtain ⟨a, cap, e, h1, h2, h3⟩ := h
  refine ⟨a, cap, e, h1, h2, fun h0 => ?_⟩
  obtain ⟨g, hi, cur, r1, r2, r3, r4⟩ := h3 h0
  refine ⟨g, hi, cur, r1, r2, ?_, fun j hj => ?_⟩
  · rw [hg.block g (Array.getElem?_eq_some_iff.1 r3).1 (fun e => by have := hne g e.symm; omega)]
    exact r3
  · obtain ⟨u, d, q1, q2⟩ := r4 j hj
    exact ⟨u, d, q1, ptO_keptB q2 hg hne⟩
theorem MsgsO.later {w w' : World} {lo : Nat} {v : Value} {l : List Em} (h : MsgsO w lo v l) (hb : Below w.heap.size w w') : MsgsO w' lo v l := h.keptB (grown_of hb none) (fun k hk => by cases hk)
theorem MsgsO.form {w : World} {lo : Nat} {v : Value} {l : List Em} (h : MsgsO w lo v l) : ∃ a n cap, v = .slice a n cap := by
  obtain ⟨a, cap, e, _⟩ := h
  exact ⟨a, _, cap, e⟩
theorem Msgs.take {w : World} {a : Option Addr} {n c : Nat} {l : List Em} (h : Msgs w (.slice a n c) l) (k : Nat) (hk : k ≤ l.length) : Msgs w (.slice a k c) (l.take k) := by
  obtain ⟨h1, a', cap, e, hc, h3⟩ := h
  simp only [Value.slice.injEq] at e
  obtain ⟨rfl, rfl, rfl⟩ := e
  have hl : (l.take k).length = k := by rw [List.length_take]; omega
  refine ⟨by omega, a, c, by rw [hl], by omega, fun h0 => ?_⟩
  rw [hl] at h0
  obtain ⟨b, o, ha, hbl, hcl⟩ := h3 (by omega)
  refine ⟨b, o, ha, hbl, fun j hj => ?_⟩
  rw [hl] at hj
  have e : nthE (l.take k) j = nthE l j := by
    refine nthE_of ?_
    rw [List.getElem?_take, if_pos hj, nthE_get l j (by omega)]
  rw [e]
  exact hcl j (by omega)
/-- A network's two lists. -/
structure Nt where
  nodes : List Nd
  pool : List Em
def NtP (w : World) (x : Nt) (u v : Value) : Prop := Nodes w u x.nodes ∧ Msgs w v x.pool
theorem NtP.later {w w' : World} {x : Nt} {u v : Value} (h : NtP w x u v) (hb : Below w.heap.size w w') : NtP w' x u v := ⟨h.1.later hb, h.2.later hb⟩
theorem NtP.alloc {w : World} {x : Nt} {u v : Value} (h : NtP w x u v) (o : Obj) : NtP (w.alloc o) x u v := h.later ((Below.refl _ _).alloc (Nat.le_refl _) _)
theorem NtP.form {w : World} {x : Nt} {u v : Value} (h : NtP w x u v) : (∃ a n c, u = .slice a n c) ∧ ∃ a n c, v = .slice a n c := ⟨h.1.form, h.2.form⟩
theorem Bx.cT {w : World} {g : Nat} {t : TypeId} {x0 x1 : Value} (h : Bx w g t #[x0, x1]) : w.cell? ⟨g, 0, none⟩ = some x0 ∧ w.cell? ⟨g, 1, none⟩ = some x1 := ⟨h.cell 0 _ rfl, h.cell 1 _ rfl⟩
end Go.Proofs.YtdokglckfabdaaaGreatDoor
