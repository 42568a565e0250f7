/- The law's copy of instances: the copy owns its memory. -/
import Derived.Test.YtlbebeedkcdgpaaDoorInTo
namespace Go.Proofs.YtlbebeedkcdgpaaDoor
open Go.RowKit Go.PlainAid
set_option linter.unusedVariables false

theorem updL_eq (vs : List Value) (cur : Array Value) (off : Nat) (h : off + vs.length ≤ cur.size) : updL cur off vs = (cur.toList.take off ++ (vs ++ cur.toList.drop (off + vs.length))).toArray := by
  apply Array.ext_getElem?
  intro i
  have et : ∀ L : List Value, (L.toArray)[i]? = L[i]? := fun L => by simp
  refine Eq.trans ?_ (et _).symm
  rw [updL_get vs cur off i h]
  have hl : (cur.toList.take off).length = off := by rw [List.length_take, Array.length_toList]; omega
  by_cases h1 : i < off
  · rw [if_neg (by omega), List.getElem?_append_left (by omega), List.getElem?_take, if_pos h1, Array.getElem?_toList]
  · rw [List.getElem?_append_right (by omega), hl]
    by_cases h2 : i < off + vs.length
    · rw [if_pos ⟨by omega, h2⟩, List.getElem?_append_left (by omega)]
    · rw [if_neg (by omega), List.getElem?_append_right (by omega), List.getElem?_drop, Array.getElem?_toList, show off + vs.length + (i - off - vs.length) = i by omega]
/-- The cells of an instance. -/
abbrev inA (x : In) (u d : Value) : List Value := [.int .i64 x.rep, .int .i64 x.slot, .int .i64 x.bal, .int .i64 x.vbal, .int .i64 x.st, .int .i64 x.cmd.kind, .int .i64 x.cmd.client, .int .i64 x.cmd.no, .string x.cmd.set, .string x.cmd.name, .string x.cmd.tag, .int .i64 x.cmd.n, u, .int .i64 x.seq, d, .bool x.same]
/-- The cells of an instance lie at o in a row. -/
def InB (cur : Array Value) (o : Nat) (x : In) (u d : Value) : Prop := ∀ i, i < 16 → cur[o + i]? = (inA x u d)[i]?
theorem InB.inC {w : World} {g o : Nat} {t : TypeId} {cur : Array Value} {x : In} {u d : Value} (h : InB cur o x u d) (hg : w.heap[g]? = some (.cells cur t (0, 0))) : InC w g o x u d := by
  have hc : ∀ i, i < 16 → w.cell? ⟨g, o + i, none⟩ = (inA x u d)[i]? := fun i hi => by rw [cell_of_row w g _ cur _ (0, 0) hg]; exact h i hi
  exact ⟨hc 0 (by omega), hc 1 (by omega), hc 2 (by omega), hc 3 (by omega), hc 4 (by omega), hc 5 (by omega), hc 6 (by omega), hc 7 (by omega), hc 8 (by omega), hc 9 (by omega), hc 10 (by omega), hc 11 (by omega), hc 12 (by omega), hc 13 (by omega), hc 14 (by omega), hc 15 (by omega)⟩
/-- The parts of an instance, owned: their blocks lie in [lo, hi). -/
structure PtO (w : World) (lo hi : Nat) (x : In) (u d : Value) : Prop where
  st : StO w lo u x.cmd.ch
  ids : IdOwn w lo d x.deps
  bu : ∀ k, u.ownBlock = some k → lo ≤ k ∧ k < hi
  bd : ∀ k, d.ownBlock = some k → lo ≤ k ∧ k < hi
  fit : Fit x
theorem PtO.pts {w : World} {lo hi : Nat} {x : In} {u d : Value} (h : PtO w lo hi x u d) : Pts w x u d := ⟨h.st.strs, h.ids.ids, h.fit⟩
theorem PtO.later {w w' : World} {lo hi : Nat} {x : In} {u d : Value} (h : PtO w lo hi x u d) (hb : Below w.heap.size w w') : PtO w' lo hi x u d := ⟨h.st.later hb, h.ids.later hb, h.bu, h.bd, h.fit⟩
theorem PtO.mono {w : World} {lo hi lo' hi' : Nat} {x : In} {u d : Value} (h : PtO w lo hi x u d) (h1 : lo' ≤ lo) (h2 : hi ≤ hi') : PtO w lo' hi' x u d :=
  ⟨h.st.mono h1, h.ids.mono h1, fun k hk => by have := h.bu k hk; omega, fun k hk => by have := h.bd k hk; omega, h.fit⟩
theorem PtO.kept {w w' : World} {lo hi : Nat} {x : In} {u d : Value} {row : Option Nat} (h : PtO w lo hi x u d) (hg : w.grownBy w' row) (h1 : ∀ k, row = some k → u.ownBlock ≠ some k ∧ d.ownBlock ≠ some k) : PtO w' lo hi x u d :=
  ⟨⟨h.st.1.keepB hg (fun k hk => (h1 k hk).1), h.st.2⟩, h.ids.keepB hg (fun _ k hk => (h1 k hk).2), h.bu, h.bd, h.fit⟩
/-- The slice v holds l, and all of it is the call's own, in blocks of [lo, hi). -/
def InOwn (w : World) (lo hi : Nat) (v : Value) (l : List In) : Prop :=
  ∃ a cap, v = .slice a l.length cap ∧ l.length ≤ cap ∧ l.length ≤ 9223372036854775807 ∧ (0 < l.length → ∃ g o cur, a = some ⟨g, o, none⟩ ∧ (lo ≤ g ∧ g < hi ∧ o + cap * 16 ≤ cur.size) ∧ w.heap[g]? = some (.cells cur 48 (0, 0)) ∧ ∀ j, j < l.length → ∃ u d, InB cur (o + j * 16) (nth l j) u d ∧ PtO w lo hi (nth l j) u d ∧ u.ownBlock ≠ some g ∧ d.ownBlock ≠ some g)
theorem InOwn.form {w : World} {lo hi : Nat} {v : Value} {l : List In} (h : InOwn w lo hi v l) : ∃ a n cap, v = .slice a n cap := by
  obtain ⟨a, cap, e, _⟩ := h
  exact ⟨a, _, cap, e⟩
theorem InOwn.insts {w : World} {lo hi : Nat} {v : Value} {l : List In} (h : InOwn w lo hi v l) : Insts w v l := by
  obtain ⟨a, cap, e, h1, h2, h3⟩ := h
  refine ⟨h2, a, cap, e, h1, fun h0 => ?_⟩
  obtain ⟨g, o, cur, r1, r2, r3, r4⟩ := h3 h0
  refine ⟨g, o, r1, (Array.getElem?_eq_some_iff.1 r3).1, fun j hj => ?_⟩
  obtain ⟨u, d, q1, q2, _⟩ := r4 j hj
  exact ⟨u, d, q1.inC r3, q2.pts⟩
theorem InOwn.later {w w' : World} {lo hi : Nat} {v : Value} {l : List In} (h : InOwn w lo hi v l) (hb : Below w.heap.size w w') : InOwn w' lo hi v l := by
  obtain ⟨a, cap, e, h1, h2, h3⟩ := h
  refine ⟨a, cap, e, h1, h2, fun h0 => ?_⟩
  obtain ⟨g, o, cur, r1, r2, r3, r4⟩ := h3 h0
  refine ⟨g, o, cur, r1, r2, (hb.block g (Array.getElem?_eq_some_iff.1 r3).1).trans r3, fun j hj => ?_⟩
  obtain ⟨u, d, q1, q2, q3⟩ := r4 j hj
  exact ⟨u, d, q1, q2.later hb, q3⟩
theorem inOwn_nil (w : World) (lo hi : Nat) (a : Option Addr) (cap : Nat) : InOwn w lo hi (.slice a 0 cap) [] := ⟨a, cap, rfl, by simp, by simp, fun h => by simp at h⟩

theorem wp_worldC {P : Program} {f : FuncId} {args : Array Value} {w W : World} {Q : Ending → World → Prop} (h : W = w) (hc : Calls P f args W Q) : Calls P f args w Q := h ▸ hc
set_option maxHeartbeats 400000 in
theorem load_inst (w : World) (g : Nat) (x0 x1 x2 x3 x4 x5 x6 x7 x8 x9 x10 x11 x12 x13 x14 x15 : Value) (h : w.cell? ⟨g, 0, none⟩ = some x0 ∧ w.cell? ⟨g, 1, none⟩ = some x1 ∧ w.cell? ⟨g, 2, none⟩ = some x2 ∧ w.cell? ⟨g, 3, none⟩ = some x3 ∧ w.cell? ⟨g, 4, none⟩ = some x4 ∧ w.cell? ⟨g, 5, none⟩ = some x5 ∧ w.cell? ⟨g, 6, none⟩ = some x6 ∧ w.cell? ⟨g, 7, none⟩ = some x7 ∧ w.cell? ⟨g, 8, none⟩ = some x8 ∧ w.cell? ⟨g, 9, none⟩ = some x9 ∧ w.cell? ⟨g, 10, none⟩ = some x10 ∧ w.cell? ⟨g, 11, none⟩ = some x11 ∧ w.cell? ⟨g, 12, none⟩ = some x12 ∧ w.cell? ⟨g, 13, none⟩ = some x13 ∧ w.cell? ⟨g, 14, none⟩ = some x14 ∧ w.cell? ⟨g, 15, none⟩ = some x15) : (loadVar 48 ⟨g, 0, none⟩).run Tryd.prog w = .ok (.agg #[x0, x1, x2, x3, x4, x5, x6, x7, x8, x9, x10, x11, x12, x13, x14, x15]) w := by
  obtain ⟨h0, h1, h2, h3, h4, h5, h6, h7, h8, h9, h10, h11, h12, h13, h14, h15⟩ := h
  go_simp
theorem results_inst {fn : Func} {p : Tmp} (h : fn.results = #[.cell p 48]) (tmps : Array Value) (w : World) (g : Nat) (x0 x1 x2 x3 x4 x5 x6 x7 x8 x9 x10 x11 x12 x13 x14 x15 : Value)
    (hp : tmps.getD p undef = .pointer (some ⟨g, 0, none⟩)) (hc : w.cell? ⟨g, 0, none⟩ = some x0 ∧ w.cell? ⟨g, 1, none⟩ = some x1 ∧ w.cell? ⟨g, 2, none⟩ = some x2 ∧ w.cell? ⟨g, 3, none⟩ = some x3 ∧ w.cell? ⟨g, 4, none⟩ = some x4 ∧ w.cell? ⟨g, 5, none⟩ = some x5 ∧ w.cell? ⟨g, 6, none⟩ = some x6 ∧ w.cell? ⟨g, 7, none⟩ = some x7 ∧ w.cell? ⟨g, 8, none⟩ = some x8 ∧ w.cell? ⟨g, 9, none⟩ = some x9 ∧ w.cell? ⟨g, 10, none⟩ = some x10 ∧ w.cell? ⟨g, 11, none⟩ = some x11 ∧ w.cell? ⟨g, 12, none⟩ = some x12 ∧ w.cell? ⟨g, 13, none⟩ = some x13 ∧ w.cell? ⟨g, 14, none⟩ = some x14 ∧ w.cell? ⟨g, 15, none⟩ = some x15) : (results fn tmps).run Tryd.prog w = .ok (.agg #[x0, x1, x2, x3, x4, x5, x6, x7, x8, x9, x10, x11, x12, x13, x14, x15]) w := by
  have e : (results fn tmps).run Tryd.prog w = ((asAddr (tmps.getD p undef)).run Tryd.prog w).andThen fun a w₁ => (loadVar 48 a).run Tryd.prog w₁ := by
    simp only [results, h]
    simp [Sem.run_bind, Result.andThen]
  rw [e, hp, asAddr_ptr]
  simp only [Result.andThen]
  exact load_inst w g x0 x1 x2 x3 x4 x5 x6 x7 x8 x9 x10 x11 x12 x13 x14 x15 hc
theorem cells16 {w : World} {g : Nat} {t : TypeId} {x0 x1 x2 x3 x4 x5 x6 x7 x8 x9 x10 x11 x12 x13 x14 x15 : Value} (h : Bx w g t #[x0, x1, x2, x3, x4, x5, x6, x7, x8, x9, x10, x11, x12, x13, x14, x15]) : w.cell? ⟨g, 0, none⟩ = some x0 ∧ w.cell? ⟨g, 1, none⟩ = some x1 ∧ w.cell? ⟨g, 2, none⟩ = some x2 ∧ w.cell? ⟨g, 3, none⟩ = some x3 ∧ w.cell? ⟨g, 4, none⟩ = some x4 ∧ w.cell? ⟨g, 5, none⟩ = some x5 ∧ w.cell? ⟨g, 6, none⟩ = some x6 ∧ w.cell? ⟨g, 7, none⟩ = some x7 ∧ w.cell? ⟨g, 8, none⟩ = some x8 ∧ w.cell? ⟨g, 9, none⟩ = some x9 ∧ w.cell? ⟨g, 10, none⟩ = some x10 ∧ w.cell? ⟨g, 11, none⟩ = some x11 ∧ w.cell? ⟨g, 12, none⟩ = some x12 ∧ w.cell? ⟨g, 13, none⟩ = some x13 ∧ w.cell? ⟨g, 14, none⟩ = some x14 ∧ w.cell? ⟨g, 15, none⟩ = some x15 :=
  ⟨h.cell 0 _ rfl, h.cell 1 _ rfl, h.cell 2 _ rfl, h.cell 3 _ rfl, h.cell 4 _ rfl, h.cell 5 _ rfl, h.cell 6 _ rfl, h.cell 7 _ rfl, h.cell 8 _ rfl, h.cell 9 _ rfl, h.cell 10 _ rfl, h.cell 11 _ rfl, h.cell 12 _ rfl, h.cell 13 _ rfl, h.cell 14 _ rfl, h.cell 15 _ rfl⟩
theorem froz16 {w : World} {g : Nat} {t : TypeId} {cs : Array Value} (h : Bx w g t cs) : w.frozen? ⟨g, 0, none⟩ = false ∧ w.frozen? ⟨g, 1, none⟩ = false ∧ w.frozen? ⟨g, 2, none⟩ = false ∧ w.frozen? ⟨g, 3, none⟩ = false ∧ w.frozen? ⟨g, 4, none⟩ = false ∧ w.frozen? ⟨g, 5, none⟩ = false ∧ w.frozen? ⟨g, 6, none⟩ = false ∧ w.frozen? ⟨g, 7, none⟩ = false ∧ w.frozen? ⟨g, 8, none⟩ = false ∧ w.frozen? ⟨g, 9, none⟩ = false ∧ w.frozen? ⟨g, 10, none⟩ = false ∧ w.frozen? ⟨g, 11, none⟩ = false ∧ w.frozen? ⟨g, 12, none⟩ = false ∧ w.frozen? ⟨g, 13, none⟩ = false ∧ w.frozen? ⟨g, 14, none⟩ = false ∧ w.frozen? ⟨g, 15, none⟩ = false :=
  ⟨h.frozen 0, h.frozen 1, h.frozen 2, h.frozen 3, h.frozen 4, h.frozen 5, h.frozen 6, h.frozen 7, h.frozen 8, h.frozen 9, h.frozen 10, h.frozen 11, h.frozen 12, h.frozen 13, h.frozen 14, h.frozen 15⟩
set_option maxRecDepth 100000 in
set_option maxHeartbeats 800000 in
theorem to_inst (x : In) (u d : Value) (w : World) (h : Pts w x u d) (h1 : x.cmd.ch.length ≤ 1048576) (h2 : x.deps.length ≤ 1048576) :
    Calls Tryd.prog 20 #[.agg #[.int .i64 x.rep, .int .i64 x.slot, .int .i64 x.bal, .int .i64 x.vbal, .int .i64 x.st, .int .i64 x.cmd.kind, .int .i64 x.cmd.client, .int .i64 x.cmd.no, .string x.cmd.set, .string x.cmd.name, .string x.cmd.tag, .int .i64 x.cmd.n, u, .int .i64 x.seq, d, .bool x.same]] w fun e w' => (∃ a n c a' n' c', e = .returned (.agg #[.int .i64 x.rep, .int .i64 x.slot, .int .i64 x.bal, .int .i64 x.vbal, .int .i64 x.st, .int .i64 x.cmd.kind, .int .i64 x.cmd.client, .int .i64 x.cmd.no, .string x.cmd.set, .string x.cmd.name, .string x.cmd.tag, .int .i64 x.cmd.n, .slice a n c, .int .i64 x.seq, .slice a' n' c', .bool x.same]) ∧ PtO w' w.heap.size w'.heap.size x (.slice a n c) (.slice a' n' c')) ∧ Below w.heap.size w w' := by
  obtain ⟨⟨a1, n1, c1, rfl⟩, a2, n2, c2, rfl⟩ := h.form
  have PH := Lib.hid h
  have X := Lib.hid (((Bx.new w 44 #[.int .i64 x.rep, .int .i64 x.slot, .int .i64 x.bal, .int .i64 x.vbal, .int .i64 x.st, .int .i64 x.cmd.kind, .int .i64 x.cmd.client, .int .i64 x.cmd.no, .string x.cmd.set, .string x.cmd.name, .string x.cmd.tag, .int .i64 x.cmd.n, .slice a1 n1 c1, .int .i64 x.seq, .slice a2 n2 c2, .bool x.same] _ rfl).alloc (.cells #[.int .i64 0, .int .i64 0, .int .i64 0, .int .i64 0, .int .i64 0, .int .i64 0, .int .i64 0, .int .i64 0, .string ⟨#[]⟩, .string ⟨#[]⟩, .string ⟨#[]⟩, .int .i64 0, .slice none 0 0, .int .i64 0, .slice none 0 0, .bool false] 48)).alloc (.cells #[.int .i64 0, .int .i64 0, .int .i64 0, .int .i64 0, .int .i64 0, .int .i64 0, .int .i64 0, .int .i64 0, .string ⟨#[]⟩, .string ⟨#[]⟩, .string ⟨#[]⟩, .int .i64 0, .slice none 0 0, .int .i64 0, .slice none 0 0, .bool false] 48))
  have Y := Lib.hid ((Bx.new (w.alloc (.cells #[.int .i64 x.rep, .int .i64 x.slot, .int .i64 x.bal, .int .i64 x.vbal, .int .i64 x.st, .int .i64 x.cmd.kind, .int .i64 x.cmd.client, .int .i64 x.cmd.no, .string x.cmd.set, .string x.cmd.name, .string x.cmd.tag, .int .i64 x.cmd.n, .slice a1 n1 c1, .int .i64 x.seq, .slice a2 n2 c2, .bool x.same] 44)) 48 #[.int .i64 0, .int .i64 0, .int .i64 0, .int .i64 0, .int .i64 0, .int .i64 0, .int .i64 0, .int .i64 0, .string ⟨#[]⟩, .string ⟨#[]⟩, .string ⟨#[]⟩, .int .i64 0, .slice none 0 0, .int .i64 0, .slice none 0 0, .bool false] (w.heap.size + 1) (by simp)).alloc (.cells #[.int .i64 0, .int .i64 0, .int .i64 0, .int .i64 0, .int .i64 0, .int .i64 0, .int .i64 0, .int .i64 0, .string ⟨#[]⟩, .string ⟨#[]⟩, .string ⟨#[]⟩, .int .i64 0, .slice none 0 0, .int .i64 0, .slice none 0 0, .bool false] 48))
  have V := Lib.hid (Bx.new ((w.alloc (.cells #[.int .i64 x.rep, .int .i64 x.slot, .int .i64 x.bal, .int .i64 x.vbal, .int .i64 x.st, .int .i64 x.cmd.kind, .int .i64 x.cmd.client, .int .i64 x.cmd.no, .string x.cmd.set, .string x.cmd.name, .string x.cmd.tag, .int .i64 x.cmd.n, .slice a1 n1 c1, .int .i64 x.seq, .slice a2 n2 c2, .bool x.same] 44)).alloc (.cells #[.int .i64 0, .int .i64 0, .int .i64 0, .int .i64 0, .int .i64 0, .int .i64 0, .int .i64 0, .int .i64 0, .string ⟨#[]⟩, .string ⟨#[]⟩, .string ⟨#[]⟩, .int .i64 0, .slice none 0 0, .int .i64 0, .slice none 0 0, .bool false] 48)) 48 #[.int .i64 0, .int .i64 0, .int .i64 0, .int .i64 0, .int .i64 0, .int .i64 0, .int .i64 0, .int .i64 0, .string ⟨#[]⟩, .string ⟨#[]⟩, .string ⟨#[]⟩, .int .i64 0, .slice none 0 0, .int .i64 0, .slice none 0 0, .bool false] (w.heap.size + 1 + 1) (by simp))
  have A := Lib.hid ((((Af.refl w).alloc (.cells #[.int .i64 x.rep, .int .i64 x.slot, .int .i64 x.bal, .int .i64 x.vbal, .int .i64 x.st, .int .i64 x.cmd.kind, .int .i64 x.cmd.client, .int .i64 x.cmd.no, .string x.cmd.set, .string x.cmd.name, .string x.cmd.tag, .int .i64 x.cmd.n, .slice a1 n1 c1, .int .i64 x.seq, .slice a2 n2 c2, .bool x.same] 44)).alloc (.cells #[.int .i64 0, .int .i64 0, .int .i64 0, .int .i64 0, .int .i64 0, .int .i64 0, .int .i64 0, .int .i64 0, .string ⟨#[]⟩, .string ⟨#[]⟩, .string ⟨#[]⟩, .int .i64 0, .slice none 0 0, .int .i64 0, .slice none 0 0, .bool false] 48)).alloc (.cells #[.int .i64 0, .int .i64 0, .int .i64 0, .int .i64 0, .int .i64 0, .int .i64 0, .int .i64 0, .int .i64 0, .string ⟨#[]⟩, .string ⟨#[]⟩, .string ⟨#[]⟩, .int .i64 0, .slice none 0 0, .int .i64 0, .slice none 0 0, .bool false] 48))
  clear h
  go_enter Tryd.func20, Tryd.ntmps20
  go_wp2_with fail
  refine (to_id x.rep x.slot _).mono ?_
  rintro e w1 ⟨rfl, b1⟩
  have X1 := Lib.hid (X.out.after b1)
  have Y1 := Lib.hid (Y.out.after b1)
  have V1 := Lib.hid (V.out.after b1)
  have A1 := Lib.hid (A.out.after b1)
  clear b1 X Y V A
  obtain ⟨x0, x1, x2, x3, x4, x5, x6, x7, x8, x9, x10, x11, x12, x13, x14, x15⟩ := X1.out.c16
  obtain ⟨v0, v1, v2, v3, v4, v5, v6, v7, v8, v9, v10, v11, v12, v13, v14, v15⟩ := cells16 V1.out
  obtain ⟨f0, f1, f2, f3, f4, f5, f6, f7, f8, f9, f10, f11, f12, f13, f14, f15⟩ := froz16 V1.out
  have lv := V1.out.lt
  go_wp2_with fail
  clear x0 x1 x2 x3 x4 x5 x6 x7 x8 x9 x10 x11 x12 x13 x14 x15 v0 v1 v2 v3 v4 v5 v6 v7 v8 v9 v10 v11 v12 v13 v14 v15 f0 f1 f2 f3 f4 f5 f6 f7 f8 f9 f10 f11 f12 f13 f14 f15 lv
  have A1s := Lib.hid (((((A1.out.set (p := ⟨w.heap.size + 1 + 1, 0, none⟩) (by simp <;> omega) (.int .i64 x.rep)).set (p := ⟨w.heap.size + 1 + 1, 1, none⟩) (by simp <;> omega) (.int .i64 x.slot)).set (p := ⟨w.heap.size + 1 + 1, 2, none⟩) (by simp <;> omega) (.int .i64 x.bal)).set (p := ⟨w.heap.size + 1 + 1, 3, none⟩) (by simp <;> omega) (.int .i64 x.vbal)).set (p := ⟨w.heap.size + 1 + 1, 4, none⟩) (by simp <;> omega) (.int .i64 x.st))
  refine (to_cmdO x.cmd _ _ (PH.out.later A1s.out).1 h1).mono ?_
  rintro e w2 ⟨⟨g', n', cap', rfl, s2, hlt2⟩, b2⟩
  have X2 := Lib.hid ((((((X1.out.set_other ⟨w.heap.size + 1 + 1, 0, none⟩ _ (by simp <;> omega)).set_other ⟨w.heap.size + 1 + 1, 1, none⟩ _ (by simp <;> omega)).set_other ⟨w.heap.size + 1 + 1, 2, none⟩ _ (by simp <;> omega)).set_other ⟨w.heap.size + 1 + 1, 3, none⟩ _ (by simp <;> omega)).set_other ⟨w.heap.size + 1 + 1, 4, none⟩ _ (by simp <;> omega)).after b2)
  have Y2 := Lib.hid ((((((Y1.out.set_other ⟨w.heap.size + 1 + 1, 0, none⟩ _ (by simp <;> omega)).set_other ⟨w.heap.size + 1 + 1, 1, none⟩ _ (by simp <;> omega)).set_other ⟨w.heap.size + 1 + 1, 2, none⟩ _ (by simp <;> omega)).set_other ⟨w.heap.size + 1 + 1, 3, none⟩ _ (by simp <;> omega)).set_other ⟨w.heap.size + 1 + 1, 4, none⟩ _ (by simp <;> omega)).after b2)
  have V2 := Lib.hid (show Bx w2 (w.heap.size + 1 + 1) 48 #[.int .i64 x.rep, .int .i64 x.slot, .int .i64 x.bal, .int .i64 x.vbal, .int .i64 x.st, .int .i64 0, .int .i64 0, .int .i64 0, .string ⟨#[]⟩, .string ⟨#[]⟩, .string ⟨#[]⟩, .int .i64 0, .slice none 0 0, .int .i64 0, .slice none 0 0, .bool false] from (((((V1.out.set 0 (.int .i64 x.rep)).set 1 (.int .i64 x.slot)).set 2 (.int .i64 x.bal)).set 3 (.int .i64 x.vbal)).set 4 (.int .i64 x.st)).after b2)
  have A2 := Lib.hid (A1s.out.after b2)
  have hz1 : w.heap.size + 1 + 1 < w1.heap.size := by have := V1.out.lt; omega
  simp only [World.size_setCell] at s2
  have S2 := Lib.hid s2
  clear b2 s2 X1 Y1 V1 A1 A1s
  obtain ⟨x0, x1, x2, x3, x4, x5, x6, x7, x8, x9, x10, x11, x12, x13, x14, x15⟩ := X2.out.c16
  obtain ⟨v0, v1, v2, v3, v4, v5, v6, v7, v8, v9, v10, v11, v12, v13, v14, v15⟩ := cells16 V2.out
  obtain ⟨f0, f1, f2, f3, f4, f5, f6, f7, f8, f9, f10, f11, f12, f13, f14, f15⟩ := froz16 V2.out
  have lv := V2.out.lt
  go_wp2_with fail
  clear x0 x1 x2 x3 x4 x5 x6 x7 x8 x9 x10 x11 x12 x13 x14 x15 v0 v1 v2 v3 v4 v5 v6 v7 v8 v9 v10 v11 v12 v13 v14 v15 f0 f1 f2 f3 f4 f5 f6 f7 f8 f9 f10 f11 f12 f13 f14 f15 lv
  have hz2 : w1.heap.size ≤ w2.heap.size := by have := hlt2; have := (S2.out.1.lt g' rfl).1; omega
  obtain ⟨L5, hL5⟩ : ∃ L5 : List Value, L5 = [.int .i64 x.cmd.kind, .int .i64 x.cmd.client, .int .i64 x.cmd.no, .string x.cmd.set, .string x.cmd.name, .string x.cmd.tag, .int .i64 x.cmd.n, .slice (some ⟨g', 0, none⟩) n' cap', .int .i64 x.seq] := ⟨_, rfl⟩
  have G2 := Lib.hid (setL_grown (w.heap.size + 1 + 1) L5 w2 5)
  have HS2 := Lib.hid (setL_size (w.heap.size + 1 + 1) L5 w2 5)
  have A2s := Lib.hid (A2.out.grow G2.out (fun k hk => by cases hk; omega))
  have X2s := Lib.hid (X2.out.keep G2.out (by simp <;> omega))
  have Y2s := Lib.hid (Y2.out.keep G2.out (by simp <;> omega))
  have V2s := Lib.hid (show Bx (setL w2 (w.heap.size + 1 + 1) 5 L5) (w.heap.size + 1 + 1) 48 #[.int .i64 x.rep, .int .i64 x.slot, .int .i64 x.bal, .int .i64 x.vbal, .int .i64 x.st, .int .i64 x.cmd.kind, .int .i64 x.cmd.client, .int .i64 x.cmd.no, .string x.cmd.set, .string x.cmd.name, .string x.cmd.tag, .int .i64 x.cmd.n, .slice (some ⟨g', 0, none⟩) n' cap', .int .i64 x.seq, .slice none 0 0, .bool false] by have := setL_heap L5 w2 _ 5 V2.out; rw [updL_eq L5 _ 5 (by rw [hL5]; show 5 + 9 ≤ 16; omega)] at this; rw [hL5] at this ⊢; exact this)
  have S2s := Lib.hid (show StO (setL w2 (w.heap.size + 1 + 1) 5 L5) w1.heap.size (.slice (some ⟨g', 0, none⟩) n' cap') x.cmd.ch from ⟨S2.out.1.kept G2.out hz1, S2.out.2⟩)
  refine wp_worldC (W := setL w2 (w.heap.size + 1 + 1) 5 L5) (by rw [hL5]; rfl) ?_
  clear X2 Y2 V2 S2 A2 G2
  refine (to_idL _ x.deps _ (PH.out.later A2s.out).2.1 h2).mono ?_
  rintro e w3 ⟨ud, rfl, o3, b3, ob3⟩
  have X3 := Lib.hid (X2s.out.after b3)
  have Y3 := Lib.hid (Y2s.out.after b3)
  have V3 := Lib.hid (V2s.out.after b3)
  have S3 := Lib.hid (S2s.out.later b3)
  have A3 := Lib.hid (A2s.out.after b3)
  rw [HS2.out] at o3 ob3
  obtain ⟨a3, n3, c3, rfl⟩ := o3.form
  have O3 := Lib.hid o3
  have OB3 := Lib.hid ob3
  have hz3 : w2.heap.size ≤ w3.heap.size := by have := b3.size; rw [HS2.out] at this; exact this
  clear b3 o3 ob3 X2s Y2s V2s S2s A2s HS2 hL5
  obtain ⟨x0, x1, x2, x3, x4, x5, x6, x7, x8, x9, x10, x11, x12, x13, x14, x15⟩ := X3.out.c16
  obtain ⟨v0, v1, v2, v3, v4, v5, v6, v7, v8, v9, v10, v11, v12, v13, v14, v15⟩ := cells16 V3.out
  obtain ⟨f0, f1, f2, f3, f4, f5, f6, f7, f8, f9, f10, f11, f12, f13, f14, f15⟩ := froz16 V3.out
  obtain ⟨y0, y1, y2, y3, y4, y5, y6, y7, y8, y9, y10, y11, y12, y13, y14, y15⟩ := cells16 Y3.out
  obtain ⟨q0, q1, q2, q3, q4, q5, q6, q7, q8, q9, q10, q11, q12, q13, q14, q15⟩ := froz16 Y3.out
  have lv := V3.out.lt
  go_wp2
  have G3 := Lib.hid (setL_grown (w.heap.size + 1 + 1) [.slice a3 n3 c3, .bool x.same] w3 14)
  have G4 := Lib.hid (setL_grown (w.heap.size + 1) (inA x (.slice (some ⟨g', 0, none⟩) n' cap') (.slice a3 n3 c3)) (setL w3 (w.heap.size + 1 + 1) 14 [.slice a3 n3 c3, .bool x.same]) 0)
  have F4 := Lib.hid (show Bx (setL (setL w3 (w.heap.size + 1 + 1) 14 [.slice a3 n3 c3, .bool x.same]) (w.heap.size + 1) 0 (inA x (.slice (some ⟨g', 0, none⟩) n' cap') (.slice a3 n3 c3))) (w.heap.size + 1) 48 #[.int .i64 x.rep, .int .i64 x.slot, .int .i64 x.bal, .int .i64 x.vbal, .int .i64 x.st, .int .i64 x.cmd.kind, .int .i64 x.cmd.client, .int .i64 x.cmd.no, .string x.cmd.set, .string x.cmd.name, .string x.cmd.tag, .int .i64 x.cmd.n, .slice (some ⟨g', 0, none⟩) n' cap', .int .i64 x.seq, .slice a3 n3 c3, .bool x.same] by have := setL_heap (inA x (.slice (some ⟨g', 0, none⟩) n' cap') (.slice a3 n3 c3)) (setL w3 (w.heap.size + 1 + 1) 14 [.slice a3 n3 c3, .bool x.same]) #[.int .i64 0, .int .i64 0, .int .i64 0, .int .i64 0, .int .i64 0, .int .i64 0, .int .i64 0, .int .i64 0, .string ⟨#[]⟩, .string ⟨#[]⟩, .string ⟨#[]⟩, .int .i64 0, .slice none 0 0, .int .i64 0, .slice none 0 0, .bool false] 0 (Y3.out.keep G3.out (by simp <;> omega)); rw [updL_eq (inA x (.slice (some ⟨g', 0, none⟩) n' cap') (.slice a3 n3 c3)) #[.int .i64 0, .int .i64 0, .int .i64 0, .int .i64 0, .int .i64 0, .int .i64 0, .int .i64 0, .int .i64 0, .string ⟨#[]⟩, .string ⟨#[]⟩, .string ⟨#[]⟩, .int .i64 0, .slice none 0 0, .int .i64 0, .slice none 0 0, .bool false] 0 (show 0 + 16 ≤ 16 by omega)] at this; exact this)
  have S4 := Lib.hid (show StO (setL (setL w3 (w.heap.size + 1 + 1) 14 [.slice a3 n3 c3, .bool x.same]) (w.heap.size + 1) 0 (inA x (.slice (some ⟨g', 0, none⟩) n' cap') (.slice a3 n3 c3))) w1.heap.size (.slice (some ⟨g', 0, none⟩) n' cap') x.cmd.ch from ⟨(S3.out.1.kept G3.out hz1).kept G4.out (by omega), S3.out.2⟩)
  have O4 := Lib.hid ((O3.out.kept G3.out (fun k hk => by cases hk; omega)).kept G4.out (fun k hk => by cases hk; omega))
  have A4 := Lib.hid ((A3.out.grow G3.out (fun k hk => by cases hk; omega)).grow G4.out (fun k hk => by cases hk; omega))
  have Z4 := Lib.hid (show (setL (setL w3 (w.heap.size + 1 + 1) 14 [.slice a3 n3 c3, .bool x.same]) (w.heap.size + 1) 0 (inA x (.slice (some ⟨g', 0, none⟩) n' cap') (.slice a3 n3 c3))).heap.size = w3.heap.size by rw [setL_size, setL_size])
  have BU4 := Lib.hid (fun k (hk : Value.ownBlock (.slice (some ⟨g', 0, none⟩) n' cap') = some k) => (show w.heap.size ≤ k ∧ k < (setL (setL w3 (w.heap.size + 1 + 1) 14 [.slice a3 n3 c3, .bool x.same]) (w.heap.size + 1) 0 (inA x (.slice (some ⟨g', 0, none⟩) n' cap') (.slice a3 n3 c3))).heap.size by have h9 := S4.out.1.lt k hk; exact ⟨by omega, h9.2⟩))
  have BD4 := Lib.hid (fun k (hk : Value.ownBlock (.slice a3 n3 c3) = some k) => (show w.heap.size ≤ k ∧ k < (setL (setL w3 (w.heap.size + 1 + 1) 14 [.slice a3 n3 c3, .bool x.same]) (w.heap.size + 1) 0 (inA x (.slice (some ⟨g', 0, none⟩) n' cap') (.slice a3 n3 c3))).heap.size by have h9 := OB3.out k hk; rw [Z4.out]; omega))
  clear x0 x1 x2 x3 x4 x5 x6 x7 x8 x9 x10 x11 x12 x13 x14 x15 v0 v1 v2 v3 v4 v5 v6 v7 v8 v9 v10 v11 v12 v13 v14 v15 f0 f1 f2 f3 f4 f5 f6 f7 f8 f9 f10 f11 f12 f13 f14 f15 y0 y1 y2 y3 y4 y5 y6 y7 y8 y9 y10 y11 y12 y13 y14 y15 q0 q1 q2 q3 q4 q5 q6 q7 q8 q9 q10 q11 q12 q13 q14 q15
  exact bodyPost_ret (results_inst Tryd.results20 _ _ (w.heap.size + 1) _ _ _ _ _ _ _ _ _ _ _ _ _ _ _ _ rfl (cells16 F4.out)) rfl ⟨⟨_, _, _, _, _, _, rfl, ⟨S4.out.mono (by omega), O4.out.mono (by omega), BU4.out, BD4.out, PH.out.2.2⟩⟩, A4.out⟩
end Go.Proofs.YtlbebeedkcdgpaaDoor
