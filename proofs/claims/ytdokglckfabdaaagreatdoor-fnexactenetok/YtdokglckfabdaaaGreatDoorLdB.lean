/- A bundle of texts: LdM, LdTo, LdCs, NdM. -/
import Derived.Test.YtdokglckfabdaaaGreatDoorNsM
import Derived.Test.YtdokglckfabdaaaGreatDoorInCs
/- Leads: how slices of them are read. -/
namespace Go.Proofs.YtdokglckfabdaaaGreatDoor
open Go.RowKit Go.PlainAid
set_option linter.unusedVariables false

/-- A Lead, in plain words. -/
structure Ld where
  rep : Int
  slot : Int
  bal : Int
  ph : Int
  seq : Int
  deps : List Ii
  frm : List Int
  same : Bool
abbrev ld0 : Ld := ⟨0, 0, 0, 0, 0, [], [], false⟩
instance : Inhabited Ld := ⟨ld0⟩
@[irreducible] def nthL (l : List Ld) (j : Nat) : Ld := l.getD j ld0
theorem nthL_eq (l : List Ld) (j : Nat) : nthL l j = l.getD j ld0 := by unfold nthL; rfl
theorem nthL_get (l : List Ld) (j : Nat) (h : j < l.length) : l[j]? = some (nthL l j) := by
  rw [nthL_eq, List.getD, List.getElem?_eq_getElem h]; rfl
theorem nthL_of {l : List Ld} {j : Nat} {x : Ld} (h : l[j]? = some x) : nthL l j = x := by rw [nthL_eq, List.getD, h]; rfl
/-- The eight cells of a Lead at o in block b. -/
def LdC (w : World) (b o : Nat) (x : Ld) (d f : Value) : Prop :=
  w.cell? ⟨b, o, none⟩ = some (.int .i64 x.rep) ∧ w.cell? ⟨b, o + 1, none⟩ = some (.int .i64 x.slot) ∧ w.cell? ⟨b, o + 2, none⟩ = some (.int .i64 x.bal) ∧ w.cell? ⟨b, o + 3, none⟩ = some (.int .i64 x.ph) ∧ w.cell? ⟨b, o + 4, none⟩ = some (.int .i64 x.seq) ∧ w.cell? ⟨b, o + 5, none⟩ = some (d) ∧ w.cell? ⟨b, o + 6, none⟩ = some (f) ∧ w.cell? ⟨b, o + 7, none⟩ = some (.bool x.same)
theorem LdC.below {w w' : World} {b o B : Nat} {x : Ld} {d f : Value} (h : LdC w b o x d f) (hb : Below B w w') (hlt : b < B) : LdC w' b o x d f := by
  unfold LdC
  rw [hb.cell (p := ⟨b, o, none⟩) hlt, hb.cell (p := ⟨b, o + 1, none⟩) hlt, hb.cell (p := ⟨b, o + 2, none⟩) hlt, hb.cell (p := ⟨b, o + 3, none⟩) hlt, hb.cell (p := ⟨b, o + 4, none⟩) hlt, hb.cell (p := ⟨b, o + 5, none⟩) hlt, hb.cell (p := ⟨b, o + 6, none⟩) hlt, hb.cell (p := ⟨b, o + 7, none⟩) hlt]
  exact h
theorem Bx.c8L {w : World} {g : Nat} {t : TypeId} {x : Ld} {d f : Value} (h : Bx w g t #[.int .i64 x.rep, .int .i64 x.slot, .int .i64 x.bal, .int .i64 x.ph, .int .i64 x.seq, d, f, .bool x.same]) : w.cell? ⟨g, 0, none⟩ = some (.int .i64 x.rep) ∧ w.cell? ⟨g, 1, none⟩ = some (.int .i64 x.slot) ∧ w.cell? ⟨g, 2, none⟩ = some (.int .i64 x.bal) ∧ w.cell? ⟨g, 3, none⟩ = some (.int .i64 x.ph) ∧ w.cell? ⟨g, 4, none⟩ = some (.int .i64 x.seq) ∧ w.cell? ⟨g, 5, none⟩ = some (d) ∧ w.cell? ⟨g, 6, none⟩ = some (f) ∧ w.cell? ⟨g, 7, none⟩ = some (.bool x.same) :=
  ⟨h.cell 0 _ rfl, h.cell 1 _ rfl, h.cell 2 _ rfl, h.cell 3 _ rfl, h.cell 4 _ rfl, h.cell 5 _ rfl, h.cell 6 _ rfl, h.cell 7 _ rfl⟩
theorem cells8 {w : World} {g : Nat} {t : TypeId} {x0 x1 x2 x3 x4 x5 x6 x7 : Value} (h : Bx w g t #[x0, x1, x2, x3, x4, x5, x6, x7]) : w.cell? ⟨g, 0, none⟩ = some x0 ∧ w.cell? ⟨g, 1, none⟩ = some x1 ∧ w.cell? ⟨g, 2, none⟩ = some x2 ∧ w.cell? ⟨g, 3, none⟩ = some x3 ∧ w.cell? ⟨g, 4, none⟩ = some x4 ∧ w.cell? ⟨g, 5, none⟩ = some x5 ∧ w.cell? ⟨g, 6, none⟩ = some x6 ∧ w.cell? ⟨g, 7, none⟩ = some x7 :=
  ⟨h.cell 0 _ rfl, h.cell 1 _ rfl, h.cell 2 _ rfl, h.cell 3 _ rfl, h.cell 4 _ rfl, h.cell 5 _ rfl, h.cell 6 _ rfl, h.cell 7 _ rfl⟩
theorem froz8 {w : World} {g : Nat} {t : TypeId} {cs : Array Value} (h : Bx w g t cs) : w.frozen? ⟨g, 0, none⟩ = false ∧ w.frozen? ⟨g, 1, none⟩ = false ∧ w.frozen? ⟨g, 2, none⟩ = false ∧ w.frozen? ⟨g, 3, none⟩ = false ∧ w.frozen? ⟨g, 4, none⟩ = false ∧ w.frozen? ⟨g, 5, none⟩ = false ∧ w.frozen? ⟨g, 6, none⟩ = false ∧ w.frozen? ⟨g, 7, none⟩ = false :=
  ⟨h.frozen 0, h.frozen 1, h.frozen 2, h.frozen 3, h.frozen 4, h.frozen 5, h.frozen 6, h.frozen 7⟩
set_option maxHeartbeats 400000 in
theorem load_lead (w : World) (g : Nat) (x0 x1 x2 x3 x4 x5 x6 x7 : Value) (h : w.cell? ⟨g, 0, none⟩ = some x0 ∧ w.cell? ⟨g, 1, none⟩ = some x1 ∧ w.cell? ⟨g, 2, none⟩ = some x2 ∧ w.cell? ⟨g, 3, none⟩ = some x3 ∧ w.cell? ⟨g, 4, none⟩ = some x4 ∧ w.cell? ⟨g, 5, none⟩ = some x5 ∧ w.cell? ⟨g, 6, none⟩ = some x6 ∧ w.cell? ⟨g, 7, none⟩ = some x7) : (loadVar 77 ⟨g, 0, none⟩).run Tryz.prog w = .ok (.agg #[x0, x1, x2, x3, x4, x5, x6, x7]) w := by
  obtain ⟨h0, h1, h2, h3, h4, h5, h6, h7⟩ := h
  go_simp
theorem results_lead {fn : Func} {p : Tmp} (h : fn.results = #[.cell p 77]) (tmps : Array Value) (w : World) (g : Nat) (x0 x1 x2 x3 x4 x5 x6 x7 : Value)
    (hp : tmps.getD p undef = .pointer (some ⟨g, 0, none⟩)) (hc : w.cell? ⟨g, 0, none⟩ = some x0 ∧ w.cell? ⟨g, 1, none⟩ = some x1 ∧ w.cell? ⟨g, 2, none⟩ = some x2 ∧ w.cell? ⟨g, 3, none⟩ = some x3 ∧ w.cell? ⟨g, 4, none⟩ = some x4 ∧ w.cell? ⟨g, 5, none⟩ = some x5 ∧ w.cell? ⟨g, 6, none⟩ = some x6 ∧ w.cell? ⟨g, 7, none⟩ = some x7) : (results fn tmps).run Tryz.prog w = .ok (.agg #[x0, x1, x2, x3, x4, x5, x6, x7]) w := by
  have e : (results fn tmps).run Tryz.prog w = ((asAddr (tmps.getD p undef)).run Tryz.prog w).andThen fun a w₁ => (loadVar 77 a).run Tryz.prog w₁ := by
    simp only [results, h]
    simp [Sem.run_bind, Result.andThen]
  rw [e, hp, asAddr_ptr]
  simp only [Result.andThen]
  exact load_lead w g x0 x1 x2 x3 x4 x5 x6 x7 hc
/-- The parts of a Lead read as they should. -/
def LPts (w : World) (x : Ld) (d f : Value) : Prop := Ids w d x.deps ∧ Ns w f x.frm
theorem LPts.later {w w' : World} {x : Ld} {d f : Value} (h : LPts w x d f) (hb : Below w.heap.size w w') : LPts w' x d f := ⟨h.1.later hb, h.2.later hb⟩
theorem LPts.alloc {w : World} {x : Ld} {d f : Value} (h : LPts w x d f) (o : Obj) : LPts (w.alloc o) x d f := h.later ((Below.refl _ _).alloc (Nat.le_refl _) _)
theorem LPts.form {w : World} {x : Ld} {d f : Value} (h : LPts w x d f) : (∃ a n c, d = .slice a n c) ∧ ∃ a n c, f = .slice a n c := ⟨h.1.form, h.2.form⟩
/-- The value v is a slice of Leads that reads as l. -/
structure Leads (w : World) (v : Value) (l : List Ld) : Prop where
  len : l.length ≤ 9223372036854775807
  at_ : ∃ a cap, v = .slice a l.length cap ∧ l.length ≤ cap ∧ (0 < l.length → ∃ b o, a = some ⟨b, o, none⟩ ∧ b < w.heap.size ∧ ∀ j, j < l.length → ∃ d f, LdC w b (o + j * 8) (nthL l j) d f ∧ LPts w (nthL l j) d f)
theorem Leads.form {w : World} {v : Value} {l : List Ld} (h : Leads w v l) : ∃ a n cap, v = .slice a n cap := by
  obtain ⟨_, a, cap, e, _⟩ := h
  exact ⟨a, _, cap, e⟩
theorem Leads.later {w w' : World} {v : Value} {l : List Ld} (h : Leads w v l) (hb : Below w.heap.size w w') : Leads w' v l := by
  obtain ⟨h1, a, cap, e, hc, h3⟩ := h
  refine ⟨h1, a, cap, e, hc, fun h0 => ?_⟩
  obtain ⟨b, o, ha, hbl, hcl⟩ := h3 h0
  refine ⟨b, o, ha, Nat.lt_of_lt_of_le hbl hb.size, fun j hj => ?_⟩
  obtain ⟨d, f, q1, q2⟩ := hcl j hj
  exact ⟨d, f, q1.below hb hbl, q2.later hb⟩
theorem Leads.alloc {w : World} {v : Value} {l : List Ld} (h : Leads w v l) (o : Obj) : Leads (w.alloc o) v l := h.later ((Below.refl _ _).alloc (Nat.le_refl _) _)
theorem leads_nil (w : World) (a : Option Addr) (cap : Nat) : Leads w (.slice a 0 cap) [] := ⟨by simp, a, cap, rfl, by simp, fun h => by simp at h⟩
end Go.Proofs.YtdokglckfabdaaaGreatDoor
/- The law's measure of Leads, and its copy of one. -/
namespace Go.Proofs.YtdokglckfabdaaaGreatDoor
open Go.RowKit Go.PlainAid
set_option linter.unusedVariables false

/-- The cells of a Lead. -/
abbrev ldA (x : Ld) (d f : Value) : List Value := [.int .i64 x.rep, .int .i64 x.slot, .int .i64 x.bal, .int .i64 x.ph, .int .i64 x.seq, d, f, .bool x.same]
/-- The cells of a Lead lie at o in a row. -/
def LdB (cur : Array Value) (o : Nat) (x : Ld) (d f : Value) : Prop := ∀ i, i < 8 → cur[o + i]? = (ldA x d f)[i]?
theorem LdB.ldC {w : World} {g o : Nat} {t : TypeId} {cur : Array Value} {x : Ld} {d f : Value} (h : LdB cur o x d f) (hg : w.heap[g]? = some (.cells cur t (0, 0))) : LdC w g o x d f := by
  have hc : ∀ i, i < 8 → w.cell? ⟨g, o + i, none⟩ = (ldA x d f)[i]? := fun i hi => by rw [cell_of_row w g _ cur _ (0, 0) hg]; exact h i hi
  exact ⟨hc 0 (by omega), hc 1 (by omega), hc 2 (by omega), hc 3 (by omega), hc 4 (by omega), hc 5 (by omega), hc 6 (by omega), hc 7 (by omega)⟩
/-- The parts of a Lead, owned: their blocks lie in [lo, hi). -/
structure LPO (w : World) (lo hi : Nat) (x : Ld) (d f : Value) : Prop where
  ids : IdOwn w lo d x.deps
  ns : NsOwn w lo f x.frm
  bd : ∀ k, d.ownBlock = some k → lo ≤ k ∧ k < hi
  bf : ∀ k, f.ownBlock = some k → lo ≤ k ∧ k < hi
theorem LPO.pts {w : World} {lo hi : Nat} {x : Ld} {d f : Value} (h : LPO w lo hi x d f) : LPts w x d f := ⟨h.ids.ids, h.ns.ns⟩
theorem LPO.later {w w' : World} {lo hi : Nat} {x : Ld} {d f : Value} (h : LPO w lo hi x d f) (hb : Below w.heap.size w w') : LPO w' lo hi x d f := ⟨h.ids.later hb, h.ns.later hb, h.bd, h.bf⟩
theorem LPO.mono {w : World} {lo hi lo' hi' : Nat} {x : Ld} {d f : Value} (h : LPO w lo hi x d f) (h1 : lo' ≤ lo) (h2 : hi ≤ hi') : LPO w lo' hi' x d f :=
  ⟨h.ids.mono h1, h.ns.mono h1, fun k hk => by have := h.bd k hk; omega, fun k hk => by have := h.bf k hk; omega⟩
theorem LPO.kept {w w' : World} {lo hi : Nat} {x : Ld} {d f : Value} {row : Option Nat} (h : LPO w lo hi x d f) (hg : w.grownBy w' row) (h1 : ∀ k, row = some k → d.ownBlock ≠ some k ∧ f.ownBlock ≠ some k) : LPO w' lo hi x d f :=
  ⟨h.ids.keepB hg (fun _ k hk => (h1 k hk).1), h.ns.keepB hg (fun _ k hk => (h1 k hk).2), h.bd, h.bf⟩
/-- The slice v holds l, and all of it is the call's own, in blocks of [lo, hi). -/
def LdOwn (w : World) (lo hi : Nat) (v : Value) (l : List Ld) : Prop :=
  ∃ a cap, v = .slice a l.length cap ∧ l.length ≤ cap ∧ l.length ≤ 9223372036854775807 ∧ (0 < l.length → ∃ g o cur, a = some ⟨g, o, none⟩ ∧ (lo ≤ g ∧ g < hi ∧ o + cap * 8 ≤ cur.size) ∧ w.heap[g]? = some (.cells cur 77 (0, 0)) ∧ ∀ j, j < l.length → ∃ d f, LdB cur (o + j * 8) (nthL l j) d f ∧ LPO w lo hi (nthL l j) d f ∧ d.ownBlock ≠ some g ∧ f.ownBlock ≠ some g)
theorem LdOwn.form {w : World} {lo hi : Nat} {v : Value} {l : List Ld} (h : LdOwn w lo hi v l) : ∃ a n cap, v = .slice a n cap := by
  obtain ⟨a, cap, e, _⟩ := h
  exact ⟨a, _, cap, e⟩
theorem LdOwn.leads {w : World} {lo hi : Nat} {v : Value} {l : List Ld} (h : LdOwn w lo hi v l) : Leads w v l := by
  obtain ⟨a, cap, e, h1, h2, h3⟩ := h
  refine ⟨h2, a, cap, e, h1, fun h0 => ?_⟩
  obtain ⟨g, o, cur, r1, r2, r3, r4⟩ := h3 h0
  refine ⟨g, o, r1, (Array.getElem?_eq_some_iff.1 r3).1, fun j hj => ?_⟩
  obtain ⟨d, f, q1, q2, _⟩ := r4 j hj
  exact ⟨d, f, q1.ldC r3, q2.pts⟩
theorem LdOwn.later {w w' : World} {lo hi : Nat} {v : Value} {l : List Ld} (h : LdOwn w lo hi v l) (hb : Below w.heap.size w w') : LdOwn w' lo hi v l := by
  obtain ⟨a, cap, e, h1, h2, h3⟩ := h
  refine ⟨a, cap, e, h1, h2, fun h0 => ?_⟩
  obtain ⟨g, o, cur, r1, r2, r3, r4⟩ := h3 h0
  refine ⟨g, o, cur, r1, r2, (hb.block g (Array.getElem?_eq_some_iff.1 r3).1).trans r3, fun j hj => ?_⟩
  obtain ⟨u, d, q1, q2, q3⟩ := r4 j hj
  exact ⟨u, d, q1, q2.later hb, q3⟩
theorem ldOwn_nil (w : World) (lo hi : Nat) (a : Option Addr) (cap : Nat) : LdOwn w lo hi (.slice a 0 cap) [] := ⟨a, cap, rfl, by simp, by simp, fun h => by simp at h⟩
set_option maxRecDepth 100000 in
set_option maxHeartbeats 1600000 in
theorem to_lead (x : Ld) (d f : Value) (w : World) (h : LPts w x d f) (h1 : x.deps.length ≤ 1048576) (h2 : x.frm.length ≤ 1048576) :
    Calls Tryz.prog 76 #[.agg #[.int .i64 x.rep, .int .i64 x.slot, .int .i64 x.bal, .int .i64 x.ph, .int .i64 x.seq, d, f, .bool x.same]] w fun e w' => (∃ a n c a' n' c', e = .returned (.agg #[.int .i64 x.rep, .int .i64 x.slot, .int .i64 x.bal, .int .i64 x.ph, .int .i64 x.seq, .slice a n c, .slice a' n' c', .bool x.same]) ∧ LPO w' w.heap.size w'.heap.size x (.slice a n c) (.slice a' n' c')) ∧ Below w.heap.size w w' := by
  obtain ⟨⟨a1, n1, c1, rfl⟩, a2, n2, c2, rfl⟩ := h.form
  have PH := Lib.hid h
  have X := Lib.hid (((Bx.new w 112 #[.int .i64 x.rep, .int .i64 x.slot, .int .i64 x.bal, .int .i64 x.ph, .int .i64 x.seq, .slice a1 n1 c1, .slice a2 n2 c2, .bool x.same] _ rfl).alloc (.cells #[.int .i64 0, .int .i64 0, .int .i64 0, .int .i64 0, .int .i64 0, .slice none 0 0, .slice none 0 0, .bool false] 77)).alloc (.cells #[.int .i64 0, .int .i64 0, .int .i64 0, .int .i64 0, .int .i64 0, .slice none 0 0, .slice none 0 0, .bool false] 77))
  have Y := Lib.hid ((Bx.new (w.alloc (.cells #[.int .i64 x.rep, .int .i64 x.slot, .int .i64 x.bal, .int .i64 x.ph, .int .i64 x.seq, .slice a1 n1 c1, .slice a2 n2 c2, .bool x.same] 112)) 77 #[.int .i64 0, .int .i64 0, .int .i64 0, .int .i64 0, .int .i64 0, .slice none 0 0, .slice none 0 0, .bool false] (w.heap.size + 1) (by simp)).alloc (.cells #[.int .i64 0, .int .i64 0, .int .i64 0, .int .i64 0, .int .i64 0, .slice none 0 0, .slice none 0 0, .bool false] 77))
  have V := Lib.hid (Bx.new ((w.alloc (.cells #[.int .i64 x.rep, .int .i64 x.slot, .int .i64 x.bal, .int .i64 x.ph, .int .i64 x.seq, .slice a1 n1 c1, .slice a2 n2 c2, .bool x.same] 112)).alloc (.cells #[.int .i64 0, .int .i64 0, .int .i64 0, .int .i64 0, .int .i64 0, .slice none 0 0, .slice none 0 0, .bool false] 77)) 77 #[.int .i64 0, .int .i64 0, .int .i64 0, .int .i64 0, .int .i64 0, .slice none 0 0, .slice none 0 0, .bool false] (w.heap.size + 1 + 1) (by simp))
  have A := Lib.hid ((((Af.refl w).alloc (.cells #[.int .i64 x.rep, .int .i64 x.slot, .int .i64 x.bal, .int .i64 x.ph, .int .i64 x.seq, .slice a1 n1 c1, .slice a2 n2 c2, .bool x.same] 112)).alloc (.cells #[.int .i64 0, .int .i64 0, .int .i64 0, .int .i64 0, .int .i64 0, .slice none 0 0, .slice none 0 0, .bool false] 77)).alloc (.cells #[.int .i64 0, .int .i64 0, .int .i64 0, .int .i64 0, .int .i64 0, .slice none 0 0, .slice none 0 0, .bool false] 77))
  clear h
  go_enter Tryz.func76, Tryz.ntmps76
  go_wp2_with fail
  refine (to_id x.rep x.slot _).mono ?_
  rintro e w1 ⟨rfl, b1⟩
  have X1 := Lib.hid (X.out.after b1)
  have Y1 := Lib.hid (Y.out.after b1)
  have V1 := Lib.hid (V.out.after b1)
  have A1 := Lib.hid (A.out.after b1)
  clear b1 X Y V A
  obtain ⟨x0, x1, x2, x3, x4, x5, x6, x7⟩ := X1.out.c8L
  obtain ⟨v0, v1, v2, v3, v4, v5, v6, v7⟩ := cells8 V1.out
  obtain ⟨f0, f1, f2, f3, f4, f5, f6, f7⟩ := froz8 V1.out
  have lv := V1.out.lt
  go_wp2_with fail
  clear x0 x1 x2 x3 x4 x5 x6 x7 v0 v1 v2 v3 v4 v5 v6 v7 f0 f1 f2 f3 f4 f5 f6 f7 lv
  have A1s := Lib.hid (((((A1.out.set (p := ⟨w.heap.size + 1 + 1, 0, none⟩) (by simp <;> omega) (.int .i64 x.rep)).set (p := ⟨w.heap.size + 1 + 1, 1, none⟩) (by simp <;> omega) (.int .i64 x.slot)).set (p := ⟨w.heap.size + 1 + 1, 2, none⟩) (by simp <;> omega) (.int .i64 x.bal)).set (p := ⟨w.heap.size + 1 + 1, 3, none⟩) (by simp <;> omega) (.int .i64 x.ph)).set (p := ⟨w.heap.size + 1 + 1, 4, none⟩) (by simp <;> omega) (.int .i64 x.seq))
  refine (to_idL _ x.deps _ (PH.out.later A1s.out).1 h1).mono ?_
  rintro e w3 ⟨ud, rfl, o3, b3, ob3⟩
  have X3 := Lib.hid ((((((X1.out.set_other ⟨w.heap.size + 1 + 1, 0, none⟩ _ (by simp <;> omega)).set_other ⟨w.heap.size + 1 + 1, 1, none⟩ _ (by simp <;> omega)).set_other ⟨w.heap.size + 1 + 1, 2, none⟩ _ (by simp <;> omega)).set_other ⟨w.heap.size + 1 + 1, 3, none⟩ _ (by simp <;> omega)).set_other ⟨w.heap.size + 1 + 1, 4, none⟩ _ (by simp <;> omega)).after b3)
  have Y3 := Lib.hid ((((((Y1.out.set_other ⟨w.heap.size + 1 + 1, 0, none⟩ _ (by simp <;> omega)).set_other ⟨w.heap.size + 1 + 1, 1, none⟩ _ (by simp <;> omega)).set_other ⟨w.heap.size + 1 + 1, 2, none⟩ _ (by simp <;> omega)).set_other ⟨w.heap.size + 1 + 1, 3, none⟩ _ (by simp <;> omega)).set_other ⟨w.heap.size + 1 + 1, 4, none⟩ _ (by simp <;> omega)).after b3)
  have V3 := Lib.hid (show Bx w3 (w.heap.size + 1 + 1) 77 #[.int .i64 x.rep, .int .i64 x.slot, .int .i64 x.bal, .int .i64 x.ph, .int .i64 x.seq, .slice none 0 0, .slice none 0 0, .bool false] from (((((V1.out.set 0 (.int .i64 x.rep)).set 1 (.int .i64 x.slot)).set 2 (.int .i64 x.bal)).set 3 (.int .i64 x.ph)).set 4 (.int .i64 x.seq)).after b3)
  have A3 := Lib.hid (A1s.out.after b3)
  have hz1 : w.heap.size + 1 + 1 < w1.heap.size := by have := V1.out.lt; omega
  simp only [World.size_setCell] at o3 ob3
  obtain ⟨a3, n3, c3, rfl⟩ := o3.form
  have O3 := Lib.hid o3
  have OB3 := Lib.hid ob3
  have hz3 : w1.heap.size ≤ w3.heap.size := by have := b3.size; simp only [World.size_setCell] at this; exact this
  clear b3 o3 ob3 X1 Y1 V1 A1 A1s
  obtain ⟨x0, x1, x2, x3, x4, x5, x6, x7⟩ := X3.out.c8L
  obtain ⟨v0, v1, v2, v3, v4, v5, v6, v7⟩ := cells8 V3.out
  obtain ⟨f0, f1, f2, f3, f4, f5, f6, f7⟩ := froz8 V3.out
  have lv := V3.out.lt
  go_wp2_with fail
  clear x0 x1 x2 x3 x4 x5 x6 x7 v0 v1 v2 v3 v4 v5 v6 v7 f0 f1 f2 f3 f4 f5 f6 f7 lv
  have A3s := Lib.hid (A3.out.set (p := ⟨w.heap.size + 1 + 1, 5, none⟩) (by simp <;> omega) (.slice a3 n3 c3))
  refine (to_ns _ x.frm _ (PH.out.later A3s.out).2 h2).mono ?_
  rintro e w4 ⟨uf, rfl, o4, b4, ob4⟩
  have Y4 := Lib.hid ((Y3.out.set_other ⟨w.heap.size + 1 + 1, 5, none⟩ _ (by simp <;> omega)).after b4)
  have X4 := Lib.hid ((X3.out.set_other ⟨w.heap.size + 1 + 1, 5, none⟩ _ (by simp <;> omega)).after b4)
  have V4 := Lib.hid (show Bx w4 (w.heap.size + 1 + 1) 77 #[.int .i64 x.rep, .int .i64 x.slot, .int .i64 x.bal, .int .i64 x.ph, .int .i64 x.seq, .slice a3 n3 c3, .slice none 0 0, .bool false] from (V3.out.set 5 (.slice a3 n3 c3)).after b4)
  have A4 := Lib.hid (A3s.out.after b4)
  have O3b := Lib.hid ((O3.out.kept (grownBy_put w3 (w.heap.size + 1 + 1) 5 (.slice a3 n3 c3)) (fun k hk => by cases hk; omega)).later b4)
  simp only [World.size_setCell] at o4 ob4
  obtain ⟨a4, n4, c4, rfl⟩ := o4.form
  have O4 := Lib.hid o4
  have OB4 := Lib.hid ob4
  have hz4 : w3.heap.size ≤ w4.heap.size := by have := b4.size; simp only [World.size_setCell] at this; exact this
  clear b4 o4 ob4 X3 Y3 V3 A3 A3s O3
  obtain ⟨x0, x1, x2, x3, x4, x5, x6, x7⟩ := X4.out.c8L
  obtain ⟨v0, v1, v2, v3, v4, v5, v6, v7⟩ := cells8 V4.out
  obtain ⟨f0, f1, f2, f3, f4, f5, f6, f7⟩ := froz8 V4.out
  obtain ⟨y0, y1, y2, y3, y4, y5, y6, y7⟩ := cells8 Y4.out
  obtain ⟨q0, q1, q2, q3, q4, q5, q6, q7⟩ := froz8 Y4.out
  have lv := V4.out.lt
  go_wp2
  have G3 := Lib.hid (setL_grown (w.heap.size + 1 + 1) [.slice a4 n4 c4, .bool x.same] w4 6)
  have G4 := Lib.hid (setL_grown (w.heap.size + 1) (ldA x (.slice a3 n3 c3) (.slice a4 n4 c4)) (setL w4 (w.heap.size + 1 + 1) 6 [.slice a4 n4 c4, .bool x.same]) 0)
  have F4 := Lib.hid (show Bx (setL (setL w4 (w.heap.size + 1 + 1) 6 [.slice a4 n4 c4, .bool x.same]) (w.heap.size + 1) 0 (ldA x (.slice a3 n3 c3) (.slice a4 n4 c4))) (w.heap.size + 1) 77 #[.int .i64 x.rep, .int .i64 x.slot, .int .i64 x.bal, .int .i64 x.ph, .int .i64 x.seq, .slice a3 n3 c3, .slice a4 n4 c4, .bool x.same] by have := setL_heap (ldA x (.slice a3 n3 c3) (.slice a4 n4 c4)) (setL w4 (w.heap.size + 1 + 1) 6 [.slice a4 n4 c4, .bool x.same]) #[.int .i64 0, .int .i64 0, .int .i64 0, .int .i64 0, .int .i64 0, .slice none 0 0, .slice none 0 0, .bool false] 0 (Y4.out.keep G3.out (by simp <;> omega)); rw [updL_eq (ldA x (.slice a3 n3 c3) (.slice a4 n4 c4)) #[.int .i64 0, .int .i64 0, .int .i64 0, .int .i64 0, .int .i64 0, .slice none 0 0, .slice none 0 0, .bool false] 0 (show 0 + 8 ≤ 8 by omega)] at this; exact this)
  have I5 := Lib.hid ((O3b.out.kept G3.out (fun k hk => by cases hk; omega)).kept G4.out (fun k hk => by cases hk; omega))
  have N5 := Lib.hid ((O4.out.kept G3.out (fun k hk => by cases hk; omega)).kept G4.out (fun k hk => by cases hk; omega))
  have A5 := Lib.hid ((A4.out.grow G3.out (fun k hk => by cases hk; omega)).grow G4.out (fun k hk => by cases hk; omega))
  have Z5 := Lib.hid (show (setL (setL w4 (w.heap.size + 1 + 1) 6 [.slice a4 n4 c4, .bool x.same]) (w.heap.size + 1) 0 (ldA x (.slice a3 n3 c3) (.slice a4 n4 c4))).heap.size = w4.heap.size by rw [setL_size, setL_size])
  have BD5 := Lib.hid (fun k (hk : Value.ownBlock (.slice a3 n3 c3) = some k) => (show w.heap.size ≤ k ∧ k < (setL (setL w4 (w.heap.size + 1 + 1) 6 [.slice a4 n4 c4, .bool x.same]) (w.heap.size + 1) 0 (ldA x (.slice a3 n3 c3) (.slice a4 n4 c4))).heap.size by have h9 := OB3.out k hk; rw [Z5.out]; omega))
  have BF5 := Lib.hid (fun k (hk : Value.ownBlock (.slice a4 n4 c4) = some k) => (show w.heap.size ≤ k ∧ k < (setL (setL w4 (w.heap.size + 1 + 1) 6 [.slice a4 n4 c4, .bool x.same]) (w.heap.size + 1) 0 (ldA x (.slice a3 n3 c3) (.slice a4 n4 c4))).heap.size by have h9 := OB4.out k hk; rw [Z5.out]; omega))
  clear x0 x1 x2 x3 x4 x5 x6 x7 v0 v1 v2 v3 v4 v5 v6 v7 f0 f1 f2 f3 f4 f5 f6 f7 y0 y1 y2 y3 y4 y5 y6 y7 q0 q1 q2 q3 q4 q5 q6 q7
  exact bodyPost_ret (results_lead Tryz.results76 _ _ (w.heap.size + 1) _ _ _ _ _ _ _ _ rfl (cells8 F4.out)) rfl ⟨⟨_, _, _, _, _, _, rfl, ⟨I5.out.mono (by omega), N5.out.mono (by omega), BD5.out, BF5.out⟩⟩, A5.out⟩

/-! ### the measure -/
def SzLd (x : Ld) (left : Int) (e : Ending) : Prop := e = .returned (.int .i64 (-1)) ∨ ∃ r : Int, e = .returned (.int .i64 r) ∧ 0 ≤ r ∧ r ≤ left ∧ (x.deps.length : Int) ≤ left ∧ (x.frm.length : Int) ≤ left
set_option maxRecDepth 100000 in
set_option maxHeartbeats 2000000 in
theorem sz_lead (x : Ld) (d f : Value) (left : Int) (w : World) (h : LPts w x d f) (h0 : 0 ≤ left) (h1 : left ≤ 1048576) :
    Calls Tryz.prog 71 #[.agg #[.int .i64 x.rep, .int .i64 x.slot, .int .i64 x.bal, .int .i64 x.ph, .int .i64 x.seq, d, f, .bool x.same], .int .i64 left] w fun e w' => SzLd x left e ∧ Below w.heap.size w w' := by
  obtain ⟨⟨a1, n1, c1, rfl⟩, a2, n2, c2, rfl⟩ := h.form
  have X := Lib.hid (Bx.new w 112 #[.int .i64 x.rep, .int .i64 x.slot, .int .i64 x.bal, .int .i64 x.ph, .int .i64 x.seq, .slice a1 n1 c1, .slice a2 n2 c2, .bool x.same] _ rfl)
  have P := Lib.hid (h.alloc (.cells #[.int .i64 x.rep, .int .i64 x.slot, .int .i64 x.bal, .int .i64 x.ph, .int .i64 x.seq, .slice a1 n1 c1, .slice a2 n2 c2, .bool x.same] 112))
  have A := Lib.hid ((Af.refl w).alloc (.cells #[.int .i64 x.rep, .int .i64 x.slot, .int .i64 x.bal, .int .i64 x.ph, .int .i64 x.seq, .slice a1 n1 c1, .slice a2 n2 c2, .bool x.same] 112))
  clear h
  go_enter Tryz.func71, Tryz.ntmps71
  go_wp2_with fail
  by_cases hf : (x.deps.length : Int) ≤ left
  case neg =>
    refine (sz_idL_no _ x.deps left _ P.out.1 (by omega) h0 (by omega)).mono ?_
    rintro e w1 ⟨rfl, b1⟩
    have A1 := Lib.hid (A.out.after b1)
    clear b1
    go_wp2
    go_ret
    exact ⟨.inl rfl, A1.out⟩
  refine (sz_idL_yes _ x.deps left _ P.out.1 hf (by omega)).mono ?_
  rintro e w1 ⟨rfl, b1⟩
  have X1 := Lib.hid (X.out.after b1)
  have P1 := Lib.hid (P.out.later b1)
  have A1 := Lib.hid (A.out.after b1)
  obtain ⟨r, hr⟩ : ∃ r : Int, left - (x.deps.length : Int) = r := ⟨_, rfl⟩
  rw [hr]
  have r0 : 0 ≤ r := by omega
  have r1 : r ≤ left := by omega
  have r2 : (x.deps.length : Int) ≤ left := hf
  have hd : decide (r < 0) = false := decide_eq_false (by omega)
  clear b1 X P A hr hf
  obtain ⟨x0, x1, x2, x3, x4, x5, x6, x7⟩ := X1.out.c8L
  go_wp2_with fail
  clear x0 x1 x2 x3 x4 x5 x6 x7
  by_cases hf : (x.frm.length : Int) ≤ r
  · refine (sz_ns_yes _ x.frm r _ P1.out.2 hf (by omega)).mono ?_
    rintro e w2 ⟨rfl, b2⟩
    have A2 := Lib.hid (A1.out.after b2)
    obtain ⟨q, hq⟩ : ∃ q : Int, r - (x.frm.length : Int) = q := ⟨_, rfl⟩
    rw [hq]
    have hd2 : decide (q < 0) = false := decide_eq_false (by omega)
    have hq0 : 0 ≤ q := by omega
    have hq1 : q ≤ left := by omega
    have hq2 : (x.frm.length : Int) ≤ left := by omega
    clear b2 hq hd X1 P1 A1
    go_wp2
    go_ret
    exact ⟨.inr ⟨q, rfl, hq0, hq1, r2, hq2⟩, A2.out⟩
  · refine (sz_ns_no _ x.frm r _ P1.out.2 (by omega) r0 (by omega)).mono ?_
    rintro e w2 ⟨rfl, b2⟩
    have A2 := Lib.hid (A1.out.after b2)
    clear b2 hd X1 P1 A1
    go_wp2
    go_ret
    exact ⟨.inl rfl, A2.out⟩
def SmL (l : List Ld) : Prop := l.length ≤ 1048576 ∧ ∀ j, j < l.length → (nthL l j).deps.length ≤ 1048576 ∧ (nthL l j).frm.length ≤ 1048576
def SzLdL (l : List Ld) (left : Int) (e : Ending) : Prop := e = .returned (.int .i64 (-1)) ∨ ∃ r : Int, e = .returned (.int .i64 r) ∧ 0 ≤ r ∧ r ≤ left ∧ SmL l
set_option maxRecDepth 100000 in
set_option maxHeartbeats 2000000 in
theorem sz_leads (v : Value) (l : List Ld) (left : Int) (w : World) (hv : Leads w v l) (h0 : 0 ≤ left) (hl1 : left ≤ 1048576) :
    Calls Tryz.prog 40 #[v, .int .i64 left] w fun e w' => SzLdL l left e ∧ Below w.heap.size w w' := by
  obtain ⟨k1, a, ca, rfl, hca, ha⟩ := hv
  obtain ⟨n, hn⟩ : ∃ n, l.length = n := ⟨_, rfl⟩
  rw [hn] at k1 hca ha ⊢
  have HN := Lib.hid hn
  have HA := Lib.hid ha
  clear hn ha hca
  by_cases hbig : left < n
  · have hd : decide (left - (n : Int) < 0) = true := by simp; omega
    have hni : (n : Int) ≤ 9223372036854775807 := by omega
    go_enter Tryz.func40, Tryz.ntmps40
    go_wp2
    go_ret
    exact ⟨.inl rfl, Below.refl _ _⟩
  · have hd : decide (left - (n : Int) < 0) = false := by simp; omega
    have hni : (n : Int) ≤ left := by omega
    have hn1 : n ≤ 1048576 := by omega
    go_enter Tryz.func40, Tryz.ntmps40
    go_wp2
    go_loopw [1, 5] (fun r i wr => ∃ (k : Nat) (q : Int), k ≤ n ∧ i = .int .i64 k ∧ r = .int .i64 q ∧ 0 ≤ q ∧ q ≤ left ∧ (∀ j, j < k → (nthL l j).deps.length ≤ 1048576 ∧ (nthL l j).frm.length ≤ 1048576) ∧ Below w.heap.size w wr) (fun _ i _ => n - (intOf i).toNat)
    case atStart => exact ⟨0, _, by omega, rfl, rfl, by omega, by omega, fun j hj => by omega, Below.refl _ _⟩
    case round =>
      obtain ⟨k, q, hk, rfl, rfl, hq0, hq1, he, hb⟩ := hrel
      have HE := Lib.hid he
      have HB := Lib.hid hb
      clear he hb hd
      by_cases hlt : k < n
      · obtain ⟨y, o, rfl, hy, hcy⟩ := HA.out (by omega)
        obtain ⟨d, f, cc, pp⟩ := hcy k hlt
        obtain ⟨c0, c1, c2, c3, c4, c5, c6, c7⟩ := cc.below HB.out hy
        have P := Lib.hid (pp.later HB.out)
        clear hcy cc pp
        go_wp2_with fail
        clear c0 c1 c2 c3 c4 c5 c6 c7
        refine (sz_lead (nthL l k) d f q _ P.out hq0 (by omega)).mono ?_
        rintro e w2 ⟨(rfl | ⟨r, rfl, r0, r1, r2, r3⟩), hb2⟩
        · have HB2 := Lib.hid (HB.out.trans (hb2.mono HB.out.size))
          clear hb2
          go_wp2
          go_ret
          exact ⟨.inl rfl, HB2.out⟩
        · have HB2 := Lib.hid (HB.out.trans (hb2.mono HB.out.size))
          have hd2 : decide (r < 0) = false := by simp; omega
          have HQ := Lib.hid (show (nthL l k).deps.length ≤ 1048576 ∧ (nthL l k).frm.length ≤ 1048576 by omega)
          have hr1 : r ≤ left := by omega
          clear hb2 r1 r2 r3
          go_wp2
          go_roundw
          case rel =>
            refine ⟨k + 1, r, by omega, by go_num, rfl, r0, hr1, fun j hj => ?_, HB2.out⟩
            by_cases e : j = k
            · subst e; exact HQ.out
            · exact HE.out j (by omega)
          case measure => simp only [intOf]; omega
      · obtain rfl : k = n := by omega
        go_wp2
        go_ret
        exact ⟨.inr ⟨q, rfl, hq0, hq1, by rw [HN.out]; omega, fun j hj => HE.out j (by rw [HN.out] at hj; exact hj)⟩, HB.out⟩
end Go.Proofs.YtdokglckfabdaaaGreatDoor
/- The law's copy of a slice of Leads. -/
namespace Go.Proofs.YtdokglckfabdaaaGreatDoor
open Go.RowKit Go.PlainAid
set_option linter.unusedVariables false

theorem row8 {w : World} {g off : Nat} {t : TypeId} {cur : Array Value} (h : w.heap[g]? = some (.cells cur t (0, 0))) (hs : off + 8 ≤ cur.size) :
    ∃ z0 z1 z2 z3 z4 z5 z6 z7 : Value, (w.cell? ⟨g, off, none⟩ = some z0 ∧ w.cell? ⟨g, off + 1, none⟩ = some z1 ∧ w.cell? ⟨g, off + 2, none⟩ = some z2 ∧ w.cell? ⟨g, off + 3, none⟩ = some z3 ∧ w.cell? ⟨g, off + 4, none⟩ = some z4 ∧ w.cell? ⟨g, off + 5, none⟩ = some z5 ∧ w.cell? ⟨g, off + 6, none⟩ = some z6 ∧ w.cell? ⟨g, off + 7, none⟩ = some z7) ∧ w.frozen? ⟨g, off, none⟩ = false ∧ w.frozen? ⟨g, off + 1, none⟩ = false ∧ w.frozen? ⟨g, off + 2, none⟩ = false ∧ w.frozen? ⟨g, off + 3, none⟩ = false ∧ w.frozen? ⟨g, off + 4, none⟩ = false ∧ w.frozen? ⟨g, off + 5, none⟩ = false ∧ w.frozen? ⟨g, off + 6, none⟩ = false ∧ w.frozen? ⟨g, off + 7, none⟩ = false := by
  have hc : ∀ i, i < 8 → w.cell? ⟨g, off + i, none⟩ = some (cur[off + i]?.getD undef) := fun i hi => by
    rw [cell_of_row w g _ cur _ (0, 0) h, Array.getElem?_eq_getElem (by omega)]; rfl
  have hf : ∀ i, w.frozen? ⟨g, i, none⟩ = false := fun i => frozen_of_row w g i _ _ h
  exact ⟨_, _, _, _, _, _, _, _, ⟨hc 0 (by omega), hc 1 (by omega), hc 2 (by omega), hc 3 (by omega), hc 4 (by omega), hc 5 (by omega), hc 6 (by omega), hc 7 (by omega)⟩, hf _, hf _, hf _, hf _, hf _, hf _, hf _, hf _⟩
theorem Tryz.infoLead : (Tryz.prog.info? 77).map (fun i => (i.zero, i.size, i.bytes)) = some (some (.agg #[.int .i64 0, .int .i64 0, .int .i64 0, .int .i64 0, .int .i64 0, .slice none 0 0, .slice none 0 0, .bool false]), 8, 96) := by kernel_rfl
theorem make_leads (w : World) (n : Nat) (hb : n ≤ 1048576) :
    ∃ w1 cur, (Instr.makeSlice 39 (.int .i64 (n : Int)) (.int .i64 (n : Int))).run Tryz.prog w = .ok (.slice (some ⟨w.heap.size, 0, none⟩) n n) w1 ∧ w1.heap[w.heap.size]? = some (.cells cur 77 (0, 0)) ∧ cur.size = n * 8 ∧ Below w.heap.size w w1 ∧ w.heap.size < w1.heap.size := by
  obtain ⟨i, hi, hz, hs, hby⟩ := info_parts Tryz.infoLead
  have h := run_make (P := Tryz.prog) w 39 77 i _ Tryz.underlying39 hi hz .i64 .i64 n n (by omega) (Int.le_refl _) (by rw [hby]; omega) (by omega)
  simp only [Int.toNat_natCast, hs] at h
  exact ⟨_, _, h, heap_alloc_new w _, by simp [madeCells], (Below.refl _ _).alloc (Nat.le_refl _) _, by simp⟩
theorem LdB.upd {cur : Array Value} {o q : Nat} {x : Ld} {d f : Value} (h : LdB cur o x d f) (vs : List Value) (hv : vs.length = 8) (hq : q + 8 ≤ cur.size) (hne : o + 8 ≤ q ∨ q + 8 ≤ o) : LdB (updL cur q vs) o x d f := by
  intro i hi
  rw [updL_get vs cur q (o + i) (by omega), if_neg (by omega)]
  exact h i hi
theorem LdB.new (cur : Array Value) (q : Nat) (x : Ld) (d f : Value) (hq : q + 8 ≤ cur.size) : LdB (updL cur q (ldA x d f)) q x d f := by
  intro i hi
  rw [updL_get (ldA x d f) cur q (q + i) (show q + 8 ≤ cur.size from hq), if_pos ⟨by omega, by show q + i < q + 8; omega⟩, show q + i - q = i by omega]
set_option maxRecDepth 100000 in
set_option maxHeartbeats 2000000 in
theorem to_leads (v : Value) (l : List Ld) (w : World) (hv : Leads w v l) (hl : SmL l) :
    Calls Tryz.prog 49 #[v] w fun e w' => ∃ u, e = .returned u ∧ LdOwn w' w.heap.size w'.heap.size u l ∧ Below w.heap.size w w' ∧ w.heap.size < w'.heap.size := by
  obtain ⟨k1, a, ca, rfl, hca, ha⟩ := hv
  obtain ⟨n, hn⟩ : ∃ n, l.length = n := ⟨_, rfl⟩
  obtain ⟨w1, cur0, hmk, hrow, hcs, hb1, hlt1⟩ := make_leads w n (by rw [← hn]; exact hl.1)
  have HSM := Lib.hid hl
  have hln := hl.1
  rw [hn] at k1 hca ha hln ⊢
  have HN := Lib.hid hn
  have HA := Lib.hid ha
  have HR := Lib.hid (And.intro hrow hcs)
  have HB := Lib.hid hb1
  obtain ⟨g, hg⟩ : ∃ g, g = w.heap.size := ⟨_, rfl⟩
  rw [← hg] at hmk HR HB hlt1 ⊢
  have HG := Lib.hid hg
  have HLT := Lib.hid hlt1
  clear hn ha hca hrow hcs hb1 hg hlt1 hl
  go_enter Tryz.func49, Tryz.ntmps49
  go_wp2
  clear hmk
  go_loopw [4] (fun i wr => ∃ (k : Nat) (cur : Array Value), k ≤ n ∧ i = .int .i64 k ∧ wr.heap[g]? = some (.cells cur 77 (0, 0)) ∧ cur.size = n * 8 ∧ (∀ j, j < k → ∃ d f, LdB cur (j * 8) (nthL l j) d f ∧ LPO wr g wr.heap.size (nthL l j) d f ∧ d.ownBlock ≠ some g ∧ f.ownBlock ≠ some g) ∧ Below g w wr) (fun i _ => n - (intOf i).toNat)
  case atStart => exact ⟨0, cur0, by omega, rfl, HR.out.1, HR.out.2, fun j hj => by omega, HB.out⟩
  case round =>
    clear HR HB HLT
    obtain ⟨k, cur, hk, rfl, hrow, hcs, hel, hb⟩ := hrel
    have HROW := Lib.hid hrow
    have HEL := Lib.hid hel
    have HB := Lib.hid hb
    have hgr : g < wr.heap.size := (Array.getElem?_eq_some_iff.1 hrow).1
    clear hrow hel hb
    by_cases hlt : k < n
    · obtain ⟨y, o, rfl, hy, hcy⟩ := HA.out (by omega)
      obtain ⟨d, f, cc, pp⟩ := hcy k hlt
      have hyg : y < g := by rw [HG.out]; exact hy
      obtain ⟨c0, c1, c2, c3, c4, c5, c6, c7⟩ := cc.below HB.out hyg
      have HPP := Lib.hid (pp.later (show Below w.heap.size w wr by rw [← HG.out]; exact HB.out))
      have HSZ := Lib.hid (HSM.out.2 k (by rw [HN.out]; exact hlt))
      clear hcy cc pp
      go_wp2_with fail
      clear c0 c1 c2 c3 c4 c5 c6 c7
      refine (to_lead (nthL l k) d f _ HPP.out HSZ.out.1 HSZ.out.2).mono ?_
      rintro e w2 ⟨⟨a1, n1, c1, a2, n2, c2, rfl, p2⟩, b2⟩
      have hz2 := b2.size
      have HROW2 := Lib.hid ((b2.block g hgr).trans HROW.out)
      have P2 := Lib.hid p2
      have HB2 := Lib.hid (HB.out.trans (b2.mono (by omega)))
      have HEL2 := Lib.hid (fun j hj => (by
        obtain ⟨u, d, q1, q2, q3, q4⟩ := HEL.out j hj
        exact ⟨u, d, q1, (q2.later b2).mono (Nat.le_refl _) hz2, q3, q4⟩ : ∃ d f, LdB cur (j * 8) (nthL l j) d f ∧ LPO w2 g w2.heap.size (nthL l j) d f ∧ d.ownBlock ≠ some g ∧ f.ownBlock ≠ some g))
      obtain ⟨z0, z1, z2, z3, z4, z5, z6, z7, ⟨d0, d1, d2, d3, d4, d5, d6, d7⟩, f0, f1, f2, f3, f4, f5, f6, f7⟩ := row8 (off := k * 8) HROW2.out (by omega)
      clear p2 b2 HROW HEL HB HPP
      generalize hxk : nthL l k = x at P2 ⊢
      have HXK := Lib.hid hxk
      clear hxk
      go_wp2
      go_roundw
      case rel =>
        refine ⟨k + 1, updL cur (k * 8) (ldA x (.slice a1 n1 c1) (.slice a2 n2 c2)), by omega, by go_num, setL_heap (ldA x (.slice a1 n1 c1) (.slice a2 n2 c2)) w2 cur (k * 8) HROW2.out, by rw [updL_size]; exact hcs, ?_, ?_⟩
        · intro j hj
          have hG := setL_grown g (ldA x (.slice a1 n1 c1) (.slice a2 n2 c2)) w2 (k * 8)
          have hZ := setL_size g (ldA x (.slice a1 n1 c1) (.slice a2 n2 c2)) w2 (k * 8)
          have main : ∃ d f, LdB (updL cur (k * 8) (ldA x (.slice a1 n1 c1) (.slice a2 n2 c2))) (j * 8) (nthL l j) d f ∧ LPO (setL w2 g (k * 8) (ldA x (.slice a1 n1 c1) (.slice a2 n2 c2))) g (setL w2 g (k * 8) (ldA x (.slice a1 n1 c1) (.slice a2 n2 c2))).heap.size (nthL l j) d f ∧ d.ownBlock ≠ some g ∧ f.ownBlock ≠ some g := by
            by_cases e : j = k
            · subst e
              refine ⟨.slice a1 n1 c1, .slice a2 n2 c2, by rw [HXK.out]; exact LdB.new cur _ x _ _ (by omega), ?_, fun e => by have := (P2.out.bd g e).1; omega, fun e => by have := (P2.out.bf g e).1; omega⟩
              rw [hZ, HXK.out]
              exact (P2.out.mono (Nat.le_of_lt hgr) (Nat.le_refl _)).kept hG (fun k hk => by cases hk; exact ⟨fun e => by have := (P2.out.bd g e).1; omega, fun e => by have := (P2.out.bf g e).1; omega⟩)
            · obtain ⟨u, d, q1, q2, q3, q4⟩ := HEL2.out j (by omega)
              refine ⟨u, d, q1.upd _ rfl (by omega) (by omega), ?_, q3, q4⟩
              rw [hZ]
              exact q2.kept hG (fun k hk => by cases hk; exact ⟨q3, q4⟩)
          exact main
        · exact Below.grown HB2.out (setL_grown g (ldA x (.slice a1 n1 c1) (.slice a2 n2 c2)) w2 (k * 8)) (by omega) (fun k hk => by cases hk; exact Nat.le_refl _)
      case measure => simp only [intOf]; omega
    · obtain rfl : k = n := by omega
      go_wp2
      go_ret
      exact ⟨_, rfl, ⟨_, k, by rw [HN.out]; rfl, by rw [HN.out]; exact Nat.le_refl _, by rw [HN.out]; omega, fun h0 => ⟨g, 0, cur, rfl, ⟨Nat.le_refl _, hgr, by omega⟩, HROW.out, fun j hj => by rw [HN.out] at hj; rw [Nat.zero_add]; exact HEL.out j hj⟩⟩, HB.out, hgr⟩
end Go.Proofs.YtdokglckfabdaaaGreatDoor
/- Nodes: their cells; what a call owns of them. -/
namespace Go.Proofs.YtdokglckfabdaaaGreatDoor
open Go.RowKit Go.PlainAid
set_option linter.unusedVariables false

/-- A node, in plain words. -/
structure Nd where
  me : Int
  next : Int
  insts : List In
  leads : List Ld
def NdP (w : World) (x : Nd) (u v : Value) : Prop := Insts w u x.insts ∧ Leads w v x.leads
theorem NdP.later {w w' : World} {x : Nd} {u v : Value} (h : NdP w x u v) (hb : Below w.heap.size w w') : NdP w' x u v := ⟨h.1.later hb, h.2.later hb⟩
theorem NdP.alloc {w : World} {x : Nd} {u v : Value} (h : NdP w x u v) (o : Obj) : NdP (w.alloc o) x u v := h.later ((Below.refl _ _).alloc (Nat.le_refl _) _)
theorem NdP.form {w : World} {x : Nd} {u v : Value} (h : NdP w x u v) : (∃ a n c, u = .slice a n c) ∧ ∃ a n c, v = .slice a n c := ⟨h.1.form, h.2.form⟩
theorem cells4 {w : World} {g : Nat} {t : TypeId} {x0 x1 x2 x3 : Value} (h : Bx w g t #[x0, x1, x2, x3]) : w.cell? ⟨g, 0, none⟩ = some x0 ∧ w.cell? ⟨g, 1, none⟩ = some x1 ∧ w.cell? ⟨g, 2, none⟩ = some x2 ∧ w.cell? ⟨g, 3, none⟩ = some x3 :=
  ⟨h.cell 0 _ rfl, h.cell 1 _ rfl, h.cell 2 _ rfl, h.cell 3 _ rfl⟩
theorem froz4 {w : World} {g : Nat} {t : TypeId} {cs : Array Value} (h : Bx w g t cs) : w.frozen? ⟨g, 0, none⟩ = false ∧ w.frozen? ⟨g, 1, none⟩ = false ∧ w.frozen? ⟨g, 2, none⟩ = false ∧ w.frozen? ⟨g, 3, none⟩ = false := ⟨h.frozen 0, h.frozen 1, h.frozen 2, h.frozen 3⟩
set_option maxHeartbeats 400000 in
theorem load_node (w : World) (g : Nat) (x0 x1 x2 x3 : Value) (h : w.cell? ⟨g, 0, none⟩ = some x0 ∧ w.cell? ⟨g, 1, none⟩ = some x1 ∧ w.cell? ⟨g, 2, none⟩ = some x2 ∧ w.cell? ⟨g, 3, none⟩ = some x3) : (loadVar 41 ⟨g, 0, none⟩).run Tryz.prog w = .ok (.agg #[x0, x1, x2, x3]) w := by
  obtain ⟨h0, h1, h2, h3⟩ := h
  go_simp
theorem results_node {fn : Func} {p : Tmp} (h : fn.results = #[.cell p 41]) (tmps : Array Value) (w : World) (g : Nat) (x0 x1 x2 x3 : Value)
    (hp : tmps.getD p undef = .pointer (some ⟨g, 0, none⟩)) (hc : w.cell? ⟨g, 0, none⟩ = some x0 ∧ w.cell? ⟨g, 1, none⟩ = some x1 ∧ w.cell? ⟨g, 2, none⟩ = some x2 ∧ w.cell? ⟨g, 3, none⟩ = some x3) : (results fn tmps).run Tryz.prog w = .ok (.agg #[x0, x1, x2, x3]) w := by
  have e : (results fn tmps).run Tryz.prog w = ((asAddr (tmps.getD p undef)).run Tryz.prog w).andThen fun a w₁ => (loadVar 41 a).run Tryz.prog w₁ := by
    simp only [results, h]
    simp [Sem.run_bind, Result.andThen]
  rw [e, hp, asAddr_ptr]
  simp only [Result.andThen]
  exact load_node w g x0 x1 x2 x3 hc
theorem InOwn.mono {w : World} {lo hi lo' hi' : Nat} {v : Value} {l : List In} (h : InOwn w lo hi v l) (h1 : lo' ≤ lo) (h2 : hi ≤ hi') : InOwn w lo' hi' v l := by
  obtain ⟨a, cap, e, q1, q2, h3⟩ := h
  refine ⟨a, cap, e, q1, q2, fun h0 => ?_⟩
  obtain ⟨g, o, cur, r1, r2, r3, r4⟩ := h3 h0
  refine ⟨g, o, cur, r1, ⟨by omega, by omega, r2.2.2⟩, r3, fun j hj => ?_⟩
  obtain ⟨u, d, s1, s2, s3⟩ := r4 j hj
  exact ⟨u, d, s1, s2.mono h1 h2, s3⟩
theorem InOwn.kept {w w' : World} {lo hi : Nat} {v : Value} {l : List In} {row : Option Nat} (h : InOwn w lo hi v l) (hg : w.grownBy w' row) (hne : ∀ k, row = some k → k < lo) : InOwn w' lo hi v l := by
  obtain ⟨a, cap, e, q1, q2, h3⟩ := h
  refine ⟨a, cap, e, q1, q2, fun h0 => ?_⟩
  obtain ⟨g, o, cur, r1, r2, r3, r4⟩ := h3 h0
  refine ⟨g, o, cur, r1, r2, ?_, fun j hj => ?_⟩
  · rw [hg.block g (Array.getElem?_eq_some_iff.1 r3).1 (fun e => by have := hne g e.symm; omega)]
    exact r3
  obtain ⟨u, d, s1, s2, s3⟩ := r4 j hj
  exact ⟨u, d, s1, s2.kept hg (fun k hk => ⟨fun e => by have := (s2.bu k e).1; have := hne k hk; omega, fun e => by have := (s2.bd k e).1; have := hne k hk; omega⟩), s3⟩
theorem LdOwn.mono {w : World} {lo hi lo' hi' : Nat} {v : Value} {l : List Ld} (h : LdOwn w lo hi v l) (h1 : lo' ≤ lo) (h2 : hi ≤ hi') : LdOwn w lo' hi' v l := by
  obtain ⟨a, cap, e, q1, q2, h3⟩ := h
  refine ⟨a, cap, e, q1, q2, fun h0 => ?_⟩
  obtain ⟨g, o, cur, r1, r2, r3, r4⟩ := h3 h0
  refine ⟨g, o, cur, r1, ⟨by omega, by omega, r2.2.2⟩, r3, fun j hj => ?_⟩
  obtain ⟨u, d, s1, s2, s3⟩ := r4 j hj
  exact ⟨u, d, s1, s2.mono h1 h2, s3⟩
theorem LdOwn.kept {w w' : World} {lo hi : Nat} {v : Value} {l : List Ld} {row : Option Nat} (h : LdOwn w lo hi v l) (hg : w.grownBy w' row) (hne : ∀ k, row = some k → k < lo) : LdOwn w' lo hi v l := by
  obtain ⟨a, cap, e, q1, q2, h3⟩ := h
  refine ⟨a, cap, e, q1, q2, fun h0 => ?_⟩
  obtain ⟨g, o, cur, r1, r2, r3, r4⟩ := h3 h0
  refine ⟨g, o, cur, r1, r2, ?_, fun j hj => ?_⟩
  · rw [hg.block g (Array.getElem?_eq_some_iff.1 r3).1 (fun e => by have := hne g e.symm; omega)]
    exact r3
  obtain ⟨u, d, s1, s2, s3⟩ := r4 j hj
  exact ⟨u, d, s1, s2.kept hg (fun k hk => ⟨fun e => by have := (s2.bd k e).1; have := hne k hk; omega, fun e => by have := (s2.bf k e).1; have := hne k hk; omega⟩), s3⟩
end Go.Proofs.YtdokglckfabdaaaGreatDoor
