/- Leads: how slices of them are read. -/
import Derived.Test.YthihihphbcaieaaDoorNsM
import Derived.Test.YthihihphbcaieaaDoorInCs
namespace Go.Proofs.YthihihphbcaieaaDoor
open Go.RowKit Go.PlainAid
set_option linter.unusedVariables false

/-- A Lead, in plain words. -/
structure Ld where
  rep : Int
  slot : Int
  bal : Int
  ph : Int
  seq : Int
  deps : List Ii
  frm : List Int
  same : Bool
abbrev ld0 : Ld := ⟨0, 0, 0, 0, 0, [], [], false⟩
instance : Inhabited Ld := ⟨ld0⟩
@[irreducible] def nthL (l : List Ld) (j : Nat) : Ld := l.getD j ld0
theorem nthL_eq (l : List Ld) (j : Nat) : nthL l j = l.getD j ld0 := by unfold nthL; rfl
theorem nthL_get (l : List Ld) (j : Nat) (h : j < l.length) : l[j]? = some (nthL l j) := by
  rw [nthL_eq, List.getD, List.getElem?_eq_getElem h]; rfl
theorem nthL_of {l : List Ld} {j : Nat} {x : Ld} (h : l[j]? = some x) : nthL l j = x := by rw [nthL_eq, List.getD, h]; rfl
/-- The eight cells of a Lead at o in block b. -/
def LdC (w : World) (b o : Nat) (x : Ld) (d f : Value) : Prop :=
  w.cell? ⟨b, o, none⟩ = some (.int .i64 x.rep) ∧ w.cell? ⟨b, o + 1, none⟩ = some (.int .i64 x.slot) ∧ w.cell? ⟨b, o + 2, none⟩ = some (.int .i64 x.bal) ∧ w.cell? ⟨b, o + 3, none⟩ = some (.int .i64 x.ph) ∧ w.cell? ⟨b, o + 4, none⟩ = some (.int .i64 x.seq) ∧ w.cell? ⟨b, o + 5, none⟩ = some (d) ∧ w.cell? ⟨b, o + 6, none⟩ = some (f) ∧ w.cell? ⟨b, o + 7, none⟩ = some (.bool x.same)
theorem LdC.below {w w' : World} {b o B : Nat} {x : Ld} {d f : Value} (h : LdC w b o x d f) (hb : Below B w w') (hlt : b < B) : LdC w' b o x d f := by
  unfold LdC
  rw [hb.cell (p := ⟨b, o, none⟩) hlt, hb.cell (p := ⟨b, o + 1, none⟩) hlt, hb.cell (p := ⟨b, o + 2, none⟩) hlt, hb.cell (p := ⟨b, o + 3, none⟩) hlt, hb.cell (p := ⟨b, o + 4, none⟩) hlt, hb.cell (p := ⟨b, o + 5, none⟩) hlt, hb.cell (p := ⟨b, o + 6, none⟩) hlt, hb.cell (p := ⟨b, o + 7, none⟩) hlt]
  exact h
theorem Bx.c8L {w : World} {g : Nat} {t : TypeId} {x : Ld} {d f : Value} (h : Bx w g t #[.int .i64 x.rep, .int .i64 x.slot, .int .i64 x.bal, .int .i64 x.ph, .int .i64 x.seq, d, f, .bool x.same]) : w.cell? ⟨g, 0, none⟩ = some (.int .i64 x.rep) ∧ w.cell? ⟨g, 1, none⟩ = some (.int .i64 x.slot) ∧ w.cell? ⟨g, 2, none⟩ = some (.int .i64 x.bal) ∧ w.cell? ⟨g, 3, none⟩ = some (.int .i64 x.ph) ∧ w.cell? ⟨g, 4, none⟩ = some (.int .i64 x.seq) ∧ w.cell? ⟨g, 5, none⟩ = some (d) ∧ w.cell? ⟨g, 6, none⟩ = some (f) ∧ w.cell? ⟨g, 7, none⟩ = some (.bool x.same) :=
  ⟨h.cell 0 _ rfl, h.cell 1 _ rfl, h.cell 2 _ rfl, h.cell 3 _ rfl, h.cell 4 _ rfl, h.cell 5 _ rfl, h.cell 6 _ rfl, h.cell 7 _ rfl⟩
theorem cells8 {w : World} {g : Nat} {t : TypeId} {x0 x1 x2 x3 x4 x5 x6 x7 : Value} (h : Bx w g t #[x0, x1, x2, x3, x4, x5, x6, x7]) : w.cell? ⟨g, 0, none⟩ = some x0 ∧ w.cell? ⟨g, 1, none⟩ = some x1 ∧ w.cell? ⟨g, 2, none⟩ = some x2 ∧ w.cell? ⟨g, 3, none⟩ = some x3 ∧ w.cell? ⟨g, 4, none⟩ = some x4 ∧ w.cell? ⟨g, 5, none⟩ = some x5 ∧ w.cell? ⟨g, 6, none⟩ = some x6 ∧ w.cell? ⟨g, 7, none⟩ = some x7 :=
  ⟨h.cell 0 _ rfl, h.cell 1 _ rfl, h.cell 2 _ rfl, h.cell 3 _ rfl, h.cell 4 _ rfl, h.cell 5 _ rfl, h.cell 6 _ rfl, h.cell 7 _ rfl⟩
theorem froz8 {w : World} {g : Nat} {t : TypeId} {cs : Array Value} (h : Bx w g t cs) : w.frozen? ⟨g, 0, none⟩ = false ∧ w.frozen? ⟨g, 1, none⟩ = false ∧ w.frozen? ⟨g, 2, none⟩ = false ∧ w.frozen? ⟨g, 3, none⟩ = false ∧ w.frozen? ⟨g, 4, none⟩ = false ∧ w.frozen? ⟨g, 5, none⟩ = false ∧ w.frozen? ⟨g, 6, none⟩ = false ∧ w.frozen? ⟨g, 7, none⟩ = false :=
  ⟨h.frozen 0, h.frozen 1, h.frozen 2, h.frozen 3, h.frozen 4, h.frozen 5, h.frozen 6, h.frozen 7⟩
set_option maxHeartbeats 400000 in
theorem load_lead (w : World) (g : Nat) (x0 x1 x2 x3 x4 x5 x6 x7 : Value) (h : w.cell? ⟨g, 0, none⟩ = some x0 ∧ w.cell? ⟨g, 1, none⟩ = some x1 ∧ w.cell? ⟨g, 2, none⟩ = some x2 ∧ w.cell? ⟨g, 3, none⟩ = some x3 ∧ w.cell? ⟨g, 4, none⟩ = some x4 ∧ w.cell? ⟨g, 5, none⟩ = some x5 ∧ w.cell? ⟨g, 6, none⟩ = some x6 ∧ w.cell? ⟨g, 7, none⟩ = some x7) : (loadVar 148 ⟨g, 0, none⟩).run Tryd.prog w = .ok (.agg #[x0, x1, x2, x3, x4, x5, x6, x7]) w := by
  obtain ⟨h0, h1, h2, h3, h4, h5, h6, h7⟩ := h
  go_simp
theorem results_lead {fn : Func} {p : Tmp} (h : fn.results = #[.cell p 148]) (tmps : Array Value) (w : World) (g : Nat) (x0 x1 x2 x3 x4 x5 x6 x7 : Value)
    (hp : tmps.getD p undef = .pointer (some ⟨g, 0, none⟩)) (hc : w.cell? ⟨g, 0, none⟩ = some x0 ∧ w.cell? ⟨g, 1, none⟩ = some x1 ∧ w.cell? ⟨g, 2, none⟩ = some x2 ∧ w.cell? ⟨g, 3, none⟩ = some x3 ∧ w.cell? ⟨g, 4, none⟩ = some x4 ∧ w.cell? ⟨g, 5, none⟩ = some x5 ∧ w.cell? ⟨g, 6, none⟩ = some x6 ∧ w.cell? ⟨g, 7, none⟩ = some x7) : (results fn tmps).run Tryd.prog w = .ok (.agg #[x0, x1, x2, x3, x4, x5, x6, x7]) w := by
  have e : (results fn tmps).run Tryd.prog w = ((asAddr (tmps.getD p undef)).run Tryd.prog w).andThen fun a w₁ => (loadVar 148 a).run Tryd.prog w₁ := by
    simp only [results, h]
    simp [Sem.run_bind, Result.andThen]
  rw [e, hp, asAddr_ptr]
  simp only [Result.andThen]
  exact load_lead w g x0 x1 x2 x3 x4 x5 x6 x7 hc
/-- The parts of a Lead read as they should. -/
def LPts (w : World) (x : Ld) (d f : Value) : Prop := Ids w d x.deps ∧ Ns w f x.frm
theorem LPts.later {w w' : World} {x : Ld} {d f : Value} (h : LPts w x d f) (hb : Below w.heap.size w w') : LPts w' x d f := ⟨h.1.later hb, h.2.later hb⟩
theorem LPts.alloc {w : World} {x : Ld} {d f : Value} (h : LPts w x d f) (o : Obj) : LPts (w.alloc o) x d f := h.later ((Below.refl _ _).alloc (Nat.le_refl _) _)
theorem LPts.form {w : World} {x : Ld} {d f : Value} (h : LPts w x d f) : (∃ a n c, d = .slice a n c) ∧ ∃ a n c, f = .slice a n c := ⟨h.1.form, h.2.form⟩
/-- The value v is a slice of Leads that reads as l. -/
structure Leads (w : World) (v : Value) (l : List Ld) : Prop where
  len : l.length ≤ 9223372036854775807
  at_ : ∃ a cap, v = .slice a l.length cap ∧ l.length ≤ cap ∧ (0 < l.length → ∃ b o, a = some ⟨b, o, none⟩ ∧ b < w.heap.size ∧ ∀ j, j < l.length → ∃ d f, LdC w b (o + j * 8) (nthL l j) d f ∧ LPts w (nthL l j) d f)
theorem Leads.form {w : World} {v : Value} {l : List Ld} (h : Leads w v l) : ∃ a n cap, v = .slice a n cap := by
  obtain ⟨_, a, cap, e, _⟩ := h
  exact ⟨a, _, cap, e⟩
theorem Leads.later {w w' : World} {v : Value} {l : List Ld} (h : Leads w v l) (hb : Below w.heap.size w w') : Leads w' v l := by
  obtain ⟨h1, a, cap, e, hc, h3⟩ := h
  refine ⟨h1, a, cap, e, hc, fun h0 => ?_⟩
  obtain ⟨b, o, ha, hbl, hcl⟩ := h3 h0
  refine ⟨b, o, ha, Nat.lt_of_lt_of_le hbl hb.size, fun j hj => ?_⟩
  obtain ⟨d, f, q1, q2⟩ := hcl j hj
  exact ⟨d, f, q1.below hb hbl, q2.later hb⟩
theorem Leads.alloc {w : World} {v : Value} {l : List Ld} (h : Leads w v l) (o : Obj) : Leads (w.alloc o) v l := h.later ((Below.refl _ _).alloc (Nat.le_refl _) _)
theorem leads_nil (w : World) (a : Option Addr) (cap : Nat) : Leads w (.slice a 0 cap) [] := ⟨by simp, a, cap, rfl, by simp, fun h => by simp at h⟩
end Go.Proofs.YthihihphbcaieaaDoor
