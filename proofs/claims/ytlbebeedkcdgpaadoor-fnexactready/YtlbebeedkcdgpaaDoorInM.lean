/- Instances: how slices of them are read. -/
import Derived.Test.YtlbebeedkcdgpaaDoorIdTo
import Derived.Test.YtlbebeedkcdgpaaDoorCmdB
namespace Go.Proofs.YtlbebeedkcdgpaaDoor
open Go.RowKit Go.PlainAid
set_option linter.unusedVariables false

/-- An instance, in plain words. -/
structure In where
  rep : Int
  slot : Int
  bal : Int
  vbal : Int
  st : Int
  cmd : CmdM
  seq : Int
  deps : List Ii
  same : Bool
instance (a b : In) : Decidable (a = b) :=
  decidable_of_iff (a.rep = b.rep ∧ a.slot = b.slot ∧ a.bal = b.bal ∧ a.vbal = b.vbal ∧ a.st = b.st ∧ a.cmd = b.cmd ∧ a.seq = b.seq ∧ a.deps = b.deps ∧ a.same = b.same) (by cases a; cases b; simp)
abbrev cmd0 : CmdM := ⟨0, 0, 0, ByteArray.empty, ByteArray.empty, ByteArray.empty, 0, []⟩
abbrev in0 : In := ⟨0, 0, 0, 0, 0, cmd0, 0, [], false⟩
instance : Inhabited In := ⟨in0⟩
/-- The j-th. -/
@[irreducible] def nth (l : List In) (j : Nat) : In := l.getD j in0
theorem nth_eq (l : List In) (j : Nat) : nth l j = l.getD j in0 := by unfold nth; rfl
theorem nth_get (l : List In) (j : Nat) (h : j < l.length) : l[j]? = some (nth l j) := by
  rw [nth_eq, List.getD, List.getElem?_eq_getElem h]; rfl
theorem nth_of {l : List In} {j : Nat} {x : In} (h : l[j]? = some x) : nth l j = x := by rw [nth_eq, List.getD, h]; rfl
theorem nth_ext (l m : List In) (h : l.length = m.length) (he : ∀ j, j < l.length → nth l j = nth m j) : l = m := by
  apply List.ext_getElem?
  intro j
  by_cases hj : j < l.length
  · rw [nth_get l j hj, nth_get m j (by omega), he j hj]
  · rw [List.getElem?_eq_none (by omega), List.getElem?_eq_none (by omega)]
/-- Its texts are no longer than a machine's can be. -/
def Fit (x : In) : Prop := x.cmd.set.size ≤ 9223372036854775807 ∧ x.cmd.name.size ≤ 9223372036854775807 ∧ x.cmd.tag.size ≤ 9223372036854775807

/-- The sixteen cells of an instance at o in block b. -/
def InC (w : World) (b o : Nat) (x : In) (u d : Value) : Prop :=
  w.cell? ⟨b, o, none⟩ = some (.int .i64 x.rep) ∧ w.cell? ⟨b, o + 1, none⟩ = some (.int .i64 x.slot) ∧ w.cell? ⟨b, o + 2, none⟩ = some (.int .i64 x.bal) ∧ w.cell? ⟨b, o + 3, none⟩ = some (.int .i64 x.vbal) ∧ w.cell? ⟨b, o + 4, none⟩ = some (.int .i64 x.st) ∧ w.cell? ⟨b, o + 5, none⟩ = some (.int .i64 x.cmd.kind) ∧ w.cell? ⟨b, o + 6, none⟩ = some (.int .i64 x.cmd.client) ∧ w.cell? ⟨b, o + 7, none⟩ = some (.int .i64 x.cmd.no) ∧ w.cell? ⟨b, o + 8, none⟩ = some (.string x.cmd.set) ∧ w.cell? ⟨b, o + 9, none⟩ = some (.string x.cmd.name) ∧ w.cell? ⟨b, o + 10, none⟩ = some (.string x.cmd.tag) ∧ w.cell? ⟨b, o + 11, none⟩ = some (.int .i64 x.cmd.n) ∧ w.cell? ⟨b, o + 12, none⟩ = some (u) ∧ w.cell? ⟨b, o + 13, none⟩ = some (.int .i64 x.seq) ∧ w.cell? ⟨b, o + 14, none⟩ = some (d) ∧ w.cell? ⟨b, o + 15, none⟩ = some (.bool x.same)
theorem InC.below {w w' : World} {b o B : Nat} {x : In} {u d : Value} (h : InC w b o x u d) (hb : Below B w w') (hlt : b < B) : InC w' b o x u d := by
  unfold InC
  rw [hb.cell (p := ⟨b, o, none⟩) hlt, hb.cell (p := ⟨b, o + 1, none⟩) hlt, hb.cell (p := ⟨b, o + 2, none⟩) hlt, hb.cell (p := ⟨b, o + 3, none⟩) hlt, hb.cell (p := ⟨b, o + 4, none⟩) hlt, hb.cell (p := ⟨b, o + 5, none⟩) hlt, hb.cell (p := ⟨b, o + 6, none⟩) hlt, hb.cell (p := ⟨b, o + 7, none⟩) hlt, hb.cell (p := ⟨b, o + 8, none⟩) hlt, hb.cell (p := ⟨b, o + 9, none⟩) hlt, hb.cell (p := ⟨b, o + 10, none⟩) hlt, hb.cell (p := ⟨b, o + 11, none⟩) hlt, hb.cell (p := ⟨b, o + 12, none⟩) hlt, hb.cell (p := ⟨b, o + 13, none⟩) hlt, hb.cell (p := ⟨b, o + 14, none⟩) hlt, hb.cell (p := ⟨b, o + 15, none⟩) hlt]
  exact h
theorem InC.block {w w' : World} {b o : Nat} {x : In} {u d : Value} (h : InC w b o x u d) (hk : w'.heap[b]? = w.heap[b]?) : InC w' b o x u d := by
  unfold InC
  rw [World.cell?_of_block (w := w) (a := ⟨b, o, none⟩) hk, World.cell?_of_block (w := w) (a := ⟨b, o + 1, none⟩) hk, World.cell?_of_block (w := w) (a := ⟨b, o + 2, none⟩) hk, World.cell?_of_block (w := w) (a := ⟨b, o + 3, none⟩) hk, World.cell?_of_block (w := w) (a := ⟨b, o + 4, none⟩) hk, World.cell?_of_block (w := w) (a := ⟨b, o + 5, none⟩) hk, World.cell?_of_block (w := w) (a := ⟨b, o + 6, none⟩) hk, World.cell?_of_block (w := w) (a := ⟨b, o + 7, none⟩) hk, World.cell?_of_block (w := w) (a := ⟨b, o + 8, none⟩) hk, World.cell?_of_block (w := w) (a := ⟨b, o + 9, none⟩) hk, World.cell?_of_block (w := w) (a := ⟨b, o + 10, none⟩) hk, World.cell?_of_block (w := w) (a := ⟨b, o + 11, none⟩) hk, World.cell?_of_block (w := w) (a := ⟨b, o + 12, none⟩) hk, World.cell?_of_block (w := w) (a := ⟨b, o + 13, none⟩) hk, World.cell?_of_block (w := w) (a := ⟨b, o + 14, none⟩) hk, World.cell?_of_block (w := w) (a := ⟨b, o + 15, none⟩) hk]
  exact h
theorem Bx.c16 {w : World} {g : Nat} {t : TypeId} {x : In} {u d : Value} (h : Bx w g t #[.int .i64 x.rep, .int .i64 x.slot, .int .i64 x.bal, .int .i64 x.vbal, .int .i64 x.st, .int .i64 x.cmd.kind, .int .i64 x.cmd.client, .int .i64 x.cmd.no, .string x.cmd.set, .string x.cmd.name, .string x.cmd.tag, .int .i64 x.cmd.n, u, .int .i64 x.seq, d, .bool x.same]) : w.cell? ⟨g, 0, none⟩ = some (.int .i64 x.rep) ∧ w.cell? ⟨g, 1, none⟩ = some (.int .i64 x.slot) ∧ w.cell? ⟨g, 2, none⟩ = some (.int .i64 x.bal) ∧ w.cell? ⟨g, 3, none⟩ = some (.int .i64 x.vbal) ∧ w.cell? ⟨g, 4, none⟩ = some (.int .i64 x.st) ∧ w.cell? ⟨g, 5, none⟩ = some (.int .i64 x.cmd.kind) ∧ w.cell? ⟨g, 6, none⟩ = some (.int .i64 x.cmd.client) ∧ w.cell? ⟨g, 7, none⟩ = some (.int .i64 x.cmd.no) ∧ w.cell? ⟨g, 8, none⟩ = some (.string x.cmd.set) ∧ w.cell? ⟨g, 9, none⟩ = some (.string x.cmd.name) ∧ w.cell? ⟨g, 10, none⟩ = some (.string x.cmd.tag) ∧ w.cell? ⟨g, 11, none⟩ = some (.int .i64 x.cmd.n) ∧ w.cell? ⟨g, 12, none⟩ = some (u) ∧ w.cell? ⟨g, 13, none⟩ = some (.int .i64 x.seq) ∧ w.cell? ⟨g, 14, none⟩ = some (d) ∧ w.cell? ⟨g, 15, none⟩ = some (.bool x.same) :=
  ⟨h.cell 0 _ rfl, h.cell 1 _ rfl, h.cell 2 _ rfl, h.cell 3 _ rfl, h.cell 4 _ rfl, h.cell 5 _ rfl, h.cell 6 _ rfl, h.cell 7 _ rfl, h.cell 8 _ rfl, h.cell 9 _ rfl, h.cell 10 _ rfl, h.cell 11 _ rfl, h.cell 12 _ rfl, h.cell 13 _ rfl, h.cell 14 _ rfl, h.cell 15 _ rfl⟩
/-- The parts of an instance read as they should. -/
def Pts (w : World) (x : In) (u d : Value) : Prop := Strs w u x.cmd.ch ∧ Ids w d x.deps ∧ Fit x
theorem Pts.later {w w' : World} {x : In} {u d : Value} (h : Pts w x u d) (hb : Below w.heap.size w w') : Pts w' x u d := ⟨h.1.later hb, h.2.1.later hb, h.2.2⟩
theorem Pts.alloc {w : World} {x : In} {u d : Value} (h : Pts w x u d) (o : Obj) : Pts (w.alloc o) x u d := h.later ((Below.refl _ _).alloc (Nat.le_refl _) _)
theorem Pts.form {w : World} {x : In} {u d : Value} (h : Pts w x u d) : (∃ a n c, u = .slice a n c) ∧ ∃ a n c, d = .slice a n c := ⟨h.1.form, h.2.1.form⟩
/-- The value v is a slice of instances that reads as l. -/
structure Insts (w : World) (v : Value) (l : List In) : Prop where
  len : l.length ≤ 9223372036854775807
  at_ : ∃ a cap, v = .slice a l.length cap ∧ l.length ≤ cap ∧ (0 < l.length → ∃ b o, a = some ⟨b, o, none⟩ ∧ b < w.heap.size ∧ ∀ j, j < l.length → ∃ u d, InC w b (o + j * 16) (nth l j) u d ∧ Pts w (nth l j) u d)
theorem Insts.form {w : World} {v : Value} {l : List In} (h : Insts w v l) : ∃ a n cap, v = .slice a n cap := by
  obtain ⟨_, a, cap, e, _⟩ := h
  exact ⟨a, _, cap, e⟩
theorem Insts.later {w w' : World} {v : Value} {l : List In} (h : Insts w v l) (hb : Below w.heap.size w w') : Insts w' v l := by
  obtain ⟨h1, a, cap, e, hc, h3⟩ := h
  refine ⟨h1, a, cap, e, hc, fun h0 => ?_⟩
  obtain ⟨b, o, ha, hbl, hcl⟩ := h3 h0
  refine ⟨b, o, ha, Nat.lt_of_lt_of_le hbl hb.size, fun j hj => ?_⟩
  obtain ⟨u, d, q1, q2⟩ := hcl j hj
  exact ⟨u, d, q1.below hb hbl, q2.later hb⟩
theorem Insts.alloc {w : World} {v : Value} {l : List In} (h : Insts w v l) (o : Obj) : Insts (w.alloc o) v l := h.later ((Below.refl _ _).alloc (Nat.le_refl _) _)
theorem insts_nil (w : World) (a : Option Addr) (cap : Nat) : Insts w (.slice a 0 cap) [] := ⟨by simp, a, cap, rfl, by simp, fun h => by simp at h⟩
end Go.Proofs.YtlbebeedkcdgpaaDoor
