/- InstsOk: the loops, the model's and the program's. -/
import Derived.Test.YtlbebeedkcdgpaaDoorInVs
import Derived.Test.YtlbebeedkcdgpaaDoorInVi
namespace Go.Proofs.YtlbebeedkcdgpaaDoor
open Go.RowKit Go.PlainAid
set_option linter.unusedVariables false

/-- The instance at j is valid and behind the one ahead of it. -/
@[irreducible] def okIn (l : List In) (j : Nat) : Bool := instB (nth l j) && (decide (j = 0) || ltB (nth l (j - 1)).rep (nth l (j - 1)).slot (nth l j).rep (nth l j).slot)
theorem okIn_eq (l : List In) (j : Nat) : okIn l j = (instB (nth l j) && (decide (j = 0) || ltB (nth l (j - 1)).rep (nth l (j - 1)).slot (nth l j).rep (nth l j).slot)) := by unfold okIn; rfl
theorem okIn_zero (l : List In) : okIn l 0 = instB (nth l 0) := by rw [okIn_eq]; simp
theorem okIn_succ (l : List In) (j : Nat) (h : 0 < j) : okIn l j = (instB (nth l j) && ltB (nth l (j - 1)).rep (nth l (j - 1)).slot (nth l j).rep (nth l j).slot) := by rw [okIn_eq, decide_eq_false (by omega : ¬ j = 0)]; simp
/-- InstsOk. -/
@[irreducible] def instsB (l : List In) : Bool := (List.range l.length).all (okIn l)
theorem instsB_eq (l : List In) : instsB l = (List.range l.length).all (okIn l) := by unfold instsB; rfl
theorem instsB_yes (l : List In) (h : ∀ j, j < l.length → okIn l j = true) : instsB l = true := by
  rw [instsB_eq, List.all_eq_true]
  intro j hj
  exact h j (by simpa using hj)
theorem instsB_no (l : List In) (k : Nat) (hk : k < l.length) (h : okIn l k = false) : instsB l = false := by
  rw [instsB_eq, List.all_eq_false]
  exact ⟨k, by simpa using hk, by rw [h]; simp⟩
theorem instsB_at {l : List In} (h : instsB l = true) (j : Nat) (hj : j < l.length) : okIn l j = true := by
  rw [instsB_eq, List.all_eq_true] at h
  exact h j (by simpa using hj)
theorem l_spec_inst (x : In) (u d : Value) (b : Bool) (e : instB x = b) (w0 w : World) (hp : Pts w0 x u d) (h : LatI w0 w) : Calls Tryd.prog 32 #[.agg #[.int .i64 x.rep, .int .i64 x.slot, .int .i64 x.bal, .int .i64 x.vbal, .int .i64 x.st, .int .i64 x.cmd.kind, .int .i64 x.cmd.client, .int .i64 x.cmd.no, .string x.cmd.set, .string x.cmd.name, .string x.cmd.tag, .int .i64 x.cmd.n, u, .int .i64 x.seq, d, .bool x.same]] w fun e w' => e = .returned (.bool b) ∧ LatI w0 w' :=
  (spec_inst x u d w (hp.later h)).mono fun _ w' hh => ⟨e ▸ hh.1, h.trans hh.2⟩
theorem l_impl_inst (x : In) (u d : Value) (a : Addr) (b : Bool) (e : instB x = b) (w0 w : World) (hp : Pts w0 x u d) (hS : Sent w0 a) (h : LatI w0 w) : Calls Tryd.prog 54 #[.agg #[.int .i64 x.rep, .int .i64 x.slot, .int .i64 x.bal, .int .i64 x.vbal, .int .i64 x.st, .int .i64 x.cmd.kind, .int .i64 x.cmd.client, .int .i64 x.cmd.no, .string x.cmd.set, .string x.cmd.name, .string x.cmd.tag, .int .i64 x.cmd.n, u, .int .i64 x.seq, d, .bool x.same]] w fun e w' => e = .returned (.bool b) ∧ LatI w0 w' :=
  (impl_inst x u d a w (hp.later h) (hS.later h)).mono fun _ w' hh => ⟨e ▸ hh.1, h.trans hh.2⟩
theorem l_impl_ilt (x y : In) (u d u' d' : Value) (b : Bool) (e : ltB x.rep x.slot y.rep y.slot = b) (w0 w : World) (hp : Pts w0 x u d) (hq : Pts w0 y u' d') (h : LatI w0 w) : Calls Tryd.prog 55 #[.agg #[.int .i64 x.rep, .int .i64 x.slot, .int .i64 x.bal, .int .i64 x.vbal, .int .i64 x.st, .int .i64 x.cmd.kind, .int .i64 x.cmd.client, .int .i64 x.cmd.no, .string x.cmd.set, .string x.cmd.name, .string x.cmd.tag, .int .i64 x.cmd.n, u, .int .i64 x.seq, d, .bool x.same], .agg #[.int .i64 y.rep, .int .i64 y.slot, .int .i64 y.bal, .int .i64 y.vbal, .int .i64 y.st, .int .i64 y.cmd.kind, .int .i64 y.cmd.client, .int .i64 y.cmd.no, .string y.cmd.set, .string y.cmd.name, .string y.cmd.tag, .int .i64 y.cmd.n, u', .int .i64 y.seq, d', .bool y.same]] w fun e w' => e = .returned (.bool b) ∧ LatI w0 w' :=
  (impl_ilt x y u d u' d' w (hp.later h) (hq.later h)).mono fun _ w' hh => ⟨e ▸ hh.1, h.trans hh.2⟩
end Go.Proofs.YtlbebeedkcdgpaaDoor
