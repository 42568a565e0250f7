/- A whole message is loaded and stored in one step. -/
import Derived.Test.YtkeoeempdkpafaaEmM
import Derived.Deep.WholeRow
namespace Go.Proofs.Ytkeoeempdkpafaa
open Go.RowKit Go.PlainAid
set_option linter.unusedVariables false

/-- The block of a pointer, the cells of a struct, the cells of a block; a block of nineteen cells of one type; cells that may be stored. -/
def blkO : Value → Nat
  | .pointer (some ⟨g, _, _⟩) => g
  | _ => 0
def aggO : Value → Array Value
  | .agg c => c
  | _ => #[]
def rowC (w : World) (g : Nat) : Array Value := match w.heap[g]? with | some (.cells c _ _) => c | _ => #[]
def rowP (t : TypeId) (w : World) (g : Nat) : Prop := ∃ c, w.heap[g]? = some (.cells c t (0, 0)) ∧ c.size = 19
def okA (c : Array Value) : Prop := c.size = 19 ∧ c.all (·.oneCell') = true
theorem blkO_eq (g o : Nat) (k : Option Nat) : blkO (.pointer (some ⟨g, o, k⟩)) = g := rfl
theorem aggO_eq (c : Array Value) : aggO (.agg c) = c := rfl
theorem okA_mk (x : Em) (a a' : Option Addr) (n c n' c' : Nat) : okA #[.int .i64 x.kind, .int .i64 x.frm, .int .i64 x.dst, .int .i64 x.i.rep, .int .i64 x.i.slot, .int .i64 x.i.bal, .int .i64 x.i.cmd.kind, .int .i64 x.i.cmd.client, .int .i64 x.i.cmd.no, .string x.i.cmd.set, .string x.i.cmd.name, .string x.i.cmd.tag, .int .i64 x.i.cmd.n, .slice a n c, .int .i64 x.i.seq, .slice a' n' c', .int .i64 x.i.st, .int .i64 x.i.vbal, .bool x.i.same] := ⟨rfl, by simp [Value.oneCell']⟩
theorem Bx.row {w : World} {g : Nat} {t : TypeId} {c : Array Value} (h : Bx w g t c) (hz : c.size = 19) : rowP t w g ∧ rowC w g = c :=
  ⟨⟨c, h, hz⟩, by unfold rowC; rw [show w.heap[g]? = some (.cells c t (0, 0)) from h]⟩
theorem Try.sizeEMsg : (Try.prog.info? 36).map (·.size) = some 19 := by kernel_rfl
theorem Try.sizeEMsgL : (Try.prog.info? 29).map (·.size) = some 19 := by kernel_rfl
/-- A message is loaded whole. -/
theorem load_emsg_pre (d : Option Tmp) (p : Operand) (ty : TypeId) (pos : String) (af : Array Edge) (gd : Option (Tmp × Bool)) (a : Act) (w : World) (K : Act → World → Prop) (Q : Exit → Act → World → Prop)
    (hx : a.eval p = .pointer (some ⟨blkO (a.eval p), 0, none⟩)) (hr : rowP 36 w (blkO (a.eval p))) :
    Oper.wp Try.prog ⟨d, .load 36 p, ty, pos, af, gd⟩ a w K Q = K (a.put d (.agg (rowC w (blkO (a.eval p))))) w := by
  obtain ⟨c, ho, hz⟩ := hr
  generalize hvx : a.eval p = vx at hx ho ⊢
  generalize blkO vx = g at hx ho ⊢
  subst hx
  have hc : rowC w g = c := by unfold rowC; rw [ho]
  rw [hc]
  unfold Oper.wp execOp
  simp only [hvx, Instr.loadAt, Instr.sureAddr, Sem.run_bind, Sem.run_pure, Result.andThen_ok, run_loadVar_row w g 36 36 c (0, 0) _ ho Try.underlying36 rfl (by rw [Try.sizeEMsg, hz])]
  rfl
theorem load_lmsg_pre (d : Option Tmp) (p : Operand) (ty : TypeId) (pos : String) (af : Array Edge) (gd : Option (Tmp × Bool)) (a : Act) (w : World) (K : Act → World → Prop) (Q : Exit → Act → World → Prop)
    (hx : a.eval p = .pointer (some ⟨blkO (a.eval p), 0, none⟩)) (hr : rowP 29 w (blkO (a.eval p))) :
    Oper.wp Try.prog ⟨d, .load 29 p, ty, pos, af, gd⟩ a w K Q = K (a.put d (.agg (rowC w (blkO (a.eval p))))) w := by
  obtain ⟨c, ho, hz⟩ := hr
  generalize hvx : a.eval p = vx at hx ho ⊢
  generalize blkO vx = g at hx ho ⊢
  subst hx
  have hc : rowC w g = c := by unfold rowC; rw [ho]
  rw [hc]
  unfold Oper.wp execOp
  simp only [hvx, Instr.loadAt, Instr.sureAddr, Sem.run_bind, Sem.run_pure, Result.andThen_ok, run_loadVar_row w g 29 29 c (0, 0) _ ho Try.underlying29 rfl (by rw [Try.sizeEMsgL, hz])]
  rfl
/-- A message is stored whole. -/
theorem store_emsg_pre (p y : Operand) (ty : TypeId) (pos : String) (af : Array Edge) (gd : Option (Tmp × Bool)) (a : Act) (w : World) (K : Act → World → Prop) (Q : Exit → Act → World → Prop)
    (hx : a.eval p = .pointer (some ⟨blkO (a.eval p), 0, none⟩)) (hy : a.eval y = .agg (aggO (a.eval y))) (hs : okA (aggO (a.eval y))) (hr : rowP 36 w (blkO (a.eval p))) :
    Oper.wp Try.prog ⟨none, .store 36 p y, ty, pos, af, gd⟩ a w K Q = K a (w.setRow (blkO (a.eval p)) (aggO (a.eval y))) := by
  obtain ⟨old, ho, hz⟩ := hr
  obtain ⟨hs, h1⟩ := hs
  generalize hvx : a.eval p = vx at hx ho ⊢
  generalize hvy : a.eval y = vy at hy hs h1 ⊢
  generalize blkO vx = g at hx ho ⊢
  generalize aggO vy = c at hy hs h1 ⊢
  subst hx hy
  unfold Oper.wp execOp
  simp only [hvx, hvy, Instr.storeAt, Instr.sureAddr, Sem.run_bind, Sem.run_pure, Result.andThen_ok, run_storeVar_row w g 36 36 old c ho (by rw [Try.sizeEMsg, hs]) (by rw [hz, hs]) h1]
  rfl
/-- The same, as an operation of a region that draws. -/
theorem exec_load_emsg {d : Option Tmp} {p : Operand} {ty : TypeId} {pos : String} {af : Array Edge} {gd : Option (Tmp × Bool)} {a : Act} {w : World} {g : Nat} {c : Array Value} (hx : a.eval p = .pointer (some ⟨g, 0, none⟩)) (h : Bx w g 36 c) (hz : c.size = 19) :
    (execOp a.eval ⟨d, .load 36 p, ty, pos, af, gd⟩).run Try.prog w = .ok (.value (.agg c)) w := by
  unfold execOp
  simp only [hx, Instr.loadAt, Instr.sureAddr, Sem.run_bind, Sem.run_pure, Result.andThen_ok, run_loadVar_row w g 36 36 c (0, 0) _ h Try.underlying36 rfl (by rw [Try.sizeEMsg, hz])]
theorem exec_load_lmsg {d : Option Tmp} {p : Operand} {ty : TypeId} {pos : String} {af : Array Edge} {gd : Option (Tmp × Bool)} {a : Act} {w : World} {g : Nat} {c : Array Value} (hx : a.eval p = .pointer (some ⟨g, 0, none⟩)) (h : Bx w g 29 c) (hz : c.size = 19) :
    (execOp a.eval ⟨d, .load 29 p, ty, pos, af, gd⟩).run Try.prog w = .ok (.value (.agg c)) w := by
  unfold execOp
  simp only [hx, Instr.loadAt, Instr.sureAddr, Sem.run_bind, Sem.run_pure, Result.andThen_ok, run_loadVar_row w g 29 29 c (0, 0) _ h Try.underlying29 rfl (by rw [Try.sizeEMsgL, hz])]
theorem rowP_new (w : World) : rowP 36 (w.alloc (.cells #[.int .i64 0, .int .i64 0, .int .i64 0, .int .i64 0, .int .i64 0, .int .i64 0, .int .i64 0, .int .i64 0, .int .i64 0, .string ⟨#[]⟩, .string ⟨#[]⟩, .string ⟨#[]⟩, .int .i64 0, .slice none 0 0, .int .i64 0, .slice none 0 0, .int .i64 0, .int .i64 0, .bool false] 36)) w.heap.size := ⟨_, heap_alloc_last w _, rfl⟩
theorem grown_setRow (w : World) (g : Nat) (c : Array Value) : w.grownBy (w.setRow g c) (some g) :=
  ⟨rfl, rfl, rfl, by simp, fun k _ hne => setRow_other w g k c (by intro e; subst e; exact hne rfl)⟩
end Go.Proofs.Ytkeoeempdkpafaa
