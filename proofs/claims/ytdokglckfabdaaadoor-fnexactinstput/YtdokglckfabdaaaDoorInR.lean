/- A whole instance is loaded and stored in one step. -/
import Derived.Test.YtdokglckfabdaaaDoorInTo
import Derived.Deep.WholeRow
namespace Go.Proofs.YtdokglckfabdaaaDoor
open Go.RowKit Go.PlainAid
set_option linter.unusedVariables false

/-- The block of a pointer, the cells of a struct, the cells of a block; a block of sixteen cells of one type; cells that may be stored. -/
def blkI : Value → Nat
  | .pointer (some ⟨g, _, _⟩) => g
  | _ => 0
def aggI : Value → Array Value
  | .agg c => c
  | _ => #[]
def rowCI (w : World) (g : Nat) : Array Value := match w.heap[g]? with | some (.cells c _ _) => c | _ => #[]
def rowPI (t : TypeId) (w : World) (g : Nat) : Prop := ∃ c, w.heap[g]? = some (.cells c t (0, 0)) ∧ c.size = 16
def okAI (c : Array Value) : Prop := c.size = 16 ∧ c.all (·.oneCell') = true
theorem blkI_eq (g o : Nat) (k : Option Nat) : blkI (.pointer (some ⟨g, o, k⟩)) = g := rfl
theorem aggI_eq (c : Array Value) : aggI (.agg c) = c := rfl
theorem okAI_mk (x : In) (a a' : Option Addr) (n c n' c' : Nat) : okAI #[.int .i64 x.rep, .int .i64 x.slot, .int .i64 x.bal, .int .i64 x.vbal, .int .i64 x.st, .int .i64 x.cmd.kind, .int .i64 x.cmd.client, .int .i64 x.cmd.no, .string x.cmd.set, .string x.cmd.name, .string x.cmd.tag, .int .i64 x.cmd.n, .slice a n c, .int .i64 x.seq, .slice a' n' c', .bool x.same] := ⟨rfl, by simp [Value.oneCell']⟩
theorem Bx.rowI {w : World} {g : Nat} {t : TypeId} {c : Array Value} (h : Bx w g t c) (hz : c.size = 16) : rowPI t w g ∧ rowCI w g = c :=
  ⟨⟨c, h, hz⟩, by unfold rowCI; rw [show w.heap[g]? = some (.cells c t (0, 0)) from h]⟩
theorem Tryd.sizeInsR : (Tryd.prog.info? 40).map (·.size) = some 16 := by kernel_rfl
/-- A instance is loaded whole. -/
theorem load_inst_pre (d : Option Tmp) (p : Operand) (ty : TypeId) (pos : String) (af : Array Edge) (gd : Option (Tmp × Bool)) (a : Act) (w : World) (K : Act → World → Prop) (Q : Exit → Act → World → Prop)
    (hx : a.eval p = .pointer (some ⟨blkI (a.eval p), 0, none⟩)) (hr : rowPI 40 w (blkI (a.eval p))) :
    Oper.wp Tryd.prog ⟨d, .load 40 p, ty, pos, af, gd⟩ a w K Q = K (a.put d (.agg (rowCI w (blkI (a.eval p))))) w := by
  obtain ⟨c, ho, hz⟩ := hr
  generalize hvx : a.eval p = vx at hx ho ⊢
  generalize blkI vx = g at hx ho ⊢
  subst hx
  have hc : rowCI w g = c := by unfold rowCI; rw [ho]
  rw [hc]
  unfold Oper.wp execOp
  simp only [hvx, Instr.loadAt, Instr.sureAddr, Sem.run_bind, Sem.run_pure, Result.andThen_ok, run_loadVar_row w g 40 40 c (0, 0) _ ho Tryd.underlying40 rfl (by rw [Tryd.sizeInsR, hz])]
  rfl
/-- A instance is stored whole. -/
theorem store_inst_pre (p y : Operand) (ty : TypeId) (pos : String) (af : Array Edge) (gd : Option (Tmp × Bool)) (a : Act) (w : World) (K : Act → World → Prop) (Q : Exit → Act → World → Prop)
    (hx : a.eval p = .pointer (some ⟨blkI (a.eval p), 0, none⟩)) (hy : a.eval y = .agg (aggI (a.eval y))) (hs : okAI (aggI (a.eval y))) (hr : rowPI 40 w (blkI (a.eval p))) :
    Oper.wp Tryd.prog ⟨none, .store 40 p y, ty, pos, af, gd⟩ a w K Q = K a (w.setRow (blkI (a.eval p)) (aggI (a.eval y))) := by
  obtain ⟨old, ho, hz⟩ := hr
  obtain ⟨hs, h1⟩ := hs
  generalize hvx : a.eval p = vx at hx ho ⊢
  generalize hvy : a.eval y = vy at hy hs h1 ⊢
  generalize blkI vx = g at hx ho ⊢
  generalize aggI vy = c at hy hs h1 ⊢
  subst hx hy
  unfold Oper.wp execOp
  simp only [hvx, hvy, Instr.storeAt, Instr.sureAddr, Sem.run_bind, Sem.run_pure, Result.andThen_ok, run_storeVar_row w g 40 40 old c ho (by rw [Tryd.sizeInsR, hs]) (by rw [hz, hs]) h1]
  rfl
/-- The same, as an operation of a region that draws. -/
theorem exec_load_inst {d : Option Tmp} {p : Operand} {ty : TypeId} {pos : String} {af : Array Edge} {gd : Option (Tmp × Bool)} {a : Act} {w : World} {g : Nat} {c : Array Value} (hx : a.eval p = .pointer (some ⟨g, 0, none⟩)) (h : Bx w g 40 c) (hz : c.size = 16) :
    (execOp a.eval ⟨d, .load 40 p, ty, pos, af, gd⟩).run Tryd.prog w = .ok (.value (.agg c)) w := by
  unfold execOp
  simp only [hx, Instr.loadAt, Instr.sureAddr, Sem.run_bind, Sem.run_pure, Result.andThen_ok, run_loadVar_row w g 40 40 c (0, 0) _ h Tryd.underlying40 rfl (by rw [Tryd.sizeInsR, hz])]
theorem rowPI_new (w : World) : rowPI 40 (w.alloc (.cells #[.int .i64 0, .int .i64 0, .int .i64 0, .int .i64 0, .int .i64 0, .int .i64 0, .int .i64 0, .int .i64 0, .string ⟨#[]⟩, .string ⟨#[]⟩, .string ⟨#[]⟩, .int .i64 0, .slice none 0 0, .int .i64 0, .slice none 0 0, .bool false] 40)) w.heap.size := ⟨_, heap_alloc_last w _, rfl⟩
theorem grown_setRowI (w : World) (g : Nat) (c : Array Value) : w.grownBy (w.setRow g c) (some g) :=
  ⟨rfl, rfl, rfl, by simp, fun k _ hne => setRow_other w g k c (by intro e; subst e; exact hne rfl)⟩
end Go.Proofs.YtdokglckfabdaaaDoor
