/- A bundle of texts: EmE, EmR, EmTo. -/
import Derived.Test.YtdokglckfabdaaaGreatDoorEmM
import Derived.Test.YtdokglckfabdaaaGreatDoorInE
import Derived.Deep.WholeRow
/- The law's comparison of messages. -/
namespace Go.Proofs.YtdokglckfabdaaaGreatDoor
open Go.RowKit Go.PlainAid
set_option linter.unusedVariables false

set_option maxRecDepth 100000 in
set_option maxHeartbeats 2000000 in
theorem eq_emsg_yes (x : Em) (u d u' d' : Value) (w : World) (h : Pts w x.i u d) (h' : Pts w x.i u' d') :
    Calls Tryz.prog 38 #[.agg #[.int .i64 x.kind, .int .i64 x.frm, .int .i64 x.dst, .int .i64 x.i.rep, .int .i64 x.i.slot, .int .i64 x.i.bal, .int .i64 x.i.cmd.kind, .int .i64 x.i.cmd.client, .int .i64 x.i.cmd.no, .string x.i.cmd.set, .string x.i.cmd.name, .string x.i.cmd.tag, .int .i64 x.i.cmd.n, u, .int .i64 x.i.seq, d, .int .i64 x.i.st, .int .i64 x.i.vbal, .bool x.i.same], .agg #[.int .i64 x.kind, .int .i64 x.frm, .int .i64 x.dst, .int .i64 x.i.rep, .int .i64 x.i.slot, .int .i64 x.i.bal, .int .i64 x.i.cmd.kind, .int .i64 x.i.cmd.client, .int .i64 x.i.cmd.no, .string x.i.cmd.set, .string x.i.cmd.name, .string x.i.cmd.tag, .int .i64 x.i.cmd.n, u', .int .i64 x.i.seq, d', .int .i64 x.i.st, .int .i64 x.i.vbal, .bool x.i.same]] w fun e w' => e = .returned (.bool true) ∧ Below w.heap.size w w' := by
  obtain ⟨⟨a1, n1, c1, rfl⟩, a2, n2, c2, rfl⟩ := h.form
  obtain ⟨⟨a3, n3, c3, rfl⟩, a4, n4, c4, rfl⟩ := h'.form
  have X := Lib.hid ((Bx.new w 50 #[.int .i64 x.kind, .int .i64 x.frm, .int .i64 x.dst, .int .i64 x.i.rep, .int .i64 x.i.slot, .int .i64 x.i.bal, .int .i64 x.i.cmd.kind, .int .i64 x.i.cmd.client, .int .i64 x.i.cmd.no, .string x.i.cmd.set, .string x.i.cmd.name, .string x.i.cmd.tag, .int .i64 x.i.cmd.n, .slice a1 n1 c1, .int .i64 x.i.seq, .slice a2 n2 c2, .int .i64 x.i.st, .int .i64 x.i.vbal, .bool x.i.same] _ rfl).alloc (.cells #[.int .i64 x.kind, .int .i64 x.frm, .int .i64 x.dst, .int .i64 x.i.rep, .int .i64 x.i.slot, .int .i64 x.i.bal, .int .i64 x.i.cmd.kind, .int .i64 x.i.cmd.client, .int .i64 x.i.cmd.no, .string x.i.cmd.set, .string x.i.cmd.name, .string x.i.cmd.tag, .int .i64 x.i.cmd.n, .slice a3 n3 c3, .int .i64 x.i.seq, .slice a4 n4 c4, .int .i64 x.i.st, .int .i64 x.i.vbal, .bool x.i.same] 50))
  have Y := Lib.hid (Bx.new (w.alloc (.cells #[.int .i64 x.kind, .int .i64 x.frm, .int .i64 x.dst, .int .i64 x.i.rep, .int .i64 x.i.slot, .int .i64 x.i.bal, .int .i64 x.i.cmd.kind, .int .i64 x.i.cmd.client, .int .i64 x.i.cmd.no, .string x.i.cmd.set, .string x.i.cmd.name, .string x.i.cmd.tag, .int .i64 x.i.cmd.n, .slice a1 n1 c1, .int .i64 x.i.seq, .slice a2 n2 c2, .int .i64 x.i.st, .int .i64 x.i.vbal, .bool x.i.same] 50)) 50 #[.int .i64 x.kind, .int .i64 x.frm, .int .i64 x.dst, .int .i64 x.i.rep, .int .i64 x.i.slot, .int .i64 x.i.bal, .int .i64 x.i.cmd.kind, .int .i64 x.i.cmd.client, .int .i64 x.i.cmd.no, .string x.i.cmd.set, .string x.i.cmd.name, .string x.i.cmd.tag, .int .i64 x.i.cmd.n, .slice a3 n3 c3, .int .i64 x.i.seq, .slice a4 n4 c4, .int .i64 x.i.st, .int .i64 x.i.vbal, .bool x.i.same] (w.heap.size + 1) (by simp))
  have P := Lib.hid ((h.alloc (.cells #[.int .i64 x.kind, .int .i64 x.frm, .int .i64 x.dst, .int .i64 x.i.rep, .int .i64 x.i.slot, .int .i64 x.i.bal, .int .i64 x.i.cmd.kind, .int .i64 x.i.cmd.client, .int .i64 x.i.cmd.no, .string x.i.cmd.set, .string x.i.cmd.name, .string x.i.cmd.tag, .int .i64 x.i.cmd.n, .slice a1 n1 c1, .int .i64 x.i.seq, .slice a2 n2 c2, .int .i64 x.i.st, .int .i64 x.i.vbal, .bool x.i.same] 50)).alloc (.cells #[.int .i64 x.kind, .int .i64 x.frm, .int .i64 x.dst, .int .i64 x.i.rep, .int .i64 x.i.slot, .int .i64 x.i.bal, .int .i64 x.i.cmd.kind, .int .i64 x.i.cmd.client, .int .i64 x.i.cmd.no, .string x.i.cmd.set, .string x.i.cmd.name, .string x.i.cmd.tag, .int .i64 x.i.cmd.n, .slice a3 n3 c3, .int .i64 x.i.seq, .slice a4 n4 c4, .int .i64 x.i.st, .int .i64 x.i.vbal, .bool x.i.same] 50))
  have Q := Lib.hid ((h'.alloc (.cells #[.int .i64 x.kind, .int .i64 x.frm, .int .i64 x.dst, .int .i64 x.i.rep, .int .i64 x.i.slot, .int .i64 x.i.bal, .int .i64 x.i.cmd.kind, .int .i64 x.i.cmd.client, .int .i64 x.i.cmd.no, .string x.i.cmd.set, .string x.i.cmd.name, .string x.i.cmd.tag, .int .i64 x.i.cmd.n, .slice a1 n1 c1, .int .i64 x.i.seq, .slice a2 n2 c2, .int .i64 x.i.st, .int .i64 x.i.vbal, .bool x.i.same] 50)).alloc (.cells #[.int .i64 x.kind, .int .i64 x.frm, .int .i64 x.dst, .int .i64 x.i.rep, .int .i64 x.i.slot, .int .i64 x.i.bal, .int .i64 x.i.cmd.kind, .int .i64 x.i.cmd.client, .int .i64 x.i.cmd.no, .string x.i.cmd.set, .string x.i.cmd.name, .string x.i.cmd.tag, .int .i64 x.i.cmd.n, .slice a3 n3 c3, .int .i64 x.i.seq, .slice a4 n4 c4, .int .i64 x.i.st, .int .i64 x.i.vbal, .bool x.i.same] 50))
  have A := Lib.hid (((Af.refl w).alloc (.cells #[.int .i64 x.kind, .int .i64 x.frm, .int .i64 x.dst, .int .i64 x.i.rep, .int .i64 x.i.slot, .int .i64 x.i.bal, .int .i64 x.i.cmd.kind, .int .i64 x.i.cmd.client, .int .i64 x.i.cmd.no, .string x.i.cmd.set, .string x.i.cmd.name, .string x.i.cmd.tag, .int .i64 x.i.cmd.n, .slice a1 n1 c1, .int .i64 x.i.seq, .slice a2 n2 c2, .int .i64 x.i.st, .int .i64 x.i.vbal, .bool x.i.same] 50)).alloc (.cells #[.int .i64 x.kind, .int .i64 x.frm, .int .i64 x.dst, .int .i64 x.i.rep, .int .i64 x.i.slot, .int .i64 x.i.bal, .int .i64 x.i.cmd.kind, .int .i64 x.i.cmd.client, .int .i64 x.i.cmd.no, .string x.i.cmd.set, .string x.i.cmd.name, .string x.i.cmd.tag, .int .i64 x.i.cmd.n, .slice a3 n3 c3, .int .i64 x.i.seq, .slice a4 n4 c4, .int .i64 x.i.st, .int .i64 x.i.vbal, .bool x.i.same] 50))
  clear h h'
  go_enter Tryz.func38, Tryz.ntmps38
  go_wp2_with fail
  refine (eq_id_yes x.i.rep x.i.slot _).mono ?_
  rintro e w1 ⟨rfl, b1⟩
  have X1 := Lib.hid (X.out.after b1)
  have Y1 := Lib.hid (Y.out.after b1)
  have P1 := Lib.hid (P.out.later b1)
  have Q1 := Lib.hid (Q.out.later b1)
  have A1 := Lib.hid (A.out.after b1)
  clear b1 X Y P Q A
  obtain ⟨x0, x1, x2, x3, x4, x5, x6, x7, x8, x9, x10, x11, x12, x13, x14, x15, x16, x17, x18⟩ := X1.out.c19
  obtain ⟨y0, y1, y2, y3, y4, y5, y6, y7, y8, y9, y10, y11, y12, y13, y14, y15, y16, y17, y18⟩ := Y1.out.c19
  go_wp2_with fail
  clear x0 x1 x2 x3 x4 x5 x6 x7 x8 x9 x10 x11 x12 x13 x14 x15 x16 x17 x18 y0 y1 y2 y3 y4 y5 y6 y7 y8 y9 y10 y11 y12 y13 y14 y15 y16 y17 y18
  refine (eq_cmd x.i.cmd x.i.cmd _ _ _ P1.out.1 Q1.out.1).mono ?_
  rintro e w2 ⟨rfl, b2⟩
  rw [decide_eq_true rfl]
  have X2 := Lib.hid (X1.out.after b2)
  have Y2 := Lib.hid (Y1.out.after b2)
  have P2 := Lib.hid (P1.out.later b2)
  have Q2 := Lib.hid (Q1.out.later b2)
  have A2 := Lib.hid (A1.out.after b2)
  clear b2 X1 Y1 P1 Q1 A1
  obtain ⟨x0, x1, x2, x3, x4, x5, x6, x7, x8, x9, x10, x11, x12, x13, x14, x15, x16, x17, x18⟩ := X2.out.c19
  obtain ⟨y0, y1, y2, y3, y4, y5, y6, y7, y8, y9, y10, y11, y12, y13, y14, y15, y16, y17, y18⟩ := Y2.out.c19
  go_wp2_with fail
  clear x0 x1 x2 x3 x4 x5 x6 x7 x8 x9 x10 x11 x12 x13 x14 x15 x16 x17 x18 y0 y1 y2 y3 y4 y5 y6 y7 y8 y9 y10 y11 y12 y13 y14 y15 y16 y17 y18
  refine (eq_idL_same _ _ x.i.deps _ P2.out.2.1 Q2.out.2.1).mono ?_
  rintro e w3 ⟨rfl, b3⟩
  have X3 := Lib.hid (X2.out.after b3)
  have Y3 := Lib.hid (Y2.out.after b3)
  have A3 := Lib.hid (A2.out.after b3)
  clear b3 X2 Y2 P2 Q2 A2
  obtain ⟨x0, x1, x2, x3, x4, x5, x6, x7, x8, x9, x10, x11, x12, x13, x14, x15, x16, x17, x18⟩ := X3.out.c19
  obtain ⟨y0, y1, y2, y3, y4, y5, y6, y7, y8, y9, y10, y11, y12, y13, y14, y15, y16, y17, y18⟩ := Y3.out.c19
  go_wp2
  go_ret
  exact ⟨rfl, A3.out⟩
end Go.Proofs.YtdokglckfabdaaaGreatDoor
/- A whole message is loaded and stored in one step. -/
namespace Go.Proofs.YtdokglckfabdaaaGreatDoor
open Go.RowKit Go.PlainAid
set_option linter.unusedVariables false

/-- The block of a pointer, the cells of a struct, the cells of a block; a block of nineteen cells of one type; cells that may be stored. -/
def blkO : Value → Nat
  | .pointer (some ⟨g, _, _⟩) => g
  | _ => 0
def aggO : Value → Array Value
  | .agg c => c
  | _ => #[]
def rowC (w : World) (g : Nat) : Array Value := match w.heap[g]? with | some (.cells c _ _) => c | _ => #[]
def rowP (t : TypeId) (w : World) (g : Nat) : Prop := ∃ c, w.heap[g]? = some (.cells c t (0, 0)) ∧ c.size = 19
def okA (c : Array Value) : Prop := c.size = 19 ∧ c.all (·.oneCell') = true
theorem blkO_eq (g o : Nat) (k : Option Nat) : blkO (.pointer (some ⟨g, o, k⟩)) = g := rfl
theorem aggO_eq (c : Array Value) : aggO (.agg c) = c := rfl
theorem okA_mk (x : Em) (a a' : Option Addr) (n c n' c' : Nat) : okA #[.int .i64 x.kind, .int .i64 x.frm, .int .i64 x.dst, .int .i64 x.i.rep, .int .i64 x.i.slot, .int .i64 x.i.bal, .int .i64 x.i.cmd.kind, .int .i64 x.i.cmd.client, .int .i64 x.i.cmd.no, .string x.i.cmd.set, .string x.i.cmd.name, .string x.i.cmd.tag, .int .i64 x.i.cmd.n, .slice a n c, .int .i64 x.i.seq, .slice a' n' c', .int .i64 x.i.st, .int .i64 x.i.vbal, .bool x.i.same] := ⟨rfl, by simp [Value.oneCell']⟩
theorem Bx.row {w : World} {g : Nat} {t : TypeId} {c : Array Value} (h : Bx w g t c) (hz : c.size = 19) : rowP t w g ∧ rowC w g = c :=
  ⟨⟨c, h, hz⟩, by unfold rowC; rw [show w.heap[g]? = some (.cells c t (0, 0)) from h]⟩
theorem Tryz.sizeEMsg : (Tryz.prog.info? 50).map (·.size) = some 19 := by kernel_rfl
theorem Tryz.sizeEMsgL : (Tryz.prog.info? 68).map (·.size) = some 19 := by kernel_rfl
/-- A message is loaded whole. -/
theorem load_emsg_pre (d : Option Tmp) (p : Operand) (ty : TypeId) (pos : String) (af : Array Edge) (gd : Option (Tmp × Bool)) (a : Act) (w : World) (K : Act → World → Prop) (Q : Exit → Act → World → Prop)
    (hx : a.eval p = .pointer (some ⟨blkO (a.eval p), 0, none⟩)) (hr : rowP 50 w (blkO (a.eval p))) :
    Oper.wp Tryz.prog ⟨d, .load 50 p, ty, pos, af, gd⟩ a w K Q = K (a.put d (.agg (rowC w (blkO (a.eval p))))) w := by
  obtain ⟨c, ho, hz⟩ := hr
  generalize hvx : a.eval p = vx at hx ho ⊢
  generalize blkO vx = g at hx ho ⊢
  subst hx
  have hc : rowC w g = c := by unfold rowC; rw [ho]
  rw [hc]
  unfold Oper.wp execOp
  simp only [hvx, Instr.loadAt, Instr.sureAddr, Sem.run_bind, Sem.run_pure, Result.andThen_ok, run_loadVar_row w g 50 50 c (0, 0) _ ho Tryz.underlying50 rfl (by rw [Tryz.sizeEMsg, hz])]
  rfl
theorem load_lmsg_pre (d : Option Tmp) (p : Operand) (ty : TypeId) (pos : String) (af : Array Edge) (gd : Option (Tmp × Bool)) (a : Act) (w : World) (K : Act → World → Prop) (Q : Exit → Act → World → Prop)
    (hx : a.eval p = .pointer (some ⟨blkO (a.eval p), 0, none⟩)) (hr : rowP 68 w (blkO (a.eval p))) :
    Oper.wp Tryz.prog ⟨d, .load 68 p, ty, pos, af, gd⟩ a w K Q = K (a.put d (.agg (rowC w (blkO (a.eval p))))) w := by
  obtain ⟨c, ho, hz⟩ := hr
  generalize hvx : a.eval p = vx at hx ho ⊢
  generalize blkO vx = g at hx ho ⊢
  subst hx
  have hc : rowC w g = c := by unfold rowC; rw [ho]
  rw [hc]
  unfold Oper.wp execOp
  simp only [hvx, Instr.loadAt, Instr.sureAddr, Sem.run_bind, Sem.run_pure, Result.andThen_ok, run_loadVar_row w g 68 68 c (0, 0) _ ho Tryz.underlying68 rfl (by rw [Tryz.sizeEMsgL, hz])]
  rfl
/-- A message is stored whole. -/
theorem store_emsg_pre (p y : Operand) (ty : TypeId) (pos : String) (af : Array Edge) (gd : Option (Tmp × Bool)) (a : Act) (w : World) (K : Act → World → Prop) (Q : Exit → Act → World → Prop)
    (hx : a.eval p = .pointer (some ⟨blkO (a.eval p), 0, none⟩)) (hy : a.eval y = .agg (aggO (a.eval y))) (hs : okA (aggO (a.eval y))) (hr : rowP 50 w (blkO (a.eval p))) :
    Oper.wp Tryz.prog ⟨none, .store 50 p y, ty, pos, af, gd⟩ a w K Q = K a (w.setRow (blkO (a.eval p)) (aggO (a.eval y))) := by
  obtain ⟨old, ho, hz⟩ := hr
  obtain ⟨hs, h1⟩ := hs
  generalize hvx : a.eval p = vx at hx ho ⊢
  generalize hvy : a.eval y = vy at hy hs h1 ⊢
  generalize blkO vx = g at hx ho ⊢
  generalize aggO vy = c at hy hs h1 ⊢
  subst hx hy
  unfold Oper.wp execOp
  simp only [hvx, hvy, Instr.storeAt, Instr.sureAddr, Sem.run_bind, Sem.run_pure, Result.andThen_ok, run_storeVar_row w g 50 50 old c ho (by rw [Tryz.sizeEMsg, hs]) (by rw [hz, hs]) h1]
  rfl
/-- The same, as an operation of a region that draws. -/
theorem exec_load_emsg {d : Option Tmp} {p : Operand} {ty : TypeId} {pos : String} {af : Array Edge} {gd : Option (Tmp × Bool)} {a : Act} {w : World} {g : Nat} {c : Array Value} (hx : a.eval p = .pointer (some ⟨g, 0, none⟩)) (h : Bx w g 50 c) (hz : c.size = 19) :
    (execOp a.eval ⟨d, .load 50 p, ty, pos, af, gd⟩).run Tryz.prog w = .ok (.value (.agg c)) w := by
  unfold execOp
  simp only [hx, Instr.loadAt, Instr.sureAddr, Sem.run_bind, Sem.run_pure, Result.andThen_ok, run_loadVar_row w g 50 50 c (0, 0) _ h Tryz.underlying50 rfl (by rw [Tryz.sizeEMsg, hz])]
theorem exec_load_lmsg {d : Option Tmp} {p : Operand} {ty : TypeId} {pos : String} {af : Array Edge} {gd : Option (Tmp × Bool)} {a : Act} {w : World} {g : Nat} {c : Array Value} (hx : a.eval p = .pointer (some ⟨g, 0, none⟩)) (h : Bx w g 68 c) (hz : c.size = 19) :
    (execOp a.eval ⟨d, .load 68 p, ty, pos, af, gd⟩).run Tryz.prog w = .ok (.value (.agg c)) w := by
  unfold execOp
  simp only [hx, Instr.loadAt, Instr.sureAddr, Sem.run_bind, Sem.run_pure, Result.andThen_ok, run_loadVar_row w g 68 68 c (0, 0) _ h Tryz.underlying68 rfl (by rw [Tryz.sizeEMsgL, hz])]
theorem rowP_new (w : World) : rowP 50 (w.alloc (.cells #[.int .i64 0, .int .i64 0, .int .i64 0, .int .i64 0, .int .i64 0, .int .i64 0, .int .i64 0, .int .i64 0, .int .i64 0, .string ⟨#[]⟩, .string ⟨#[]⟩, .string ⟨#[]⟩, .int .i64 0, .slice none 0 0, .int .i64 0, .slice none 0 0, .int .i64 0, .int .i64 0, .bool false] 50)) w.heap.size := ⟨_, heap_alloc_last w _, rfl⟩
theorem grown_setRow (w : World) (g : Nat) (c : Array Value) : w.grownBy (w.setRow g c) (some g) :=
  ⟨rfl, rfl, rfl, by simp, fun k _ hne => setRow_other w g k c (by intro e; subst e; exact hne rfl)⟩
end Go.Proofs.YtdokglckfabdaaaGreatDoor
/- The law's measure and its copy of messages. -/
namespace Go.Proofs.YtdokglckfabdaaaGreatDoor
open Go.RowKit Go.PlainAid
set_option linter.unusedVariables false

set_option maxRecDepth 100000 in
set_option maxHeartbeats 2000000 in
theorem sz_emsg (x : Em) (u d : Value) (left : Int) (w : World) (h : Pts w x.i u d) (h0 : 0 ≤ left) (h1 : left ≤ 1048576) :
    Calls Tryz.prog 21 #[.agg #[.int .i64 x.kind, .int .i64 x.frm, .int .i64 x.dst, .int .i64 x.i.rep, .int .i64 x.i.slot, .int .i64 x.i.bal, .int .i64 x.i.cmd.kind, .int .i64 x.i.cmd.client, .int .i64 x.i.cmd.no, .string x.i.cmd.set, .string x.i.cmd.name, .string x.i.cmd.tag, .int .i64 x.i.cmd.n, u, .int .i64 x.i.seq, d, .int .i64 x.i.st, .int .i64 x.i.vbal, .bool x.i.same], .int .i64 left] w fun e w' => SzIn x.i left e ∧ Below w.heap.size w w' := by
  obtain ⟨⟨a1, n1, c1, rfl⟩, a2, n2, c2, rfl⟩ := h.form
  have X := Lib.hid (Bx.new w 68 #[.int .i64 x.kind, .int .i64 x.frm, .int .i64 x.dst, .int .i64 x.i.rep, .int .i64 x.i.slot, .int .i64 x.i.bal, .int .i64 x.i.cmd.kind, .int .i64 x.i.cmd.client, .int .i64 x.i.cmd.no, .string x.i.cmd.set, .string x.i.cmd.name, .string x.i.cmd.tag, .int .i64 x.i.cmd.n, .slice a1 n1 c1, .int .i64 x.i.seq, .slice a2 n2 c2, .int .i64 x.i.st, .int .i64 x.i.vbal, .bool x.i.same] _ rfl)
  have P := Lib.hid (h.alloc (.cells #[.int .i64 x.kind, .int .i64 x.frm, .int .i64 x.dst, .int .i64 x.i.rep, .int .i64 x.i.slot, .int .i64 x.i.bal, .int .i64 x.i.cmd.kind, .int .i64 x.i.cmd.client, .int .i64 x.i.cmd.no, .string x.i.cmd.set, .string x.i.cmd.name, .string x.i.cmd.tag, .int .i64 x.i.cmd.n, .slice a1 n1 c1, .int .i64 x.i.seq, .slice a2 n2 c2, .int .i64 x.i.st, .int .i64 x.i.vbal, .bool x.i.same] 68))
  have A := Lib.hid ((Af.refl w).alloc (.cells #[.int .i64 x.kind, .int .i64 x.frm, .int .i64 x.dst, .int .i64 x.i.rep, .int .i64 x.i.slot, .int .i64 x.i.bal, .int .i64 x.i.cmd.kind, .int .i64 x.i.cmd.client, .int .i64 x.i.cmd.no, .string x.i.cmd.set, .string x.i.cmd.name, .string x.i.cmd.tag, .int .i64 x.i.cmd.n, .slice a1 n1 c1, .int .i64 x.i.seq, .slice a2 n2 c2, .int .i64 x.i.st, .int .i64 x.i.vbal, .bool x.i.same] 68))
  clear h
  go_enter Tryz.func21, Tryz.ntmps21
  go_wp2_with fail
  refine (sz_cmd x.i.cmd _ left _ P.out.1 h0 h1 P.out.2.2.1 P.out.2.2.2.1 P.out.2.2.2.2).mono ?_
  rintro e w1 ⟨(rfl | ⟨r, rfl, r0, r1, r2⟩), b1⟩
  · have A1 := Lib.hid (A.out.after b1)
    clear b1
    go_wp2
    go_ret
    exact ⟨.inl rfl, A1.out⟩
  have X1 := Lib.hid (X.out.after b1)
  have P1 := Lib.hid (P.out.later b1)
  have A1 := Lib.hid (A.out.after b1)
  have hd : decide (r < 0) = false := decide_eq_false (by omega)
  clear b1 X P A
  obtain ⟨x0, x1, x2, x3, x4, x5, x6, x7, x8, x9, x10, x11, x12, x13, x14, x15, x16, x17, x18⟩ := X1.out.c19
  go_wp2_with fail
  clear x0 x1 x2 x3 x4 x5 x6 x7 x8 x9 x10 x11 x12 x13 x14 x15 x16 x17 x18
  by_cases hf : (x.i.deps.length : Int) ≤ r
  · refine (sz_idL_yes _ x.i.deps r _ P1.out.2.1 hf (by omega)).mono ?_
    rintro e w2 ⟨rfl, b2⟩
    have A2 := Lib.hid (A1.out.after b2)
    obtain ⟨q, hq⟩ : ∃ q : Int, r - (x.i.deps.length : Int) = q := ⟨_, rfl⟩
    rw [hq]
    have hd2 : decide (q < 0) = false := decide_eq_false (by omega)
    have hq0 : 0 ≤ q := by omega
    have hq1 : q ≤ left := by omega
    have hq2 : (x.i.deps.length : Int) ≤ left := by omega
    clear b2 hq hd X1 P1 A1
    go_wp2
    go_ret
    exact ⟨.inr ⟨q, rfl, hq0, hq1, r2, hq2⟩, A2.out⟩
  · refine (sz_idL_no _ x.i.deps r _ P1.out.2.1 (by omega) r0 (by omega)).mono ?_
    rintro e w2 ⟨rfl, b2⟩
    have A2 := Lib.hid (A1.out.after b2)
    clear b2 hd X1 P1 A1
    go_wp2
    go_ret
    exact ⟨.inl rfl, A2.out⟩
attribute [local go_sem] blkO_eq aggO_eq okA_mk
attribute [local go_sem ↓] load_emsg_pre store_emsg_pre
set_option maxRecDepth 100000 in
set_option maxHeartbeats 8000000 in
theorem to_emsg (x : Em) (u d : Value) (w : World) (h : Pts w x.i u d) (h1 : x.i.cmd.ch.length ≤ 1048576) (h2 : x.i.deps.length ≤ 1048576) :
    Calls Tryz.prog 33 #[.agg #[.int .i64 x.kind, .int .i64 x.frm, .int .i64 x.dst, .int .i64 x.i.rep, .int .i64 x.i.slot, .int .i64 x.i.bal, .int .i64 x.i.cmd.kind, .int .i64 x.i.cmd.client, .int .i64 x.i.cmd.no, .string x.i.cmd.set, .string x.i.cmd.name, .string x.i.cmd.tag, .int .i64 x.i.cmd.n, u, .int .i64 x.i.seq, d, .int .i64 x.i.st, .int .i64 x.i.vbal, .bool x.i.same]] w fun e w' => (∃ a n c a' n' c', e = .returned (.agg #[.int .i64 x.kind, .int .i64 x.frm, .int .i64 x.dst, .int .i64 x.i.rep, .int .i64 x.i.slot, .int .i64 x.i.bal, .int .i64 x.i.cmd.kind, .int .i64 x.i.cmd.client, .int .i64 x.i.cmd.no, .string x.i.cmd.set, .string x.i.cmd.name, .string x.i.cmd.tag, .int .i64 x.i.cmd.n, .slice a n c, .int .i64 x.i.seq, .slice a' n' c', .int .i64 x.i.st, .int .i64 x.i.vbal, .bool x.i.same]) ∧ PtO w' w.heap.size w'.heap.size x.i (.slice a n c) (.slice a' n' c')) ∧ Below w.heap.size w w' := by
  obtain ⟨⟨a1, n1, c1, rfl⟩, a2, n2, c2, rfl⟩ := h.form
  have PH := Lib.hid h
  have X := Lib.hid (((Bx.new w 68 #[.int .i64 x.kind, .int .i64 x.frm, .int .i64 x.dst, .int .i64 x.i.rep, .int .i64 x.i.slot, .int .i64 x.i.bal, .int .i64 x.i.cmd.kind, .int .i64 x.i.cmd.client, .int .i64 x.i.cmd.no, .string x.i.cmd.set, .string x.i.cmd.name, .string x.i.cmd.tag, .int .i64 x.i.cmd.n, .slice a1 n1 c1, .int .i64 x.i.seq, .slice a2 n2 c2, .int .i64 x.i.st, .int .i64 x.i.vbal, .bool x.i.same] _ rfl).alloc (.cells #[.int .i64 0, .int .i64 0, .int .i64 0, .int .i64 0, .int .i64 0, .int .i64 0, .int .i64 0, .int .i64 0, .int .i64 0, .string ⟨#[]⟩, .string ⟨#[]⟩, .string ⟨#[]⟩, .int .i64 0, .slice none 0 0, .int .i64 0, .slice none 0 0, .int .i64 0, .int .i64 0, .bool false] 50)).alloc (.cells #[.int .i64 x.kind, .int .i64 x.frm, .int .i64 x.dst, .int .i64 0, .int .i64 0, .int .i64 0, .int .i64 0, .int .i64 0, .int .i64 0, .string ⟨#[]⟩, .string ⟨#[]⟩, .string ⟨#[]⟩, .int .i64 0, .slice none 0 0, .int .i64 0, .slice none 0 0, .int .i64 0, .int .i64 0, .bool false] 50))
  have Y := Lib.hid ((Bx.new (w.alloc (.cells #[.int .i64 x.kind, .int .i64 x.frm, .int .i64 x.dst, .int .i64 x.i.rep, .int .i64 x.i.slot, .int .i64 x.i.bal, .int .i64 x.i.cmd.kind, .int .i64 x.i.cmd.client, .int .i64 x.i.cmd.no, .string x.i.cmd.set, .string x.i.cmd.name, .string x.i.cmd.tag, .int .i64 x.i.cmd.n, .slice a1 n1 c1, .int .i64 x.i.seq, .slice a2 n2 c2, .int .i64 x.i.st, .int .i64 x.i.vbal, .bool x.i.same] 68)) 50 #[.int .i64 0, .int .i64 0, .int .i64 0, .int .i64 0, .int .i64 0, .int .i64 0, .int .i64 0, .int .i64 0, .int .i64 0, .string ⟨#[]⟩, .string ⟨#[]⟩, .string ⟨#[]⟩, .int .i64 0, .slice none 0 0, .int .i64 0, .slice none 0 0, .int .i64 0, .int .i64 0, .bool false] (w.heap.size + 1) (by simp)).alloc (.cells #[.int .i64 x.kind, .int .i64 x.frm, .int .i64 x.dst, .int .i64 0, .int .i64 0, .int .i64 0, .int .i64 0, .int .i64 0, .int .i64 0, .string ⟨#[]⟩, .string ⟨#[]⟩, .string ⟨#[]⟩, .int .i64 0, .slice none 0 0, .int .i64 0, .slice none 0 0, .int .i64 0, .int .i64 0, .bool false] 50))
  have V := Lib.hid (Bx.new ((w.alloc (.cells #[.int .i64 x.kind, .int .i64 x.frm, .int .i64 x.dst, .int .i64 x.i.rep, .int .i64 x.i.slot, .int .i64 x.i.bal, .int .i64 x.i.cmd.kind, .int .i64 x.i.cmd.client, .int .i64 x.i.cmd.no, .string x.i.cmd.set, .string x.i.cmd.name, .string x.i.cmd.tag, .int .i64 x.i.cmd.n, .slice a1 n1 c1, .int .i64 x.i.seq, .slice a2 n2 c2, .int .i64 x.i.st, .int .i64 x.i.vbal, .bool x.i.same] 68)).alloc (.cells #[.int .i64 0, .int .i64 0, .int .i64 0, .int .i64 0, .int .i64 0, .int .i64 0, .int .i64 0, .int .i64 0, .int .i64 0, .string ⟨#[]⟩, .string ⟨#[]⟩, .string ⟨#[]⟩, .int .i64 0, .slice none 0 0, .int .i64 0, .slice none 0 0, .int .i64 0, .int .i64 0, .bool false] 50)) 50 #[.int .i64 x.kind, .int .i64 x.frm, .int .i64 x.dst, .int .i64 0, .int .i64 0, .int .i64 0, .int .i64 0, .int .i64 0, .int .i64 0, .string ⟨#[]⟩, .string ⟨#[]⟩, .string ⟨#[]⟩, .int .i64 0, .slice none 0 0, .int .i64 0, .slice none 0 0, .int .i64 0, .int .i64 0, .bool false] (w.heap.size + 1 + 1) (by simp))
  have A := Lib.hid ((((Af.refl w).alloc (.cells #[.int .i64 x.kind, .int .i64 x.frm, .int .i64 x.dst, .int .i64 x.i.rep, .int .i64 x.i.slot, .int .i64 x.i.bal, .int .i64 x.i.cmd.kind, .int .i64 x.i.cmd.client, .int .i64 x.i.cmd.no, .string x.i.cmd.set, .string x.i.cmd.name, .string x.i.cmd.tag, .int .i64 x.i.cmd.n, .slice a1 n1 c1, .int .i64 x.i.seq, .slice a2 n2 c2, .int .i64 x.i.st, .int .i64 x.i.vbal, .bool x.i.same] 68)).alloc (.cells #[.int .i64 0, .int .i64 0, .int .i64 0, .int .i64 0, .int .i64 0, .int .i64 0, .int .i64 0, .int .i64 0, .int .i64 0, .string ⟨#[]⟩, .string ⟨#[]⟩, .string ⟨#[]⟩, .int .i64 0, .slice none 0 0, .int .i64 0, .slice none 0 0, .int .i64 0, .int .i64 0, .bool false] 50)).alloc (.cells #[.int .i64 x.kind, .int .i64 x.frm, .int .i64 x.dst, .int .i64 0, .int .i64 0, .int .i64 0, .int .i64 0, .int .i64 0, .int .i64 0, .string ⟨#[]⟩, .string ⟨#[]⟩, .string ⟨#[]⟩, .int .i64 0, .slice none 0 0, .int .i64 0, .slice none 0 0, .int .i64 0, .int .i64 0, .bool false] 50))
  clear h
  go_enter Tryz.func33, Tryz.ntmps33
  go_wp2_with fail
  refine (to_id x.i.rep x.i.slot _).mono ?_
  rintro e w1 ⟨rfl, b1⟩
  have X1 := Lib.hid (X.out.after b1)
  have Y1 := Lib.hid (Y.out.after b1)
  have V1 := Lib.hid (V.out.after b1)
  have A1 := Lib.hid (A.out.after b1)
  clear b1 X Y V A
  obtain ⟨x0, x1, x2, x3, x4, x5, x6, x7, x8, x9, x10, x11, x12, x13, x14, x15, x16, x17, x18⟩ := X1.out.c19
  obtain ⟨v0, v1, v2, v3, v4, v5, v6, v7, v8, v9, v10, v11, v12, v13, v14, v15, v16, v17, v18⟩ := cells19 V1.out
  obtain ⟨f0, f1, f2, f3, f4, f5, f6, f7, f8, f9, f10, f11, f12, f13, f14, f15, f16, f17, f18⟩ := froz19 V1.out
  have lv := V1.out.lt
  go_wp2_with fail
  clear x0 x1 x2 x3 x4 x5 x6 x7 x8 x9 x10 x11 x12 x13 x14 x15 x16 x17 x18 v0 v1 v2 v3 v4 v5 v6 v7 v8 v9 v10 v11 v12 v13 v14 v15 v16 v17 v18 f0 f1 f2 f3 f4 f5 f6 f7 f8 f9 f10 f11 f12 f13 f14 f15 f16 f17 f18 lv
  have A1s := Lib.hid (((A1.out.set (p := ⟨w.heap.size + 1 + 1, 3, none⟩) (by simp <;> omega) (.int .i64 x.i.rep)).set (p := ⟨w.heap.size + 1 + 1, 4, none⟩) (by simp <;> omega) (.int .i64 x.i.slot)).set (p := ⟨w.heap.size + 1 + 1, 5, none⟩) (by simp <;> omega) (.int .i64 x.i.bal))
  refine (to_cmdO x.i.cmd _ _ (PH.out.later A1s.out).1 h1).mono ?_
  rintro e w2 ⟨⟨g', n', cap', rfl, s2, hlt2⟩, b2⟩
  have X2 := Lib.hid ((((X1.out.set_other ⟨w.heap.size + 1 + 1, 3, none⟩ _ (by simp <;> omega)).set_other ⟨w.heap.size + 1 + 1, 4, none⟩ _ (by simp <;> omega)).set_other ⟨w.heap.size + 1 + 1, 5, none⟩ _ (by simp <;> omega)).after b2)
  have Y2 := Lib.hid ((((Y1.out.set_other ⟨w.heap.size + 1 + 1, 3, none⟩ _ (by simp <;> omega)).set_other ⟨w.heap.size + 1 + 1, 4, none⟩ _ (by simp <;> omega)).set_other ⟨w.heap.size + 1 + 1, 5, none⟩ _ (by simp <;> omega)).after b2)
  have V2 := Lib.hid (show Bx w2 (w.heap.size + 1 + 1) 50 #[.int .i64 x.kind, .int .i64 x.frm, .int .i64 x.dst, .int .i64 x.i.rep, .int .i64 x.i.slot, .int .i64 x.i.bal, .int .i64 0, .int .i64 0, .int .i64 0, .string ⟨#[]⟩, .string ⟨#[]⟩, .string ⟨#[]⟩, .int .i64 0, .slice none 0 0, .int .i64 0, .slice none 0 0, .int .i64 0, .int .i64 0, .bool false] from (((V1.out.set 3 (.int .i64 x.i.rep)).set 4 (.int .i64 x.i.slot)).set 5 (.int .i64 x.i.bal)).after b2)
  have A2 := Lib.hid (A1s.out.after b2)
  have hz1 : w.heap.size + 1 + 1 < w1.heap.size := by have := V1.out.lt; omega
  simp only [World.size_setCell] at s2
  have S2 := Lib.hid s2
  clear b2 s2 X1 Y1 V1 A1 A1s
  obtain ⟨x0, x1, x2, x3, x4, x5, x6, x7, x8, x9, x10, x11, x12, x13, x14, x15, x16, x17, x18⟩ := X2.out.c19
  obtain ⟨v0, v1, v2, v3, v4, v5, v6, v7, v8, v9, v10, v11, v12, v13, v14, v15, v16, v17, v18⟩ := cells19 V2.out
  obtain ⟨f0, f1, f2, f3, f4, f5, f6, f7, f8, f9, f10, f11, f12, f13, f14, f15, f16, f17, f18⟩ := froz19 V2.out
  have lv := V2.out.lt
  go_wp2_with fail
  clear x0 x1 x2 x3 x4 x5 x6 x7 x8 x9 x10 x11 x12 x13 x14 x15 x16 x17 x18 v0 v1 v2 v3 v4 v5 v6 v7 v8 v9 v10 v11 v12 v13 v14 v15 v16 v17 v18 f0 f1 f2 f3 f4 f5 f6 f7 f8 f9 f10 f11 f12 f13 f14 f15 f16 f17 f18 lv
  have hz2 : w1.heap.size ≤ w2.heap.size := by have := hlt2; have := (S2.out.1.lt g' rfl).1; omega
  obtain ⟨L5, hL5⟩ : ∃ L5 : List Value, L5 = [.int .i64 x.i.cmd.kind, .int .i64 x.i.cmd.client, .int .i64 x.i.cmd.no, .string x.i.cmd.set, .string x.i.cmd.name, .string x.i.cmd.tag, .int .i64 x.i.cmd.n, .slice (some ⟨g', 0, none⟩) n' cap', .int .i64 x.i.seq] := ⟨_, rfl⟩
  have G2 := Lib.hid (setL_grown (w.heap.size + 1 + 1) L5 w2 6)
  have HS2 := Lib.hid (setL_size (w.heap.size + 1 + 1) L5 w2 6)
  have A2s := Lib.hid (A2.out.grow G2.out (fun k hk => by cases hk; omega))
  have X2s := Lib.hid (X2.out.keep G2.out (by simp <;> omega))
  have Y2s := Lib.hid (Y2.out.keep G2.out (by simp <;> omega))
  have V2s := Lib.hid (show Bx (setL w2 (w.heap.size + 1 + 1) 6 L5) (w.heap.size + 1 + 1) 50 #[.int .i64 x.kind, .int .i64 x.frm, .int .i64 x.dst, .int .i64 x.i.rep, .int .i64 x.i.slot, .int .i64 x.i.bal, .int .i64 x.i.cmd.kind, .int .i64 x.i.cmd.client, .int .i64 x.i.cmd.no, .string x.i.cmd.set, .string x.i.cmd.name, .string x.i.cmd.tag, .int .i64 x.i.cmd.n, .slice (some ⟨g', 0, none⟩) n' cap', .int .i64 x.i.seq, .slice none 0 0, .int .i64 0, .int .i64 0, .bool false] by have := setL_heap L5 w2 _ 6 V2.out; rw [updL_eq L5 _ 6 (by rw [hL5]; show 6 + 9 ≤ 19; omega)] at this; rw [hL5] at this ⊢; exact this)
  have S2s := Lib.hid (show StO (setL w2 (w.heap.size + 1 + 1) 6 L5) w1.heap.size (.slice (some ⟨g', 0, none⟩) n' cap') x.i.cmd.ch from ⟨S2.out.1.kept G2.out hz1, S2.out.2⟩)
  refine wp_worldC (W := setL w2 (w.heap.size + 1 + 1) 6 L5) (by rw [hL5]; rfl) ?_
  clear X2 Y2 V2 S2 A2 G2
  refine (to_idL _ x.i.deps _ (PH.out.later A2s.out).2.1 h2).mono ?_
  rintro e w3 ⟨ud, rfl, o3, b3, ob3⟩
  have X3 := Lib.hid (X2s.out.after b3)
  have Y3 := Lib.hid (Y2s.out.after b3)
  have V3 := Lib.hid (V2s.out.after b3)
  have S3 := Lib.hid (S2s.out.later b3)
  have A3 := Lib.hid (A2s.out.after b3)
  rw [HS2.out] at o3 ob3
  obtain ⟨a3, n3, c3, rfl⟩ := o3.form
  have O3 := Lib.hid o3
  have OB3 := Lib.hid ob3
  have hz3 : w2.heap.size ≤ w3.heap.size := by have := b3.size; rw [HS2.out] at this; exact this
  clear b3 o3 ob3 X2s Y2s V2s S2s A2s HS2 hL5
  have G3 := Lib.hid (setL_grown (w.heap.size + 1 + 1) [.slice a3 n3 c3, .int .i64 x.i.st, .int .i64 x.i.vbal, .bool x.i.same] w3 15)
  have V4 := Lib.hid (show Bx (setL w3 (w.heap.size + 1 + 1) 15 [.slice a3 n3 c3, .int .i64 x.i.st, .int .i64 x.i.vbal, .bool x.i.same]) (w.heap.size + 1 + 1) 50 #[.int .i64 x.kind, .int .i64 x.frm, .int .i64 x.dst, .int .i64 x.i.rep, .int .i64 x.i.slot, .int .i64 x.i.bal, .int .i64 x.i.cmd.kind, .int .i64 x.i.cmd.client, .int .i64 x.i.cmd.no, .string x.i.cmd.set, .string x.i.cmd.name, .string x.i.cmd.tag, .int .i64 x.i.cmd.n, .slice (some ⟨g', 0, none⟩) n' cap', .int .i64 x.i.seq, .slice a3 n3 c3, .int .i64 x.i.st, .int .i64 x.i.vbal, .bool x.i.same] by have := setL_heap [.slice a3 n3 c3, .int .i64 x.i.st, .int .i64 x.i.vbal, .bool x.i.same] w3 _ 15 V3.out; rw [updL_eq [.slice a3 n3 c3, .int .i64 x.i.st, .int .i64 x.i.vbal, .bool x.i.same] #[.int .i64 x.kind, .int .i64 x.frm, .int .i64 x.dst, .int .i64 x.i.rep, .int .i64 x.i.slot, .int .i64 x.i.bal, .int .i64 x.i.cmd.kind, .int .i64 x.i.cmd.client, .int .i64 x.i.cmd.no, .string x.i.cmd.set, .string x.i.cmd.name, .string x.i.cmd.tag, .int .i64 x.i.cmd.n, .slice (some ⟨g', 0, none⟩) n' cap', .int .i64 x.i.seq, .slice none 0 0, .int .i64 0, .int .i64 0, .bool false] 15 (show 15 + 4 ≤ 19 by omega)] at this; exact this)
  have Y4 := Lib.hid (show Bx (setL w3 (w.heap.size + 1 + 1) 15 [.slice a3 n3 c3, .int .i64 x.i.st, .int .i64 x.i.vbal, .bool x.i.same]) (w.heap.size + 1) 50 #[.int .i64 0, .int .i64 0, .int .i64 0, .int .i64 0, .int .i64 0, .int .i64 0, .int .i64 0, .int .i64 0, .int .i64 0, .string ⟨#[]⟩, .string ⟨#[]⟩, .string ⟨#[]⟩, .int .i64 0, .slice none 0 0, .int .i64 0, .slice none 0 0, .int .i64 0, .int .i64 0, .bool false] from Y3.out.keep G3.out (by simp <;> omega))
  obtain ⟨x0, x1, x2, x3, x4, x5, x6, x7, x8, x9, x10, x11, x12, x13, x14, x15, x16, x17, x18⟩ := X3.out.c19
  obtain ⟨v0, v1, v2, v3, v4, v5, v6, v7, v8, v9, v10, v11, v12, v13, v14, v15, v16, v17, v18⟩ := cells19 V3.out
  obtain ⟨f0, f1, f2, f3, f4, f5, f6, f7, f8, f9, f10, f11, f12, f13, f14, f15, f16, f17, f18⟩ := froz19 V3.out
  have lv := V3.out.lt
  clear x0 x1 x2 x3 x4 x5 x6 x7 x8 x9 x10 x11 x12 x13 x14 x15 v0 v1 v2 v3 v4 v5 v6 v7 v8 v9 v10 v11 v12 v13 v14 f0 f1 f2 f3 f4 f5 f6 f7 f8 f9 f10 f11 f12 f13 f14
  have hr1 : rowP 50 ((((w3.setCell ⟨w.heap.size + 1 + 1, 15, none⟩ (.slice a3 n3 c3)).setCell ⟨w.heap.size + 1 + 1, 16, none⟩ (.int .i64 x.i.st)).setCell ⟨w.heap.size + 1 + 1, 17, none⟩ (.int .i64 x.i.vbal)).setCell ⟨w.heap.size + 1 + 1, 18, none⟩ (.bool x.i.same)) (w.heap.size + 1 + 1) := (V4.out.row rfl).1
  have hr2 : rowC ((((w3.setCell ⟨w.heap.size + 1 + 1, 15, none⟩ (.slice a3 n3 c3)).setCell ⟨w.heap.size + 1 + 1, 16, none⟩ (.int .i64 x.i.st)).setCell ⟨w.heap.size + 1 + 1, 17, none⟩ (.int .i64 x.i.vbal)).setCell ⟨w.heap.size + 1 + 1, 18, none⟩ (.bool x.i.same)) (w.heap.size + 1 + 1) = #[.int .i64 x.kind, .int .i64 x.frm, .int .i64 x.dst, .int .i64 x.i.rep, .int .i64 x.i.slot, .int .i64 x.i.bal, .int .i64 x.i.cmd.kind, .int .i64 x.i.cmd.client, .int .i64 x.i.cmd.no, .string x.i.cmd.set, .string x.i.cmd.name, .string x.i.cmd.tag, .int .i64 x.i.cmd.n, .slice (some ⟨g', 0, none⟩) n' cap', .int .i64 x.i.seq, .slice a3 n3 c3, .int .i64 x.i.st, .int .i64 x.i.vbal, .bool x.i.same] := (V4.out.row rfl).2
  have hr3 : rowP 50 ((((w3.setCell ⟨w.heap.size + 1 + 1, 15, none⟩ (.slice a3 n3 c3)).setCell ⟨w.heap.size + 1 + 1, 16, none⟩ (.int .i64 x.i.st)).setCell ⟨w.heap.size + 1 + 1, 17, none⟩ (.int .i64 x.i.vbal)).setCell ⟨w.heap.size + 1 + 1, 18, none⟩ (.bool x.i.same)) (w.heap.size + 1) := (Y4.out.row rfl).1
  go_wp2
  clear x16 x17 x18 v15 v16 v17 v18 f15 f16 f17 f18 hr1 hr2 hr3
  have G4 := Lib.hid (grown_setRow (setL w3 (w.heap.size + 1 + 1) 15 [.slice a3 n3 c3, .int .i64 x.i.st, .int .i64 x.i.vbal, .bool x.i.same]) (w.heap.size + 1) #[.int .i64 x.kind, .int .i64 x.frm, .int .i64 x.dst, .int .i64 x.i.rep, .int .i64 x.i.slot, .int .i64 x.i.bal, .int .i64 x.i.cmd.kind, .int .i64 x.i.cmd.client, .int .i64 x.i.cmd.no, .string x.i.cmd.set, .string x.i.cmd.name, .string x.i.cmd.tag, .int .i64 x.i.cmd.n, .slice (some ⟨g', 0, none⟩) n' cap', .int .i64 x.i.seq, .slice a3 n3 c3, .int .i64 x.i.st, .int .i64 x.i.vbal, .bool x.i.same])
  have F4 := Lib.hid (show Bx ((setL w3 (w.heap.size + 1 + 1) 15 [.slice a3 n3 c3, .int .i64 x.i.st, .int .i64 x.i.vbal, .bool x.i.same]).setRow (w.heap.size + 1) #[.int .i64 x.kind, .int .i64 x.frm, .int .i64 x.dst, .int .i64 x.i.rep, .int .i64 x.i.slot, .int .i64 x.i.bal, .int .i64 x.i.cmd.kind, .int .i64 x.i.cmd.client, .int .i64 x.i.cmd.no, .string x.i.cmd.set, .string x.i.cmd.name, .string x.i.cmd.tag, .int .i64 x.i.cmd.n, .slice (some ⟨g', 0, none⟩) n' cap', .int .i64 x.i.seq, .slice a3 n3 c3, .int .i64 x.i.st, .int .i64 x.i.vbal, .bool x.i.same]) (w.heap.size + 1) 50 #[.int .i64 x.kind, .int .i64 x.frm, .int .i64 x.dst, .int .i64 x.i.rep, .int .i64 x.i.slot, .int .i64 x.i.bal, .int .i64 x.i.cmd.kind, .int .i64 x.i.cmd.client, .int .i64 x.i.cmd.no, .string x.i.cmd.set, .string x.i.cmd.name, .string x.i.cmd.tag, .int .i64 x.i.cmd.n, .slice (some ⟨g', 0, none⟩) n' cap', .int .i64 x.i.seq, .slice a3 n3 c3, .int .i64 x.i.st, .int .i64 x.i.vbal, .bool x.i.same] from setRow_heap (setL w3 (w.heap.size + 1 + 1) 15 [.slice a3 n3 c3, .int .i64 x.i.st, .int .i64 x.i.vbal, .bool x.i.same]) (w.heap.size + 1) _ #[.int .i64 x.kind, .int .i64 x.frm, .int .i64 x.dst, .int .i64 x.i.rep, .int .i64 x.i.slot, .int .i64 x.i.bal, .int .i64 x.i.cmd.kind, .int .i64 x.i.cmd.client, .int .i64 x.i.cmd.no, .string x.i.cmd.set, .string x.i.cmd.name, .string x.i.cmd.tag, .int .i64 x.i.cmd.n, .slice (some ⟨g', 0, none⟩) n' cap', .int .i64 x.i.seq, .slice a3 n3 c3, .int .i64 x.i.st, .int .i64 x.i.vbal, .bool x.i.same] 50 (0, 0) Y4.out)
  have S4 := Lib.hid (show StO ((setL w3 (w.heap.size + 1 + 1) 15 [.slice a3 n3 c3, .int .i64 x.i.st, .int .i64 x.i.vbal, .bool x.i.same]).setRow (w.heap.size + 1) #[.int .i64 x.kind, .int .i64 x.frm, .int .i64 x.dst, .int .i64 x.i.rep, .int .i64 x.i.slot, .int .i64 x.i.bal, .int .i64 x.i.cmd.kind, .int .i64 x.i.cmd.client, .int .i64 x.i.cmd.no, .string x.i.cmd.set, .string x.i.cmd.name, .string x.i.cmd.tag, .int .i64 x.i.cmd.n, .slice (some ⟨g', 0, none⟩) n' cap', .int .i64 x.i.seq, .slice a3 n3 c3, .int .i64 x.i.st, .int .i64 x.i.vbal, .bool x.i.same]) w1.heap.size (.slice (some ⟨g', 0, none⟩) n' cap') x.i.cmd.ch from ⟨(S3.out.1.kept G3.out hz1).kept G4.out (by omega), S3.out.2⟩)
  have O4 := Lib.hid ((O3.out.kept G3.out (fun k hk => by cases hk; omega)).kept G4.out (fun k hk => by cases hk; omega))
  have A4 := Lib.hid ((A3.out.grow G3.out (fun k hk => by cases hk; omega)).grow G4.out (fun k hk => by cases hk; omega))
  have Z4 := Lib.hid (show ((setL w3 (w.heap.size + 1 + 1) 15 [.slice a3 n3 c3, .int .i64 x.i.st, .int .i64 x.i.vbal, .bool x.i.same]).setRow (w.heap.size + 1) #[.int .i64 x.kind, .int .i64 x.frm, .int .i64 x.dst, .int .i64 x.i.rep, .int .i64 x.i.slot, .int .i64 x.i.bal, .int .i64 x.i.cmd.kind, .int .i64 x.i.cmd.client, .int .i64 x.i.cmd.no, .string x.i.cmd.set, .string x.i.cmd.name, .string x.i.cmd.tag, .int .i64 x.i.cmd.n, .slice (some ⟨g', 0, none⟩) n' cap', .int .i64 x.i.seq, .slice a3 n3 c3, .int .i64 x.i.st, .int .i64 x.i.vbal, .bool x.i.same]).heap.size = w3.heap.size by rw [setRow_size, setL_size])
  have BU4 := Lib.hid (fun k (hk : Value.ownBlock (.slice (some ⟨g', 0, none⟩) n' cap') = some k) => (show w.heap.size ≤ k ∧ k < ((setL w3 (w.heap.size + 1 + 1) 15 [.slice a3 n3 c3, .int .i64 x.i.st, .int .i64 x.i.vbal, .bool x.i.same]).setRow (w.heap.size + 1) #[.int .i64 x.kind, .int .i64 x.frm, .int .i64 x.dst, .int .i64 x.i.rep, .int .i64 x.i.slot, .int .i64 x.i.bal, .int .i64 x.i.cmd.kind, .int .i64 x.i.cmd.client, .int .i64 x.i.cmd.no, .string x.i.cmd.set, .string x.i.cmd.name, .string x.i.cmd.tag, .int .i64 x.i.cmd.n, .slice (some ⟨g', 0, none⟩) n' cap', .int .i64 x.i.seq, .slice a3 n3 c3, .int .i64 x.i.st, .int .i64 x.i.vbal, .bool x.i.same]).heap.size by have h9 := S4.out.1.lt k hk; exact ⟨by omega, h9.2⟩))
  have BD4 := Lib.hid (fun k (hk : Value.ownBlock (.slice a3 n3 c3) = some k) => (show w.heap.size ≤ k ∧ k < ((setL w3 (w.heap.size + 1 + 1) 15 [.slice a3 n3 c3, .int .i64 x.i.st, .int .i64 x.i.vbal, .bool x.i.same]).setRow (w.heap.size + 1) #[.int .i64 x.kind, .int .i64 x.frm, .int .i64 x.dst, .int .i64 x.i.rep, .int .i64 x.i.slot, .int .i64 x.i.bal, .int .i64 x.i.cmd.kind, .int .i64 x.i.cmd.client, .int .i64 x.i.cmd.no, .string x.i.cmd.set, .string x.i.cmd.name, .string x.i.cmd.tag, .int .i64 x.i.cmd.n, .slice (some ⟨g', 0, none⟩) n' cap', .int .i64 x.i.seq, .slice a3 n3 c3, .int .i64 x.i.st, .int .i64 x.i.vbal, .bool x.i.same]).heap.size by have h9 := OB3.out k hk; rw [Z4.out]; omega))
  exact bodyPost_ret (results_emsg Tryz.results33 _ _ (w.heap.size + 1) _ rfl rfl F4.out) rfl ⟨⟨_, _, _, _, _, _, rfl, ⟨S4.out.mono (by omega), O4.out.mono (by omega), BU4.out, BD4.out, PH.out.2.2⟩⟩, A4.out⟩
end Go.Proofs.YtdokglckfabdaaaGreatDoor
