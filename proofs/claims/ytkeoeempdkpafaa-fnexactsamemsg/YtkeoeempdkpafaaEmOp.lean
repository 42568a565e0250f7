/- Messages that came in: from their reading to their cells. -/
import Derived.Test.YtkeoeempdkpafaaEmM
import Derived.Test.YtkeoeempdkpafaaInOp
namespace Go.Proofs.Ytkeoeempdkpafaa
open Go Go.ChangeShapes Go.WideShapes Go.ChangeAt Go.RowKit Go.Joins Go.Deep
set_option linter.unusedVariables false

theorem Try.emsgCells : Try.prog.cellsOf 29 = 19 := by kernel_rfl
set_option maxRecDepth 100000 in
/-- A message, opened, by its cells. -/
theorem open_emsgC {H : Type} {enc : TypeId × Value → H} {W : World} {n : Nat} {cs : List Value} {y : DataW H × List MemPlace} (hc : cs.length = 19) (h : DataW.trod enc Try.prog W 0 (fun _ => true) true n 29 cs = some y) :
    ∃ (x : Em) (u d : Value), cs = #[.int .i64 x.kind, .int .i64 x.frm, .int .i64 x.dst, .int .i64 x.i.rep, .int .i64 x.i.slot, .int .i64 x.i.bal, .int .i64 x.i.cmd.kind, .int .i64 x.i.cmd.client, .int .i64 x.i.cmd.no, .string x.i.cmd.set, .string x.i.cmd.name, .string x.i.cmd.tag, .int .i64 x.i.cmd.n, u, .int .i64 x.i.seq, d, .int .i64 x.i.st, .int .i64 x.i.vbal, .bool x.i.same].toList ∧ Pts W x.i u d := by
  obtain ⟨c0, c1, c2, c3, c4, c5, c6, c7, c8, c9, c10, c11, c12, c13, c14, c15, c16, c17, c18, rfl⟩ := list19 hc
  have r := struct_part Try.underlying29 h
  obtain ⟨_, y0, t0⟩ := r 0 _ rfl
  obtain ⟨_, y1, t1⟩ := r 1 _ rfl
  obtain ⟨_, y2, t2⟩ := r 2 _ rfl
  obtain ⟨_, y3, t3⟩ := r 3 _ rfl
  obtain ⟨_, y4, t4⟩ := r 4 _ rfl
  obtain ⟨_, y5, t5⟩ := r 5 _ rfl
  obtain ⟨_, y6, t6⟩ := r 6 _ rfl
  obtain ⟨_, y7, t7⟩ := r 7 _ rfl
  obtain ⟨_, y8, t8⟩ := r 8 _ rfl
  obtain ⟨_, y9, t9⟩ := r 9 _ rfl
  obtain ⟨_, y10, t10⟩ := r 10 _ rfl
  have k3 : Try.prog.cellsOf 3 = 1 := by kernel_rfl
  have k4 : Try.prog.cellsOf 4 = 1 := by kernel_rfl
  have kd : Try.prog.cellsOf 27 = 1 := by kernel_rfl
  replace t0 : DataW.trod enc Try.prog W 0 (fun _ => true) true _ 3 (List.take (Try.prog.cellsOf 3) [c0, c1, c2, c3, c4, c5, c6, c7, c8, c9, c10, c11, c12, c13, c14, c15, c16, c17, c18]) = some y0 := t0
  rw [k3] at t0
  replace t1 : DataW.trod enc Try.prog W 0 (fun _ => true) true _ 3 (List.take (Try.prog.cellsOf 3) [c1, c2, c3, c4, c5, c6, c7, c8, c9, c10, c11, c12, c13, c14, c15, c16, c17, c18]) = some y1 := t1
  rw [k3] at t1
  replace t2 : DataW.trod enc Try.prog W 0 (fun _ => true) true _ 3 (List.take (Try.prog.cellsOf 3) [c2, c3, c4, c5, c6, c7, c8, c9, c10, c11, c12, c13, c14, c15, c16, c17, c18]) = some y2 := t2
  rw [k3] at t2
  replace t3 : DataW.trod enc Try.prog W 0 (fun _ => true) true _ 23 (List.take (Try.prog.cellsOf 23) [c3, c4, c5, c6, c7, c8, c9, c10, c11, c12, c13, c14, c15, c16, c17, c18]) = some y3 := t3
  rw [Try.idCells] at t3
  replace t4 : DataW.trod enc Try.prog W 0 (fun _ => true) true _ 3 (List.take (Try.prog.cellsOf 3) [c5, c6, c7, c8, c9, c10, c11, c12, c13, c14, c15, c16, c17, c18]) = some y4 := t4
  rw [k3] at t4
  replace t5 : DataW.trod enc Try.prog W 0 (fun _ => true) true _ 26 (List.take (Try.prog.cellsOf 26) [c6, c7, c8, c9, c10, c11, c12, c13, c14, c15, c16, c17, c18]) = some y5 := t5
  rw [Try.cmdCells] at t5
  replace t6 : DataW.trod enc Try.prog W 0 (fun _ => true) true _ 3 (List.take (Try.prog.cellsOf 3) [c14, c15, c16, c17, c18]) = some y6 := t6
  rw [k3] at t6
  replace t7 : DataW.trod enc Try.prog W 0 (fun _ => true) true _ 27 (List.take (Try.prog.cellsOf 27) [c15, c16, c17, c18]) = some y7 := t7
  rw [kd] at t7
  replace t8 : DataW.trod enc Try.prog W 0 (fun _ => true) true _ 3 (List.take (Try.prog.cellsOf 3) [c16, c17, c18]) = some y8 := t8
  rw [k3] at t8
  replace t9 : DataW.trod enc Try.prog W 0 (fun _ => true) true _ 3 (List.take (Try.prog.cellsOf 3) [c17, c18]) = some y9 := t9
  rw [k3] at t9
  replace t10 : DataW.trod enc Try.prog W 0 (fun _ => true) true _ 4 (List.take (Try.prog.cellsOf 4) [c18]) = some y10 := t10
  rw [k4] at t10
  simp only [List.take_succ_cons, List.take_zero] at t0 t1 t2 t3 t4 t5 t6 t7 t8 t9 t10
  obtain ⟨z0, e0, _, _⟩ := DataW.trod_int Try.underlying3 t0
  obtain ⟨z1, e1, _, _⟩ := DataW.trod_int Try.underlying3 t1
  obtain ⟨z2, e2, _, _⟩ := DataW.trod_int Try.underlying3 t2
  obtain ⟨i3, e3⟩ := open_idC rfl t3
  obtain ⟨z4, e4, _, _⟩ := DataW.trod_int Try.underlying3 t4
  obtain ⟨cm, u, e5, hs, f1, f2, f3⟩ := open_cmdC rfl t5
  obtain ⟨z6, e6, _, _⟩ := DataW.trod_int Try.underlying3 t6
  obtain ⟨l7, h7⟩ := open_idsC t7
  obtain ⟨z8, e8, _, _⟩ := DataW.trod_int Try.underlying3 t8
  obtain ⟨z9, e9, _, _⟩ := DataW.trod_int Try.underlying3 t9
  obtain ⟨z10, e10, _⟩ := DataW.trod_bool Try.underlying4 t10
  simp only [List.cons.injEq, and_true] at e0 e1 e2 e3 e4 e5 e6 e8 e9 e10
  obtain ⟨g0, g1⟩ := e3
  obtain ⟨d0, d1, d2, d3, d4, d5, d6, d7⟩ := e5
  subst e0 e1 e2 g0 g1 e4 d0 d1 d2 d3 d4 d5 d6 d7 e6 e8 e9 e10
  exact ⟨⟨z0, z1, z2, ⟨i3.rep, i3.slot, z4, z9, z8, cm, z6, l7, z10⟩⟩, _, _, rfl, hs, h7, f1, f2, f3⟩
set_option maxRecDepth 100000 in
theorem open_emsg {H : Type} {enc : TypeId × Value → H} {W : World} {base : Nat} {v : Value} {d : DataW H} {p : List MemPlace} (hv : Value.okWide Try.prog W .any base 29 v) (h : DataW.Trod enc Try.prog W 0 (fun _ => true) true 29 v d p) :
    ∃ (x : Em) (u d : Value), v = .agg #[.int .i64 x.kind, .int .i64 x.frm, .int .i64 x.dst, .int .i64 x.i.rep, .int .i64 x.i.slot, .int .i64 x.i.bal, .int .i64 x.i.cmd.kind, .int .i64 x.i.cmd.client, .int .i64 x.i.cmd.no, .string x.i.cmd.set, .string x.i.cmd.name, .string x.i.cmd.tag, .int .i64 x.i.cmd.n, u, .int .i64 x.i.seq, d, .int .i64 x.i.st, .int .i64 x.i.vbal, .bool x.i.same] ∧ Pts W x.i u d := by
  obtain ⟨cs, rfl, hsz⟩ := okWide_struct Try.underlying29 hv
  obtain ⟨fuel, hf⟩ := h
  obtain ⟨x, u, d, e, hp⟩ := open_emsgC (cs := cs.toList) (by rw [Array.length_toList]; exact hsz.trans Try.emsgCells) hf
  refine ⟨x, u, d, ?_, hp⟩
  rw [Array.toList_inj.1 e]
end Go.Proofs.Ytkeoeempdkpafaa
