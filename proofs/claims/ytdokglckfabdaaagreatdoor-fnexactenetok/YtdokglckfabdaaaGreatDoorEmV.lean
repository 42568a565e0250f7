/- When a message is valid. -/
import Derived.Test.YtdokglckfabdaaaGreatDoorEmM
import Derived.Test.YtdokglckfabdaaaGreatDoorInV
import Derived.Test.YtdokglckfabdaaaGreatDoorSpNode
namespace Go.Proofs.YtdokglckfabdaaaGreatDoor
open Go.RowKit Go.PlainAid
set_option linter.unusedVariables false

/-- A valid message. -/
@[irreducible] def emB (x : Em) : Bool := iv x.kind 1 7 && (iv x.frm 0 2 && (iv x.dst 0 2 && (!(x.frm == x.dst) && (idB x.i.rep x.i.slot && (iv x.i.bal 0 600 && (okB x.i.cmd && (iv x.i.seq 0 60 && (idlB x.i.deps && (!(hasB x.i.deps x.i.rep x.i.slot) && (iv x.i.st 0 3 && iv x.i.vbal (-1) 600))))))))))
theorem emB_eq (x : Em) : emB x = (iv x.kind 1 7 && (iv x.frm 0 2 && (iv x.dst 0 2 && (!(x.frm == x.dst) && (idB x.i.rep x.i.slot && (iv x.i.bal 0 600 && (okB x.i.cmd && (iv x.i.seq 0 60 && (idlB x.i.deps && (!(hasB x.i.deps x.i.rep x.i.slot) && (iv x.i.st 0 3 && iv x.i.vbal (-1) 600))))))))))) := by unfold emB; rfl
set_option maxRecDepth 100000 in
set_option maxHeartbeats 2000000 in
theorem spec_emsg (x : Em) (u d : Value) (w : World) (h : Pts w x.i u d) :
    Calls Tryz.prog 12 #[.agg #[.int .i64 x.kind, .int .i64 x.frm, .int .i64 x.dst, .int .i64 x.i.rep, .int .i64 x.i.slot, .int .i64 x.i.bal, .int .i64 x.i.cmd.kind, .int .i64 x.i.cmd.client, .int .i64 x.i.cmd.no, .string x.i.cmd.set, .string x.i.cmd.name, .string x.i.cmd.tag, .int .i64 x.i.cmd.n, u, .int .i64 x.i.seq, d, .int .i64 x.i.st, .int .i64 x.i.vbal, .bool x.i.same]] w fun e w' => e = .returned (.bool (emB x)) ∧ Below w.heap.size w w' := by
  obtain ⟨⟨a1, n1, c1, rfl⟩, a2, n2, c2, rfl⟩ := h.form
  have PH := Lib.hid h
  have X0 := Lib.hid (Bx.new w 50 #[.int .i64 x.kind, .int .i64 x.frm, .int .i64 x.dst, .int .i64 x.i.rep, .int .i64 x.i.slot, .int .i64 x.i.bal, .int .i64 x.i.cmd.kind, .int .i64 x.i.cmd.client, .int .i64 x.i.cmd.no, .string x.i.cmd.set, .string x.i.cmd.name, .string x.i.cmd.tag, .int .i64 x.i.cmd.n, .slice a1 n1 c1, .int .i64 x.i.seq, .slice a2 n2 c2, .int .i64 x.i.st, .int .i64 x.i.vbal, .bool x.i.same] _ rfl)
  have A0 := Lib.hid ((Af.refl w).alloc (.cells #[.int .i64 x.kind, .int .i64 x.frm, .int .i64 x.dst, .int .i64 x.i.rep, .int .i64 x.i.slot, .int .i64 x.i.bal, .int .i64 x.i.cmd.kind, .int .i64 x.i.cmd.client, .int .i64 x.i.cmd.no, .string x.i.cmd.set, .string x.i.cmd.name, .string x.i.cmd.tag, .int .i64 x.i.cmd.n, .slice a1 n1 c1, .int .i64 x.i.seq, .slice a2 n2 c2, .int .i64 x.i.st, .int .i64 x.i.vbal, .bool x.i.same] 50))
  clear h
  go_enter Tryz.func12, Tryz.ntmps12
  go_wp2_with fail
  refine (idin_s x.kind 1 7 _).mono ?_
  rintro e w1 ⟨rfl, rfl⟩
  have X1 := X0
  have A1 := A0
  clear X0 A0
  cases q0 : iv x.kind 1 7
  · have HF := Lib.hid (show emB x = false by rw [emB_eq]; simp [q0])
    go_wp2
    go_ret
    exact ⟨by rw [HF.out]; rfl, A1.out⟩
  obtain ⟨x0, x1, x2, x3, x4, x5, x6, x7, x8, x9, x10, x11, x12, x13, x14, x15, x16, x17, x18⟩ := X1.out.c19
  go_wp2_with fail
  clear x0 x1 x2 x3 x4 x5 x6 x7 x8 x9 x10 x11 x12 x13 x14 x15 x16 x17 x18
  refine (spec_node x.frm _).mono ?_
  rintro e w2 ⟨rfl, rfl⟩
  have X2 := X1
  have A2 := A1
  clear X1 A1
  cases q1 : iv x.frm 0 2
  · have HF := Lib.hid (show emB x = false by rw [emB_eq]; simp [q0, q1])
    go_wp2
    go_ret
    exact ⟨by rw [HF.out]; rfl, A2.out⟩
  obtain ⟨x0, x1, x2, x3, x4, x5, x6, x7, x8, x9, x10, x11, x12, x13, x14, x15, x16, x17, x18⟩ := X2.out.c19
  go_wp2_with fail
  clear x0 x1 x2 x3 x4 x5 x6 x7 x8 x9 x10 x11 x12 x13 x14 x15 x16 x17 x18
  refine (spec_node x.dst _).mono ?_
  rintro e w3 ⟨rfl, rfl⟩
  have X3 := X2
  have A3 := A2
  clear X2 A2
  cases q2 : iv x.dst 0 2
  · have HF := Lib.hid (show emB x = false by rw [emB_eq]; simp [q0, q1, q2])
    go_wp2
    go_ret
    exact ⟨by rw [HF.out]; rfl, A3.out⟩
  by_cases qne : x.frm = x.dst
  case pos =>
    have qn : (x.frm == x.dst) = true := by simpa using qne
    have qm : (x.frm != x.dst) = false := by simpa using qne
    have HF := Lib.hid (show emB x = false by rw [emB_eq]; simp [q0, q1, q2, qn])
    clear qne
    obtain ⟨x0, x1, x2, x3, x4, x5, x6, x7, x8, x9, x10, x11, x12, x13, x14, x15, x16, x17, x18⟩ := X3.out.c19
    go_wp2
    go_ret
    exact ⟨by rw [HF.out]; rfl, A3.out⟩
  have qn : (x.frm == x.dst) = false := ine_no qne
  have qm : (x.frm != x.dst) = true := by simpa using qne
  clear qne
  obtain ⟨x0, x1, x2, x3, x4, x5, x6, x7, x8, x9, x10, x11, x12, x13, x14, x15, x16, x17, x18⟩ := X3.out.c19
  go_wp2_with fail
  clear x0 x1 x2 x3 x4 x5 x6 x7 x8 x9 x10 x11 x12 x13 x14 x15 x16 x17 x18
  refine (spec_id x.i.rep x.i.slot _).mono ?_
  rintro e w4 ⟨rfl, bb⟩
  have X4 := Lib.hid (X3.out.after bb)
  have A4 := Lib.hid (A3.out.after bb)
  clear bb X3 A3
  cases q4 : idB x.i.rep x.i.slot
  · have HF := Lib.hid (show emB x = false by rw [emB_eq]; simp [q0, q1, q2, qn, q4])
    go_wp2
    go_ret
    exact ⟨by rw [HF.out]; rfl, A4.out⟩
  obtain ⟨x0, x1, x2, x3, x4, x5, x6, x7, x8, x9, x10, x11, x12, x13, x14, x15, x16, x17, x18⟩ := X4.out.c19
  go_wp2_with fail
  clear x0 x1 x2 x3 x4 x5 x6 x7 x8 x9 x10 x11 x12 x13 x14 x15 x16 x17 x18
  refine (idin_s x.i.bal 0 600 _).mono ?_
  rintro e w5 ⟨rfl, rfl⟩
  have X5 := X4
  have A5 := A4
  clear X4 A4
  cases q5 : iv x.i.bal 0 600
  · have HF := Lib.hid (show emB x = false by rw [emB_eq]; simp [q0, q1, q2, qn, q4, q5])
    go_wp2
    go_ret
    exact ⟨by rw [HF.out]; rfl, A5.out⟩
  obtain ⟨x0, x1, x2, x3, x4, x5, x6, x7, x8, x9, x10, x11, x12, x13, x14, x15, x16, x17, x18⟩ := X5.out.c19
  go_wp2_with fail
  clear x0 x1 x2 x3 x4 x5 x6 x7 x8 x9 x10 x11 x12 x13 x14 x15 x16 x17 x18
  refine (spec_ok x.i.cmd _ _ (PH.out.later A5.out).1 PH.out.2.2.1 PH.out.2.2.2.1 PH.out.2.2.2.2).mono ?_
  rintro e w6 ⟨rfl, bb⟩
  have X6 := Lib.hid (X5.out.after bb)
  have A6 := Lib.hid (A5.out.after bb)
  clear bb X5 A5
  cases q6 : okB x.i.cmd
  · have HF := Lib.hid (show emB x = false by rw [emB_eq]; simp [q0, q1, q2, qn, q4, q5, q6])
    go_wp2
    go_ret
    exact ⟨by rw [HF.out]; rfl, A6.out⟩
  obtain ⟨x0, x1, x2, x3, x4, x5, x6, x7, x8, x9, x10, x11, x12, x13, x14, x15, x16, x17, x18⟩ := X6.out.c19
  go_wp2_with fail
  clear x0 x1 x2 x3 x4 x5 x6 x7 x8 x9 x10 x11 x12 x13 x14 x15 x16 x17 x18
  refine (idin_s x.i.seq 0 60 _).mono ?_
  rintro e w7 ⟨rfl, rfl⟩
  have X7 := X6
  have A7 := A6
  clear X6 A6
  cases q7 : iv x.i.seq 0 60
  · have HF := Lib.hid (show emB x = false by rw [emB_eq]; simp [q0, q1, q2, qn, q4, q5, q6, q7])
    go_wp2
    go_ret
    exact ⟨by rw [HF.out]; rfl, A7.out⟩
  obtain ⟨x0, x1, x2, x3, x4, x5, x6, x7, x8, x9, x10, x11, x12, x13, x14, x15, x16, x17, x18⟩ := X7.out.c19
  go_wp2_with fail
  clear x0 x1 x2 x3 x4 x5 x6 x7 x8 x9 x10 x11 x12 x13 x14 x15 x16 x17 x18
  refine (spec_ids _ x.i.deps _ (PH.out.later A7.out).2.1).mono ?_
  rintro e w8 ⟨rfl, bb⟩
  have X8 := Lib.hid (X7.out.after bb)
  have A8 := Lib.hid (A7.out.after bb)
  clear bb X7 A7
  cases q8 : idlB x.i.deps
  · have HF := Lib.hid (show emB x = false by rw [emB_eq]; simp [q0, q1, q2, qn, q4, q5, q6, q7, q8])
    go_wp2
    go_ret
    exact ⟨by rw [HF.out]; rfl, A8.out⟩
  obtain ⟨x0, x1, x2, x3, x4, x5, x6, x7, x8, x9, x10, x11, x12, x13, x14, x15, x16, x17, x18⟩ := X8.out.c19
  go_wp2_with fail
  clear x0 x1 x2 x3 x4 x5 x6 x7 x8 x9 x10 x11 x12 x13 x14 x15 x16 x17 x18
  refine (spec_has _ x.i.deps x.i.rep x.i.slot _ (PH.out.later A8.out).2.1).mono ?_
  rintro e w9 ⟨rfl, bb⟩
  have X9 := Lib.hid (X8.out.after bb)
  have A9 := Lib.hid (A8.out.after bb)
  clear bb X8 A8
  cases q9 : hasB x.i.deps x.i.rep x.i.slot
  case true =>
    have HF := Lib.hid (show emB x = false by rw [emB_eq]; simp [q0, q1, q2, qn, q4, q5, q6, q7, q8, q9])
    go_wp2
    go_ret
    exact ⟨by rw [HF.out]; rfl, A9.out⟩
  obtain ⟨x0, x1, x2, x3, x4, x5, x6, x7, x8, x9, x10, x11, x12, x13, x14, x15, x16, x17, x18⟩ := X9.out.c19
  go_wp2_with fail
  clear x0 x1 x2 x3 x4 x5 x6 x7 x8 x9 x10 x11 x12 x13 x14 x15 x16 x17 x18
  refine (idin_s x.i.st 0 3 _).mono ?_
  rintro e w10 ⟨rfl, rfl⟩
  have X10 := X9
  have A10 := A9
  clear X9 A9
  cases q10 : iv x.i.st 0 3
  · have HF := Lib.hid (show emB x = false by rw [emB_eq]; simp [q0, q1, q2, qn, q4, q5, q6, q7, q8, q9, q10])
    go_wp2
    go_ret
    exact ⟨by rw [HF.out]; rfl, A10.out⟩
  obtain ⟨x0, x1, x2, x3, x4, x5, x6, x7, x8, x9, x10, x11, x12, x13, x14, x15, x16, x17, x18⟩ := X10.out.c19
  go_wp2_with fail
  clear x0 x1 x2 x3 x4 x5 x6 x7 x8 x9 x10 x11 x12 x13 x14 x15 x16 x17 x18
  refine (idin_s x.i.vbal (-1) 600 _).mono ?_
  rintro e w11 ⟨rfl, rfl⟩
  have X11 := X10
  have A11 := A10
  clear X10 A10
  have HF := Lib.hid (show emB x = iv x.i.vbal (-1) 600 by rw [emB_eq]; simp [q0, q1, q2, qn, q4, q5, q6, q7, q8, q9, q10])
  go_wp2
  go_ret
  exact ⟨by rw [HF.out]; rfl, A11.out⟩
set_option maxRecDepth 100000 in
set_option maxHeartbeats 2000000 in
theorem impl_emsg (x : Em) (u d : Value) (a : Addr) (w : World) (h : Pts w x.i u d) (hS : Sent w a) :
    Calls Tryz.prog 35 #[.agg #[.int .i64 x.kind, .int .i64 x.frm, .int .i64 x.dst, .int .i64 x.i.rep, .int .i64 x.i.slot, .int .i64 x.i.bal, .int .i64 x.i.cmd.kind, .int .i64 x.i.cmd.client, .int .i64 x.i.cmd.no, .string x.i.cmd.set, .string x.i.cmd.name, .string x.i.cmd.tag, .int .i64 x.i.cmd.n, u, .int .i64 x.i.seq, d, .int .i64 x.i.st, .int .i64 x.i.vbal, .bool x.i.same]] w fun e w' => e = .returned (.bool (emB x)) ∧ Below w.heap.size w w' := by
  obtain ⟨⟨a1, n1, c1, rfl⟩, a2, n2, c2, rfl⟩ := h.form
  have PH := Lib.hid h
  have X0 := Lib.hid (Bx.new w 50 #[.int .i64 x.kind, .int .i64 x.frm, .int .i64 x.dst, .int .i64 x.i.rep, .int .i64 x.i.slot, .int .i64 x.i.bal, .int .i64 x.i.cmd.kind, .int .i64 x.i.cmd.client, .int .i64 x.i.cmd.no, .string x.i.cmd.set, .string x.i.cmd.name, .string x.i.cmd.tag, .int .i64 x.i.cmd.n, .slice a1 n1 c1, .int .i64 x.i.seq, .slice a2 n2 c2, .int .i64 x.i.st, .int .i64 x.i.vbal, .bool x.i.same] _ rfl)
  have A0 := Lib.hid ((Af.refl w).alloc (.cells #[.int .i64 x.kind, .int .i64 x.frm, .int .i64 x.dst, .int .i64 x.i.rep, .int .i64 x.i.slot, .int .i64 x.i.bal, .int .i64 x.i.cmd.kind, .int .i64 x.i.cmd.client, .int .i64 x.i.cmd.no, .string x.i.cmd.set, .string x.i.cmd.name, .string x.i.cmd.tag, .int .i64 x.i.cmd.n, .slice a1 n1 c1, .int .i64 x.i.seq, .slice a2 n2 c2, .int .i64 x.i.st, .int .i64 x.i.vbal, .bool x.i.same] 50))
  have HS := Lib.hid hS
  clear hS
  clear h
  go_enter Tryz.func35, Tryz.ntmps35
  go_wp2_with fail
  refine (idin_i x.kind 1 7 _).mono ?_
  rintro e w1 ⟨rfl, rfl⟩
  have X1 := X0
  have A1 := A0
  clear X0 A0
  cases q0 : iv x.kind 1 7
  · have HF := Lib.hid (show emB x = false by rw [emB_eq]; simp [q0])
    go_wp2
    go_ret
    exact ⟨by rw [HF.out]; rfl, A1.out⟩
  obtain ⟨x0, x1, x2, x3, x4, x5, x6, x7, x8, x9, x10, x11, x12, x13, x14, x15, x16, x17, x18⟩ := X1.out.c19
  go_wp2_with fail
  clear x0 x1 x2 x3 x4 x5 x6 x7 x8 x9 x10 x11 x12 x13 x14 x15 x16 x17 x18
  refine (impl_rep x.frm _).mono ?_
  rintro e w2 ⟨rfl, rfl⟩
  have X2 := X1
  have A2 := A1
  clear X1 A1
  cases q1 : iv x.frm 0 2
  · have HF := Lib.hid (show emB x = false by rw [emB_eq]; simp [q0, q1])
    go_wp2
    go_ret
    exact ⟨by rw [HF.out]; rfl, A2.out⟩
  obtain ⟨x0, x1, x2, x3, x4, x5, x6, x7, x8, x9, x10, x11, x12, x13, x14, x15, x16, x17, x18⟩ := X2.out.c19
  go_wp2_with fail
  clear x0 x1 x2 x3 x4 x5 x6 x7 x8 x9 x10 x11 x12 x13 x14 x15 x16 x17 x18
  refine (impl_rep x.dst _).mono ?_
  rintro e w3 ⟨rfl, rfl⟩
  have X3 := X2
  have A3 := A2
  clear X2 A2
  cases q2 : iv x.dst 0 2
  · have HF := Lib.hid (show emB x = false by rw [emB_eq]; simp [q0, q1, q2])
    go_wp2
    go_ret
    exact ⟨by rw [HF.out]; rfl, A3.out⟩
  by_cases qne : x.frm = x.dst
  case pos =>
    have qn : (x.frm == x.dst) = true := by simpa using qne
    have qm : (x.frm != x.dst) = false := by simpa using qne
    have HF := Lib.hid (show emB x = false by rw [emB_eq]; simp [q0, q1, q2, qn])
    clear qne
    obtain ⟨x0, x1, x2, x3, x4, x5, x6, x7, x8, x9, x10, x11, x12, x13, x14, x15, x16, x17, x18⟩ := X3.out.c19
    go_wp2
    go_ret
    exact ⟨by rw [HF.out]; rfl, A3.out⟩
  have qn : (x.frm == x.dst) = false := ine_no qne
  have qm : (x.frm != x.dst) = true := by simpa using qne
  clear qne
  obtain ⟨x0, x1, x2, x3, x4, x5, x6, x7, x8, x9, x10, x11, x12, x13, x14, x15, x16, x17, x18⟩ := X3.out.c19
  go_wp2_with fail
  clear x0 x1 x2 x3 x4 x5 x6 x7 x8 x9 x10 x11 x12 x13 x14 x15 x16 x17 x18
  refine (impl_id x.i.rep x.i.slot _).mono ?_
  rintro e w4 ⟨rfl, bb⟩
  have X4 := Lib.hid (X3.out.after bb)
  have A4 := Lib.hid (A3.out.after bb)
  clear bb X3 A3
  cases q4 : idB x.i.rep x.i.slot
  · have HF := Lib.hid (show emB x = false by rw [emB_eq]; simp [q0, q1, q2, qn, q4])
    go_wp2
    go_ret
    exact ⟨by rw [HF.out]; rfl, A4.out⟩
  obtain ⟨x0, x1, x2, x3, x4, x5, x6, x7, x8, x9, x10, x11, x12, x13, x14, x15, x16, x17, x18⟩ := X4.out.c19
  go_wp2_with fail
  clear x0 x1 x2 x3 x4 x5 x6 x7 x8 x9 x10 x11 x12 x13 x14 x15 x16 x17 x18
  refine (idin_i x.i.bal 0 600 _).mono ?_
  rintro e w5 ⟨rfl, rfl⟩
  have X5 := X4
  have A5 := A4
  clear X4 A4
  cases q5 : iv x.i.bal 0 600
  · have HF := Lib.hid (show emB x = false by rw [emB_eq]; simp [q0, q1, q2, qn, q4, q5])
    go_wp2
    go_ret
    exact ⟨by rw [HF.out]; rfl, A5.out⟩
  obtain ⟨x0, x1, x2, x3, x4, x5, x6, x7, x8, x9, x10, x11, x12, x13, x14, x15, x16, x17, x18⟩ := X5.out.c19
  go_wp2_with fail
  clear x0 x1 x2 x3 x4 x5 x6 x7 x8 x9 x10 x11 x12 x13 x14 x15 x16 x17 x18
  refine (cmd_ok x.i.cmd _ a _ (PH.out.later A5.out).1 (HS.out.later A5.out) PH.out.2.2.1 PH.out.2.2.2.1 PH.out.2.2.2.2).mono ?_
  rintro e w6 ⟨rfl, bb⟩
  have X6 := Lib.hid (X5.out.after bb)
  have A6 := Lib.hid (A5.out.after bb)
  clear bb X5 A5
  cases q6 : okB x.i.cmd
  · have HF := Lib.hid (show emB x = false by rw [emB_eq]; simp [q0, q1, q2, qn, q4, q5, q6])
    go_wp2
    go_ret
    exact ⟨by rw [HF.out]; rfl, A6.out⟩
  obtain ⟨x0, x1, x2, x3, x4, x5, x6, x7, x8, x9, x10, x11, x12, x13, x14, x15, x16, x17, x18⟩ := X6.out.c19
  go_wp2_with fail
  clear x0 x1 x2 x3 x4 x5 x6 x7 x8 x9 x10 x11 x12 x13 x14 x15 x16 x17 x18
  refine (idin_i x.i.seq 0 60 _).mono ?_
  rintro e w7 ⟨rfl, rfl⟩
  have X7 := X6
  have A7 := A6
  clear X6 A6
  cases q7 : iv x.i.seq 0 60
  · have HF := Lib.hid (show emB x = false by rw [emB_eq]; simp [q0, q1, q2, qn, q4, q5, q6, q7])
    go_wp2
    go_ret
    exact ⟨by rw [HF.out]; rfl, A7.out⟩
  obtain ⟨x0, x1, x2, x3, x4, x5, x6, x7, x8, x9, x10, x11, x12, x13, x14, x15, x16, x17, x18⟩ := X7.out.c19
  go_wp2_with fail
  clear x0 x1 x2 x3 x4 x5 x6 x7 x8 x9 x10 x11 x12 x13 x14 x15 x16 x17 x18
  refine (impl_deps _ x.i.deps x.i.rep x.i.slot _ (PH.out.later A7.out).2.1).mono ?_
  rintro e w8 ⟨rfl, bb⟩
  have X8 := Lib.hid (X7.out.after bb)
  have A8 := Lib.hid (A7.out.after bb)
  clear bb X7 A7
  cases q8 : (idlB x.i.deps && !hasB x.i.deps x.i.rep x.i.slot)
  · have HF := Lib.hid (show emB x = false by have h8 : idlB x.i.deps = false ∨ hasB x.i.deps x.i.rep x.i.slot = true := (by cases e1 : idlB x.i.deps; (exact .inl rfl); cases e2 : hasB x.i.deps x.i.rep x.i.slot; (rw [e1, e2] at q8; cases q8); exact .inr rfl); rw [emB_eq]; rcases h8 with h8 | h8 <;> simp [h8])
    go_wp2
    go_ret
    exact ⟨by rw [HF.out]; rfl, A8.out⟩
  have qd1 : idlB x.i.deps = true := by simp only [Bool.and_eq_true] at q8; exact q8.1
  have qd2 : hasB x.i.deps x.i.rep x.i.slot = false := by simp only [Bool.and_eq_true, Bool.not_eq_true'] at q8; exact q8.2
  obtain ⟨x0, x1, x2, x3, x4, x5, x6, x7, x8, x9, x10, x11, x12, x13, x14, x15, x16, x17, x18⟩ := X8.out.c19
  go_wp2_with fail
  clear x0 x1 x2 x3 x4 x5 x6 x7 x8 x9 x10 x11 x12 x13 x14 x15 x16 x17 x18
  refine (idin_i x.i.st 0 3 _).mono ?_
  rintro e w9 ⟨rfl, rfl⟩
  have X9 := X8
  have A9 := A8
  clear X8 A8
  cases q9 : iv x.i.st 0 3
  · have HF := Lib.hid (show emB x = false by rw [emB_eq]; simp [q0, q1, q2, qn, q4, q5, q6, q7, qd1, qd2, q9])
    go_wp2
    go_ret
    exact ⟨by rw [HF.out]; rfl, A9.out⟩
  obtain ⟨x0, x1, x2, x3, x4, x5, x6, x7, x8, x9, x10, x11, x12, x13, x14, x15, x16, x17, x18⟩ := X9.out.c19
  go_wp2_with fail
  clear x0 x1 x2 x3 x4 x5 x6 x7 x8 x9 x10 x11 x12 x13 x14 x15 x16 x17 x18
  refine (idin_i x.i.vbal (-1) 600 _).mono ?_
  rintro e w10 ⟨rfl, rfl⟩
  have X10 := X9
  have A10 := A9
  clear X9 A9
  have HF := Lib.hid (show emB x = iv x.i.vbal (-1) 600 by rw [emB_eq]; simp [q0, q1, q2, qn, q4, q5, q6, q7, qd1, qd2, q9])
  go_wp2
  go_ret
  exact ⟨by rw [HF.out]; rfl, A10.out⟩
end Go.Proofs.YtdokglckfabdaaaGreatDoor
