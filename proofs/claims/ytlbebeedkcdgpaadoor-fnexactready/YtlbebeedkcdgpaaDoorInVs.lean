/- When an instance is valid: the model's walk. -/
import Derived.Test.YtlbebeedkcdgpaaDoorInV
namespace Go.Proofs.YtlbebeedkcdgpaaDoor
open Go.RowKit Go.PlainAid
set_option linter.unusedVariables false

set_option maxRecDepth 100000 in
set_option maxHeartbeats 1000000 in
theorem spec_inst (x : In) (u d : Value) (w : World) (h : Pts w x u d) :
    Calls Tryd.prog 32 #[.agg #[.int .i64 x.rep, .int .i64 x.slot, .int .i64 x.bal, .int .i64 x.vbal, .int .i64 x.st, .int .i64 x.cmd.kind, .int .i64 x.cmd.client, .int .i64 x.cmd.no, .string x.cmd.set, .string x.cmd.name, .string x.cmd.tag, .int .i64 x.cmd.n, u, .int .i64 x.seq, d, .bool x.same]] w fun e w' => e = .returned (.bool (instB x)) ∧ Below w.heap.size w w' := by
  obtain ⟨⟨a1, n1, c1, rfl⟩, a2, n2, c2, rfl⟩ := h.form
  have PH := Lib.hid h
  have X0 := Lib.hid (Bx.new w 48 #[.int .i64 x.rep, .int .i64 x.slot, .int .i64 x.bal, .int .i64 x.vbal, .int .i64 x.st, .int .i64 x.cmd.kind, .int .i64 x.cmd.client, .int .i64 x.cmd.no, .string x.cmd.set, .string x.cmd.name, .string x.cmd.tag, .int .i64 x.cmd.n, .slice a1 n1 c1, .int .i64 x.seq, .slice a2 n2 c2, .bool x.same] _ rfl)
  have A0 := Lib.hid ((Af.refl w).alloc (.cells #[.int .i64 x.rep, .int .i64 x.slot, .int .i64 x.bal, .int .i64 x.vbal, .int .i64 x.st, .int .i64 x.cmd.kind, .int .i64 x.cmd.client, .int .i64 x.cmd.no, .string x.cmd.set, .string x.cmd.name, .string x.cmd.tag, .int .i64 x.cmd.n, .slice a1 n1 c1, .int .i64 x.seq, .slice a2 n2 c2, .bool x.same] 48))
  clear h
  go_enter Tryd.func32, Tryd.ntmps32
  go_wp2_with fail
  refine (spec_id x.rep x.slot _).mono ?_
  rintro e w1 ⟨rfl, bb⟩
  have X1 := Lib.hid (X0.out.after bb)
  have A1 := Lib.hid (A0.out.after bb)
  clear bb X0 A0
  cases q0 : idB x.rep x.slot
  · have HF := Lib.hid (show instB x = false by rw [instB_eq]; simp [q0])
    go_wp2
    go_ret
    exact ⟨by rw [HF.out]; rfl, A1.out⟩
  obtain ⟨x0, x1, x2, x3, x4, x5, x6, x7, x8, x9, x10, x11, x12, x13, x14, x15⟩ := X1.out.c16
  go_wp2_with fail
  clear x0 x1 x2 x3 x4 x5 x6 x7 x8 x9 x10 x11 x12 x13 x14 x15
  refine (idin_s x.bal (-1) 600 _).mono ?_
  rintro e w2 ⟨rfl, rfl⟩
  have X2 := X1
  have A2 := A1
  clear X1 A1
  cases q1 : iv x.bal (-1) 600
  · have HF := Lib.hid (show instB x = false by rw [instB_eq]; simp [q0, q1])
    go_wp2
    go_ret
    exact ⟨by rw [HF.out]; rfl, A2.out⟩
  obtain ⟨x0, x1, x2, x3, x4, x5, x6, x7, x8, x9, x10, x11, x12, x13, x14, x15⟩ := X2.out.c16
  go_wp2_with fail
  clear x0 x1 x2 x3 x4 x5 x6 x7 x8 x9 x10 x11 x12 x13 x14 x15
  refine (idin_s x.vbal (-1) x.bal _).mono ?_
  rintro e w3 ⟨rfl, rfl⟩
  have X3 := X2
  have A3 := A2
  clear X2 A2
  cases q2 : iv x.vbal (-1) x.bal
  · have HF := Lib.hid (show instB x = false by rw [instB_eq]; simp [q0, q1, q2])
    go_wp2
    go_ret
    exact ⟨by rw [HF.out]; rfl, A3.out⟩
  obtain ⟨x0, x1, x2, x3, x4, x5, x6, x7, x8, x9, x10, x11, x12, x13, x14, x15⟩ := X3.out.c16
  go_wp2_with fail
  clear x0 x1 x2 x3 x4 x5 x6 x7 x8 x9 x10 x11 x12 x13 x14 x15
  refine (idin_s x.st 0 3 _).mono ?_
  rintro e w4 ⟨rfl, rfl⟩
  have X4 := X3
  have A4 := A3
  clear X3 A3
  cases q3 : iv x.st 0 3
  · have HF := Lib.hid (show instB x = false by rw [instB_eq]; simp [q0, q1, q2, q3])
    go_wp2
    go_ret
    exact ⟨by rw [HF.out]; rfl, A4.out⟩
  obtain ⟨x0, x1, x2, x3, x4, x5, x6, x7, x8, x9, x10, x11, x12, x13, x14, x15⟩ := X4.out.c16
  go_wp2_with fail
  clear x0 x1 x2 x3 x4 x5 x6 x7 x8 x9 x10 x11 x12 x13 x14 x15
  refine (spec_ok x.cmd _ _ (PH.out.later A4.out).1 PH.out.2.2.1 PH.out.2.2.2.1 PH.out.2.2.2.2).mono ?_
  rintro e w5 ⟨rfl, bb⟩
  have X5 := Lib.hid (X4.out.after bb)
  have A5 := Lib.hid (A4.out.after bb)
  clear bb X4 A4
  cases q4 : okB x.cmd
  · have HF := Lib.hid (show instB x = false by rw [instB_eq]; simp [q0, q1, q2, q3, q4])
    go_wp2
    go_ret
    exact ⟨by rw [HF.out]; rfl, A5.out⟩
  obtain ⟨x0, x1, x2, x3, x4, x5, x6, x7, x8, x9, x10, x11, x12, x13, x14, x15⟩ := X5.out.c16
  go_wp2_with fail
  clear x0 x1 x2 x3 x4 x5 x6 x7 x8 x9 x10 x11 x12 x13 x14 x15
  refine (idin_s x.seq 0 60 _).mono ?_
  rintro e w6 ⟨rfl, rfl⟩
  have X6 := X5
  have A6 := A5
  clear X5 A5
  cases q5 : iv x.seq 0 60
  · have HF := Lib.hid (show instB x = false by rw [instB_eq]; simp [q0, q1, q2, q3, q4, q5])
    go_wp2
    go_ret
    exact ⟨by rw [HF.out]; rfl, A6.out⟩
  obtain ⟨x0, x1, x2, x3, x4, x5, x6, x7, x8, x9, x10, x11, x12, x13, x14, x15⟩ := X6.out.c16
  go_wp2_with fail
  clear x0 x1 x2 x3 x4 x5 x6 x7 x8 x9 x10 x11 x12 x13 x14 x15
  refine (spec_ids _ x.deps _ (PH.out.later A6.out).2.1).mono ?_
  rintro e w7 ⟨rfl, bb⟩
  have X7 := Lib.hid (X6.out.after bb)
  have A7 := Lib.hid (A6.out.after bb)
  clear bb X6 A6
  cases q6 : idlB x.deps
  · have HF := Lib.hid (show instB x = false by rw [instB_eq]; simp [q0, q1, q2, q3, q4, q5, q6])
    go_wp2
    go_ret
    exact ⟨by rw [HF.out]; rfl, A7.out⟩
  obtain ⟨x0, x1, x2, x3, x4, x5, x6, x7, x8, x9, x10, x11, x12, x13, x14, x15⟩ := X7.out.c16
  go_wp2_with fail
  clear x0 x1 x2 x3 x4 x5 x6 x7 x8 x9 x10 x11 x12 x13 x14 x15
  refine (spec_has _ x.deps x.rep x.slot _ (PH.out.later A7.out).2.1).mono ?_
  rintro e w8 ⟨rfl, bb⟩
  have X8 := Lib.hid (X7.out.after bb)
  have A8 := Lib.hid (A7.out.after bb)
  clear bb X7 A7
  cases q7 : hasB x.deps x.rep x.slot
  case true =>
    have HF := Lib.hid (show instB x = false by rw [instB_eq]; simp [q0, q1, q2, q3, q4, q5, q6, q7])
    go_wp2
    go_ret
    exact ⟨by rw [HF.out]; rfl, A8.out⟩
  have HF := Lib.hid (show instB x = (!(x.st == 0) || unsetB x) by rw [instB_eq]; simp [q0, q1, q2, q3, q4, q5, q6, q7])
  obtain ⟨x0, x1, x2, x3, x4, x5, x6, x7, x8, x9, x10, x11, x12, x13, x14, x15⟩ := X8.out.c16
  by_cases p00 : x.st = 0
  case neg =>
    have p0 : (x.st == 0) = false := ine_no p00
    have p01 : (x.st != 0) = true := by simpa using p00
    go_wp2
    go_ret
    exact ⟨by rw [HF.out, p0]; rfl, A8.out⟩
  have p0 : (x.st == 0) = true := by simpa using p00
  have p01 : (x.st != 0) = false := by simpa using p00
  rw [unsetB_eq, p0] at HF
  have hln : n2 = x.deps.length := by
    obtain ⟨_, _, _, hd, _⟩ := PH.out.2.1
    simp only [Value.slice.injEq] at hd
    exact hd.2.1
  have hn0 : ((n2 : Int) == 0) = (x.deps.length == 0) := by rw [← hln, Bool.eq_iff_iff]; simp
  clear hln
  cases p1 : (x.vbal == -1)
  · go_wp2
    go_ret
    exact ⟨by rw [HF.out, p1]; rfl, A8.out⟩
  cases p2 : (x.cmd.kind == 0)
  · go_wp2
    go_ret
    exact ⟨by rw [HF.out, p1, p2]; rfl, A8.out⟩
  cases p3 : (x.seq == 0)
  · go_wp2
    go_ret
    exact ⟨by rw [HF.out, p1, p2, p3]; rfl, A8.out⟩
  cases p4 : (x.deps.length == 0)
  · rw [p4] at hn0
    go_wp2
    go_ret
    exact ⟨by rw [HF.out, p1, p2, p3, p4]; rfl, A8.out⟩
  rw [p4] at hn0
  go_wp2
  go_ret
  exact ⟨by rw [HF.out, p1, p2, p3, p4]; rfl, A8.out⟩
end Go.Proofs.YtlbebeedkcdgpaaDoor
