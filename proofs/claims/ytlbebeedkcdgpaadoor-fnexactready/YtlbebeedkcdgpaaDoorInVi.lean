/- When an instance is valid: the program's walk. -/
import Derived.Test.YtlbebeedkcdgpaaDoorInV
namespace Go.Proofs.YtlbebeedkcdgpaaDoor
open Go.RowKit Go.PlainAid
set_option linter.unusedVariables false

set_option maxRecDepth 100000 in
set_option maxHeartbeats 1000000 in
theorem impl_inst (x : In) (u d : Value) (a : Addr) (w : World) (h : Pts w x u d) (hS : Sent w a) :
    Calls Tryd.prog 54 #[.agg #[.int .i64 x.rep, .int .i64 x.slot, .int .i64 x.bal, .int .i64 x.vbal, .int .i64 x.st, .int .i64 x.cmd.kind, .int .i64 x.cmd.client, .int .i64 x.cmd.no, .string x.cmd.set, .string x.cmd.name, .string x.cmd.tag, .int .i64 x.cmd.n, u, .int .i64 x.seq, d, .bool x.same]] w fun e w' => e = .returned (.bool (instB x)) ∧ Below w.heap.size w w' := by
  obtain ⟨⟨a1, n1, c1, rfl⟩, a2, n2, c2, rfl⟩ := h.form
  have PH := Lib.hid h
  have X0 := Lib.hid (Bx.new w 48 #[.int .i64 x.rep, .int .i64 x.slot, .int .i64 x.bal, .int .i64 x.vbal, .int .i64 x.st, .int .i64 x.cmd.kind, .int .i64 x.cmd.client, .int .i64 x.cmd.no, .string x.cmd.set, .string x.cmd.name, .string x.cmd.tag, .int .i64 x.cmd.n, .slice a1 n1 c1, .int .i64 x.seq, .slice a2 n2 c2, .bool x.same] _ rfl)
  have A0 := Lib.hid ((Af.refl w).alloc (.cells #[.int .i64 x.rep, .int .i64 x.slot, .int .i64 x.bal, .int .i64 x.vbal, .int .i64 x.st, .int .i64 x.cmd.kind, .int .i64 x.cmd.client, .int .i64 x.cmd.no, .string x.cmd.set, .string x.cmd.name, .string x.cmd.tag, .int .i64 x.cmd.n, .slice a1 n1 c1, .int .i64 x.seq, .slice a2 n2 c2, .bool x.same] 48))
  have HS := Lib.hid hS
  clear hS
  clear h
  go_enter Tryd.func54, Tryd.ntmps54
  go_wp2_with fail
  refine (impl_id x.rep x.slot _).mono ?_
  rintro e w1 ⟨rfl, bb⟩
  have X1 := Lib.hid (X0.out.after bb)
  have A1 := Lib.hid (A0.out.after bb)
  clear bb X0 A0
  cases q0 : idB x.rep x.slot
  · have HF := Lib.hid (show instB x = false by rw [instB_eq]; simp [q0])
    go_wp2
    go_ret
    exact ⟨by rw [HF.out]; rfl, A1.out⟩
  obtain ⟨x0, x1, x2, x3, x4, x5, x6, x7, x8, x9, x10, x11, x12, x13, x14, x15⟩ := X1.out.c16
  go_wp2_with fail
  clear x0 x1 x2 x3 x4 x5 x6 x7 x8 x9 x10 x11 x12 x13 x14 x15
  refine (idin_i x.bal (-1) 600 _).mono ?_
  rintro e w2 ⟨rfl, rfl⟩
  have X2 := X1
  have A2 := A1
  clear X1 A1
  cases q1 : iv x.bal (-1) 600
  · have HF := Lib.hid (show instB x = false by rw [instB_eq]; simp [q0, q1])
    go_wp2
    go_ret
    exact ⟨by rw [HF.out]; rfl, A2.out⟩
  obtain ⟨x0, x1, x2, x3, x4, x5, x6, x7, x8, x9, x10, x11, x12, x13, x14, x15⟩ := X2.out.c16
  go_wp2_with fail
  clear x0 x1 x2 x3 x4 x5 x6 x7 x8 x9 x10 x11 x12 x13 x14 x15
  refine (idin_i x.vbal (-1) x.bal _).mono ?_
  rintro e w3 ⟨rfl, rfl⟩
  have X3 := X2
  have A3 := A2
  clear X2 A2
  cases q2 : iv x.vbal (-1) x.bal
  · have HF := Lib.hid (show instB x = false by rw [instB_eq]; simp [q0, q1, q2])
    go_wp2
    go_ret
    exact ⟨by rw [HF.out]; rfl, A3.out⟩
  obtain ⟨x0, x1, x2, x3, x4, x5, x6, x7, x8, x9, x10, x11, x12, x13, x14, x15⟩ := X3.out.c16
  go_wp2_with fail
  clear x0 x1 x2 x3 x4 x5 x6 x7 x8 x9 x10 x11 x12 x13 x14 x15
  refine (idin_i x.st 0 3 _).mono ?_
  rintro e w4 ⟨rfl, rfl⟩
  have X4 := X3
  have A4 := A3
  clear X3 A3
  cases q3 : iv x.st 0 3
  · have HF := Lib.hid (show instB x = false by rw [instB_eq]; simp [q0, q1, q2, q3])
    go_wp2
    go_ret
    exact ⟨by rw [HF.out]; rfl, A4.out⟩
  obtain ⟨x0, x1, x2, x3, x4, x5, x6, x7, x8, x9, x10, x11, x12, x13, x14, x15⟩ := X4.out.c16
  go_wp2_with fail
  clear x0 x1 x2 x3 x4 x5 x6 x7 x8 x9 x10 x11 x12 x13 x14 x15
  refine (cmd_ok x.cmd _ a _ (PH.out.later A4.out).1 (HS.out.later A4.out) PH.out.2.2.1 PH.out.2.2.2.1 PH.out.2.2.2.2).mono ?_
  rintro e w5 ⟨rfl, bb⟩
  have X5 := Lib.hid (X4.out.after bb)
  have A5 := Lib.hid (A4.out.after bb)
  clear bb X4 A4
  cases q4 : okB x.cmd
  · have HF := Lib.hid (show instB x = false by rw [instB_eq]; simp [q0, q1, q2, q3, q4])
    go_wp2
    go_ret
    exact ⟨by rw [HF.out]; rfl, A5.out⟩
  obtain ⟨x0, x1, x2, x3, x4, x5, x6, x7, x8, x9, x10, x11, x12, x13, x14, x15⟩ := X5.out.c16
  go_wp2_with fail
  clear x0 x1 x2 x3 x4 x5 x6 x7 x8 x9 x10 x11 x12 x13 x14 x15
  refine (idin_i x.seq 0 60 _).mono ?_
  rintro e w6 ⟨rfl, rfl⟩
  have X6 := X5
  have A6 := A5
  clear X5 A5
  cases q5 : iv x.seq 0 60
  · have HF := Lib.hid (show instB x = false by rw [instB_eq]; simp [q0, q1, q2, q3, q4, q5])
    go_wp2
    go_ret
    exact ⟨by rw [HF.out]; rfl, A6.out⟩
  obtain ⟨x0, x1, x2, x3, x4, x5, x6, x7, x8, x9, x10, x11, x12, x13, x14, x15⟩ := X6.out.c16
  go_wp2_with fail
  clear x0 x1 x2 x3 x4 x5 x6 x7 x8 x9 x10 x11 x12 x13 x14 x15
  refine (impl_deps _ x.deps x.rep x.slot _ (PH.out.later A6.out).2.1).mono ?_
  rintro e w8 ⟨rfl, bb⟩
  have X8 := Lib.hid (X6.out.after bb)
  have A8 := Lib.hid (A6.out.after bb)
  clear bb X6 A6
  cases q9 : (idlB x.deps && !hasB x.deps x.rep x.slot)
  · have HF := Lib.hid (show instB x = false by rw [instB_eq, ← Bool.and_assoc (idlB x.deps), q9]; simp)
    go_wp2
    go_ret
    exact ⟨by rw [HF.out]; rfl, A8.out⟩
  obtain ⟨q6, q7⟩ : idlB x.deps = true ∧ hasB x.deps x.rep x.slot = false := by simpa using q9
  have HF := Lib.hid (show instB x = (!(x.st == 0) || unsetB x) by rw [instB_eq]; simp [q0, q1, q2, q3, q4, q5, q6, q7])
  obtain ⟨x0, x1, x2, x3, x4, x5, x6, x7, x8, x9, x10, x11, x12, x13, x14, x15⟩ := X8.out.c16
  by_cases p00 : x.st = 0
  case neg =>
    have p0 : (x.st == 0) = false := ine_no p00
    have p01 : (x.st != 0) = true := by simpa using p00
    go_wp2
    go_ret
    exact ⟨by rw [HF.out, p0]; rfl, A8.out⟩
  case pos =>
    have p0 : (x.st == 0) = true := by simpa using p00
    have p01 : (x.st != 0) = false := by simpa using p00
    have HU := Lib.hid (fun W (hb : Af w W) => (by have := impl_unset x _ _ W (PH.out.later hb); rw [p00] at this; exact this))
    go_wp2_with fail
    clear x0 x1 x2 x3 x4 x5 x6 x7 x8 x9 x10 x11 x12 x13 x14 x15
    refine (HU.out _ A8.out).mono ?_
    rintro e w9 ⟨rfl, bb⟩
    have A9 := Lib.hid (A8.out.after bb)
    clear bb
    go_wp2
    go_ret
    exact ⟨by rw [HF.out, p0]; rfl, A9.out⟩
end Go.Proofs.YtlbebeedkcdgpaaDoor
