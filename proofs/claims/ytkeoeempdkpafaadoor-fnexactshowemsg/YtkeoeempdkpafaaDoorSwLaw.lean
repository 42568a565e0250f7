/- The law over ShowEMsg and its model: it returns true. -/
import Derived.Test.YtkeoeempdkpafaaDoorEm
import Derived.Test.YtkeoeempdkpafaaDoorWw
import Derived.Test.YtkeoeempdkpafaaDoorSw
namespace Go.Proofs.YtkeoeempdkpafaaDoor
open Go.RowKit Go.PlainAid
set_option linter.unusedVariables false

attribute [local go_sem] blkO_eq aggO_eq okA_mk World.setRow_alloc_new
attribute [local go_sem ↓] load_emsg_pre load_lmsg_pre store_emsg_pre
set_option maxRecDepth 100000 in
set_option maxHeartbeats 8000000 in
theorem law_showE (x : Em) (u d : Value) (a : Addr) (w : World) (h : Pts w x.i u d) (hS : Sent w a) :
    Calls Tryd.prog 3 #[.agg #[.int .i64 x.kind, .int .i64 x.frm, .int .i64 x.dst, .int .i64 x.i.rep, .int .i64 x.i.slot, .int .i64 x.i.bal, .int .i64 x.i.cmd.kind, .int .i64 x.i.cmd.client, .int .i64 x.i.cmd.no, .string x.i.cmd.set, .string x.i.cmd.name, .string x.i.cmd.tag, .int .i64 x.i.cmd.n, u, .int .i64 x.i.seq, d, .int .i64 x.i.st, .int .i64 x.i.vbal, .bool x.i.same]] w fun e w' => e = .returned (.bool true) ∧ Below w.heap.size w w' := by
  obtain ⟨⟨a1, n1, c1, rfl⟩, a2, n2, c2, rfl⟩ := h.form
  have P := Lib.hid h
  have HS := Lib.hid hS
  have X := Lib.hid (Bx.new w 29 #[.int .i64 x.kind, .int .i64 x.frm, .int .i64 x.dst, .int .i64 x.i.rep, .int .i64 x.i.slot, .int .i64 x.i.bal, .int .i64 x.i.cmd.kind, .int .i64 x.i.cmd.client, .int .i64 x.i.cmd.no, .string x.i.cmd.set, .string x.i.cmd.name, .string x.i.cmd.tag, .int .i64 x.i.cmd.n, .slice a1 n1 c1, .int .i64 x.i.seq, .slice a2 n2 c2, .int .i64 x.i.st, .int .i64 x.i.vbal, .bool x.i.same] _ rfl)
  have A := Lib.hid ((Af.refl w).alloc (.cells #[.int .i64 x.kind, .int .i64 x.frm, .int .i64 x.dst, .int .i64 x.i.rep, .int .i64 x.i.slot, .int .i64 x.i.bal, .int .i64 x.i.cmd.kind, .int .i64 x.i.cmd.client, .int .i64 x.i.cmd.no, .string x.i.cmd.set, .string x.i.cmd.name, .string x.i.cmd.tag, .int .i64 x.i.cmd.n, .slice a1 n1 c1, .int .i64 x.i.seq, .slice a2 n2 c2, .int .i64 x.i.st, .int .i64 x.i.vbal, .bool x.i.same] 29))
  clear h hS
  go_enter Tryd.func3, Tryd.ntmps3
  obtain ⟨rX1, rX2⟩ := X.out.row rfl
  go_wp2_with fail
  clear rX1 rX2
  refine (sz_emsg x _ _ 1048576 _ (P.out.later A.out) (by omega) (by omega)).mono ?_
  rintro e w1 ⟨hsz, bb⟩
  have X := Lib.hid (X.out.after bb)
  have A := Lib.hid (A.out.after bb)
  clear bb
  rcases hsz with rfl | ⟨ra, rfl, ra0, ra1, ra2, ra3⟩
  · go_wp2
    go_ret
    exact ⟨rfl, A.out⟩
  have hra : decide (ra < 0) = false := dec_f (by omega)
  have HX := Lib.hid (show x.i.cmd.ch.length ≤ 1048576 ∧ x.i.deps.length ≤ 1048576 by omega)
  clear ra1 ra2 ra3
  obtain ⟨rX1, rX2⟩ := X.out.row rfl
  go_wp2_with fail
  clear rX1 rX2
  refine (to_emsg x _ _ _ (P.out.later A.out) HX.out.1 HX.out.2).mono ?_
  rintro e w2 ⟨⟨a3, n3, c3, a4, n4, c4, rfl, pp⟩, bb⟩
  have X := Lib.hid (X.out.after bb)
  have A := Lib.hid (A.out.after bb)
  have P2 := Lib.hid pp.pts
  clear bb pp
  go_wp2_with fail
  refine (spec_showE x _ _ _ P2.out HX.out.2).mono ?_
  rintro e w3 ⟨rfl, bb⟩
  have X := Lib.hid (X.out.after bb)
  have A := Lib.hid (A.out.after bb)
  clear bb P2
  obtain ⟨rX1, rX2⟩ := X.out.row rfl
  go_wp2_with fail
  clear rX1 rX2
  refine (to_emsg x _ _ _ (P.out.later A.out) HX.out.1 HX.out.2).mono ?_
  rintro e w4 ⟨⟨a5, n5, c5, a6, n6, c6, rfl, pp⟩, bb⟩
  have X := Lib.hid ((X.out.after bb).alloc (.cells #[.int .i64 x.kind, .int .i64 x.frm, .int .i64 x.dst, .int .i64 x.i.rep, .int .i64 x.i.slot, .int .i64 x.i.bal, .int .i64 x.i.cmd.kind, .int .i64 x.i.cmd.client, .int .i64 x.i.cmd.no, .string x.i.cmd.set, .string x.i.cmd.name, .string x.i.cmd.tag, .int .i64 x.i.cmd.n, .slice a5 n5 c5, .int .i64 x.i.seq, .slice a6 n6 c6, .int .i64 x.i.st, .int .i64 x.i.vbal, .bool x.i.same] 36))
  have A := Lib.hid ((A.out.after bb).alloc (.cells #[.int .i64 x.kind, .int .i64 x.frm, .int .i64 x.dst, .int .i64 x.i.rep, .int .i64 x.i.slot, .int .i64 x.i.bal, .int .i64 x.i.cmd.kind, .int .i64 x.i.cmd.client, .int .i64 x.i.cmd.no, .string x.i.cmd.set, .string x.i.cmd.name, .string x.i.cmd.tag, .int .i64 x.i.cmd.n, .slice a5 n5 c5, .int .i64 x.i.seq, .slice a6 n6 c6, .int .i64 x.i.st, .int .i64 x.i.vbal, .bool x.i.same] 36))
  have U := Lib.hid (Bx.new w4 36 #[.int .i64 x.kind, .int .i64 x.frm, .int .i64 x.dst, .int .i64 x.i.rep, .int .i64 x.i.slot, .int .i64 x.i.bal, .int .i64 x.i.cmd.kind, .int .i64 x.i.cmd.client, .int .i64 x.i.cmd.no, .string x.i.cmd.set, .string x.i.cmd.name, .string x.i.cmd.tag, .int .i64 x.i.cmd.n, .slice a5 n5 c5, .int .i64 x.i.seq, .slice a6 n6 c6, .int .i64 x.i.st, .int .i64 x.i.vbal, .bool x.i.same] _ rfl)
  have PU := Lib.hid (pp.pts.alloc (.cells #[.int .i64 x.kind, .int .i64 x.frm, .int .i64 x.dst, .int .i64 x.i.rep, .int .i64 x.i.slot, .int .i64 x.i.bal, .int .i64 x.i.cmd.kind, .int .i64 x.i.cmd.client, .int .i64 x.i.cmd.no, .string x.i.cmd.set, .string x.i.cmd.name, .string x.i.cmd.tag, .int .i64 x.i.cmd.n, .slice a5 n5 c5, .int .i64 x.i.seq, .slice a6 n6 c6, .int .i64 x.i.st, .int .i64 x.i.vbal, .bool x.i.same] 36))
  clear bb pp
  have hz4 := rowP_new w4
  obtain ⟨rU1, rU2⟩ := U.out.row rfl
  go_wp2_with fail
  clear rU1 rU2
  clear hz4
  refine (impl_showE x _ _ a _ PU.out (HS.out.later A.out) HX.out.2).mono ?_
  rintro e w5 ⟨rfl, bb⟩
  have X := Lib.hid (X.out.after bb)
  have A := Lib.hid (A.out.after bb)
  have U := Lib.hid (U.out.after bb)
  have PU := Lib.hid (PU.out.later bb)
  clear bb
  go_wp2_with fail
  have X := Lib.hid X.out.drew; have A := Lib.hid A.out.drew; have U := Lib.hid U.out.drew
  have PU := Lib.hid (PU.out.later (Below.refl _ _).drew)
  refine wp_region_noPanic ?_
  refine wp_region_takes (T := fun _ => false) (S := fun w' => Bx w' w4.heap.size 36 #[.int .i64 x.kind, .int .i64 x.frm, .int .i64 x.dst, .int .i64 x.i.rep, .int .i64 x.i.slot, .int .i64 x.i.bal, .int .i64 x.i.cmd.kind, .int .i64 x.i.cmd.client, .int .i64 x.i.cmd.no, .string x.i.cmd.set, .string x.i.cmd.name, .string x.i.cmd.tag, .int .i64 x.i.cmd.n, .slice a5 n5 c5, .int .i64 x.i.seq, .slice a6 n6 c6, .int .i64 x.i.st, .int .i64 x.i.vbal, .bool x.i.same] ∧ Bx w' w.heap.size 29 #[.int .i64 x.kind, .int .i64 x.frm, .int .i64 x.dst, .int .i64 x.i.rep, .int .i64 x.i.slot, .int .i64 x.i.bal, .int .i64 x.i.cmd.kind, .int .i64 x.i.cmd.client, .int .i64 x.i.cmd.no, .string x.i.cmd.set, .string x.i.cmd.name, .string x.i.cmd.tag, .int .i64 x.i.cmd.n, .slice a1 n1 c1, .int .i64 x.i.seq, .slice a2 n2 c2, .int .i64 x.i.st, .int .i64 x.i.vbal, .bool x.i.same]) [0, 1] [2, 3, 4] (by kernel_rfl) (by kernel_rfl) (by kernel_rfl) (by kernel_rfl) (fun _ _ _ _ _ h => h) ⟨U.out, X.out⟩ ?_
  refine wpTakes_step (v := .agg #[.int .i64 x.kind, .int .i64 x.frm, .int .i64 x.dst, .int .i64 x.i.rep, .int .i64 x.i.slot, .int .i64 x.i.bal, .int .i64 x.i.cmd.kind, .int .i64 x.i.cmd.client, .int .i64 x.i.cmd.no, .string x.i.cmd.set, .string x.i.cmd.name, .string x.i.cmd.tag, .int .i64 x.i.cmd.n, .slice a5 n5 c5, .int .i64 x.i.seq, .slice a6 n6 c6, .int .i64 x.i.st, .int .i64 x.i.vbal, .bool x.i.same]) rfl rfl (fun w' hS => exec_load_emsg rfl hS.1 rfl) ?_
  refine wpTakes_step (v := .agg #[.int .i64 x.kind, .int .i64 x.frm, .int .i64 x.dst, .int .i64 x.i.rep, .int .i64 x.i.slot, .int .i64 x.i.bal, .int .i64 x.i.cmd.kind, .int .i64 x.i.cmd.client, .int .i64 x.i.cmd.no, .string x.i.cmd.set, .string x.i.cmd.name, .string x.i.cmd.tag, .int .i64 x.i.cmd.n, .slice a1 n1 c1, .int .i64 x.i.seq, .slice a2 n2 c2, .int .i64 x.i.st, .int .i64 x.i.vbal, .bool x.i.same]) rfl rfl (fun w' hS => exec_load_lmsg rfl hS.2 rfl) ?_
  simp only [Act.put, List.setIfInBounds_toArray]
  unfold wpTakes
  refine wpSeqT_step rfl ?_
  go_wp2_with fail
  refine (to_emsg x _ _ _ (P.out.later A.out) HX.out.1 HX.out.2).mono ?_
  rintro e w6 ⟨⟨a7, n7, c7, a8, n8, c8, rfl, pp⟩, bb⟩
  have X := Lib.hid (X.out.after bb); have A := Lib.hid (A.out.after bb); have U := Lib.hid (U.out.after bb)
  have PU := Lib.hid (PU.out.later bb)
  have PT := Lib.hid pp.pts
  clear bb pp
  go_wp2
  refine ⟨fun _ => ⟨U.out, X.out⟩, ?_⟩
  refine wpSeqT_step rfl ?_
  go_wp2_with fail
  refine (eq_emsg_yes x _ _ _ _ _ PU.out PT.out).mono ?_
  rintro e w7 ⟨rfl, bb⟩
  have X := Lib.hid (X.out.after bb); have A := Lib.hid (A.out.after bb); have U := Lib.hid (U.out.after bb)
  have PU := Lib.hid (PU.out.later bb)
  clear bb PT
  go_wp2
  refine ⟨fun _ => ⟨U.out, X.out⟩, ?_⟩
  refine wpSeqT_step rfl ?_
  go_wp2
  refine ⟨fun _ => ⟨U.out, X.out⟩, ?_⟩
  unfold wpSeqT
  refine NoPanic.normal ?_
  go_wp2
  go_ret
  exact ⟨rfl, A.out⟩
end Go.Proofs.YtkeoeempdkpafaaDoor
