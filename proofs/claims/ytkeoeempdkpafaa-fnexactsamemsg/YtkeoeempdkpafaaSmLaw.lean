/- The law over SameMsg and its model: it returns true. -/
import Derived.Test.YtkeoeempdkpafaaEmE
import Derived.Test.YtkeoeempdkpafaaEmTo
import Derived.Test.YtkeoeempdkpafaaSmE
import Derived.Test.YtkeoeempdkpafaaSmS
import Derived.Test.YtkeoeempdkpafaaQTake
namespace Go.Proofs.Ytkeoeempdkpafaa
open Go.RowKit Go.PlainAid
set_option linter.unusedVariables false

attribute [local go_sem] blkO_eq aggO_eq okA_mk World.setRow_alloc_new
attribute [local go_sem ↓] load_emsg_pre load_lmsg_pre store_emsg_pre
set_option maxRecDepth 100000 in
set_option maxHeartbeats 8000000 in
theorem law_sameMsg (x y : Em) (u d u' d' : Value) (w : World) (h : Pts w x.i u d) (h' : Pts w y.i u' d') :
    Calls Try.prog 3 #[.agg #[.int .i64 x.kind, .int .i64 x.frm, .int .i64 x.dst, .int .i64 x.i.rep, .int .i64 x.i.slot, .int .i64 x.i.bal, .int .i64 x.i.cmd.kind, .int .i64 x.i.cmd.client, .int .i64 x.i.cmd.no, .string x.i.cmd.set, .string x.i.cmd.name, .string x.i.cmd.tag, .int .i64 x.i.cmd.n, u, .int .i64 x.i.seq, d, .int .i64 x.i.st, .int .i64 x.i.vbal, .bool x.i.same], .agg #[.int .i64 y.kind, .int .i64 y.frm, .int .i64 y.dst, .int .i64 y.i.rep, .int .i64 y.i.slot, .int .i64 y.i.bal, .int .i64 y.i.cmd.kind, .int .i64 y.i.cmd.client, .int .i64 y.i.cmd.no, .string y.i.cmd.set, .string y.i.cmd.name, .string y.i.cmd.tag, .int .i64 y.i.cmd.n, u', .int .i64 y.i.seq, d', .int .i64 y.i.st, .int .i64 y.i.vbal, .bool y.i.same]] w fun e w' => e = .returned (.bool true) ∧ Below w.heap.size w w' := by
  obtain ⟨⟨a1, n1, c1, rfl⟩, a2, n2, c2, rfl⟩ := h.form
  obtain ⟨⟨a3, n3, c3, rfl⟩, a4, n4, c4, rfl⟩ := h'.form
  have P := Lib.hid h
  have P' := Lib.hid h'
  have X := Lib.hid ((Bx.new w 29 #[.int .i64 x.kind, .int .i64 x.frm, .int .i64 x.dst, .int .i64 x.i.rep, .int .i64 x.i.slot, .int .i64 x.i.bal, .int .i64 x.i.cmd.kind, .int .i64 x.i.cmd.client, .int .i64 x.i.cmd.no, .string x.i.cmd.set, .string x.i.cmd.name, .string x.i.cmd.tag, .int .i64 x.i.cmd.n, .slice a1 n1 c1, .int .i64 x.i.seq, .slice a2 n2 c2, .int .i64 x.i.st, .int .i64 x.i.vbal, .bool x.i.same] _ rfl).alloc (.cells #[.int .i64 y.kind, .int .i64 y.frm, .int .i64 y.dst, .int .i64 y.i.rep, .int .i64 y.i.slot, .int .i64 y.i.bal, .int .i64 y.i.cmd.kind, .int .i64 y.i.cmd.client, .int .i64 y.i.cmd.no, .string y.i.cmd.set, .string y.i.cmd.name, .string y.i.cmd.tag, .int .i64 y.i.cmd.n, .slice a3 n3 c3, .int .i64 y.i.seq, .slice a4 n4 c4, .int .i64 y.i.st, .int .i64 y.i.vbal, .bool y.i.same] 29))
  have Y := Lib.hid (Bx.new (w.alloc (.cells #[.int .i64 x.kind, .int .i64 x.frm, .int .i64 x.dst, .int .i64 x.i.rep, .int .i64 x.i.slot, .int .i64 x.i.bal, .int .i64 x.i.cmd.kind, .int .i64 x.i.cmd.client, .int .i64 x.i.cmd.no, .string x.i.cmd.set, .string x.i.cmd.name, .string x.i.cmd.tag, .int .i64 x.i.cmd.n, .slice a1 n1 c1, .int .i64 x.i.seq, .slice a2 n2 c2, .int .i64 x.i.st, .int .i64 x.i.vbal, .bool x.i.same] 29)) 29 #[.int .i64 y.kind, .int .i64 y.frm, .int .i64 y.dst, .int .i64 y.i.rep, .int .i64 y.i.slot, .int .i64 y.i.bal, .int .i64 y.i.cmd.kind, .int .i64 y.i.cmd.client, .int .i64 y.i.cmd.no, .string y.i.cmd.set, .string y.i.cmd.name, .string y.i.cmd.tag, .int .i64 y.i.cmd.n, .slice a3 n3 c3, .int .i64 y.i.seq, .slice a4 n4 c4, .int .i64 y.i.st, .int .i64 y.i.vbal, .bool y.i.same] (w.heap.size + 1) (by simp))
  have A := Lib.hid (((Af.refl w).alloc (.cells #[.int .i64 x.kind, .int .i64 x.frm, .int .i64 x.dst, .int .i64 x.i.rep, .int .i64 x.i.slot, .int .i64 x.i.bal, .int .i64 x.i.cmd.kind, .int .i64 x.i.cmd.client, .int .i64 x.i.cmd.no, .string x.i.cmd.set, .string x.i.cmd.name, .string x.i.cmd.tag, .int .i64 x.i.cmd.n, .slice a1 n1 c1, .int .i64 x.i.seq, .slice a2 n2 c2, .int .i64 x.i.st, .int .i64 x.i.vbal, .bool x.i.same] 29)).alloc (.cells #[.int .i64 y.kind, .int .i64 y.frm, .int .i64 y.dst, .int .i64 y.i.rep, .int .i64 y.i.slot, .int .i64 y.i.bal, .int .i64 y.i.cmd.kind, .int .i64 y.i.cmd.client, .int .i64 y.i.cmd.no, .string y.i.cmd.set, .string y.i.cmd.name, .string y.i.cmd.tag, .int .i64 y.i.cmd.n, .slice a3 n3 c3, .int .i64 y.i.seq, .slice a4 n4 c4, .int .i64 y.i.st, .int .i64 y.i.vbal, .bool y.i.same] 29))
  clear h h'
  go_enter Try.func3, Try.ntmps3
  obtain ⟨rX1, rX2⟩ := X.out.row rfl
  obtain ⟨rY1, rY2⟩ := Y.out.row rfl
  go_wp2_with fail
  clear rX1 rX2 rY1 rY2
  refine (sz_emsg x _ _ 1048576 _ (P.out.later A.out) (by omega) (by omega)).mono ?_
  rintro e w1 ⟨hsz, bb⟩
  have X := Lib.hid (X.out.after bb)
  have Y := Lib.hid (Y.out.after bb)
  have A := Lib.hid (A.out.after bb)
  clear bb
  rcases hsz with rfl | ⟨ra, rfl, ra0, ra1, ra2, ra3⟩
  · go_wp2
    go_ret
    exact ⟨rfl, A.out⟩
  have hra : decide (ra < 0) = false := decide_eq_false (by omega)
  obtain ⟨rX1, rX2⟩ := X.out.row rfl
  obtain ⟨rY1, rY2⟩ := Y.out.row rfl
  go_wp2_with fail
  clear rX1 rX2 rY1 rY2
  refine (sz_emsg y _ _ ra _ (P'.out.later A.out) (by omega) (by omega)).mono ?_
  rintro e w2 ⟨hsz, bb⟩
  have X := Lib.hid (X.out.after bb)
  have Y := Lib.hid (Y.out.after bb)
  have A := Lib.hid (A.out.after bb)
  clear bb
  rcases hsz with rfl | ⟨rb, rfl, rb0, rb1, rb2, rb3⟩
  · go_wp2
    go_ret
    exact ⟨rfl, A.out⟩
  have hrb : decide (rb < 0) = false := decide_eq_false (by omega)
  have HX := Lib.hid (show x.i.cmd.ch.length ≤ 1048576 ∧ x.i.deps.length ≤ 1048576 by omega)
  have HY := Lib.hid (show y.i.cmd.ch.length ≤ 1048576 ∧ y.i.deps.length ≤ 1048576 by omega)
  clear ra1 ra2 ra3 rb1 rb2 rb3
  go_wp2_with fail
  have X := Lib.hid X.out.drew; have Y := Lib.hid Y.out.drew; have A := Lib.hid A.out.drew
  refine wp_region_noPanic ?_
  refine wp_region_takes (T := fun _ => false) (S := fun w' => Bx w' w.heap.size 29 #[.int .i64 x.kind, .int .i64 x.frm, .int .i64 x.dst, .int .i64 x.i.rep, .int .i64 x.i.slot, .int .i64 x.i.bal, .int .i64 x.i.cmd.kind, .int .i64 x.i.cmd.client, .int .i64 x.i.cmd.no, .string x.i.cmd.set, .string x.i.cmd.name, .string x.i.cmd.tag, .int .i64 x.i.cmd.n, .slice a1 n1 c1, .int .i64 x.i.seq, .slice a2 n2 c2, .int .i64 x.i.st, .int .i64 x.i.vbal, .bool x.i.same] ∧ Bx w' (w.heap.size + 1) 29 #[.int .i64 y.kind, .int .i64 y.frm, .int .i64 y.dst, .int .i64 y.i.rep, .int .i64 y.i.slot, .int .i64 y.i.bal, .int .i64 y.i.cmd.kind, .int .i64 y.i.cmd.client, .int .i64 y.i.cmd.no, .string y.i.cmd.set, .string y.i.cmd.name, .string y.i.cmd.tag, .int .i64 y.i.cmd.n, .slice a3 n3 c3, .int .i64 y.i.seq, .slice a4 n4 c4, .int .i64 y.i.st, .int .i64 y.i.vbal, .bool y.i.same]) [0, 2] [1, 3, 4, 5] (by kernel_rfl) (by kernel_rfl) (by kernel_rfl) (by kernel_rfl) (fun _ _ _ _ _ h => h) ⟨X.out, Y.out⟩ ?_
  refine wpTakes_step (v := .agg #[.int .i64 x.kind, .int .i64 x.frm, .int .i64 x.dst, .int .i64 x.i.rep, .int .i64 x.i.slot, .int .i64 x.i.bal, .int .i64 x.i.cmd.kind, .int .i64 x.i.cmd.client, .int .i64 x.i.cmd.no, .string x.i.cmd.set, .string x.i.cmd.name, .string x.i.cmd.tag, .int .i64 x.i.cmd.n, .slice a1 n1 c1, .int .i64 x.i.seq, .slice a2 n2 c2, .int .i64 x.i.st, .int .i64 x.i.vbal, .bool x.i.same]) rfl rfl (fun w' hS => exec_load_lmsg rfl hS.1 rfl) ?_
  refine wpTakes_step (v := .agg #[.int .i64 y.kind, .int .i64 y.frm, .int .i64 y.dst, .int .i64 y.i.rep, .int .i64 y.i.slot, .int .i64 y.i.bal, .int .i64 y.i.cmd.kind, .int .i64 y.i.cmd.client, .int .i64 y.i.cmd.no, .string y.i.cmd.set, .string y.i.cmd.name, .string y.i.cmd.tag, .int .i64 y.i.cmd.n, .slice a3 n3 c3, .int .i64 y.i.seq, .slice a4 n4 c4, .int .i64 y.i.st, .int .i64 y.i.vbal, .bool y.i.same]) rfl rfl (fun w' hS => exec_load_lmsg rfl hS.2 rfl) ?_
  simp only [Act.put, List.setIfInBounds_toArray]
  unfold wpTakes
  refine wpSeqT_step rfl ?_
  go_wp2_with fail
  refine (to_emsg x _ _ _ (P.out.later A.out) HX.out.1 HX.out.2).mono ?_
  rintro e w3 ⟨⟨a5, n5, c5, a6, n6, c6, rfl, p3⟩, bb⟩
  have X := Lib.hid (X.out.after bb); have Y := Lib.hid (Y.out.after bb); have A := Lib.hid (A.out.after bb)
  have P3 := Lib.hid p3.pts
  clear bb p3
  go_wp2
  refine ⟨fun _ => ⟨X.out, Y.out⟩, ?_⟩
  refine wpSeqT_step rfl ?_
  go_wp2_with fail
  refine (to_emsg y _ _ _ (P'.out.later A.out) HY.out.1 HY.out.2).mono ?_
  rintro e w4 ⟨⟨a7, n7, c7, a8, n8, c8, rfl, p4⟩, bb⟩
  have X := Lib.hid (X.out.after bb); have Y := Lib.hid (Y.out.after bb); have A := Lib.hid (A.out.after bb)
  have P3 := Lib.hid (P3.out.later bb)
  have P4 := Lib.hid p4.pts
  clear bb p4
  go_wp2
  refine ⟨fun _ => ⟨X.out, Y.out⟩, ?_⟩
  refine wpSeqT_step rfl ?_
  go_wp2_with fail
  refine (spec_sameMsg x y _ _ _ _ _ P3.out P4.out).mono ?_
  rintro e w5 ⟨rfl, bb⟩
  have X := Lib.hid (X.out.after bb); have Y := Lib.hid (Y.out.after bb); have A := Lib.hid (A.out.after bb)
  clear bb P3 P4
  go_wp2
  refine ⟨fun _ => ⟨X.out, Y.out⟩, ?_⟩
  refine wpSeqT_step rfl ?_
  go_wp2
  refine ⟨fun _ => ⟨X.out, Y.out⟩, ?_⟩
  unfold wpSeqT
  refine NoPanic.normal ?_
  obtain ⟨rX1, rX2⟩ := X.out.row rfl
  obtain ⟨rY1, rY2⟩ := Y.out.row rfl
  go_wp2_with fail
  clear rX1 rX2 rY1 rY2
  refine (to_emsg x _ _ _ (P.out.later A.out) HX.out.1 HX.out.2).mono ?_
  rintro e w6 ⟨⟨a9, n9, c9, a10, n10, c10, rfl, pp⟩, bb⟩
  have X := Lib.hid ((X.out.after bb).alloc (.cells #[.int .i64 x.kind, .int .i64 x.frm, .int .i64 x.dst, .int .i64 x.i.rep, .int .i64 x.i.slot, .int .i64 x.i.bal, .int .i64 x.i.cmd.kind, .int .i64 x.i.cmd.client, .int .i64 x.i.cmd.no, .string x.i.cmd.set, .string x.i.cmd.name, .string x.i.cmd.tag, .int .i64 x.i.cmd.n, .slice a9 n9 c9, .int .i64 x.i.seq, .slice a10 n10 c10, .int .i64 x.i.st, .int .i64 x.i.vbal, .bool x.i.same] 36))
  have Y := Lib.hid ((Y.out.after bb).alloc (.cells #[.int .i64 x.kind, .int .i64 x.frm, .int .i64 x.dst, .int .i64 x.i.rep, .int .i64 x.i.slot, .int .i64 x.i.bal, .int .i64 x.i.cmd.kind, .int .i64 x.i.cmd.client, .int .i64 x.i.cmd.no, .string x.i.cmd.set, .string x.i.cmd.name, .string x.i.cmd.tag, .int .i64 x.i.cmd.n, .slice a9 n9 c9, .int .i64 x.i.seq, .slice a10 n10 c10, .int .i64 x.i.st, .int .i64 x.i.vbal, .bool x.i.same] 36))
  have A := Lib.hid ((A.out.after bb).alloc (.cells #[.int .i64 x.kind, .int .i64 x.frm, .int .i64 x.dst, .int .i64 x.i.rep, .int .i64 x.i.slot, .int .i64 x.i.bal, .int .i64 x.i.cmd.kind, .int .i64 x.i.cmd.client, .int .i64 x.i.cmd.no, .string x.i.cmd.set, .string x.i.cmd.name, .string x.i.cmd.tag, .int .i64 x.i.cmd.n, .slice a9 n9 c9, .int .i64 x.i.seq, .slice a10 n10 c10, .int .i64 x.i.st, .int .i64 x.i.vbal, .bool x.i.same] 36))
  have U := Lib.hid (Bx.new w6 36 #[.int .i64 x.kind, .int .i64 x.frm, .int .i64 x.dst, .int .i64 x.i.rep, .int .i64 x.i.slot, .int .i64 x.i.bal, .int .i64 x.i.cmd.kind, .int .i64 x.i.cmd.client, .int .i64 x.i.cmd.no, .string x.i.cmd.set, .string x.i.cmd.name, .string x.i.cmd.tag, .int .i64 x.i.cmd.n, .slice a9 n9 c9, .int .i64 x.i.seq, .slice a10 n10 c10, .int .i64 x.i.st, .int .i64 x.i.vbal, .bool x.i.same] _ rfl)
  have PU := Lib.hid (pp.pts.alloc (.cells #[.int .i64 x.kind, .int .i64 x.frm, .int .i64 x.dst, .int .i64 x.i.rep, .int .i64 x.i.slot, .int .i64 x.i.bal, .int .i64 x.i.cmd.kind, .int .i64 x.i.cmd.client, .int .i64 x.i.cmd.no, .string x.i.cmd.set, .string x.i.cmd.name, .string x.i.cmd.tag, .int .i64 x.i.cmd.n, .slice a9 n9 c9, .int .i64 x.i.seq, .slice a10 n10 c10, .int .i64 x.i.st, .int .i64 x.i.vbal, .bool x.i.same] 36))
  clear bb pp
  have hz6 := rowP_new w6
  obtain ⟨rX1, rX2⟩ := X.out.row rfl
  obtain ⟨rY1, rY2⟩ := Y.out.row rfl
  go_wp2_with fail
  clear rX1 rX2 rY1 rY2
  refine (to_emsg y _ _ _ (P'.out.later A.out) HY.out.1 HY.out.2).mono ?_
  rintro e w7 ⟨⟨a11, n11, c11, a12, n12, c12, rfl, pp⟩, bb⟩
  clear hz6
  have X := Lib.hid ((X.out.after bb).alloc (.cells #[.int .i64 y.kind, .int .i64 y.frm, .int .i64 y.dst, .int .i64 y.i.rep, .int .i64 y.i.slot, .int .i64 y.i.bal, .int .i64 y.i.cmd.kind, .int .i64 y.i.cmd.client, .int .i64 y.i.cmd.no, .string y.i.cmd.set, .string y.i.cmd.name, .string y.i.cmd.tag, .int .i64 y.i.cmd.n, .slice a11 n11 c11, .int .i64 y.i.seq, .slice a12 n12 c12, .int .i64 y.i.st, .int .i64 y.i.vbal, .bool y.i.same] 36))
  have Y := Lib.hid ((Y.out.after bb).alloc (.cells #[.int .i64 y.kind, .int .i64 y.frm, .int .i64 y.dst, .int .i64 y.i.rep, .int .i64 y.i.slot, .int .i64 y.i.bal, .int .i64 y.i.cmd.kind, .int .i64 y.i.cmd.client, .int .i64 y.i.cmd.no, .string y.i.cmd.set, .string y.i.cmd.name, .string y.i.cmd.tag, .int .i64 y.i.cmd.n, .slice a11 n11 c11, .int .i64 y.i.seq, .slice a12 n12 c12, .int .i64 y.i.st, .int .i64 y.i.vbal, .bool y.i.same] 36))
  have A := Lib.hid ((A.out.after bb).alloc (.cells #[.int .i64 y.kind, .int .i64 y.frm, .int .i64 y.dst, .int .i64 y.i.rep, .int .i64 y.i.slot, .int .i64 y.i.bal, .int .i64 y.i.cmd.kind, .int .i64 y.i.cmd.client, .int .i64 y.i.cmd.no, .string y.i.cmd.set, .string y.i.cmd.name, .string y.i.cmd.tag, .int .i64 y.i.cmd.n, .slice a11 n11 c11, .int .i64 y.i.seq, .slice a12 n12 c12, .int .i64 y.i.st, .int .i64 y.i.vbal, .bool y.i.same] 36))
  have U := Lib.hid ((U.out.after bb).alloc (.cells #[.int .i64 y.kind, .int .i64 y.frm, .int .i64 y.dst, .int .i64 y.i.rep, .int .i64 y.i.slot, .int .i64 y.i.bal, .int .i64 y.i.cmd.kind, .int .i64 y.i.cmd.client, .int .i64 y.i.cmd.no, .string y.i.cmd.set, .string y.i.cmd.name, .string y.i.cmd.tag, .int .i64 y.i.cmd.n, .slice a11 n11 c11, .int .i64 y.i.seq, .slice a12 n12 c12, .int .i64 y.i.st, .int .i64 y.i.vbal, .bool y.i.same] 36))
  have V := Lib.hid (Bx.new w7 36 #[.int .i64 y.kind, .int .i64 y.frm, .int .i64 y.dst, .int .i64 y.i.rep, .int .i64 y.i.slot, .int .i64 y.i.bal, .int .i64 y.i.cmd.kind, .int .i64 y.i.cmd.client, .int .i64 y.i.cmd.no, .string y.i.cmd.set, .string y.i.cmd.name, .string y.i.cmd.tag, .int .i64 y.i.cmd.n, .slice a11 n11 c11, .int .i64 y.i.seq, .slice a12 n12 c12, .int .i64 y.i.st, .int .i64 y.i.vbal, .bool y.i.same] _ rfl)
  have PU := Lib.hid ((PU.out.later bb).alloc (.cells #[.int .i64 y.kind, .int .i64 y.frm, .int .i64 y.dst, .int .i64 y.i.rep, .int .i64 y.i.slot, .int .i64 y.i.bal, .int .i64 y.i.cmd.kind, .int .i64 y.i.cmd.client, .int .i64 y.i.cmd.no, .string y.i.cmd.set, .string y.i.cmd.name, .string y.i.cmd.tag, .int .i64 y.i.cmd.n, .slice a11 n11 c11, .int .i64 y.i.seq, .slice a12 n12 c12, .int .i64 y.i.st, .int .i64 y.i.vbal, .bool y.i.same] 36))
  have PV := Lib.hid (pp.pts.alloc (.cells #[.int .i64 y.kind, .int .i64 y.frm, .int .i64 y.dst, .int .i64 y.i.rep, .int .i64 y.i.slot, .int .i64 y.i.bal, .int .i64 y.i.cmd.kind, .int .i64 y.i.cmd.client, .int .i64 y.i.cmd.no, .string y.i.cmd.set, .string y.i.cmd.name, .string y.i.cmd.tag, .int .i64 y.i.cmd.n, .slice a11 n11 c11, .int .i64 y.i.seq, .slice a12 n12 c12, .int .i64 y.i.st, .int .i64 y.i.vbal, .bool y.i.same] 36))
  clear bb pp
  have hz7 := rowP_new w7
  obtain ⟨rU1, rU2⟩ := U.out.row rfl
  obtain ⟨rV1, rV2⟩ := V.out.row rfl
  go_wp2_with fail
  clear rU1 rU2 rV1 rV2
  clear hz7
  refine (impl_sameMsg x y _ _ _ _ _ PU.out PV.out).mono ?_
  rintro e w8 ⟨rfl, bb⟩
  have X := Lib.hid (X.out.after bb)
  have Y := Lib.hid (Y.out.after bb)
  have A := Lib.hid (A.out.after bb)
  have U := Lib.hid (U.out.after bb)
  have V := Lib.hid (V.out.after bb)
  have PU := Lib.hid (PU.out.later bb)
  have PV := Lib.hid (PV.out.later bb)
  clear bb
  go_wp2_with fail
  have X := Lib.hid X.out.drew; have Y := Lib.hid Y.out.drew; have A := Lib.hid A.out.drew; have U := Lib.hid U.out.drew; have V := Lib.hid V.out.drew
  have PU := Lib.hid (PU.out.later (Below.refl _ _).drew); have PV := Lib.hid (PV.out.later (Below.refl _ _).drew)
  refine wp_region_noPanic ?_
  refine wp_region_takes (T := fun _ => false) (S := fun w' => Bx w' w6.heap.size 36 #[.int .i64 x.kind, .int .i64 x.frm, .int .i64 x.dst, .int .i64 x.i.rep, .int .i64 x.i.slot, .int .i64 x.i.bal, .int .i64 x.i.cmd.kind, .int .i64 x.i.cmd.client, .int .i64 x.i.cmd.no, .string x.i.cmd.set, .string x.i.cmd.name, .string x.i.cmd.tag, .int .i64 x.i.cmd.n, .slice a9 n9 c9, .int .i64 x.i.seq, .slice a10 n10 c10, .int .i64 x.i.st, .int .i64 x.i.vbal, .bool x.i.same] ∧ Bx w' w.heap.size 29 #[.int .i64 x.kind, .int .i64 x.frm, .int .i64 x.dst, .int .i64 x.i.rep, .int .i64 x.i.slot, .int .i64 x.i.bal, .int .i64 x.i.cmd.kind, .int .i64 x.i.cmd.client, .int .i64 x.i.cmd.no, .string x.i.cmd.set, .string x.i.cmd.name, .string x.i.cmd.tag, .int .i64 x.i.cmd.n, .slice a1 n1 c1, .int .i64 x.i.seq, .slice a2 n2 c2, .int .i64 x.i.st, .int .i64 x.i.vbal, .bool x.i.same]) [0, 1] [2, 3, 4] (by kernel_rfl) (by kernel_rfl) (by kernel_rfl) (by kernel_rfl) (fun _ _ _ _ _ h => h) ⟨U.out, X.out⟩ ?_
  refine wpTakes_step (v := .agg #[.int .i64 x.kind, .int .i64 x.frm, .int .i64 x.dst, .int .i64 x.i.rep, .int .i64 x.i.slot, .int .i64 x.i.bal, .int .i64 x.i.cmd.kind, .int .i64 x.i.cmd.client, .int .i64 x.i.cmd.no, .string x.i.cmd.set, .string x.i.cmd.name, .string x.i.cmd.tag, .int .i64 x.i.cmd.n, .slice a9 n9 c9, .int .i64 x.i.seq, .slice a10 n10 c10, .int .i64 x.i.st, .int .i64 x.i.vbal, .bool x.i.same]) rfl rfl (fun w' hS => exec_load_emsg rfl hS.1 rfl) ?_
  refine wpTakes_step (v := .agg #[.int .i64 x.kind, .int .i64 x.frm, .int .i64 x.dst, .int .i64 x.i.rep, .int .i64 x.i.slot, .int .i64 x.i.bal, .int .i64 x.i.cmd.kind, .int .i64 x.i.cmd.client, .int .i64 x.i.cmd.no, .string x.i.cmd.set, .string x.i.cmd.name, .string x.i.cmd.tag, .int .i64 x.i.cmd.n, .slice a1 n1 c1, .int .i64 x.i.seq, .slice a2 n2 c2, .int .i64 x.i.st, .int .i64 x.i.vbal, .bool x.i.same]) rfl rfl (fun w' hS => exec_load_lmsg rfl hS.2 rfl) ?_
  simp only [Act.put, List.setIfInBounds_toArray]
  unfold wpTakes
  refine wpSeqT_step rfl ?_
  go_wp2_with fail
  refine (to_emsg x _ _ _ (P.out.later A.out) HX.out.1 HX.out.2).mono ?_
  rintro e w9 ⟨⟨a13, n13, c13, a14, n14, c14, rfl, pp⟩, bb⟩
  have X := Lib.hid (X.out.after bb); have Y := Lib.hid (Y.out.after bb); have A := Lib.hid (A.out.after bb); have U := Lib.hid (U.out.after bb); have V := Lib.hid (V.out.after bb)
  have PU := Lib.hid (PU.out.later bb); have PV := Lib.hid (PV.out.later bb)
  have PT := Lib.hid pp.pts
  clear bb pp
  go_wp2
  refine ⟨fun _ => ⟨U.out, X.out⟩, ?_⟩
  refine wpSeqT_step rfl ?_
  go_wp2_with fail
  refine (eq_emsg_yes x _ _ _ _ _ PU.out PT.out).mono ?_
  rintro e w10 ⟨rfl, bb⟩
  have X := Lib.hid (X.out.after bb); have Y := Lib.hid (Y.out.after bb); have A := Lib.hid (A.out.after bb); have U := Lib.hid (U.out.after bb); have V := Lib.hid (V.out.after bb)
  have PU := Lib.hid (PU.out.later bb); have PV := Lib.hid (PV.out.later bb)
  clear bb PT
  go_wp2
  refine ⟨fun _ => ⟨U.out, X.out⟩, ?_⟩
  refine wpSeqT_step rfl ?_
  go_wp2
  refine ⟨fun _ => ⟨U.out, X.out⟩, ?_⟩
  unfold wpSeqT
  refine NoPanic.normal ?_
  go_wp2_with fail
  have X := Lib.hid X.out.drew; have Y := Lib.hid Y.out.drew; have A := Lib.hid A.out.drew; have U := Lib.hid U.out.drew; have V := Lib.hid V.out.drew
  have PV := Lib.hid (PV.out.later (Below.refl _ _).drew)
  refine wp_region_noPanic ?_
  refine wp_region_takes (T := fun _ => false) (S := fun w' => Bx w' w7.heap.size 36 #[.int .i64 y.kind, .int .i64 y.frm, .int .i64 y.dst, .int .i64 y.i.rep, .int .i64 y.i.slot, .int .i64 y.i.bal, .int .i64 y.i.cmd.kind, .int .i64 y.i.cmd.client, .int .i64 y.i.cmd.no, .string y.i.cmd.set, .string y.i.cmd.name, .string y.i.cmd.tag, .int .i64 y.i.cmd.n, .slice a11 n11 c11, .int .i64 y.i.seq, .slice a12 n12 c12, .int .i64 y.i.st, .int .i64 y.i.vbal, .bool y.i.same] ∧ Bx w' (w.heap.size + 1) 29 #[.int .i64 y.kind, .int .i64 y.frm, .int .i64 y.dst, .int .i64 y.i.rep, .int .i64 y.i.slot, .int .i64 y.i.bal, .int .i64 y.i.cmd.kind, .int .i64 y.i.cmd.client, .int .i64 y.i.cmd.no, .string y.i.cmd.set, .string y.i.cmd.name, .string y.i.cmd.tag, .int .i64 y.i.cmd.n, .slice a3 n3 c3, .int .i64 y.i.seq, .slice a4 n4 c4, .int .i64 y.i.st, .int .i64 y.i.vbal, .bool y.i.same]) [0, 1] [2, 3, 4] (by kernel_rfl) (by kernel_rfl) (by kernel_rfl) (by kernel_rfl) (fun _ _ _ _ _ h => h) ⟨V.out, Y.out⟩ ?_
  refine wpTakes_step (v := .agg #[.int .i64 y.kind, .int .i64 y.frm, .int .i64 y.dst, .int .i64 y.i.rep, .int .i64 y.i.slot, .int .i64 y.i.bal, .int .i64 y.i.cmd.kind, .int .i64 y.i.cmd.client, .int .i64 y.i.cmd.no, .string y.i.cmd.set, .string y.i.cmd.name, .string y.i.cmd.tag, .int .i64 y.i.cmd.n, .slice a11 n11 c11, .int .i64 y.i.seq, .slice a12 n12 c12, .int .i64 y.i.st, .int .i64 y.i.vbal, .bool y.i.same]) rfl rfl (fun w' hS => exec_load_emsg rfl hS.1 rfl) ?_
  refine wpTakes_step (v := .agg #[.int .i64 y.kind, .int .i64 y.frm, .int .i64 y.dst, .int .i64 y.i.rep, .int .i64 y.i.slot, .int .i64 y.i.bal, .int .i64 y.i.cmd.kind, .int .i64 y.i.cmd.client, .int .i64 y.i.cmd.no, .string y.i.cmd.set, .string y.i.cmd.name, .string y.i.cmd.tag, .int .i64 y.i.cmd.n, .slice a3 n3 c3, .int .i64 y.i.seq, .slice a4 n4 c4, .int .i64 y.i.st, .int .i64 y.i.vbal, .bool y.i.same]) rfl rfl (fun w' hS => exec_load_lmsg rfl hS.2 rfl) ?_
  simp only [Act.put, List.setIfInBounds_toArray]
  unfold wpTakes
  refine wpSeqT_step rfl ?_
  go_wp2_with fail
  refine (to_emsg y _ _ _ (P'.out.later A.out) HY.out.1 HY.out.2).mono ?_
  rintro e w11 ⟨⟨a15, n15, c15, a16, n16, c16, rfl, pp⟩, bb⟩
  have X := Lib.hid (X.out.after bb); have Y := Lib.hid (Y.out.after bb); have A := Lib.hid (A.out.after bb); have U := Lib.hid (U.out.after bb); have V := Lib.hid (V.out.after bb)
  have PV := Lib.hid (PV.out.later bb)
  have PT := Lib.hid pp.pts
  clear bb pp
  go_wp2
  refine ⟨fun _ => ⟨V.out, Y.out⟩, ?_⟩
  refine wpSeqT_step rfl ?_
  go_wp2_with fail
  refine (eq_emsg_yes y _ _ _ _ _ PV.out PT.out).mono ?_
  rintro e w12 ⟨rfl, bb⟩
  have X := Lib.hid (X.out.after bb); have Y := Lib.hid (Y.out.after bb); have A := Lib.hid (A.out.after bb); have U := Lib.hid (U.out.after bb); have V := Lib.hid (V.out.after bb)
  have PV := Lib.hid (PV.out.later bb)
  clear bb PT
  go_wp2
  refine ⟨fun _ => ⟨V.out, Y.out⟩, ?_⟩
  refine wpSeqT_step rfl ?_
  go_wp2
  refine ⟨fun _ => ⟨V.out, Y.out⟩, ?_⟩
  unfold wpSeqT
  refine NoPanic.normal ?_
  go_wp2
  go_ret
  exact ⟨rfl, A.out⟩
end Go.Proofs.Ytkeoeempdkpafaa
