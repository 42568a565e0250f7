/- A bundle of texts: IpM, IpI, IpS. -/
import Derived.Test.YtdokglckfabdaaaDoorExO
import Derived.Test.YtdokglckfabdaaaDoorInMw
import Derived.Test.YtdokglckfabdaaaDoorPu
import Derived.Test.YtdokglckfabdaaaDoorCp
import Derived.Test.YtdokglckfabdaaaDoorInSz
import Derived.Test.YtdokglckfabdaaaDoorCi
import Derived.Test.YtdokglckfabdaaaDoorInLX
import Derived.Test.YtdokglckfabdaaaDoorInVs
/- Weak marks of one instance; what InstPut answers is small. -/
namespace Go.Proofs.YtdokglckfabdaaaDoor
open Go.RowKit Go.PlainAid
set_option linter.unusedVariables false

theorem stO_wrI {w : World} {lo hi lo' : Nat} {v : Value} {l : List ByteArray} (h : StO w lo' v l) (hb : ∀ k, v.ownBlock = some k → lo ≤ k ∧ k < hi) : Wr w 9 1 lo hi v l.length := by
  obtain ⟨hg, _⟩ := h
  rcases hg.2 with ⟨hn, hz⟩ | ⟨g', cap', cur', hn, hb', hh, hc1, hc2, hc3, hc4⟩
  · exact ⟨none, 0, by rw [hn, hz], fun h => by omega⟩
  · exact ⟨_, cap', hn, fun _ => ⟨g', 0, cur', rfl, hb g' (by rw [hn]; rfl), hh, by omega⟩⟩
theorem idO_wrI {w : World} {lo hi lo' : Nat} {v : Value} {l : List Ii} (h : IdOwn w lo' v l) (hb : ∀ k, v.ownBlock = some k → lo ≤ k ∧ k < hi) : Wr w 36 2 lo hi v l.length := by
  obtain ⟨a', cap', e', i1, i2, i3⟩ := h
  refine ⟨a', cap', e', fun hp => ?_⟩
  obtain ⟨g', o', cur', q1, q3, q4, _⟩ := i3 hp
  refine ⟨g', o', cur', q1, hb g' (by rw [e', q1]; rfl), q4, ?_⟩
  have := q3.2
  omega
set_option maxHeartbeats 400000 in
theorem mark_cmdI (c : CmdM) (v : Value) (n lo hi : Nat) (s : Int) (w : World) (hv : Wr w 9 1 lo hi v n) (hn : n ≤ 1048576) (hs0 : 1 ≤ s) (hs1 : s ≤ 17592186044416) :
    Calls Tryd.prog 34 #[.agg #[.int .i64 c.kind, .int .i64 c.client, .int .i64 c.no, .string c.set, .string c.name, .string c.tag, .int .i64 c.n, v], .int .i64 s] w fun e w' => e = .returned (.int .i64 (s + n)) ∧ Chg (fun t => t == 9) lo hi w w' := by
  have c0 : Chg (fun t => t == 9) lo hi w (w.alloc (.cells #[.int .i64 c.kind, .int .i64 c.client, .int .i64 c.no, .string c.set, .string c.name, .string c.tag, .int .i64 c.n, v] 37)) := chg_below ((Below.refl _ _).alloc (Nat.le_refl _) _)
  have HV := Lib.hid (hv.chg c0)
  have C0 := Lib.hid c0
  obtain ⟨a, cap, rfl, _⟩ := hv
  clear c0
  go_enter Tryd.func34, Tryd.ntmps34
  go_wp2_with fail
  refine (mark_strW _ n lo hi s _ HV.out hn hs0 hs1).mono ?_
  rintro e w2 ⟨rfl, c2⟩
  have C2 := Lib.hid (C0.out.trans c2)
  clear c2
  go_wp2
  go_ret
  exact ⟨rfl, C2.out⟩
set_option maxRecDepth 100000 in
set_option maxHeartbeats 1000000 in
theorem mark_instV (x : In) (u d : Value) (lo hi : Nat) (s : Int) (w : World) (h : PtO w lo hi x u d) (hn : x.cmd.ch.length ≤ 1048576) (hm : x.deps.length ≤ 1048576) (hs0 : 1 ≤ s) (hs1 : s ≤ 8796093022208) :
    Calls Tryd.prog 13 #[.agg #[.int .i64 x.rep, .int .i64 x.slot, .int .i64 x.bal, .int .i64 x.vbal, .int .i64 x.st, .int .i64 x.cmd.kind, .int .i64 x.cmd.client, .int .i64 x.cmd.no, .string x.cmd.set, .string x.cmd.name, .string x.cmd.tag, .int .i64 x.cmd.n, u, .int .i64 x.seq, d, .bool x.same], .int .i64 s] w fun e w' => (∃ z : Int, e = .returned (.int .i64 z) ∧ 1 ≤ z) ∧ Out lo hi w w' := by
  have PH := Lib.hid h
  obtain ⟨⟨a1, n1, c1, rfl⟩, a2, n2, c2, rfl⟩ := h.pts.form
  have hlt : ∀ k, Value.ownBlock (.slice a1 n1 c1) = some k → k < w.heap.size := fun k hk => (World.ownsRow.lt PH.out.st.1 k hk).2
  have hid : ∀ k, 0 < x.deps.length → Value.ownBlock (.slice a2 n2 c2) = some k → k < w.heap.size := fun k h0 hk => (PH.out.ids.block h0 k hk).2
  have X0 := Lib.hid (Bx.new w 40 #[.int .i64 x.rep, .int .i64 x.slot, .int .i64 x.bal, .int .i64 x.vbal, .int .i64 x.st, .int .i64 x.cmd.kind, .int .i64 x.cmd.client, .int .i64 x.cmd.no, .string x.cmd.set, .string x.cmd.name, .string x.cmd.tag, .int .i64 x.cmd.n, .slice a1 n1 c1, .int .i64 x.seq, .slice a2 n2 c2, .bool x.same] _ rfl)
  have B0 := Lib.hid (out_below (lo := lo) (hi := min hi w.heap.size) ((Below.refl _ w).alloc (Nat.le_refl _) (.cells #[.int .i64 x.rep, .int .i64 x.slot, .int .i64 x.bal, .int .i64 x.vbal, .int .i64 x.st, .int .i64 x.cmd.kind, .int .i64 x.cmd.client, .int .i64 x.cmd.no, .string x.cmd.set, .string x.cmd.name, .string x.cmd.tag, .int .i64 x.cmd.n, .slice a1 n1 c1, .int .i64 x.seq, .slice a2 n2 c2, .bool x.same] 40)))
  have P0 := PH.out.later ((Below.refl _ _).alloc (Nat.le_refl _) (.cells #[.int .i64 x.rep, .int .i64 x.slot, .int .i64 x.bal, .int .i64 x.vbal, .int .i64 x.st, .int .i64 x.cmd.kind, .int .i64 x.cmd.client, .int .i64 x.cmd.no, .string x.cmd.set, .string x.cmd.name, .string x.cmd.tag, .int .i64 x.cmd.n, .slice a1 n1 c1, .int .i64 x.seq, .slice a2 n2 c2, .bool x.same] 40))
  have W1 := Lib.hid (stO_wrI (lo := lo) (hi := min hi w.heap.size) P0.st (fun k hk => by have h1 := P0.bu k hk; have h2 := hlt k hk; omega))
  have W2 := Lib.hid (show Wr (w.alloc (.cells #[.int .i64 x.rep, .int .i64 x.slot, .int .i64 x.bal, .int .i64 x.vbal, .int .i64 x.st, .int .i64 x.cmd.kind, .int .i64 x.cmd.client, .int .i64 x.cmd.no, .string x.cmd.set, .string x.cmd.name, .string x.cmd.tag, .int .i64 x.cmd.n, .slice a1 n1 c1, .int .i64 x.seq, .slice a2 n2 c2, .bool x.same] 40)) 36 2 lo (min hi w.heap.size) (.slice a2 n2 c2) x.deps.length from by
    obtain ⟨a', cap', e', i1, i2, i3⟩ := P0.ids
    refine ⟨a', cap', e', fun hp => ?_⟩
    obtain ⟨g', o', cur', q1, q3, q4, _⟩ := i3 hp
    have hb1 := P0.bd g' (by rw [e', q1]; rfl)
    have hb2 := hid g' hp (by rw [e', q1]; rfl)
    refine ⟨g', o', cur', q1, ⟨hb1.1, by omega⟩, q4, ?_⟩
    have := q3.2
    omega)
  clear h P0 hlt hid
  go_enter Tryd.func13, Tryd.ntmps13
  go_wp2_with fail
  refine (mark_cmdI x.cmd _ x.cmd.ch.length lo (min hi w.heap.size) s _ W1.out hn hs0 (by omega)).mono ?_
  rintro e w2 ⟨rfl, cg⟩
  have X2 := Lib.hid (X0.out.outr cg.toOut (by right; exact Nat.min_le_right _ _))
  have W2 := Lib.hid (W2.out.chg cg)
  have B2 := Lib.hid (B0.out.trans cg.toOut)
  obtain ⟨s2, hs2⟩ : ∃ q : Int, s + (x.cmd.ch.length : Int) = q := ⟨_, rfl⟩
  have hq0 : 1 ≤ s2 := by omega
  have hq1 : s2 ≤ 17592186044416 := by omega
  rw [hs2]
  clear cg X0 W1 B0 hs2
  obtain ⟨x0, x1, x2, x3, x4, x5, x6, x7, x8, x9, x10, x11, x12, x13, x14, x15⟩ := X2.out.c16
  go_wp2_with fail
  clear x0 x1 x2 x3 x4 x5 x6 x7 x8 x9 x10 x11 x12 x13 x14 x15
  refine (mark_idW _ x.deps.length lo (min hi w.heap.size) s2 _ W2.out hm hq0 hq1).mono ?_
  rintro e w3 ⟨rfl, cg⟩
  have B3 := Lib.hid (B2.out.trans cg.toOut)
  obtain ⟨s3, hs3⟩ : ∃ q : Int, s2 + 2 * (x.deps.length : Int) = q := ⟨_, rfl⟩
  have hq2 : 1 ≤ s3 := by omega
  rw [hs3]
  clear cg hs3
  go_wp2
  go_ret
  exact ⟨⟨s3, rfl, hq2⟩, B3.out.os, B3.out.tape, B3.out.output, B3.out.size, fun k hk hr => B3.out.out k hk (by omega)⟩
theorem mem_nth {l : List In} {y : In} (h : y ∈ l) : ∃ j, j < l.length ∧ nth l j = y := by
  obtain ⟨j, hj, e⟩ := List.mem_iff_getElem.1 h
  exact ⟨j, hj, by rw [nth_of (x := y) (by rw [List.getElem?_eq_getElem hj, e])]⟩
theorem nth_mem {l : List In} {j : Nat} (h : j < l.length) : nth l j ∈ l := List.mem_iff_getElem?.2 ⟨j, nth_get l j h⟩
theorem putN_small {l : List In} {x : In} (hok : instsB l = true) (h : SmF l) (hx : SmlX x) : SmF (putN l x) := by
  have hz := insts_len hok
  have hp := putN_length l x
  refine ⟨by omega, fun j hj => ?_⟩
  have hm := nth_mem hj
  generalize nth (putN l x) j = y at hm ⊢
  simp only [putN, List.mem_append, List.mem_singleton, List.mem_filter] at hm
  rcases hm with hm | hm | hm
  · obtain ⟨i, hi, e⟩ := mem_nth hm.1
    rw [← e]; exact h.2 i hi
  · rw [hm]; exact hx
  · obtain ⟨i, hi, e⟩ := mem_nth hm.1
    rw [← e]; exact h.2 i hi
theorem putX_small {l : List In} {x : In} (h : SmF l) (hx : SmlX x) : SmF (putX l x) ∧ (putX l x).length ≤ 1000 := by
  cases hok : instsB l
  · rw [putX_none l x hok]; exact ⟨⟨by simp, fun j hj => by simp at hj⟩, by simp⟩
  · have hz := insts_len hok
    cases h2 : instB x
    · rw [putX_keep l x hok h2]; exact ⟨h, by omega⟩
    · rw [putX_put l x hok h2]
      have hp := putN_length l x
      exact ⟨putN_small hok h hx, by omega⟩
end Go.Proofs.YtdokglckfabdaaaDoor
/- InstPut: the program. -/
namespace Go.Proofs.YtdokglckfabdaaaDoor
open Go.RowKit Go.PlainAid
set_option linter.unusedVariables false

attribute [local go_sem] blkI_eq aggI_eq okAI_mk World.setRow_alloc_new
attribute [local go_sem ↓] load_inst_pre store_inst_pre
set_option maxRecDepth 100000 in
set_option maxHeartbeats 2000000 in
theorem impl_instPut (v : Value) (l : List In) (x : In) (xu xd : Value) (a0 : Addr) (w : World) (hv : Insts w v l) (hp : Pts w x xu xd) (hS : Sent w a0) (hs : SmF l) (hx : SmlX x) :
    Calls Tryd.prog 9 #[v, .agg #[.int .i64 x.rep, .int .i64 x.slot, .int .i64 x.bal, .int .i64 x.vbal, .int .i64 x.st, .int .i64 x.cmd.kind, .int .i64 x.cmd.client, .int .i64 x.cmd.no, .string x.cmd.set, .string x.cmd.name, .string x.cmd.tag, .int .i64 x.cmd.n, xu, .int .i64 x.seq, xd, .bool x.same]] w fun e w' => (∃ u, e = .returned u ∧ InOwnX w' w.heap.size w'.heap.size u (putX l x)) ∧ Below w.heap.size w w' := by
  obtain ⟨va, vn, vc, hve⟩ := hv.form
  subst hve
  obtain ⟨⟨x1, x2, x3, rfl⟩, x4, x5, x6, rfl⟩ := hp.form
  have VH := Lib.hid hv
  have PX := Lib.hid hp
  have HS := Lib.hid hS
  have SF := Lib.hid hs
  have SX := Lib.hid hx
  have X := Lib.hid (Bx.new w 40 #[.int .i64 x.rep, .int .i64 x.slot, .int .i64 x.bal, .int .i64 x.vbal, .int .i64 x.st, .int .i64 x.cmd.kind, .int .i64 x.cmd.client, .int .i64 x.cmd.no, .string x.cmd.set, .string x.cmd.name, .string x.cmd.tag, .int .i64 x.cmd.n, .slice x1 x2 x3, .int .i64 x.seq, .slice x4 x5 x6, .bool x.same] _ rfl)
  have A := Lib.hid ((Af.refl w).alloc (.cells #[.int .i64 x.rep, .int .i64 x.slot, .int .i64 x.bal, .int .i64 x.vbal, .int .i64 x.st, .int .i64 x.cmd.kind, .int .i64 x.cmd.client, .int .i64 x.cmd.no, .string x.cmd.set, .string x.cmd.name, .string x.cmd.tag, .int .i64 x.cmd.n, .slice x1 x2 x3, .int .i64 x.seq, .slice x4 x5 x6, .bool x.same] 40))
  clear hv hp hS hs hx
  go_enter Tryd.func9, Tryd.ntmps9
  go_wp2_with fail
  refine (impl_insts _ l a0 _ (VH.out.later A.out) (HS.out.later A.out)).mono ?_
  rintro e w1 ⟨rfl, bb⟩
  have X := Lib.hid (X.out.after bb)
  have A := Lib.hid (A.out.after bb)
  clear bb
  cases hok : instsB l
  · go_wp2
    go_ret
    exact ⟨⟨_, rfl, by rw [putX_none l x hok]; exact inOwnX_nil _ _ _ _ _⟩, A.out⟩
  have HOK := Lib.hid hok
  clear hok
  obtain ⟨rz1, rz2⟩ := X.out.rowI rfl
  go_wp2_with fail
  clear rz1 rz2
  refine (impl_putN _ l x _ _ _ (VH.out.later A.out) (PX.out.later A.out) SF.out.1).mono ?_
  rintro e w2 ⟨⟨u2, rfl, o2⟩, bb⟩
  obtain ⟨a2, n2, c2, rfl⟩ := o2.form
  have A := Lib.hid (A.out.after bb)
  have U := Lib.hid o2
  clear bb o2
  go_wp2_with fail
  refine (impl_insts _ (putN l x) a0 _ U.out (HS.out.later A.out)).mono ?_
  rintro e w3 ⟨h3, bb⟩
  rw [putN_ok HOK.out] at h3
  subst h3
  have A := Lib.hid (A.out.after bb)
  have U := Lib.hid (U.out.later bb)
  clear bb
  cases hi : instB x
  · have HI := Lib.hid hi
    clear hi
    go_wp2_with fail
    refine (impl_copyInsts _ l _ (VH.out.later A.out) SF.out).mono ?_
    rintro e w9 ⟨⟨u9, rfl, o9⟩, bb⟩
    obtain ⟨a9, n9, c9, rfl⟩ := o9.form
    have hz := A.out.size
    have O := Lib.hid (o9.mono (lo' := w.heap.size) hz (Nat.le_refl _))
    have A := Lib.hid (A.out.after bb)
    clear bb o9
    go_wp2
    go_ret
    exact ⟨⟨_, rfl, by rw [putX_keep l x HOK.out HI.out]; exact O.out⟩, A.out⟩
  · have HI := Lib.hid hi
    clear hi
    go_wp2_with fail
    refine (impl_copyInsts _ (putN l x) _ U.out (putN_small HOK.out SF.out SX.out)).mono ?_
    rintro e w9 ⟨⟨u9, rfl, o9⟩, bb⟩
    obtain ⟨a9, n9, c9, rfl⟩ := o9.form
    have hz := A.out.size
    have O := Lib.hid (o9.mono (lo' := w.heap.size) hz (Nat.le_refl _))
    have A := Lib.hid (A.out.after bb)
    clear bb o9
    go_wp2
    go_ret
    exact ⟨⟨_, rfl, by rw [putX_put l x HOK.out HI.out]; exact O.out⟩, A.out⟩
end Go.Proofs.YtdokglckfabdaaaDoor
/- InstPut: the model. -/
namespace Go.Proofs.YtdokglckfabdaaaDoor
open Go.RowKit Go.PlainAid
set_option linter.unusedVariables false

attribute [local go_sem] blkI_eq aggI_eq okAI_mk World.setRow_alloc_new
attribute [local go_sem ↓] load_inst_pre store_inst_pre
set_option maxRecDepth 100000 in
set_option maxHeartbeats 2000000 in
theorem spec_instPut (v : Value) (l : List In) (x : In) (xu xd : Value) (w : World) (hv : Insts w v l) (hp : Pts w x xu xd) (hs : SmF l) (hx : SmlX x) :
    Calls Tryd.prog 6 #[v, .agg #[.int .i64 x.rep, .int .i64 x.slot, .int .i64 x.bal, .int .i64 x.vbal, .int .i64 x.st, .int .i64 x.cmd.kind, .int .i64 x.cmd.client, .int .i64 x.cmd.no, .string x.cmd.set, .string x.cmd.name, .string x.cmd.tag, .int .i64 x.cmd.n, xu, .int .i64 x.seq, xd, .bool x.same]] w fun e w' => (∃ u, e = .returned u ∧ InOwnX w' w.heap.size w'.heap.size u (putX l x)) ∧ Below w.heap.size w w' := by
  obtain ⟨va, vn, vc, hve⟩ := hv.form
  subst hve
  obtain ⟨⟨x1, x2, x3, rfl⟩, x4, x5, x6, rfl⟩ := hp.form
  have VH := Lib.hid hv
  have PX := Lib.hid hp
  have SF := Lib.hid hs
  have SX := Lib.hid hx
  have X := Lib.hid (Bx.new w 40 #[.int .i64 x.rep, .int .i64 x.slot, .int .i64 x.bal, .int .i64 x.vbal, .int .i64 x.st, .int .i64 x.cmd.kind, .int .i64 x.cmd.client, .int .i64 x.cmd.no, .string x.cmd.set, .string x.cmd.name, .string x.cmd.tag, .int .i64 x.cmd.n, .slice x1 x2 x3, .int .i64 x.seq, .slice x4 x5 x6, .bool x.same] _ rfl)
  have A := Lib.hid ((Af.refl w).alloc (.cells #[.int .i64 x.rep, .int .i64 x.slot, .int .i64 x.bal, .int .i64 x.vbal, .int .i64 x.st, .int .i64 x.cmd.kind, .int .i64 x.cmd.client, .int .i64 x.cmd.no, .string x.cmd.set, .string x.cmd.name, .string x.cmd.tag, .int .i64 x.cmd.n, .slice x1 x2 x3, .int .i64 x.seq, .slice x4 x5 x6, .bool x.same] 40))
  clear hv hp hs hx
  go_enter Tryd.func6, Tryd.ntmps6
  go_wp2_with fail
  refine (spec_insts _ l _ (VH.out.later A.out)).mono ?_
  rintro e w1 ⟨rfl, bb⟩
  have X := Lib.hid (X.out.after bb)
  have A := Lib.hid (A.out.after bb)
  clear bb
  cases hok : instsB l
  · go_wp2
    go_ret
    exact ⟨⟨_, rfl, by rw [putX_none l x hok]; exact inOwnX_nil _ _ _ _ _⟩, A.out.alloc _⟩
  have HOK := Lib.hid hok
  clear hok
  obtain ⟨rz1, rz2⟩ := X.out.rowI rfl
  go_wp2_with fail
  clear rz1 rz2
  refine (spec_inst x _ _ _ (PX.out.later A.out)).mono ?_
  rintro e w2 ⟨rfl, bb⟩
  have X := Lib.hid (X.out.after bb)
  have A := Lib.hid (A.out.after bb)
  clear bb
  cases hi : instB x
  · have HI := Lib.hid hi
    clear hi
    go_wp2_with fail
    refine (spec_copyAll _ l _ (VH.out.later A.out) SF.out).mono ?_
    rintro e w9 ⟨⟨u9, rfl, o9⟩, bb⟩
    obtain ⟨a9, n9, c9, rfl⟩ := o9.form
    have hz := A.out.size
    have O := Lib.hid (o9.mono (lo' := w.heap.size) hz (Nat.le_refl _))
    have A := Lib.hid (A.out.after bb)
    clear bb o9
    go_wp2
    go_ret
    exact ⟨⟨_, rfl, by rw [putX_keep l x HOK.out HI.out]; exact O.out⟩, A.out⟩
  · have HI := Lib.hid hi
    clear hi
    obtain ⟨rz1, rz2⟩ := X.out.rowI rfl
    go_wp2_with fail
    clear rz1 rz2
    refine (spec_putN _ l x _ _ _ (VH.out.later A.out) (PX.out.later A.out) SF.out.1 (srtN_of_ok HOK.out)).mono ?_
    rintro e w3 ⟨⟨u2, rfl, o2⟩, bb⟩
    obtain ⟨a2, n2, c2, rfl⟩ := o2.form
    have A := Lib.hid (A.out.after bb)
    have U := Lib.hid o2
    clear bb o2
    go_wp2_with fail
    refine (spec_copyAll _ (putN l x) _ U.out (putN_small HOK.out SF.out SX.out)).mono ?_
    rintro e w9 ⟨⟨u9, rfl, o9⟩, bb⟩
    obtain ⟨a9, n9, c9, rfl⟩ := o9.form
    have hz := A.out.size
    have O := Lib.hid (o9.mono (lo' := w.heap.size) hz (Nat.le_refl _))
    have A := Lib.hid (A.out.after bb)
    clear bb o9
    go_wp2
    go_ret
    exact ⟨⟨_, rfl, by rw [putX_put l x HOK.out HI.out]; exact O.out⟩, A.out⟩
end Go.Proofs.YtdokglckfabdaaaDoor
