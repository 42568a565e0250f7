/- A bundle of texts: NtR, NtE, NtZ, NtC. -/
import Derived.Test.YtdokglckfabdaaaGreatDoorNtM
import Derived.Test.YtdokglckfabdaaaGreatDoorEmX
import Derived.Deep.MidRow
import Derived.Test.YtdokglckfabdaaaGreatDoorNdTo
import Derived.Test.YtdokglckfabdaaaGreatDoorIdL
/- A whole message at its place in a row is loaded or stored in one step. -/
namespace Go.Proofs.YtdokglckfabdaaaGreatDoor
open Go.RowKit Go.PlainAid
set_option linter.unusedVariables false

def offO : Value → Nat
  | .pointer (some ⟨_, o, _⟩) => o
  | _ => 0
theorem offO_eq (g o : Nat) (k : Option Nat) : offO (.pointer (some ⟨g, o, k⟩)) = o := rfl
/-- Nineteen cells from o on; they are there; they may be written. -/
@[irreducible] def rowQ (w : World) (g o : Nat) : Array Value := ((List.range 19).map (fun i => (w.cell? ⟨g, o + i, none⟩).getD undef)).toArray
@[irreducible] def isQ (w : World) (g o : Nat) : Prop := ∀ i, i < 19 → (w.cell? ⟨g, o + i, none⟩).isSome = true
@[irreducible] def isP (w : World) (g o : Nat) : Prop := w.there g o 19
theorem rowQ_size (w : World) (g o : Nat) : (rowQ w g o).size = 19 := by unfold rowQ; simp
theorem rowQ_range {w : World} {g o : Nat} (h : isQ w g o) : w.rangeAt g o (rowQ w g o).toList := by
  intro j v hv
  unfold isQ at h
  unfold rowQ at hv
  rw [List.toList_toArray, List.getElem?_map] at hv
  have hj : j < 19 := by
    by_cases e : j < 19
    · exact e
    · rw [List.getElem?_eq_none (by simp; omega)] at hv
      cases hv
  rw [List.getElem?_range hj] at hv
  simp only [Option.map_some] at hv
  have e := h j hj
  obtain ⟨u, hu⟩ := Option.isSome_iff_exists.1 e
  rw [hu] at hv ⊢
  exact hv
theorem range_rowQ {w : World} {g o : Nat} {cs : List Value} (hl : cs.length = 19) (h : w.rangeAt g o cs) : isQ w g o ∧ rowQ w g o = cs.toArray := by
  have hi : ∀ i, i < 19 → w.cell? ⟨g, o + i, none⟩ = cs[i]? := fun i hi => by
    have e := List.getElem?_eq_getElem (l := cs) (i := i) (by omega)
    rw [h i _ e, e]
  refine ⟨?_, ?_⟩
  · unfold isQ
    intro i h1
    rw [hi i h1, List.getElem?_eq_getElem (by omega)]
    rfl
  · unfold rowQ
    congr 1
    apply List.ext_getElem?
    intro i
    by_cases h1 : i < 19
    · rw [List.getElem?_map, List.getElem?_range h1]
      simp only [Option.map_some]
      rw [hi i h1, List.getElem?_eq_getElem (by omega)]
      rfl
    · rw [List.getElem?_eq_none (by simp; omega), List.getElem?_eq_none (by omega)]
theorem load_at (t : TypeId) (d0 : TypeDesc) (hu : Tryz.prog.underlying t = some d0) (hd : d0.isRow = true) (hi : (Tryz.prog.info? t).map (·.size) = some 19) (d : Option Tmp) (p : Operand) (ty : TypeId) (pos : String) (af : Array Edge) (gd : Option (Tmp × Bool)) (a : Act) (w : World) (K : Act → World → Prop) (Q : Exit → Act → World → Prop)
    (hx : a.eval p = .pointer (some ⟨blkO (a.eval p), offO (a.eval p), none⟩)) (hr : isQ w (blkO (a.eval p)) (offO (a.eval p))) :
    Oper.wp Tryz.prog ⟨d, .load t p, ty, pos, af, gd⟩ a w K Q = K (a.put d (.agg (rowQ w (blkO (a.eval p)) (offO (a.eval p))))) w := by
  have hc := rowQ_range hr
  have hz := rowQ_size w (blkO (a.eval p)) (offO (a.eval p))
  generalize rowQ w (blkO (a.eval p)) (offO (a.eval p)) = c at hc hz ⊢
  clear hr
  generalize hvx : a.eval p = vx at hx hc ⊢
  generalize blkO vx = g at hx hc ⊢
  generalize offO vx = o at hx hc ⊢
  subst hx
  unfold Oper.wp execOp
  simp only [hvx, Instr.loadAt, Instr.sureAddr, Sem.run_bind, Sem.run_pure, Result.andThen_ok, run_loadVar_mid w g o t c.toList d0 hc hu hd (by rw [hi, Array.length_toList, hz])]
  rfl
theorem load_msg_at (d : Option Tmp) (p : Operand) (ty : TypeId) (pos : String) (af : Array Edge) (gd : Option (Tmp × Bool)) (a : Act) (w : World) (K : Act → World → Prop) (Q : Exit → Act → World → Prop)
    (hx : a.eval p = .pointer (some ⟨blkO (a.eval p), offO (a.eval p), none⟩)) (hr : isQ w (blkO (a.eval p)) (offO (a.eval p))) :
    Oper.wp Tryz.prog ⟨d, .load 50 p, ty, pos, af, gd⟩ a w K Q = K (a.put d (.agg (rowQ w (blkO (a.eval p)) (offO (a.eval p))))) w := load_at _ _ Tryz.underlying50 rfl Tryz.sizeEMsg _ _ _ _ _ _ _ _ _ _ hx hr
theorem load_lmsg_at (d : Option Tmp) (p : Operand) (ty : TypeId) (pos : String) (af : Array Edge) (gd : Option (Tmp × Bool)) (a : Act) (w : World) (K : Act → World → Prop) (Q : Exit → Act → World → Prop)
    (hx : a.eval p = .pointer (some ⟨blkO (a.eval p), offO (a.eval p), none⟩)) (hr : isQ w (blkO (a.eval p)) (offO (a.eval p))) :
    Oper.wp Tryz.prog ⟨d, .load 68 p, ty, pos, af, gd⟩ a w K Q = K (a.put d (.agg (rowQ w (blkO (a.eval p)) (offO (a.eval p))))) w := load_at _ _ Tryz.underlying68 rfl Tryz.sizeEMsgL _ _ _ _ _ _ _ _ _ _ hx hr
theorem MsC.range {w : World} {b o : Nat} {x : Em} {u d : Value} (h : MsC w b o x u d) : w.rangeAt b o (emA x u d) := by
  obtain ⟨h0, h1, h2, h3, h4, h5, h6, h7, h8, h9, h10, h11, h12, h13, h14, h15, h16, h17, h18⟩ := h
  intro j v hv
  have hj : j < 19 := (List.getElem?_eq_some_iff.1 hv).1
  have hv' := hv
  match j, hj with
  | 0, _ => cases hv; exact h0
  | 1, _ => cases hv; exact h1
  | 2, _ => cases hv; exact h2
  | 3, _ => cases hv; exact h3
  | 4, _ => cases hv; exact h4
  | 5, _ => cases hv; exact h5
  | 6, _ => cases hv; exact h6
  | 7, _ => cases hv; exact h7
  | 8, _ => cases hv; exact h8
  | 9, _ => cases hv; exact h9
  | 10, _ => cases hv; exact h10
  | 11, _ => cases hv; exact h11
  | 12, _ => cases hv; exact h12
  | 13, _ => cases hv; exact h13
  | 14, _ => cases hv; exact h14
  | 15, _ => cases hv; exact h15
  | 16, _ => cases hv; exact h16
  | 17, _ => cases hv; exact h17
  | 18, _ => cases hv; exact h18
/-- What the walk wants to know of a message's place. -/
theorem msg_at {w : World} {b o : Nat} {x : Em} {u d : Value} (h : MsC w b o x u d) : isQ w b o ∧ rowQ w b o = #[.int .i64 x.kind, .int .i64 x.frm, .int .i64 x.dst, .int .i64 x.i.rep, .int .i64 x.i.slot, .int .i64 x.i.bal, .int .i64 x.i.cmd.kind, .int .i64 x.i.cmd.client, .int .i64 x.i.cmd.no, .string x.i.cmd.set, .string x.i.cmd.name, .string x.i.cmd.tag, .int .i64 x.i.cmd.n, u, .int .i64 x.i.seq, d, .int .i64 x.i.st, .int .i64 x.i.vbal, .bool x.i.same] := range_rowQ rfl h.range
theorem there_row {w : World} {g off : Nat} {t : TypeId} {cur : Array Value} (h : w.heap[g]? = some (.cells cur t (0, 0))) (hs : off + 19 ≤ cur.size) : isP w g off := by
  unfold isP
  intro j hj
  rw [cell_of_row w g _ cur _ (0, 0) h, Array.getElem?_eq_getElem (by omega)]
  exact ⟨rfl, frozen_of_row w g _ _ _ h⟩
theorem setL_eq (g : Nat) : ∀ (vs : List Value) (w : World) (o : Nat), w.setCells g o vs = setL w g o vs
  | [], _, _ => rfl
  | v :: vs, w, o => by
    rw [World.setCells, setL]
    exact setL_eq g vs _ _
theorem store_msg_at (p y : Operand) (ty : TypeId) (pos : String) (af : Array Edge) (gd : Option (Tmp × Bool)) (a : Act) (w : World) (K : Act → World → Prop) (Q : Exit → Act → World → Prop)
    (hx : a.eval p = .pointer (some ⟨blkO (a.eval p), offO (a.eval p), none⟩)) (hy : a.eval y = .agg (aggO (a.eval y))) (hs : okA (aggO (a.eval y))) (hr : isP w (blkO (a.eval p)) (offO (a.eval p))) :
    Oper.wp Tryz.prog ⟨none, .store 50 p y, ty, pos, af, gd⟩ a w K Q = K a (setL w (blkO (a.eval p)) (offO (a.eval p)) (aggO (a.eval y)).toList) := by
  unfold isP at hr
  obtain ⟨hs, h1⟩ := hs
  generalize hvx : a.eval p = vx at hx hr ⊢
  generalize hvy : a.eval y = vy at hy hs h1 ⊢
  generalize blkO vx = g at hx hr ⊢
  generalize offO vx = o at hx hr ⊢
  generalize aggO vy = c at hy hs h1 ⊢
  subst hx hy
  unfold Oper.wp execOp
  simp only [hvx, hvy, Instr.storeAt, Instr.sureAddr, Sem.run_bind, Sem.run_pure, Result.andThen_ok, run_storeVar_mid w g o 50 c (by rw [hs]; exact hr) (by rw [Tryz.sizeEMsg, hs]) h1, setL_eq]
  rfl
end Go.Proofs.YtdokglckfabdaaaGreatDoor
/- The laws' comparison of networks. -/
namespace Go.Proofs.YtdokglckfabdaaaGreatDoor
open Go.RowKit Go.PlainAid
set_option linter.unusedVariables false

theorem l_eq_nodeT (x : Nd) (u v u' v' : Value) (w0 w : World) (h : NdP w0 x u v) (h' : NdP w0 x u' v') (hl : LatI w0 w) :
    Calls Tryz.prog 37 #[.agg #[.int .i64 x.me, .int .i64 x.next, u, v], .agg #[.int .i64 x.me, .int .i64 x.next, u', v']] w fun e w' => e = .returned (.bool true) ∧ LatI w0 w' :=
  (eq_node_yes x u v u' v' w (h.later hl) (h'.later hl)).mono fun _ w' hh => ⟨hh.1, hl.trans hh.2⟩
set_option maxRecDepth 100000 in
set_option maxHeartbeats 2000000 in
theorem eq_nodesT (v v' : Value) (l : List Nd) (w : World) (hv : Nodes w v l) (hu : Nodes w v' l) :
    Calls Tryz.prog 18 #[v, v'] w fun e w' => e = .returned (.bool true) ∧ Below w.heap.size w w' := by
  obtain ⟨h1, a, ca, rfl, hca, ha⟩ := hv
  obtain ⟨k1, b, cb, rfl, hcb, hb⟩ := hu
  generalize hn : l.length = n at h1 ha hca k1 hb hcb
  have HA := Lib.hid ha
  have HB := Lib.hid hb
  clear hn ha hb hca hcb
  go_enter Tryz.func18, Tryz.ntmps18
  go_wp2
  go_loopw [5] (fun i wr => ∃ k : Nat, k ≤ n ∧ i = .int .i64 k ∧ Below w.heap.size w wr) (fun i _ => n - (intOf i).toNat)
  case atStart => exact ⟨0, by omega, rfl, Below.refl _ _⟩
  case round =>
    obtain ⟨k, hk, rfl, hbw⟩ := hrel
    have HBW := Lib.hid hbw
    clear hbw
    by_cases hlt : k < n
    · obtain ⟨x, o, rfl, hx, hcx⟩ := HA.out (by omega)
      obtain ⟨y, p, rfl, hy, hcy⟩ := HB.out (by omega)
      obtain ⟨u, d, cc, pp⟩ := hcx k hlt
      obtain ⟨u', d', cc', pp'⟩ := hcy k hlt
      have hxr : x < wr.heap.size := Nat.lt_of_lt_of_le hx HBW.out.size
      have hyr : y < wr.heap.size := Nat.lt_of_lt_of_le hy HBW.out.size
      have HL := Lib.hid (fun W (h : LatI wr W) => And.intro ((cc.below HBW.out hx).below h hxr) ((cc'.below HBW.out hy).below h hyr))
      have HC := Lib.hid (fun W (h : LatI wr W) => l_eq_nodeT (nthN l k) u d u' d' wr W (pp.later HBW.out) (pp'.later HBW.out) h)
      have y1 : (k : Int) < (n : Int) := by omega
      have y0 : (0 : Int) ≤ (k : Int) := by omega
      generalize nthN l k = q at HL HC
      clear hcx hcy cc cc' pp pp'
      go_wp2_with fail
      refine wp_region_quiet (C := LatI wr) (by kernel_rfl) (by kernel_rfl) (show LatI wr wr.drew from Below.drew (Below.refl _ _)) ?_
      dsimp only
      repeat (first | go_big_quiet_skip | (go_big_quiet_want; go_big_quiet_op; (first | go_big_quiet_on | (refine ⟨_, fun _ _ => rfl, ?_⟩; go_big_quiet_on) | (refine ⟨.agg #[.int .i64 q.me, .int .i64 q.next, u, d], ?_, ?_⟩; intro w' hw'; obtain ⟨⟨e0, e1, e2, e3⟩, _⟩ := HL.out w' hw'; simp [e0, e1, e2, e3, Result.andThen]; go_big_quiet_on) | (refine ⟨.agg #[.int .i64 q.me, .int .i64 q.next, u', d'], ?_, ?_⟩; intro w' hw'; obtain ⟨_, e0, e1, e2, e3⟩ := HL.out w' hw'; simp [e0, e1, e2, e3, Result.andThen]; go_big_quiet_on) | (refine ⟨_, fun w' hw' => HC.out w' hw', ?_⟩; go_big_quiet_on))))
      refine wpQuiet_nil ?_
      intro w2 L2
      have HB2 := Lib.hid (HBW.out.trans (Below.mono L2 HBW.out.size))
      clear L2 HL HC
      go_wp2
      go_roundw
      case rel => exact ⟨k + 1, by omega, by go_num, HB2.out⟩
      case measure => simp only [intOf]; omega
    · obtain rfl : k = n := by omega
      go_wp2
      go_ret
      exact ⟨rfl, HBW.out⟩
theorem l_eq_msgT (x : Em) (u v u' v' : Value) (w0 w : World) (h : Pts w0 (x).i u v) (h' : Pts w0 (x).i u' v') (hl : LatI w0 w) :
    Calls Tryz.prog 38 #[.agg #[.int .i64 x.kind, .int .i64 x.frm, .int .i64 x.dst, .int .i64 x.i.rep, .int .i64 x.i.slot, .int .i64 x.i.bal, .int .i64 x.i.cmd.kind, .int .i64 x.i.cmd.client, .int .i64 x.i.cmd.no, .string x.i.cmd.set, .string x.i.cmd.name, .string x.i.cmd.tag, .int .i64 x.i.cmd.n, u, .int .i64 x.i.seq, v, .int .i64 x.i.st, .int .i64 x.i.vbal, .bool x.i.same], .agg #[.int .i64 x.kind, .int .i64 x.frm, .int .i64 x.dst, .int .i64 x.i.rep, .int .i64 x.i.slot, .int .i64 x.i.bal, .int .i64 x.i.cmd.kind, .int .i64 x.i.cmd.client, .int .i64 x.i.cmd.no, .string x.i.cmd.set, .string x.i.cmd.name, .string x.i.cmd.tag, .int .i64 x.i.cmd.n, u', .int .i64 x.i.seq, v', .int .i64 x.i.st, .int .i64 x.i.vbal, .bool x.i.same]] w fun e w' => e = .returned (.bool true) ∧ LatI w0 w' :=
  (eq_emsg_yes x u v u' v' w (h.later hl) (h'.later hl)).mono fun _ w' hh => ⟨hh.1, hl.trans hh.2⟩
set_option maxRecDepth 100000 in
set_option maxHeartbeats 2000000 in
theorem eq_msgsT (v v' : Value) (l : List Em) (w : World) (hv : Msgs w v l) (hu : Msgs w v' l) :
    Calls Tryz.prog 19 #[v, v'] w fun e w' => e = .returned (.bool true) ∧ Below w.heap.size w w' := by
  obtain ⟨h1, a, ca, rfl, hca, ha⟩ := hv
  obtain ⟨k1, b, cb, rfl, hcb, hb⟩ := hu
  generalize hn : l.length = n at h1 ha hca k1 hb hcb
  have HA := Lib.hid ha
  have HB := Lib.hid hb
  clear hn ha hb hca hcb
  go_enter Tryz.func19, Tryz.ntmps19
  go_wp2
  go_loopw [5] (fun i wr => ∃ k : Nat, k ≤ n ∧ i = .int .i64 k ∧ Below w.heap.size w wr) (fun i _ => n - (intOf i).toNat)
  case atStart => exact ⟨0, by omega, rfl, Below.refl _ _⟩
  case round =>
    obtain ⟨k, hk, rfl, hbw⟩ := hrel
    have HBW := Lib.hid hbw
    clear hbw
    by_cases hlt : k < n
    · obtain ⟨x, o, rfl, hx, hcx⟩ := HA.out (by omega)
      obtain ⟨y, p, rfl, hy, hcy⟩ := HB.out (by omega)
      obtain ⟨u, d, cc, pp⟩ := hcx k hlt
      obtain ⟨u', d', cc', pp'⟩ := hcy k hlt
      have hxr : x < wr.heap.size := Nat.lt_of_lt_of_le hx HBW.out.size
      have hyr : y < wr.heap.size := Nat.lt_of_lt_of_le hy HBW.out.size
      have HL := Lib.hid (fun W (h : LatI wr W) => And.intro ((cc.below HBW.out hx).below h hxr) ((cc'.below HBW.out hy).below h hyr))
      have HC := Lib.hid (fun W (h : LatI wr W) => l_eq_msgT (nthE l k) u d u' d' wr W (pp.later HBW.out) (pp'.later HBW.out) h)
      have y1 : (k : Int) < (n : Int) := by omega
      have y0 : (0 : Int) ≤ (k : Int) := by omega
      generalize nthE l k = q at HL HC
      clear hcx hcy cc cc' pp pp'
      go_wp2_with fail
      refine wp_region_quiet (C := LatI wr) (by kernel_rfl) (by kernel_rfl) (show LatI wr wr.drew from Below.drew (Below.refl _ _)) ?_
      dsimp only
      repeat (first | go_big_quiet_skip | (go_big_quiet_want; go_big_quiet_op; (first | go_big_quiet_on | (refine ⟨_, fun _ _ => rfl, ?_⟩; go_big_quiet_on) | (refine ⟨.agg #[.int .i64 q.kind, .int .i64 q.frm, .int .i64 q.dst, .int .i64 q.i.rep, .int .i64 q.i.slot, .int .i64 q.i.bal, .int .i64 q.i.cmd.kind, .int .i64 q.i.cmd.client, .int .i64 q.i.cmd.no, .string q.i.cmd.set, .string q.i.cmd.name, .string q.i.cmd.tag, .int .i64 q.i.cmd.n, u, .int .i64 q.i.seq, d, .int .i64 q.i.st, .int .i64 q.i.vbal, .bool q.i.same], ?_, ?_⟩; intro w' hw'; obtain ⟨⟨e0, e1, e2, e3, e4, e5, e6, e7, e8, e9, e10, e11, e12, e13, e14, e15, e16, e17, e18⟩, _⟩ := HL.out w' hw'; simp [e0, e1, e2, e3, e4, e5, e6, e7, e8, e9, e10, e11, e12, e13, e14, e15, e16, e17, e18, Result.andThen]; go_big_quiet_on) | (refine ⟨.agg #[.int .i64 q.kind, .int .i64 q.frm, .int .i64 q.dst, .int .i64 q.i.rep, .int .i64 q.i.slot, .int .i64 q.i.bal, .int .i64 q.i.cmd.kind, .int .i64 q.i.cmd.client, .int .i64 q.i.cmd.no, .string q.i.cmd.set, .string q.i.cmd.name, .string q.i.cmd.tag, .int .i64 q.i.cmd.n, u', .int .i64 q.i.seq, d', .int .i64 q.i.st, .int .i64 q.i.vbal, .bool q.i.same], ?_, ?_⟩; intro w' hw'; obtain ⟨_, e0, e1, e2, e3, e4, e5, e6, e7, e8, e9, e10, e11, e12, e13, e14, e15, e16, e17, e18⟩ := HL.out w' hw'; simp [e0, e1, e2, e3, e4, e5, e6, e7, e8, e9, e10, e11, e12, e13, e14, e15, e16, e17, e18, Result.andThen]; go_big_quiet_on) | (refine ⟨_, fun w' hw' => HC.out w' hw', ?_⟩; go_big_quiet_on))))
      refine wpQuiet_nil ?_
      intro w2 L2
      have HB2 := Lib.hid (HBW.out.trans (Below.mono L2 HBW.out.size))
      clear L2 HL HC
      go_wp2
      go_roundw
      case rel => exact ⟨k + 1, by omega, by go_num, HB2.out⟩
      case measure => simp only [intOf]; omega
    · obtain rfl : k = n := by omega
      go_wp2
      go_ret
      exact ⟨rfl, HBW.out⟩
set_option maxRecDepth 100000 in
set_option maxHeartbeats 1000000 in
theorem eq_netT (x : Nt) (u v u' v' : Value) (w : World) (h : NtP w x u v) (h' : NtP w x u' v') :
    Calls Tryz.prog 8 #[.agg #[u, v], .agg #[u', v']] w fun e w' => e = .returned (.bool true) ∧ Below w.heap.size w w' := by
  obtain ⟨⟨a1, n1, c1, rfl⟩, a2, n2, c2, rfl⟩ := h.form
  obtain ⟨⟨a3, n3, c3, rfl⟩, a4, n4, c4, rfl⟩ := h'.form
  have X := Lib.hid ((Bx.new w 31 #[.slice a1 n1 c1, .slice a2 n2 c2] _ rfl).alloc (.cells #[.slice a3 n3 c3, .slice a4 n4 c4] 31))
  have Y := Lib.hid (Bx.new (w.alloc (.cells #[.slice a1 n1 c1, .slice a2 n2 c2] 31)) 31 #[.slice a3 n3 c3, .slice a4 n4 c4] (w.heap.size + 1) (by simp))
  have P := Lib.hid ((h.alloc (.cells #[.slice a1 n1 c1, .slice a2 n2 c2] 31)).alloc (.cells #[.slice a3 n3 c3, .slice a4 n4 c4] 31))
  have Q := Lib.hid ((h'.alloc (.cells #[.slice a1 n1 c1, .slice a2 n2 c2] 31)).alloc (.cells #[.slice a3 n3 c3, .slice a4 n4 c4] 31))
  have A := Lib.hid (((Af.refl w).alloc (.cells #[.slice a1 n1 c1, .slice a2 n2 c2] 31)).alloc (.cells #[.slice a3 n3 c3, .slice a4 n4 c4] 31))
  clear h h'
  go_enter Tryz.func8, Tryz.ntmps8
  go_wp2_with fail
  refine (eq_nodesT _ _ x.nodes _ P.out.1 Q.out.1).mono ?_
  rintro e w1 ⟨rfl, b1⟩
  have X1 := Lib.hid (X.out.after b1)
  have Y1 := Lib.hid (Y.out.after b1)
  have P1 := Lib.hid (P.out.later b1)
  have Q1 := Lib.hid (Q.out.later b1)
  have A1 := Lib.hid (A.out.after b1)
  clear b1 X Y P Q A
  obtain ⟨x0, x1⟩ := X1.out.cT
  obtain ⟨y0, y1⟩ := Y1.out.cT
  go_wp2_with fail
  clear x0 x1 y0 y1
  refine (eq_msgsT _ _ x.pool _ P1.out.2 Q1.out.2).mono ?_
  rintro e w2 ⟨rfl, b2⟩
  have A2 := Lib.hid (A1.out.after b2)
  clear b2 X1 Y1 P1 Q1 A1
  go_wp2
  go_ret
  exact ⟨rfl, A2.out⟩
end Go.Proofs.YtdokglckfabdaaaGreatDoor
/- The laws' measure of networks. -/
namespace Go.Proofs.YtdokglckfabdaaaGreatDoor
open Go.RowKit Go.PlainAid
set_option linter.unusedVariables false

def SzInG (l : List In) (left : Int) (e : Ending) : Prop := e = .returned (.int .i64 (-1)) ∨ ∃ r : Int, e = .returned (.int .i64 r) ∧ 0 ≤ r ∧ r ≤ left ∧ Sm l
set_option maxRecDepth 100000 in
set_option maxHeartbeats 2000000 in
theorem sz_instsG (v : Value) (l : List In) (left : Int) (w : World) (hv : Insts w v l) (h0 : 0 ≤ left) (hl1 : left ≤ 1048576) :
    Calls Tryz.prog 39 #[v, .int .i64 left] w fun e w' => SzInG l left e ∧ Below w.heap.size w w' := by
  obtain ⟨k1, a, ca, rfl, hca, ha⟩ := hv
  obtain ⟨n, hn⟩ : ∃ n, l.length = n := ⟨_, rfl⟩
  rw [hn] at k1 hca ha ⊢
  have HN := Lib.hid hn
  have HA := Lib.hid ha
  clear hn ha hca
  by_cases hbig : left < n
  · have hd : decide (left - (n : Int) < 0) = true := by simp; omega
    have hni : (n : Int) ≤ 9223372036854775807 := by omega
    go_enter Tryz.func39, Tryz.ntmps39
    go_wp2
    go_ret
    exact ⟨.inl rfl, Below.refl _ _⟩
  · have hd : decide (left - (n : Int) < 0) = false := by simp; omega
    have hni : (n : Int) ≤ left := by omega
    have hn1 : n ≤ 1048576 := by omega
    go_enter Tryz.func39, Tryz.ntmps39
    go_wp2
    go_loopw [1, 5] (fun r i wr => ∃ (k : Nat) (q : Int), k ≤ n ∧ i = .int .i64 k ∧ r = .int .i64 q ∧ 0 ≤ q ∧ q ≤ left ∧ (∀ j, j < k → (nth l j).cmd.ch.length ≤ 1048576 ∧ (nth l j).deps.length ≤ 1048576) ∧ Below w.heap.size w wr) (fun _ i _ => n - (intOf i).toNat)
    case atStart => exact ⟨0, _, by omega, rfl, rfl, by omega, by omega, fun j hj => by omega, Below.refl _ _⟩
    case round =>
      obtain ⟨k, q, hk, rfl, rfl, hq0, hq1, he, hb⟩ := hrel
      have HE := Lib.hid he
      have HB := Lib.hid hb
      clear he hb hd
      by_cases hlt : k < n
      · obtain ⟨y, o, rfl, hy, hcy⟩ := HA.out (by omega)
        obtain ⟨u, d, cc, pp⟩ := hcy k hlt
        obtain ⟨c0, c1, c2, c3, c4, c5, c6, c7, c8, c9, c10, c11, c12, c13, c14, c15⟩ := cc.below HB.out hy
        have P := Lib.hid (pp.later HB.out)
        clear hcy cc pp
        go_wp2_with fail
        clear c0 c1 c2 c3 c4 c5 c6 c7 c8 c9 c10 c11 c12 c13 c14 c15
        refine (sz_inst (nth l k) u d q _ P.out hq0 (by omega)).mono ?_
        rintro e w2 ⟨(rfl | ⟨r, rfl, r0, r1, r2, r3⟩), hb2⟩
        · have HB2 := Lib.hid (HB.out.trans (hb2.mono HB.out.size))
          clear hb2
          go_wp2
          go_ret
          exact ⟨.inl rfl, HB2.out⟩
        · have HB2 := Lib.hid (HB.out.trans (hb2.mono HB.out.size))
          have hd2 : decide (r < 0) = false := by simp; omega
          have HQ := Lib.hid (show (nth l k).cmd.ch.length ≤ 1048576 ∧ (nth l k).deps.length ≤ 1048576 by omega)
          have hr1 : r ≤ left := by omega
          clear hb2 r1 r2 r3
          go_wp2
          go_roundw
          case rel =>
            refine ⟨k + 1, r, by omega, by go_num, rfl, r0, hr1, fun j hj => ?_, HB2.out⟩
            by_cases e : j = k
            · subst e; exact HQ.out
            · exact HE.out j (by omega)
          case measure => simp only [intOf]; omega
      · obtain rfl : k = n := by omega
        go_wp2
        go_ret
        exact ⟨.inr ⟨q, rfl, hq0, hq1, by rw [HN.out]; omega, fun j hj => HE.out j (by rw [HN.out] at hj; exact hj)⟩, HB.out⟩
set_option maxRecDepth 100000 in
set_option maxHeartbeats 1000000 in
theorem sz_nodeG (x : Nd) (u v : Value) (left : Int) (w : World) (h : NdP w x u v) (h0 : 0 ≤ left) (hl1 : left ≤ 1048576) :
    Calls Tryz.prog 20 #[.agg #[.int .i64 x.me, .int .i64 x.next, u, v], .int .i64 left] w fun e w' => (e = .returned (.int .i64 (-1)) ∨ ∃ r : Int, e = .returned (.int .i64 r) ∧ 0 ≤ r ∧ r ≤ left ∧ Sm x.insts ∧ SmL x.leads) ∧ Below w.heap.size w w' := by
  obtain ⟨⟨a1, n1, c1, rfl⟩, a2, n2, c2, rfl⟩ := h.form
  have X := Lib.hid (Bx.new w 62 #[.int .i64 x.me, .int .i64 x.next, .slice a1 n1 c1, .slice a2 n2 c2] _ rfl)
  have P := Lib.hid (h.alloc (.cells #[.int .i64 x.me, .int .i64 x.next, .slice a1 n1 c1, .slice a2 n2 c2] 62))
  have A := Lib.hid ((Af.refl w).alloc (.cells #[.int .i64 x.me, .int .i64 x.next, .slice a1 n1 c1, .slice a2 n2 c2] 62))
  clear h
  go_enter Tryz.func20, Tryz.ntmps20
  go_wp2_with fail
  refine (sz_instsG _ x.insts left _ P.out.1 h0 hl1).mono ?_
  rintro e w1 ⟨(rfl | ⟨r, rfl, r0, r1, r2⟩), b1⟩
  · have A1 := Lib.hid (A.out.after b1)
    clear b1
    go_wp2
    go_ret
    exact ⟨.inl rfl, A1.out⟩
  have X1 := Lib.hid (X.out.after b1)
  have P1 := Lib.hid (P.out.later b1)
  have A1 := Lib.hid (A.out.after b1)
  have R2 := Lib.hid r2
  have hd : decide (r < 0) = false := decide_eq_false (by omega)
  clear b1 X P A r2
  obtain ⟨x0, x1, x2, x3⟩ := cells4 X1.out
  go_wp2_with fail
  clear x0 x1 x2 x3 hd
  refine (sz_leads _ x.leads r _ P1.out.2 r0 (by omega)).mono ?_
  rintro e w2 ⟨(rfl | ⟨q, rfl, q0, q1, q2⟩), b2⟩
  · have A2 := Lib.hid (A1.out.after b2)
    clear b2
    go_wp2
    go_ret
    exact ⟨.inl rfl, A2.out⟩
  have A2 := Lib.hid (A1.out.after b2)
  have Q2 := Lib.hid q2
  have hd : decide (q < 0) = false := decide_eq_false (by omega)
  have hq : q ≤ left := by omega
  clear b2 X1 P1 A1 q2
  go_wp2
  go_ret
  exact ⟨.inr ⟨q, rfl, q0, hq, R2.out, Q2.out⟩, A2.out⟩
def SmNd (l : List Nd) : Prop := l.length ≤ 1048576 ∧ ∀ j, j < l.length → Sm (nthN l j).insts ∧ SmL (nthN l j).leads
def SzNdL (l : List Nd) (left : Int) (e : Ending) : Prop := e = .returned (.int .i64 (-1)) ∨ ∃ r : Int, e = .returned (.int .i64 r) ∧ 0 ≤ r ∧ r ≤ left ∧ SmNd l
set_option maxRecDepth 100000 in
set_option maxHeartbeats 2000000 in
theorem sz_nodes (v : Value) (l : List Nd) (left : Int) (w : World) (hv : Nodes w v l) (h0 : 0 ≤ left) (hl1 : left ≤ 1048576) :
    Calls Tryz.prog 9 #[v, .int .i64 left] w fun e w' => SzNdL l left e ∧ Below w.heap.size w w' := by
  obtain ⟨k1, a, ca, rfl, hca, ha⟩ := hv
  obtain ⟨n, hn⟩ : ∃ n, l.length = n := ⟨_, rfl⟩
  rw [hn] at k1 hca ha ⊢
  have HN := Lib.hid hn
  have HA := Lib.hid ha
  clear hn ha hca
  by_cases hbig : left < n
  · have hd : decide (left - (n : Int) < 0) = true := by simp; omega
    have hni : (n : Int) ≤ 9223372036854775807 := by omega
    go_enter Tryz.func9, Tryz.ntmps9
    go_wp2
    go_ret
    exact ⟨.inl rfl, Below.refl _ _⟩
  · have hd : decide (left - (n : Int) < 0) = false := by simp; omega
    have hni : (n : Int) ≤ left := by omega
    have hn1 : n ≤ 1048576 := by omega
    go_enter Tryz.func9, Tryz.ntmps9
    go_wp2
    go_loopw [1, 5] (fun r i wr => ∃ (k : Nat) (q : Int), k ≤ n ∧ i = .int .i64 k ∧ r = .int .i64 q ∧ 0 ≤ q ∧ q ≤ left ∧ (∀ j, j < k → Sm (nthN l j).insts ∧ SmL (nthN l j).leads) ∧ Below w.heap.size w wr) (fun _ i _ => n - (intOf i).toNat)
    case atStart => exact ⟨0, _, by omega, rfl, rfl, by omega, by omega, fun j hj => by omega, Below.refl _ _⟩
    case round =>
      obtain ⟨k, q, hk, rfl, rfl, hq0, hq1, he, hb⟩ := hrel
      have HE := Lib.hid he
      have HB := Lib.hid hb
      clear he hb hd
      by_cases hlt : k < n
      · obtain ⟨y, o, rfl, hy, hcy⟩ := HA.out (by omega)
        obtain ⟨d, f, cc, pp⟩ := hcy k hlt
        obtain ⟨c0, c1, c2, c3⟩ := cc.below HB.out hy
        have P := Lib.hid (pp.later HB.out)
        clear hcy cc pp
        go_wp2_with fail
        clear c0 c1 c2 c3
        refine (sz_nodeG (nthN l k) d f q _ P.out hq0 (by omega)).mono ?_
        rintro e w2 ⟨(rfl | ⟨r, rfl, r0, r1, r2, r3⟩), hb2⟩
        · have HB2 := Lib.hid (HB.out.trans (hb2.mono HB.out.size))
          clear hb2
          go_wp2
          go_ret
          exact ⟨.inl rfl, HB2.out⟩
        · have HB2 := Lib.hid (HB.out.trans (hb2.mono HB.out.size))
          have hd2 : decide (r < 0) = false := by simp; omega
          have HQ := Lib.hid (show Sm (nthN l k).insts ∧ SmL (nthN l k).leads from ⟨r2, r3⟩)
          have hr1 : r ≤ left := by omega
          clear hb2 r1 r2 r3
          go_wp2
          go_roundw
          case rel =>
            refine ⟨k + 1, r, by omega, by go_num, rfl, r0, hr1, fun j hj => ?_, HB2.out⟩
            by_cases e : j = k
            · subst e; exact HQ.out
            · exact HE.out j (by omega)
          case measure => simp only [intOf]; omega
      · obtain rfl : k = n := by omega
        go_wp2
        go_ret
        exact ⟨.inr ⟨q, rfl, hq0, hq1, by rw [HN.out]; omega, fun j hj => HE.out j (by rw [HN.out] at hj; exact hj)⟩, HB.out⟩
def SmEm (l : List Em) : Prop := l.length ≤ 1048576 ∧ ∀ j, j < l.length → (nthE l j).i.cmd.ch.length ≤ 1048576 ∧ (nthE l j).i.deps.length ≤ 1048576
def SzEmL (l : List Em) (left : Int) (e : Ending) : Prop := e = .returned (.int .i64 (-1)) ∨ ∃ r : Int, e = .returned (.int .i64 r) ∧ 0 ≤ r ∧ r ≤ left ∧ SmEm l
section
attribute [local go_sem] blkO_eq offO_eq
attribute [local go_sem ↓] load_lmsg_at
set_option maxRecDepth 100000 in
set_option maxHeartbeats 2000000 in
theorem sz_msgs (v : Value) (l : List Em) (left : Int) (w : World) (hv : Msgs w v l) (h0 : 0 ≤ left) (hl1 : left ≤ 1048576) :
    Calls Tryz.prog 10 #[v, .int .i64 left] w fun e w' => SzEmL l left e ∧ Below w.heap.size w w' := by
  obtain ⟨k1, a, ca, rfl, hca, ha⟩ := hv
  obtain ⟨n, hn⟩ : ∃ n, l.length = n := ⟨_, rfl⟩
  rw [hn] at k1 hca ha ⊢
  have HN := Lib.hid hn
  have HA := Lib.hid ha
  clear hn ha hca
  by_cases hbig : left < n
  · have hd : decide (left - (n : Int) < 0) = true := by simp; omega
    have hni : (n : Int) ≤ 9223372036854775807 := by omega
    go_enter Tryz.func10, Tryz.ntmps10
    go_wp2
    go_ret
    exact ⟨.inl rfl, Below.refl _ _⟩
  · have hd : decide (left - (n : Int) < 0) = false := by simp; omega
    have hni : (n : Int) ≤ left := by omega
    have hn1 : n ≤ 1048576 := by omega
    go_enter Tryz.func10, Tryz.ntmps10
    go_wp2
    go_loopw [1, 5] (fun r i wr => ∃ (k : Nat) (q : Int), k ≤ n ∧ i = .int .i64 k ∧ r = .int .i64 q ∧ 0 ≤ q ∧ q ≤ left ∧ (∀ j, j < k → (nthE l j).i.cmd.ch.length ≤ 1048576 ∧ (nthE l j).i.deps.length ≤ 1048576) ∧ Below w.heap.size w wr) (fun _ i _ => n - (intOf i).toNat)
    case atStart => exact ⟨0, _, by omega, rfl, rfl, by omega, by omega, fun j hj => by omega, Below.refl _ _⟩
    case round =>
      obtain ⟨k, q, hk, rfl, rfl, hq0, hq1, he, hb⟩ := hrel
      have HE := Lib.hid he
      have HB := Lib.hid hb
      clear he hb hd
      by_cases hlt : k < n
      · obtain ⟨y, o, rfl, hy, hcy⟩ := HA.out (by omega)
        obtain ⟨d, f, cc, pp⟩ := hcy k hlt
        obtain ⟨rq1, rq2⟩ := msg_at (cc.below HB.out hy)
        have P := Lib.hid (pp.later HB.out)
        clear hcy cc pp
        go_wp2_with fail
        clear rq1 rq2
        refine (sz_emsg (nthE l k) d f q _ P.out hq0 (by omega)).mono ?_
        rintro e w2 ⟨(rfl | ⟨r, rfl, r0, r1, r2, r3⟩), hb2⟩
        · have HB2 := Lib.hid (HB.out.trans (hb2.mono HB.out.size))
          clear hb2
          go_wp2
          go_ret
          exact ⟨.inl rfl, HB2.out⟩
        · have HB2 := Lib.hid (HB.out.trans (hb2.mono HB.out.size))
          have hd2 : decide (r < 0) = false := by simp; omega
          have HQ := Lib.hid (show (nthE l k).i.cmd.ch.length ≤ 1048576 ∧ (nthE l k).i.deps.length ≤ 1048576 by omega)
          have hr1 : r ≤ left := by omega
          clear hb2 r1 r2 r3
          go_wp2
          go_roundw
          case rel =>
            refine ⟨k + 1, r, by omega, by go_num, rfl, r0, hr1, fun j hj => ?_, HB2.out⟩
            by_cases e : j = k
            · subst e; exact HQ.out
            · exact HE.out j (by omega)
          case measure => simp only [intOf]; omega
      · obtain rfl : k = n := by omega
        go_wp2
        go_ret
        exact ⟨.inr ⟨q, rfl, hq0, hq1, by rw [HN.out]; omega, fun j hj => HE.out j (by rw [HN.out] at hj; exact hj)⟩, HB.out⟩
end
set_option maxRecDepth 100000 in
set_option maxHeartbeats 1000000 in
theorem sz_net (x : Nt) (u v : Value) (w : World) (h : NtP w x u v) :
    Calls Tryz.prog 4 #[.agg #[u, v], .int .i64 1048576] w fun e w' => (e = .returned (.int .i64 (-1)) ∨ ∃ r : Int, e = .returned (.int .i64 r) ∧ 0 ≤ r ∧ r ≤ 1048576 ∧ SmNd x.nodes ∧ SmEm x.pool) ∧ Below w.heap.size w w' := by
  obtain ⟨⟨a1, n1, c1, rfl⟩, a2, n2, c2, rfl⟩ := h.form
  have X := Lib.hid (Bx.new w 25 #[.slice a1 n1 c1, .slice a2 n2 c2] _ rfl)
  have P := Lib.hid (h.alloc (.cells #[.slice a1 n1 c1, .slice a2 n2 c2] 25))
  have A := Lib.hid ((Af.refl w).alloc (.cells #[.slice a1 n1 c1, .slice a2 n2 c2] 25))
  clear h
  go_enter Tryz.func4, Tryz.ntmps4
  go_wp2_with fail
  refine (sz_nodes _ x.nodes 1048576 _ P.out.1 (by omega) (by omega)).mono ?_
  rintro e w1 ⟨(rfl | ⟨r, rfl, r0, r1, r2⟩), b1⟩
  · have A1 := Lib.hid (A.out.after b1)
    clear b1
    go_wp2
    go_ret
    exact ⟨.inl rfl, A1.out⟩
  have X1 := Lib.hid (X.out.after b1)
  have P1 := Lib.hid (P.out.later b1)
  have A1 := Lib.hid (A.out.after b1)
  have R2 := Lib.hid r2
  have hd : decide (r < 0) = false := decide_eq_false (by omega)
  clear b1 X P A r2
  obtain ⟨x0, x1⟩ := X1.out.cT
  go_wp2_with fail
  clear x0 x1 hd
  refine (sz_msgs _ x.pool r _ P1.out.2 r0 r1).mono ?_
  rintro e w2 ⟨(rfl | ⟨q, rfl, q0, q1, q2⟩), b2⟩
  · have A2 := Lib.hid (A1.out.after b2)
    clear b2
    go_wp2
    go_ret
    exact ⟨.inl rfl, A2.out⟩
  have A2 := Lib.hid (A1.out.after b2)
  have Q2 := Lib.hid q2
  have hd : decide (q < 0) = false := decide_eq_false (by omega)
  have hq : q ≤ 1048576 := by omega
  clear b2 X1 P1 A1 q2
  go_wp2
  go_ret
  exact ⟨.inr ⟨q, rfl, q0, hq, R2.out, Q2.out⟩, A2.out⟩
end Go.Proofs.YtdokglckfabdaaaGreatDoor
/- The laws' copies of networks. -/
namespace Go.Proofs.YtdokglckfabdaaaGreatDoor
open Go.RowKit Go.PlainAid
set_option linter.unusedVariables false

theorem row4T {w : World} {g off : Nat} {t : TypeId} {cur : Array Value} (h : w.heap[g]? = some (.cells cur t (0, 0))) (hs : off + 4 ≤ cur.size) :
    ∃ z0 z1 z2 z3 : Value, (w.cell? ⟨g, off, none⟩ = some z0 ∧ w.cell? ⟨g, off + 1, none⟩ = some z1 ∧ w.cell? ⟨g, off + 2, none⟩ = some z2 ∧ w.cell? ⟨g, off + 3, none⟩ = some z3) ∧ w.frozen? ⟨g, off, none⟩ = false ∧ w.frozen? ⟨g, off + 1, none⟩ = false ∧ w.frozen? ⟨g, off + 2, none⟩ = false ∧ w.frozen? ⟨g, off + 3, none⟩ = false := by
  have hc : ∀ i, i < 4 → w.cell? ⟨g, off + i, none⟩ = some (cur[off + i]?.getD undef) := fun i hi => by
    rw [cell_of_row w g _ cur _ (0, 0) h, Array.getElem?_eq_getElem (by omega)]; rfl
  have hf : ∀ i, w.frozen? ⟨g, i, none⟩ = false := fun i => frozen_of_row w g i _ _ h
  exact ⟨_, _, _, _, ⟨hc 0 (by omega), hc 1 (by omega), hc 2 (by omega), hc 3 (by omega)⟩, hf _, hf _, hf _, hf _⟩
theorem Tryz.infoNdT : (Tryz.prog.info? 41).map (fun i => (i.zero, i.size, i.bytes)) = some (some (.agg #[.int .i64 0, .int .i64 0, .slice none 0 0, .slice none 0 0]), 4, 64) := by kernel_rfl
theorem make_nodes (w : World) (n : Nat) (hb : n ≤ 1048576) :
    ∃ w1 cur, (Instr.makeSlice 28 (.int .i64 (n : Int)) (.int .i64 (n : Int))).run Tryz.prog w = .ok (.slice (some ⟨w.heap.size, 0, none⟩) n n) w1 ∧ w1.heap[w.heap.size]? = some (.cells cur 41 (0, 0)) ∧ cur.size = n * 4 ∧ Below w.heap.size w w1 ∧ w.heap.size < w1.heap.size := by
  obtain ⟨i, hi, hz, hs, hby⟩ := info_parts Tryz.infoNdT
  have h := run_make (P := Tryz.prog) w 28 41 i _ Tryz.underlying28 hi hz .i64 .i64 n n (by omega) (Int.le_refl _) (by rw [hby]; omega) (by omega)
  simp only [Int.toNat_natCast, hs] at h
  exact ⟨_, _, h, heap_alloc_new w _, by simp [madeCells], (Below.refl _ _).alloc (Nat.le_refl _) _, by simp⟩
set_option maxRecDepth 100000 in
set_option maxHeartbeats 4000000 in
theorem to_nodes (v : Value) (l : List Nd) (w : World) (hv : Nodes w v l) (hl : SmNd l) :
    Calls Tryz.prog 14 #[v] w fun e w' => (∃ u, e = .returned u ∧ NodesO w' w.heap.size u l) ∧ Below w.heap.size w w' := by
  obtain ⟨k1, a, ca, rfl, hca, ha⟩ := hv
  obtain ⟨n, hn⟩ : ∃ n, l.length = n := ⟨_, rfl⟩
  obtain ⟨w1, cur0, hmk, hrow, hcs, hb1, hlt1⟩ := make_nodes w n (by rw [← hn]; exact hl.1)
  have HSM := Lib.hid hl
  have hln := hl.1
  rw [hn] at k1 hca ha hln
  have HN := Lib.hid hn
  have HA := Lib.hid ha
  have HR := Lib.hid (And.intro hrow hcs)
  have HB := Lib.hid hb1
  obtain ⟨g, hg⟩ : ∃ g, g = w.heap.size := ⟨_, rfl⟩
  rw [← hg] at hmk HR HB hlt1 ⊢
  have HG := Lib.hid hg
  have HLT := Lib.hid hlt1
  rw [hn]
  clear hn ha hca hrow hcs hb1 hg hlt1 hl
  go_enter Tryz.func14, Tryz.ntmps14
  go_wp2
  clear hmk
  go_loopw [4] (fun i wr => ∃ (k : Nat) (cur : Array Value), k ≤ n ∧ i = .int .i64 k ∧ wr.heap[g]? = some (.cells cur 41 (0, 0)) ∧ cur.size = n * 4 ∧ (∀ j, j < k → ∃ d f, NtB cur (j * 4) (nthN l j) d f ∧ NdO wr (g + 1) wr.heap.size (nthN l j) d f) ∧ Below g w wr) (fun i _ => n - (intOf i).toNat)
  case atStart => exact ⟨0, cur0, by omega, rfl, HR.out.1, HR.out.2, fun j hj => by omega, HB.out⟩
  case round =>
    clear HR HB HLT
    obtain ⟨k, cur, hk, rfl, hrow, hcs, hel, hb⟩ := hrel
    have HROW := Lib.hid hrow
    have HEL := Lib.hid hel
    have HB := Lib.hid hb
    have hgr : g < wr.heap.size := (Array.getElem?_eq_some_iff.1 hrow).1
    clear hrow hel hb
    by_cases hlt : k < n
    · obtain ⟨y, o, rfl, hy, hcy⟩ := HA.out (by omega)
      obtain ⟨d, f, cc, pp⟩ := hcy k hlt
      have hyg : y < g := by rw [HG.out]; exact hy
      obtain ⟨c0, c1, c2, c3⟩ := cc.below HB.out hyg
      have HPP := Lib.hid (pp.later (show Below w.heap.size w wr by rw [← HG.out]; exact HB.out))
      have HSZ := Lib.hid (HSM.out.2 k (by rw [HN.out]; exact hlt))
      clear hcy cc pp
      go_wp2_with fail
      clear c0 c1 c2 c3
      refine (to_node (nthN l k) d f _ HPP.out HSZ.out.1 HSZ.out.2).mono ?_
      rintro e w2 ⟨⟨a1, n1, c1, a2, n2, c2, rfl, p2i, p2l⟩, b2⟩
      have p2 : NdO w2 wr.heap.size w2.heap.size (nthN l k) (.slice a1 n1 c1) (.slice a2 n2 c2) := ⟨p2i, p2l⟩
      have hz2 := b2.size
      have HROW2 := Lib.hid ((b2.block g hgr).trans HROW.out)
      have P2 := Lib.hid p2
      have HB2 := Lib.hid (HB.out.trans (b2.mono (by omega)))
      have HEL2 := Lib.hid (fun j hj => (by
        obtain ⟨u, d, q1, q2⟩ := HEL.out j hj
        exact ⟨u, d, q1, (q2.later b2).mono (Nat.le_refl _) hz2⟩ : ∃ d f, NtB cur (j * 4) (nthN l j) d f ∧ NdO w2 (g + 1) w2.heap.size (nthN l j) d f))
      obtain ⟨z0, z1, z2, z3, ⟨d0, d1, d2, d3⟩, f0, f1, f2, f3⟩ := row4T (off := k * 4) HROW2.out (by omega)
      clear p2 b2 HROW HEL HB HPP
      generalize hxk : nthN l k = x at P2 ⊢
      have HXK := Lib.hid hxk
      clear hxk
      go_wp2
      go_roundw
      case rel =>
        refine ⟨k + 1, updL cur (k * 4) (ndA x (.slice a1 n1 c1) (.slice a2 n2 c2)), by omega, by go_num, setL_heap (ndA x (.slice a1 n1 c1) (.slice a2 n2 c2)) w2 cur (k * 4) HROW2.out, by rw [updL_size]; exact hcs, ?_, ?_⟩
        · intro j hj
          have hG := setL_grown g (ndA x (.slice a1 n1 c1) (.slice a2 n2 c2)) w2 (k * 4)
          have hZ := setL_size g (ndA x (.slice a1 n1 c1) (.slice a2 n2 c2)) w2 (k * 4)
          have main : ∃ d f, NtB (updL cur (k * 4) (ndA x (.slice a1 n1 c1) (.slice a2 n2 c2))) (j * 4) (nthN l j) d f ∧ NdO (setL w2 g (k * 4) (ndA x (.slice a1 n1 c1) (.slice a2 n2 c2))) (g + 1) (setL w2 g (k * 4) (ndA x (.slice a1 n1 c1) (.slice a2 n2 c2))).heap.size (nthN l j) d f := by
            by_cases e : j = k
            · subst e
              refine ⟨.slice a1 n1 c1, .slice a2 n2 c2, by rw [HXK.out]; exact NtB.new cur _ x _ _ (by omega), ?_⟩
              rw [hZ, HXK.out]
              exact NdO.keptB (P2.out.mono hgr (Nat.le_refl _)) hG (fun k hk => by cases hk; omega)
            · obtain ⟨u, d, q1, q2⟩ := HEL2.out j (by omega)
              refine ⟨u, d, q1.upd _ rfl (by omega) (by omega), ?_⟩
              rw [hZ]
              exact NdO.keptB q2 hG (fun k hk => by cases hk; omega)
          exact main
        · exact Below.grown HB2.out (setL_grown g (ndA x (.slice a1 n1 c1) (.slice a2 n2 c2)) w2 (k * 4)) (by omega) (fun k hk => by cases hk; exact Nat.le_refl _)
      case measure => simp only [intOf]; omega
    · obtain rfl : k = n := by omega
      go_wp2
      go_ret
      exact ⟨⟨_, rfl, ⟨_, k, by rw [HN.out]; rfl, by rw [HN.out]; exact Nat.le_refl _, by rw [HN.out]; omega, fun h0 => ⟨g, wr.heap.size, cur, rfl, Nat.le_refl _, HROW.out, fun j hj => by
        rw [HN.out] at hj
        obtain ⟨u, d, q1, q2⟩ := HEL.out j hj
        exact ⟨u, d, q1, q2.mono (by omega) (Nat.le_refl _)⟩⟩⟩⟩, HB.out⟩
theorem row19T {w : World} {g off : Nat} {t : TypeId} {cur : Array Value} (h : w.heap[g]? = some (.cells cur t (0, 0))) (hs : off + 19 ≤ cur.size) :
    ∃ z0 z1 z2 z3 z4 z5 z6 z7 z8 z9 z10 z11 z12 z13 z14 z15 z16 z17 z18 : Value, (w.cell? ⟨g, off, none⟩ = some z0 ∧ w.cell? ⟨g, off + 1, none⟩ = some z1 ∧ w.cell? ⟨g, off + 2, none⟩ = some z2 ∧ w.cell? ⟨g, off + 3, none⟩ = some z3 ∧ w.cell? ⟨g, off + 4, none⟩ = some z4 ∧ w.cell? ⟨g, off + 5, none⟩ = some z5 ∧ w.cell? ⟨g, off + 6, none⟩ = some z6 ∧ w.cell? ⟨g, off + 7, none⟩ = some z7 ∧ w.cell? ⟨g, off + 8, none⟩ = some z8 ∧ w.cell? ⟨g, off + 9, none⟩ = some z9 ∧ w.cell? ⟨g, off + 10, none⟩ = some z10 ∧ w.cell? ⟨g, off + 11, none⟩ = some z11 ∧ w.cell? ⟨g, off + 12, none⟩ = some z12 ∧ w.cell? ⟨g, off + 13, none⟩ = some z13 ∧ w.cell? ⟨g, off + 14, none⟩ = some z14 ∧ w.cell? ⟨g, off + 15, none⟩ = some z15 ∧ w.cell? ⟨g, off + 16, none⟩ = some z16 ∧ w.cell? ⟨g, off + 17, none⟩ = some z17 ∧ w.cell? ⟨g, off + 18, none⟩ = some z18) ∧ w.frozen? ⟨g, off, none⟩ = false ∧ w.frozen? ⟨g, off + 1, none⟩ = false ∧ w.frozen? ⟨g, off + 2, none⟩ = false ∧ w.frozen? ⟨g, off + 3, none⟩ = false ∧ w.frozen? ⟨g, off + 4, none⟩ = false ∧ w.frozen? ⟨g, off + 5, none⟩ = false ∧ w.frozen? ⟨g, off + 6, none⟩ = false ∧ w.frozen? ⟨g, off + 7, none⟩ = false ∧ w.frozen? ⟨g, off + 8, none⟩ = false ∧ w.frozen? ⟨g, off + 9, none⟩ = false ∧ w.frozen? ⟨g, off + 10, none⟩ = false ∧ w.frozen? ⟨g, off + 11, none⟩ = false ∧ w.frozen? ⟨g, off + 12, none⟩ = false ∧ w.frozen? ⟨g, off + 13, none⟩ = false ∧ w.frozen? ⟨g, off + 14, none⟩ = false ∧ w.frozen? ⟨g, off + 15, none⟩ = false ∧ w.frozen? ⟨g, off + 16, none⟩ = false ∧ w.frozen? ⟨g, off + 17, none⟩ = false ∧ w.frozen? ⟨g, off + 18, none⟩ = false := by
  have hc : ∀ i, i < 19 → w.cell? ⟨g, off + i, none⟩ = some (cur[off + i]?.getD undef) := fun i hi => by
    rw [cell_of_row w g _ cur _ (0, 0) h, Array.getElem?_eq_getElem (by omega)]; rfl
  have hf : ∀ i, w.frozen? ⟨g, i, none⟩ = false := fun i => frozen_of_row w g i _ _ h
  exact ⟨_, _, _, _, _, _, _, _, _, _, _, _, _, _, _, _, _, _, _, ⟨hc 0 (by omega), hc 1 (by omega), hc 2 (by omega), hc 3 (by omega), hc 4 (by omega), hc 5 (by omega), hc 6 (by omega), hc 7 (by omega), hc 8 (by omega), hc 9 (by omega), hc 10 (by omega), hc 11 (by omega), hc 12 (by omega), hc 13 (by omega), hc 14 (by omega), hc 15 (by omega), hc 16 (by omega), hc 17 (by omega), hc 18 (by omega)⟩, hf _, hf _, hf _, hf _, hf _, hf _, hf _, hf _, hf _, hf _, hf _, hf _, hf _, hf _, hf _, hf _, hf _, hf _, hf _⟩
theorem Tryz.infoEmT : (Tryz.prog.info? 50).map (fun i => (i.zero, i.size, i.bytes)) = some (some (.agg #[.int .i64 0, .int .i64 0, .int .i64 0, .int .i64 0, .int .i64 0, .int .i64 0, .int .i64 0, .int .i64 0, .int .i64 0, .string ⟨#[]⟩, .string ⟨#[]⟩, .string ⟨#[]⟩, .int .i64 0, .slice none 0 0, .int .i64 0, .slice none 0 0, .int .i64 0, .int .i64 0, .bool false]), 19, 208) := by kernel_rfl
theorem make_msgs (w : World) (n : Nat) (hb : n ≤ 1048576) :
    ∃ w1 cur, (Instr.makeSlice 29 (.int .i64 (n : Int)) (.int .i64 (n : Int))).run Tryz.prog w = .ok (.slice (some ⟨w.heap.size, 0, none⟩) n n) w1 ∧ w1.heap[w.heap.size]? = some (.cells cur 50 (0, 0)) ∧ cur.size = n * 19 ∧ Below w.heap.size w w1 ∧ w.heap.size < w1.heap.size := by
  obtain ⟨i, hi, hz, hs, hby⟩ := info_parts Tryz.infoEmT
  have h := run_make (P := Tryz.prog) w 29 50 i _ Tryz.underlying29 hi hz .i64 .i64 n n (by omega) (Int.le_refl _) (by rw [hby]; omega) (by omega)
  simp only [Int.toNat_natCast, hs] at h
  exact ⟨_, _, h, heap_alloc_new w _, by simp [madeCells], (Below.refl _ _).alloc (Nat.le_refl _) _, by simp⟩
section
attribute [local go_sem] blkO_eq offO_eq aggO_eq okA_mk
attribute [local go_sem ↓] load_lmsg_at store_msg_at
set_option maxRecDepth 100000 in
set_option maxHeartbeats 4000000 in
theorem to_msgs (v : Value) (l : List Em) (w : World) (hv : Msgs w v l) (hl : SmEm l) :
    Calls Tryz.prog 15 #[v] w fun e w' => (∃ u, e = .returned u ∧ MsgsO w' w.heap.size u l) ∧ Below w.heap.size w w' := by
  obtain ⟨k1, a, ca, rfl, hca, ha⟩ := hv
  obtain ⟨n, hn⟩ : ∃ n, l.length = n := ⟨_, rfl⟩
  obtain ⟨w1, cur0, hmk, hrow, hcs, hb1, hlt1⟩ := make_msgs w n (by rw [← hn]; exact hl.1)
  have HSM := Lib.hid hl
  have hln := hl.1
  rw [hn] at k1 hca ha hln
  have HN := Lib.hid hn
  have HA := Lib.hid ha
  have HR := Lib.hid (And.intro hrow hcs)
  have HB := Lib.hid hb1
  obtain ⟨g, hg⟩ : ∃ g, g = w.heap.size := ⟨_, rfl⟩
  rw [← hg] at hmk HR HB hlt1 ⊢
  have HG := Lib.hid hg
  have HLT := Lib.hid hlt1
  rw [hn]
  clear hn ha hca hrow hcs hb1 hg hlt1 hl
  go_enter Tryz.func15, Tryz.ntmps15
  go_wp2
  clear hmk
  go_loopw [4] (fun i wr => ∃ (k : Nat) (cur : Array Value), k ≤ n ∧ i = .int .i64 k ∧ wr.heap[g]? = some (.cells cur 50 (0, 0)) ∧ cur.size = n * 19 ∧ (∀ j, j < k → ∃ d f, MsB cur (j * 19) (nthE l j) d f ∧ PtO wr (g + 1) wr.heap.size ((nthE l j)).i d f) ∧ Below g w wr) (fun i _ => n - (intOf i).toNat)
  case atStart => exact ⟨0, cur0, by omega, rfl, HR.out.1, HR.out.2, fun j hj => by omega, HB.out⟩
  case round =>
    clear HR HB HLT
    obtain ⟨k, cur, hk, rfl, hrow, hcs, hel, hb⟩ := hrel
    have HROW := Lib.hid hrow
    have HEL := Lib.hid hel
    have HB := Lib.hid hb
    have hgr : g < wr.heap.size := (Array.getElem?_eq_some_iff.1 hrow).1
    clear hrow hel hb
    by_cases hlt : k < n
    · obtain ⟨y, o, rfl, hy, hcy⟩ := HA.out (by omega)
      obtain ⟨d, f, cc, pp⟩ := hcy k hlt
      have hyg : y < g := by rw [HG.out]; exact hy
      obtain ⟨rq1, rq2⟩ := msg_at (cc.below HB.out hyg)
      have HPP := Lib.hid (pp.later (show Below w.heap.size w wr by rw [← HG.out]; exact HB.out))
      have HSZ := Lib.hid (HSM.out.2 k (by rw [HN.out]; exact hlt))
      clear hcy cc pp
      go_wp2_with fail
      clear rq1 rq2
      refine (to_emsg (nthE l k) d f _ HPP.out HSZ.out.1 HSZ.out.2).mono ?_
      rintro e w2 ⟨⟨a1, n1, c1, a2, n2, c2, rfl, p2⟩, b2⟩
      have hz2 := b2.size
      have HROW2 := Lib.hid ((b2.block g hgr).trans HROW.out)
      have P2 := Lib.hid p2
      have HB2 := Lib.hid (HB.out.trans (b2.mono (by omega)))
      have HEL2 := Lib.hid (fun j hj => (by
        obtain ⟨u, d, q1, q2⟩ := HEL.out j hj
        exact ⟨u, d, q1, (q2.later b2).mono (Nat.le_refl _) hz2⟩ : ∃ d f, MsB cur (j * 19) (nthE l j) d f ∧ PtO w2 (g + 1) w2.heap.size ((nthE l j)).i d f))
      have hPP := there_row (off := k * 19) HROW2.out (by omega)
      clear p2 b2 HROW HEL HB HPP
      generalize hxk : nthE l k = x at P2 ⊢
      have HXK := Lib.hid hxk
      clear hxk
      go_wp2
      go_roundw
      case rel =>
        refine ⟨k + 1, updL cur (k * 19) (emA x (.slice a1 n1 c1) (.slice a2 n2 c2)), by omega, by go_num, setL_heap (emA x (.slice a1 n1 c1) (.slice a2 n2 c2)) w2 cur (k * 19) HROW2.out, by rw [updL_size]; exact hcs, ?_, ?_⟩
        · intro j hj
          have hG := setL_grown g (emA x (.slice a1 n1 c1) (.slice a2 n2 c2)) w2 (k * 19)
          have hZ := setL_size g (emA x (.slice a1 n1 c1) (.slice a2 n2 c2)) w2 (k * 19)
          have main : ∃ d f, MsB (updL cur (k * 19) (emA x (.slice a1 n1 c1) (.slice a2 n2 c2))) (j * 19) (nthE l j) d f ∧ PtO (setL w2 g (k * 19) (emA x (.slice a1 n1 c1) (.slice a2 n2 c2))) (g + 1) (setL w2 g (k * 19) (emA x (.slice a1 n1 c1) (.slice a2 n2 c2))).heap.size ((nthE l j)).i d f := by
            by_cases e : j = k
            · subst e
              refine ⟨.slice a1 n1 c1, .slice a2 n2 c2, by rw [HXK.out]; exact MsB.new cur _ x _ _ (by omega), ?_⟩
              rw [hZ, HXK.out]
              exact ptO_keptB (P2.out.mono hgr (Nat.le_refl _)) hG (fun k hk => by cases hk; omega)
            · obtain ⟨u, d, q1, q2⟩ := HEL2.out j (by omega)
              refine ⟨u, d, q1.upd _ rfl (by omega) (by omega), ?_⟩
              rw [hZ]
              exact ptO_keptB q2 hG (fun k hk => by cases hk; omega)
          exact main
        · exact Below.grown HB2.out (setL_grown g (emA x (.slice a1 n1 c1) (.slice a2 n2 c2)) w2 (k * 19)) (by omega) (fun k hk => by cases hk; exact Nat.le_refl _)
      case measure => simp only [intOf]; omega
    · obtain rfl : k = n := by omega
      go_wp2
      go_ret
      exact ⟨⟨_, rfl, ⟨_, k, by rw [HN.out]; rfl, by rw [HN.out]; exact Nat.le_refl _, by rw [HN.out]; omega, fun h0 => ⟨g, wr.heap.size, cur, rfl, Nat.le_refl _, HROW.out, fun j hj => by
        rw [HN.out] at hj
        obtain ⟨u, d, q1, q2⟩ := HEL.out j hj
        exact ⟨u, d, q1, q2.mono (by omega) (Nat.le_refl _)⟩⟩⟩⟩, HB.out⟩
end
theorem results_netT {fn : Func} {p : Tmp} (h : fn.results = #[.cell p 31]) (tmps : Array Value) (w : World) (g : Nat) (cs : Array Value) (hs : 2 = cs.size)
    (hp : tmps.getD p undef = .pointer (some ⟨g, 0, none⟩)) (hc : Bx w g 31 cs) : (results fn tmps).run Tryz.prog w = .ok (.agg cs) w :=
  results_cell_row h tmps w g 31 cs (0, 0) _ hp hc Tryz.underlying31 rfl (by rw [← hs]; kernel_rfl)
set_option maxRecDepth 100000 in
set_option maxHeartbeats 2000000 in
theorem to_net (x : Nt) (u v : Value) (w : World) (h : NtP w x u v) (h1 : SmNd x.nodes) (h2 : SmEm x.pool) :
    Calls Tryz.prog 6 #[.agg #[u, v]] w fun e w' => (∃ a n c a' n' c', e = .returned (.agg #[.slice a n c, .slice a' n' c']) ∧ NtP w' x (.slice a n c) (.slice a' n' c')) ∧ Below w.heap.size w w' := by
  obtain ⟨⟨a1, n1, c1, rfl⟩, a2, n2, c2, rfl⟩ := h.form
  have PH := Lib.hid h
  have X := Lib.hid (((Bx.new w 25 #[.slice a1 n1 c1, .slice a2 n2 c2] _ rfl).alloc (.cells #[.slice none 0 0, .slice none 0 0] 31)).alloc (.cells #[.slice none 0 0, .slice none 0 0] 31))
  have Y := Lib.hid ((Bx.new (w.alloc (.cells #[.slice a1 n1 c1, .slice a2 n2 c2] 25)) 31 #[.slice none 0 0, .slice none 0 0] (w.heap.size + 1) (by simp)).alloc (.cells #[.slice none 0 0, .slice none 0 0] 31))
  have V := Lib.hid (Bx.new ((w.alloc (.cells #[.slice a1 n1 c1, .slice a2 n2 c2] 25)).alloc (.cells #[.slice none 0 0, .slice none 0 0] 31)) 31 #[.slice none 0 0, .slice none 0 0] (w.heap.size + 1 + 1) (by simp))
  have A := Lib.hid ((((Af.refl w).alloc (.cells #[.slice a1 n1 c1, .slice a2 n2 c2] 25)).alloc (.cells #[.slice none 0 0, .slice none 0 0] 31)).alloc (.cells #[.slice none 0 0, .slice none 0 0] 31))
  clear h
  go_enter Tryz.func6, Tryz.ntmps6
  go_wp2_with fail
  refine (to_nodes _ x.nodes _ (PH.out.later A.out).1 h1).mono ?_
  rintro e w1 ⟨⟨u1, rfl, o1⟩, b1⟩
  obtain ⟨a3, n3, c3, rfl⟩ := o1.form
  have X1 := Lib.hid (X.out.after b1)
  have Y1 := Lib.hid (Y.out.after b1)
  have V1 := Lib.hid (V.out.after b1)
  have A1 := Lib.hid (A.out.after b1)
  have O1 := Lib.hid o1
  clear b1 o1 X Y V A
  obtain ⟨x0, x1⟩ := X1.out.cT
  obtain ⟨v0, v1⟩ := V1.out.cT
  have f0 := V1.out.frozen 0
  have lv := V1.out.lt
  go_wp2_with fail
  clear x0 x1 v0 v1 f0 lv
  have lv := V1.out.lt
  have A1s := Lib.hid (A1.out.set (p := ⟨w.heap.size + 1 + 1, 0, none⟩) (by simp <;> omega) (.slice a3 n3 c3))
  refine (to_msgs _ x.pool _ (PH.out.later A1s.out).2 h2).mono ?_
  rintro e w2 ⟨⟨u2, rfl, o2⟩, b2⟩
  obtain ⟨a4, n4, c4, rfl⟩ := o2.form
  have X2 := Lib.hid ((X1.out.set_other ⟨w.heap.size + 1 + 1, 0, none⟩ (.slice a3 n3 c3) (by simp <;> omega)).after b2)
  have Y2 := Lib.hid ((Y1.out.set_other ⟨w.heap.size + 1 + 1, 0, none⟩ (.slice a3 n3 c3) (by simp <;> omega)).after b2)
  have V2 := Lib.hid (show Bx w2 (w.heap.size + 1 + 1) 31 #[.slice a3 n3 c3, .slice none 0 0] from (V1.out.set 0 (.slice a3 n3 c3)).after b2)
  have A2 := Lib.hid (A1s.out.after b2)
  have hb12 := b2.size
  simp only [World.size_setCell] at o2 hb12
  have O1 := Lib.hid ((O1.out.keptB (grownBy_put w1 (w.heap.size + 1 + 1) 0 (.slice a3 n3 c3)) (fun k hk => by cases hk; simp)).later b2)
  have O2 := Lib.hid o2
  clear b2 o2 X1 Y1 V1 A1 A1s
  obtain ⟨x0, x1⟩ := X2.out.cT
  obtain ⟨y0, y1⟩ := Y2.out.cT
  obtain ⟨v0, v1⟩ := V2.out.cT
  have f1 := V2.out.frozen 1
  have g0 := Y2.out.frozen 0
  have g1 := Y2.out.frozen 1
  have lv2 := V2.out.lt
  go_wp2
  clear x0 x1 y0 y1 v0 v1 f1 g0 g1
  have F := Lib.hid (show Bx (((w2.setCell ⟨w.heap.size + 1 + 1, 1, none⟩ (.slice a4 n4 c4)).setCell ⟨w.heap.size + 1, 0, none⟩ (.slice a3 n3 c3)).setCell ⟨w.heap.size + 1, 1, none⟩ (.slice a4 n4 c4)) (w.heap.size + 1) 31 #[.slice a3 n3 c3, .slice a4 n4 c4] from ((Y2.out.set_other ⟨w.heap.size + 1 + 1, 1, none⟩ (.slice a4 n4 c4) (by simp <;> omega)).set 0 (.slice a3 n3 c3)).set 1 (.slice a4 n4 c4))
  have g1 := grownBy_put w2 (w.heap.size + 1 + 1) 1 (.slice a4 n4 c4)
  have g2 := grownBy_put (w2.setCell ⟨w.heap.size + 1 + 1, 1, none⟩ (.slice a4 n4 c4)) (w.heap.size + 1) 0 (.slice a3 n3 c3)
  have g3 := grownBy_put ((w2.setCell ⟨w.heap.size + 1 + 1, 1, none⟩ (.slice a4 n4 c4)).setCell ⟨w.heap.size + 1, 0, none⟩ (.slice a3 n3 c3)) (w.heap.size + 1) 1 (.slice a4 n4 c4)
  have AF := Lib.hid (((A2.out.grow g1 (fun k hk => by cases hk; omega)).grow g2 (fun k hk => by cases hk; omega)).grow g3 (fun k hk => by cases hk; omega))
  have P1 := Lib.hid (((O1.out.keptB g1 (fun k hk => by cases hk; simp)).keptB g2 (fun k hk => by cases hk; simp <;> omega)).keptB g3 (fun k hk => by cases hk; simp <;> omega))
  have P2 := Lib.hid (((O2.out.keptB g1 (fun k hk => by cases hk; omega)).keptB g2 (fun k hk => by cases hk; omega)).keptB g3 (fun k hk => by cases hk; omega))
  clear g1 g2 g3
  exact bodyPost_ret (results_netT Tryz.results6 _ _ (w.heap.size + 1) _ rfl rfl F.out) rfl ⟨⟨_, _, _, _, _, _, rfl, P1.out.toL, P2.out.toL⟩, AF.out⟩
end Go.Proofs.YtdokglckfabdaaaGreatDoor
