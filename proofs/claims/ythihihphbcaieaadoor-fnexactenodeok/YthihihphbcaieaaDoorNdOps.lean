/- A bundle of texts: LdOp, NdOp. -/
import Derived.Test.YthihihphbcaieaaDoorLdM
import Derived.Test.YthihihphbcaieaaDoorInOp
import Derived.Test.YthihihphbcaieaaDoorNdM
/- Leads that came in: from their reading to the slice. -/
namespace Go.Proofs.YthihihphbcaieaaDoor
open Go Go.ChangeShapes Go.WideShapes Go.ChangeAt Go.RowKit Go.Joins Go.Deep
set_option linter.unusedVariables false

theorem Tryd.leadCells : Tryd.prog.cellsOf 177 = 8 := by kernel_rfl
theorem Tryd.intCells : Tryd.prog.cellsOf 3 = 1 := by kernel_rfl
theorem mapNi_get (q : Nat → Int) (len j : Nat) (h : j < len) : ((List.range len).map q)[j]? = some (q j) := by
  rw [List.getElem?_map, List.getElem?_range h]; rfl
set_option maxRecDepth 100000 in
/-- A slice of integers, opened. -/
theorem open_nsC {H : Type} {enc : TypeId × Value → H} {W : World} {n : Nat} {c : Value} {y : DataW H × List MemPlace} (h : DataW.trod enc Tryd.prog W 0 (fun _ => true) true n 146 [c] = some y) :
    ∃ l : List Int, Ns W c l := by
  rcases open_slice Tryd.underlying146 h with ⟨hcs, _⟩ | ⟨a, len, cap, m, n, D, Pl, hcs, hb, hl, hm, hmm, _, hx⟩
  · simp only [List.cons.injEq, and_true] at hcs
    subst hcs
    exact ⟨[], ns_nil _ _ _⟩
  · simp only [List.cons.injEq, and_true] at hcs
    subst hcs
    have hlm : len ≤ m := by rw [hmm]; split <;> omega
    obtain ⟨q, hq⟩ := choose_lt (α := Int) (n := len) (p := fun i s => W.cell? (a.add i) = some (.int .i64 s)) (fun i hi => by
      obtain ⟨cs', h1, h2⟩ := hx i (by omega)
      rw [Tryd.intCells] at h1
      obtain ⟨_, hlen, hcell⟩ := World.cells?_some h1
      obtain ⟨x0, g0, _⟩ := DataW.trod_int Tryd.underlying3 h2
      subst g0
      have e0 := hcell 0 (by omega)
      rw [add_add] at e0
      exact ⟨x0, by simpa using e0⟩)
    unfold maxLen at hm
    have hlen : ((List.range len).map q).length = len := by simp
    refine ⟨(List.range len).map q, ⟨by rw [hlen]; omega, some a, cap, by rw [hlen], by rw [hlen]; exact hl, fun h0 => ?_⟩⟩
    rw [hlen] at h0
    obtain ⟨b, off, spot⟩ := a
    have hspot : spot = none := by simpa [Addr.add] using World.cell?_spot (hq 0 h0)
    subst hspot
    have hc' : ∀ j, j < len → W.cell? ⟨b, off + j, none⟩ = some (.int .i64 (q j)) := fun j hj => by rw [← Go.WideShapes.add_plain]; exact hq j hj
    refine ⟨b, off, rfl, cell_lt (p := ⟨b, off + 0, none⟩) (hc' 0 (by omega)), fun j hj => ?_⟩
    rw [hlen] at hj
    rw [nI_of (mapNi_get q len j hj)]
    exact hc' j hj
set_option maxRecDepth 100000 in
/-- A Lead, opened, by its cells. -/
theorem open_leadC {H : Type} {enc : TypeId × Value → H} {W : World} {n : Nat} {cs : List Value} {y : DataW H × List MemPlace} (hc : cs.length = 8) (h : DataW.trod enc Tryd.prog W 0 (fun _ => true) true n 177 cs = some y) :
    ∃ (x : Ld) (d f : Value), cs = #[.int .i64 x.rep, .int .i64 x.slot, .int .i64 x.bal, .int .i64 x.ph, .int .i64 x.seq, d, f, .bool x.same].toList ∧ LPts W x d f := by
  obtain ⟨c0, c1, c2, c3, c4, c5, c6, c7, rfl⟩ := list8 hc
  have r := struct_part Tryd.underlying177 h
  obtain ⟨_, y0, t0⟩ := r 0 _ rfl
  obtain ⟨_, y1, t1⟩ := r 1 _ rfl
  obtain ⟨_, y2, t2⟩ := r 2 _ rfl
  obtain ⟨_, y3, t3⟩ := r 3 _ rfl
  obtain ⟨_, y4, t4⟩ := r 4 _ rfl
  obtain ⟨_, y5, t5⟩ := r 5 _ rfl
  obtain ⟨_, y6, t6⟩ := r 6 _ rfl
  have k4 : Tryd.prog.cellsOf 4 = 1 := by kernel_rfl
  have kd : Tryd.prog.cellsOf 78 = 1 := by kernel_rfl
  have kn : Tryd.prog.cellsOf 146 = 1 := by kernel_rfl
  replace t0 : DataW.trod enc Tryd.prog W 0 (fun _ => true) true _ 69 (List.take (Tryd.prog.cellsOf 69) [c0, c1, c2, c3, c4, c5, c6, c7]) = some y0 := t0
  rw [Tryd.idCells] at t0
  replace t1 : DataW.trod enc Tryd.prog W 0 (fun _ => true) true _ 3 (List.take (Tryd.prog.cellsOf 3) [c2, c3, c4, c5, c6, c7]) = some y1 := t1
  rw [Tryd.intCells] at t1
  replace t2 : DataW.trod enc Tryd.prog W 0 (fun _ => true) true _ 3 (List.take (Tryd.prog.cellsOf 3) [c3, c4, c5, c6, c7]) = some y2 := t2
  rw [Tryd.intCells] at t2
  replace t3 : DataW.trod enc Tryd.prog W 0 (fun _ => true) true _ 3 (List.take (Tryd.prog.cellsOf 3) [c4, c5, c6, c7]) = some y3 := t3
  rw [Tryd.intCells] at t3
  replace t4 : DataW.trod enc Tryd.prog W 0 (fun _ => true) true _ 78 (List.take (Tryd.prog.cellsOf 78) [c5, c6, c7]) = some y4 := t4
  rw [kd] at t4
  replace t5 : DataW.trod enc Tryd.prog W 0 (fun _ => true) true _ 146 (List.take (Tryd.prog.cellsOf 146) [c6, c7]) = some y5 := t5
  rw [kn] at t5
  replace t6 : DataW.trod enc Tryd.prog W 0 (fun _ => true) true _ 4 (List.take (Tryd.prog.cellsOf 4) [c7]) = some y6 := t6
  rw [k4] at t6
  simp only [List.take_succ_cons, List.take_zero] at t0 t1 t2 t3 t4 t5 t6
  obtain ⟨i0, e0⟩ := open_idC rfl t0
  obtain ⟨z1, e1, _, _⟩ := DataW.trod_int Tryd.underlying3 t1
  obtain ⟨z2, e2, _, _⟩ := DataW.trod_int Tryd.underlying3 t2
  obtain ⟨z3, e3, _, _⟩ := DataW.trod_int Tryd.underlying3 t3
  obtain ⟨l4, h4⟩ := open_idsC t4
  obtain ⟨l5, h5⟩ := open_nsC t5
  obtain ⟨z6, e6, _⟩ := DataW.trod_bool Tryd.underlying4 t6
  simp only [List.cons.injEq, and_true] at e0 e1 e2 e3 e6
  obtain ⟨g0, g1⟩ := e0
  subst g0 g1 e1 e2 e3 e6
  exact ⟨⟨i0.rep, i0.slot, z1, z2, z3, l4, l5, z6⟩, _, _, rfl, h4, h5⟩
theorem mapLd_get (q : Nat → Ld) (len j : Nat) (h : j < len) : ((List.range len).map q)[j]? = some (q j) := by
  rw [List.getElem?_map, List.getElem?_range h]; rfl
set_option maxRecDepth 100000 in
/-- A slice of Leads, opened. -/
theorem open_leadsC {H : Type} {enc : TypeId × Value → H} {W : World} {n : Nat} {c : Value} {y : DataW H × List MemPlace} (h : DataW.trod enc Tryd.prog W 0 (fun _ => true) true n 94 [c] = some y) :
    ∃ l : List Ld, Leads W c l := by
  rcases open_slice Tryd.underlying94 h with ⟨hcs, _⟩ | ⟨a, len, cap, m, n, D, Pl, hcs, hb, hl, hm, hmm, _, hx⟩
  · simp only [List.cons.injEq, and_true] at hcs
    subst hcs
    exact ⟨[], leads_nil _ _ _⟩
  · simp only [List.cons.injEq, and_true] at hcs
    subst hcs
    have hlm : len ≤ m := by rw [hmm]; split <;> omega
    have hq : ∀ i, i < len → ∃ x : Ld, ∃ d f, (∀ j, j < 8 → W.cell? (a.add (i * 8 + j)) = #[.int .i64 x.rep, .int .i64 x.slot, .int .i64 x.bal, .int .i64 x.ph, .int .i64 x.seq, d, f, .bool x.same][j]?) ∧ LPts W x d f := fun i hi => by
      obtain ⟨cs', h1, h2⟩ := hx i (by omega)
      rw [Tryd.leadCells] at h1
      obtain ⟨_, hlen, hcell⟩ := World.cells?_some h1
      obtain ⟨x, d, f, rfl, hp⟩ := open_leadC hlen h2
      refine ⟨x, d, f, fun j hj => ?_, hp⟩
      have := hcell j hj
      rw [add_add] at this
      rw [this]
      simp
    obtain ⟨q, hq⟩ := choose_lt (α := Ld) (n := len) (p := fun i x => ∃ d f, (∀ j, j < 8 → W.cell? (a.add (i * 8 + j)) = #[.int .i64 x.rep, .int .i64 x.slot, .int .i64 x.bal, .int .i64 x.ph, .int .i64 x.seq, d, f, .bool x.same][j]?) ∧ LPts W x d f) hq
    unfold maxLen at hm
    have hlen : ((List.range len).map q).length = len := by simp
    refine ⟨(List.range len).map q, ⟨by rw [hlen]; omega, some a, cap, by rw [hlen], by rw [hlen]; exact hl, fun h0 => ?_⟩⟩
    rw [hlen] at h0
    obtain ⟨b, off, spot⟩ := a
    have hspot : spot = none := by
      obtain ⟨d, f, hc, _⟩ := hq 0 h0
      have := hc 0 (by omega)
      simpa [Addr.add] using World.cell?_spot (this : W.cell? _ = some (.int .i64 (q 0).rep))
    subst hspot
    have hcc : ∀ i, i < len → ∃ d f, LdC W b (off + i * 8) (q i) d f ∧ LPts W (q i) d f := fun i hi => by
      obtain ⟨d, f, hc, hp⟩ := hq i hi
      have h9 : ∀ j, j < 8 → W.cell? ⟨b, off + i * 8 + j, none⟩ = #[.int .i64 (q i).rep, .int .i64 (q i).slot, .int .i64 (q i).bal, .int .i64 (q i).ph, .int .i64 (q i).seq, d, f, .bool (q i).same][j]? := fun j hj => by
        rw [show off + i * 8 + j = off + (i * 8 + j) by omega, ← Go.WideShapes.add_plain]; exact hc j hj
      exact ⟨d, f, ⟨h9 0 (by omega), h9 1 (by omega), h9 2 (by omega), h9 3 (by omega), h9 4 (by omega), h9 5 (by omega), h9 6 (by omega), h9 7 (by omega)⟩, hp⟩
    refine ⟨b, off, rfl, ?_, fun j hj => ?_⟩
    · obtain ⟨d, f, hc, _⟩ := hcc 0 h0
      exact cell_lt (p := ⟨b, off + 0 * 8, none⟩) hc.1
    · rw [hlen] at hj
      obtain ⟨d, f, hc, hp⟩ := hcc j hj
      rw [nthL_of (mapLd_get q len j hj)]
      exact ⟨d, f, hc, hp⟩
end Go.Proofs.YthihihphbcaieaaDoor
/- Nodes that came in: from their reading to their cells. -/
namespace Go.Proofs.YthihihphbcaieaaDoor
open Go Go.ChangeShapes Go.WideShapes Go.ChangeAt Go.RowKit Go.Joins Go.Deep
set_option linter.unusedVariables false

theorem Tryd.nodeCells : Tryd.prog.cellsOf 96 = 4 := by kernel_rfl
theorem list4 {α : Type} {cs : List α} (h : cs.length = 4) : ∃ c0 c1 c2 c3, cs = [c0, c1, c2, c3] := by
  match cs, h with
  | [c0, c1, c2, c3], _ => exact ⟨c0, c1, c2, c3, rfl⟩
set_option maxRecDepth 100000 in
/-- A slice of instances, opened, by its cell. -/
theorem open_instsC {H : Type} {enc : TypeId × Value → H} {W : World} {n : Nat} {c : Value} {y : DataW H × List MemPlace} (h : DataW.trod enc Tryd.prog W 0 (fun _ => true) true n 65 [c] = some y) :
    ∃ l : List In, Insts W c l := by
  rcases open_slice Tryd.underlying65 h with ⟨hcs, _⟩ | ⟨a, len, cap, m, n, D, Pl, hcs, hb, hl, hm, hmm, _, hx⟩
  · simp only [List.cons.injEq, and_true] at hcs
    subst hcs
    exact ⟨[], insts_nil _ _ _⟩
  · simp only [List.cons.injEq, and_true] at hcs
    subst hcs
    have hlm : len ≤ m := by rw [hmm]; split <;> omega
    have hq : ∀ i, i < len → ∃ x : In, ∃ u d, (∀ j, j < 16 → W.cell? (a.add (i * 16 + j)) = #[.int .i64 x.rep, .int .i64 x.slot, .int .i64 x.bal, .int .i64 x.vbal, .int .i64 x.st, .int .i64 x.cmd.kind, .int .i64 x.cmd.client, .int .i64 x.cmd.no, .string x.cmd.set, .string x.cmd.name, .string x.cmd.tag, .int .i64 x.cmd.n, u, .int .i64 x.seq, d, .bool x.same][j]?) ∧ Pts W x u d := fun i hi => by
      obtain ⟨cs', h1, h2⟩ := hx i (by omega)
      rw [Tryd.instCells] at h1
      obtain ⟨_, hlen, hcell⟩ := World.cells?_some h1
      obtain ⟨x, u, d, rfl, hp⟩ := open_instC hlen h2
      refine ⟨x, u, d, fun j hj => ?_, hp⟩
      have := hcell j hj
      rw [add_add] at this
      rw [this]
      simp
    obtain ⟨q, hq⟩ := choose_lt (α := In) (n := len) (p := fun i x => ∃ u d, (∀ j, j < 16 → W.cell? (a.add (i * 16 + j)) = #[.int .i64 x.rep, .int .i64 x.slot, .int .i64 x.bal, .int .i64 x.vbal, .int .i64 x.st, .int .i64 x.cmd.kind, .int .i64 x.cmd.client, .int .i64 x.cmd.no, .string x.cmd.set, .string x.cmd.name, .string x.cmd.tag, .int .i64 x.cmd.n, u, .int .i64 x.seq, d, .bool x.same][j]?) ∧ Pts W x u d) hq
    unfold maxLen at hm
    have hlen : ((List.range len).map q).length = len := by simp
    refine ⟨(List.range len).map q, ⟨by rw [hlen]; omega, some a, cap, by rw [hlen], by rw [hlen]; exact hl, fun h0 => ?_⟩⟩
    rw [hlen] at h0
    obtain ⟨b, off, spot⟩ := a
    have hspot : spot = none := by
      obtain ⟨u, d, hc, _⟩ := hq 0 h0
      have := hc 0 (by omega)
      simpa [Addr.add] using World.cell?_spot (this : W.cell? _ = some (.int .i64 (q 0).rep))
    subst hspot
    have hcc : ∀ i, i < len → ∃ u d, InC W b (off + i * 16) (q i) u d ∧ Pts W (q i) u d := fun i hi => by
      obtain ⟨u, d, hc, hp⟩ := hq i hi
      have h9 : ∀ j, j < 16 → W.cell? ⟨b, off + i * 16 + j, none⟩ = #[.int .i64 (q i).rep, .int .i64 (q i).slot, .int .i64 (q i).bal, .int .i64 (q i).vbal, .int .i64 (q i).st, .int .i64 (q i).cmd.kind, .int .i64 (q i).cmd.client, .int .i64 (q i).cmd.no, .string (q i).cmd.set, .string (q i).cmd.name, .string (q i).cmd.tag, .int .i64 (q i).cmd.n, u, .int .i64 (q i).seq, d, .bool (q i).same][j]? := fun j hj => by
        rw [show off + i * 16 + j = off + (i * 16 + j) by omega, ← Go.WideShapes.add_plain]; exact hc j hj
      exact ⟨u, d, ⟨h9 0 (by omega), h9 1 (by omega), h9 2 (by omega), h9 3 (by omega), h9 4 (by omega), h9 5 (by omega), h9 6 (by omega), h9 7 (by omega), h9 8 (by omega), h9 9 (by omega), h9 10 (by omega), h9 11 (by omega), h9 12 (by omega), h9 13 (by omega), h9 14 (by omega), h9 15 (by omega)⟩, hp⟩
    refine ⟨b, off, rfl, ?_, fun j hj => ?_⟩
    · obtain ⟨u, d, hc, _⟩ := hcc 0 h0
      exact cell_lt (p := ⟨b, off + 0 * 16, none⟩) hc.1
    · rw [hlen] at hj
      obtain ⟨u, d, hc, hp⟩ := hcc j hj
      rw [nth_of (mapIn_get q len j hj)]
      exact ⟨u, d, hc, hp⟩
set_option maxRecDepth 100000 in
theorem open_nodeC {H : Type} {enc : TypeId × Value → H} {W : World} {n : Nat} {cs : List Value} {y : DataW H × List MemPlace} (hc : cs.length = 4) (h : DataW.trod enc Tryd.prog W 0 (fun _ => true) true n 96 cs = some y) :
    ∃ (x : Nd) (u f : Value), cs = [.int .i64 x.me, .int .i64 x.next, u, f] ∧ NdP W x u f := by
  obtain ⟨c0, c1, c2, c3, rfl⟩ := list4 hc
  have r := struct_part Tryd.underlying96 h
  obtain ⟨_, y0, t0⟩ := r 0 _ rfl
  obtain ⟨_, y1, t1⟩ := r 1 _ rfl
  obtain ⟨_, y2, t2⟩ := r 2 _ rfl
  obtain ⟨_, y3, t3⟩ := r 3 _ rfl
  have ki : Tryd.prog.cellsOf 65 = 1 := by kernel_rfl
  have kl : Tryd.prog.cellsOf 94 = 1 := by kernel_rfl
  replace t0 : DataW.trod enc Tryd.prog W 0 (fun _ => true) true _ 3 (List.take (Tryd.prog.cellsOf 3) [c0, c1, c2, c3]) = some y0 := t0
  rw [Tryd.intCells] at t0
  replace t1 : DataW.trod enc Tryd.prog W 0 (fun _ => true) true _ 3 (List.take (Tryd.prog.cellsOf 3) [c1, c2, c3]) = some y1 := t1
  rw [Tryd.intCells] at t1
  replace t2 : DataW.trod enc Tryd.prog W 0 (fun _ => true) true _ 65 (List.take (Tryd.prog.cellsOf 65) [c2, c3]) = some y2 := t2
  rw [ki] at t2
  replace t3 : DataW.trod enc Tryd.prog W 0 (fun _ => true) true _ 94 (List.take (Tryd.prog.cellsOf 94) [c3]) = some y3 := t3
  rw [kl] at t3
  simp only [List.take_succ_cons, List.take_zero] at t0 t1 t2 t3
  obtain ⟨z0, e0, _, _⟩ := DataW.trod_int Tryd.underlying3 t0
  obtain ⟨z1, e1, _, _⟩ := DataW.trod_int Tryd.underlying3 t1
  obtain ⟨l2, h2⟩ := open_instsC t2
  obtain ⟨l3, h3⟩ := open_leadsC t3
  simp only [List.cons.injEq, and_true] at e0 e1
  subst e0 e1
  exact ⟨⟨z0, z1, l2, l3⟩, c2, c3, rfl, h2, h3⟩
set_option maxRecDepth 100000 in
theorem open_node {H : Type} {enc : TypeId × Value → H} {W : World} {base : Nat} {v : Value} {d : DataW H} {p : List MemPlace} (hv : Value.okWide Tryd.prog W .any base 96 v) (h : DataW.Trod enc Tryd.prog W 0 (fun _ => true) true 96 v d p) :
    ∃ (x : Nd) (u f : Value), v = .agg #[.int .i64 x.me, .int .i64 x.next, u, f] ∧ NdP W x u f := by
  obtain ⟨cs, rfl, hsz⟩ := okWide_struct Tryd.underlying96 hv
  obtain ⟨fuel, hf⟩ := h
  obtain ⟨x, u, f, e, hp⟩ := open_nodeC (cs := cs.toList) (by rw [Array.length_toList]; exact hsz.trans Tryd.nodeCells) hf
  refine ⟨x, u, f, ?_, hp⟩
  have e2 : cs = #[.int .i64 x.me, .int .i64 x.next, u, f] := Array.toList_inj.1 e
  rw [e2]
end Go.Proofs.YthihihphbcaieaaDoor
