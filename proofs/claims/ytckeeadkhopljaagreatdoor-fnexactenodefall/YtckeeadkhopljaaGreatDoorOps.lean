/- A bundle of texts: IdOp, CmdO, InOp, LdOp, NdOp. -/
import Derived.Test.YtckeeadkhopljaaGreatDoorIdM
import Derived.ProofKit
import Derived.OpenShut
import Derived.ShutString
import Derived.Deep.Slices
import Derived.Deep.Fields
import Derived.ChangeSame
import Derived.Lib.SmallJoins
import Derived.Test.YtckeeadkhopljaaGreatDoorStrs
import Derived.Test.YtckeeadkhopljaaGreatDoorCmdM
import Derived.SliceStrings
import Derived.Test.YtckeeadkhopljaaGreatDoorInM
import Derived.Test.YtckeeadkhopljaaGreatDoorLdB
import Derived.Test.YtckeeadkhopljaaGreatDoorNdM
/- Ids that came in: from their reading to the slice. -/
namespace Go.Proofs.YtckeeadkhopljaaGreatDoor
open Go Go.ChangeShapes Go.WideShapes Go.ChangeAt Go.RowKit Go.Joins Go.Deep
set_option linter.unusedVariables false

theorem list2 {α : Type} {cs : List α} (h : cs.length = 2) : ∃ c0 c1, cs = [c0, c1] := by
  match cs, h with
  | [c0, c1], _ => exact ⟨c0, c1, rfl⟩
theorem field_atI {P : Program} {fs : Array Field} (hone : oneCellFields P fs = true) (cs : List Value) (i : Nat) (f : Field) (x : Value) (hf : fs[i]? = some f) (hx : cs[i]? = some x) : (cs.drop f.offset).take (P.cellsOf f.type) = [x] := by
  obtain ⟨o, k⟩ := hone_of hone i f hf
  have hi : i < cs.length := (List.getElem?_eq_some_iff.1 hx).1
  rw [o, k, take1_drop _ i undef hi, List.getD, hx]
  rfl
theorem struct_cellsI {H : Type} {enc : TypeId × Value → H} {P : Program} {W : World} {sp : Nat → Bool} {held : Bool} {base : Nat} {t : TypeId} {fs : Array Field} {fuel : Nat} {cs : List Value} {x : DataW H × List MemPlace} (ht : P.underlying t = some (.struct fs)) (hone : oneCellFields P fs = true)
    (h : DataW.trod enc P W base sp held fuel t cs = some x) (i : Nat) (f : Field) (c : Value) (hf : fs[i]? = some f) (hx : cs[i]? = some c) : ∃ n y, DataW.trod enc P W base sp held n f.type [c] = some y := by
  obtain ⟨xs, n, _, _, _, hlen, hfd⟩ := DataW.trod_struct ht h
  have hi : i < fs.size := (Array.getElem?_eq_some_iff.1 hf).1
  have e := hfd i f hf
  rw [field_atI hone cs i f c hf hx, List.getElem?_eq_getElem (by omega)] at e
  exact ⟨n, _, e⟩
theorem Tryz.oneId : (match Tryz.prog.underlying 49 with | some (.struct fs) => oneCellFields Tryz.prog fs | _ => false) = true := by kernel_rfl
theorem Tryz.idCells : Tryz.prog.cellsOf 49 = 2 := by kernel_rfl
theorem ids_at {w : World} {a : Addr} {len : Nat} {q : Nat → Ii} (h : ∀ i, i < len → w.cell? (a.add (i * 2)) = some (.int .i64 (q i).rep) ∧ w.cell? (a.add (i * 2 + 1)) = some (.int .i64 (q i).slot)) (hp : 0 < len) :
    ∃ b o, a = ⟨b, o, none⟩ ∧ ∀ j, j < len → w.cell? ⟨b, o + j * 2, none⟩ = some (.int .i64 (q j).rep) ∧ w.cell? ⟨b, o + j * 2 + 1, none⟩ = some (.int .i64 (q j).slot) := by
  obtain ⟨b, off, spot⟩ := a
  have hspot : spot = none := by simpa [Addr.add] using World.cell?_spot (h 0 hp).1
  subst hspot
  exact ⟨b, off, rfl, fun j hj => by rw [← Go.WideShapes.add_plain, show off + j * 2 + 1 = off + (j * 2 + 1) by omega, ← Go.WideShapes.add_plain]; exact h j hj⟩
theorem mapIi_get (q : Nat → Ii) (len j : Nat) (h : j < len) : ((List.range len).map q)[j]? = some (q j) := by
  rw [List.getElem?_map, List.getElem?_range h]; rfl
set_option maxRecDepth 100000 in
/-- An Id, opened. -/
theorem open_idC {H : Type} {enc : TypeId × Value → H} {W : World} {n : Nat} {cs : List Value} {y : DataW H × List MemPlace} (hc : cs.length = 2) (h : DataW.trod enc Tryz.prog W 0 (fun _ => true) true n 49 cs = some y) :
    ∃ x : Ii, cs = [.int .i64 x.rep, .int .i64 x.slot] := by
  have hone := Tryz.oneId
  rw [Tryz.underlying49] at hone
  obtain ⟨c0, c1, rfl⟩ := list2 hc
  have r := struct_cellsI Tryz.underlying49 hone h
  obtain ⟨_, _, s0⟩ := r 0 _ c0 rfl rfl
  obtain ⟨_, _, s1⟩ := r 1 _ c1 rfl rfl
  obtain ⟨x0, g0, _⟩ := DataW.trod_int Tryz.underlying3 s0
  obtain ⟨x1, g1, _⟩ := DataW.trod_int Tryz.underlying3 s1
  simp only [List.cons.injEq, and_true] at g0 g1
  subst g0 g1
  exact ⟨⟨x0, x1⟩, rfl⟩
set_option maxRecDepth 100000 in
/-- A slice of Ids, opened. -/
theorem open_idsC {H : Type} {enc : TypeId × Value → H} {W : World} {n : Nat} {c : Value} {y : DataW H × List MemPlace} (h : DataW.trod enc Tryz.prog W 0 (fun _ => true) true n 53 [c] = some y) :
    ∃ l : List Ii, Ids W c l := by
  rcases open_slice Tryz.underlying53 h with ⟨hcs, _⟩ | ⟨a, len, cap, m, n, D, Pl, hcs, hb, hl, hm, hmm, _, hx⟩
  · simp only [List.cons.injEq, and_true] at hcs
    subst hcs
    exact ⟨[], ids_nil _ _ _⟩
  · simp only [List.cons.injEq, and_true] at hcs
    subst hcs
    have hlm : len ≤ m := by rw [hmm]; split <;> omega
    obtain ⟨q, hq⟩ := choose_lt (α := Ii) (n := len) (p := fun i s => W.cell? (a.add (i * 2)) = some (.int .i64 s.rep) ∧ W.cell? (a.add (i * 2 + 1)) = some (.int .i64 s.slot)) (fun i hi => by
      obtain ⟨cs', h1, h2⟩ := hx i (by omega)
      rw [Tryz.idCells] at h1
      obtain ⟨_, hlen, hcell⟩ := World.cells?_some h1
      obtain ⟨x, rfl⟩ := open_idC hlen h2
      have e0 := hcell 0 (by omega)
      have e1 := hcell 1 (by omega)
      rw [add_add] at e0 e1
      exact ⟨x, by simpa using e0, by simpa using e1⟩)
    unfold maxLen at hm
    have hlen : ((List.range len).map q).length = len := by simp
    refine ⟨(List.range len).map q, ⟨by rw [hlen]; omega, some a, cap, by rw [hlen], by rw [hlen]; exact hl, fun h0 => ?_⟩⟩
    rw [hlen] at h0
    obtain ⟨b, o, rfl, hc'⟩ := ids_at (fun i hi => hq i hi) h0
    refine ⟨b, o, rfl, cell_lt (p := ⟨b, o + 0 * 2, none⟩) (hc' 0 (by omega)).1, fun j hj => ?_⟩
    rw [hlen] at hj
    unfold IiAt
    rw [iR_of (mapIi_get q len j hj), iS_of (mapIi_get q len j hj)]
    exact hc' j hj
set_option maxRecDepth 100000 in
theorem open_ids {H : Type} {enc : TypeId × Value → H} {W : World} {base : Nat} {v : Value} {d : DataW H} {p : List MemPlace} (hv : Value.okWide Tryz.prog W .any base 53 v) (h : DataW.Trod enc Tryz.prog W 0 (fun _ => true) true 53 v d p) :
    ∃ l : List Ii, Ids W v l := by
  obtain ⟨a, len, cap, rfl⟩ := okWide_slice Tryz.underlying53 hv
  obtain ⟨fuel, hf⟩ := h
  exact open_idsC hf
end Go.Proofs.YtckeeadkhopljaaGreatDoor
/- A command that came in: from its reading to the value and its parts. -/
namespace Go.Proofs.YtckeeadkhopljaaGreatDoor
open Go Go.ChangeShapes Go.WideShapes Go.ChangeAt Go.RowKit Go.Joins Go.Deep
set_option linter.unusedVariables false

theorem strs_at {w : World} {a : Addr} {ss : List ByteArray} (h : ∀ i, i < ss.length → w.cell? (a.add i) = some (.string (ss.getD i ByteArray.empty))) (hp : 0 < ss.length) :
    ∃ b off, a = ⟨b, off, none⟩ ∧ ∀ j, j < ss.length → w.cell? ⟨b, off + j, none⟩ = some (.string (ss.getD j ByteArray.empty)) := by
  obtain ⟨b, off, spot⟩ := a
  have hspot : spot = none := by simpa [Addr.add] using World.cell?_spot (h 0 hp)
  subst hspot
  exact ⟨b, off, rfl, fun j hj => by rw [← Go.WideShapes.add_plain]; exact h j hj⟩
theorem strs_of_open {w : World} {a : Addr} {len cap n : Nat} {ss : List ByteArray} (hl : len ≤ cap) (hm : cap ≤ maxLen) (hz : ss.length = n) (hn : len ≤ n) (hc : ∀ i, i < ss.length → w.cell? (a.add i) = some (.string (ss.getD i ByteArray.empty))) (hs : ∀ s ∈ ss, s.size ≤ maxLen) :
    Strs w (.slice (some a) len cap) (ss.take len) := by
  have hlen : (ss.take len).length = len := by rw [List.length_take]; omega
  unfold maxLen at hm
  refine ⟨by omega, fun j hj => ?_, some a, cap, by rw [hlen], by omega, fun h0 => ?_⟩
  · have h := hs (el (ss.take len) j) (List.mem_of_mem_take (el_mem _ j hj))
    unfold maxLen at h
    omega
  · obtain ⟨b, o, rfl, hc'⟩ := strs_at hc (by omega)
    refine ⟨b, o, rfl, cell_lt (p := ⟨b, o + 0, none⟩) (hc' 0 (by omega)), fun j hj => ?_⟩
    rw [hc' j (by omega), el_eq]
    have hj' : j < len := by omega
    simp [List.getD, hj']

theorem array8 {α : Type} {cs : Array α} (h : cs.size = 8) : ∃ c0 c1 c2 c3 c4 c5 c6 c7, cs = #[c0, c1, c2, c3, c4, c5, c6, c7] := by
  obtain ⟨l⟩ := cs
  match l, h with
  | [c0, c1, c2, c3, c4, c5, c6, c7], _ => exact ⟨c0, c1, c2, c3, c4, c5, c6, c7, rfl⟩
theorem field_at {P : Program} {fs : Array Field} (hone : oneCellFields P fs = true) (cs : List Value) (i : Nat) (f : Field) (x : Value) (hf : fs[i]? = some f) (hx : cs[i]? = some x) : (cs.drop f.offset).take (P.cellsOf f.type) = [x] := by
  obtain ⟨o, k⟩ := hone_of hone i f hf
  have hi : i < cs.length := (List.getElem?_eq_some_iff.1 hx).1
  rw [o, k, take1_drop _ i undef hi, List.getD, hx]
  rfl
theorem struct_cells {H : Type} {enc : TypeId × Value → H} {P : Program} {W : World} {sp : Nat → Bool} {held : Bool} {base : Nat} {t : TypeId} {fs : Array Field} {fuel : Nat} {cs : List Value} {x : DataW H × List MemPlace} (ht : P.underlying t = some (.struct fs)) (hone : oneCellFields P fs = true)
    (h : DataW.trod enc P W base sp held fuel t cs = some x) (i : Nat) (f : Field) (c : Value) (hf : fs[i]? = some f) (hx : cs[i]? = some c) : ∃ n y, DataW.trod enc P W base sp held n f.type [c] = some y := by
  obtain ⟨xs, n, _, _, _, hlen, hfd⟩ := DataW.trod_struct ht h
  have hi : i < fs.size := (Array.getElem?_eq_some_iff.1 hf).1
  have e := hfd i f hf
  rw [field_at hone cs i f c hf hx, List.getElem?_eq_getElem (by omega)] at e
  exact ⟨n, _, e⟩
theorem Tryz.one52 : (match Tryz.prog.underlying 52 with | some (.struct fs) => oneCellFields Tryz.prog fs | _ => false) = true := by kernel_rfl

theorem Tryz.cmdCells : Tryz.prog.cellsOf 52 = 8 := by kernel_rfl
theorem Tryz.strCells : Tryz.prog.cellsOf 9 = 1 := by kernel_rfl

set_option maxRecDepth 100000 in
/-- A command, opened. -/
theorem open_cmd {H : Type} {enc : TypeId × Value → H} {W : World} {base : Nat} {v : Value} {d : DataW H} {p : List MemPlace} (hv : Value.okWide Tryz.prog W .any base 52 v) (h : DataW.Trod enc Tryz.prog W 0 (fun _ => true) true 52 v d p) :
    ∃ (c : CmdM) (u : Value), v = .agg #[.int .i64 c.kind, .int .i64 c.client, .int .i64 c.no, .string c.set, .string c.name, .string c.tag, .int .i64 c.n, u] ∧ Strs W u c.ch ∧ c.set.size ≤ 9223372036854775807 ∧ c.name.size ≤ 9223372036854775807 ∧ c.tag.size ≤ 9223372036854775807 := by
  obtain ⟨cs, rfl, hsz⟩ := okWide_struct Tryz.underlying52 hv
  obtain ⟨c0, c1, c2, c3, c4, c5, c6, c7, rfl⟩ := array8 (hsz.trans Tryz.cmdCells)
  obtain ⟨fuel, hf⟩ := h
  have hone := Tryz.one52
  rw [Tryz.underlying52] at hone
  have r := struct_cells Tryz.underlying52 hone hf
  obtain ⟨_, y0, t0⟩ := r 0 _ c0 rfl rfl
  obtain ⟨_, y1, t1⟩ := r 1 _ c1 rfl rfl
  obtain ⟨_, y2, t2⟩ := r 2 _ c2 rfl rfl
  obtain ⟨_, y3, t3⟩ := r 3 _ c3 rfl rfl
  obtain ⟨_, y4, t4⟩ := r 4 _ c4 rfl rfl
  obtain ⟨_, y5, t5⟩ := r 5 _ c5 rfl rfl
  obtain ⟨_, y6, t6⟩ := r 6 _ c6 rfl rfl
  obtain ⟨_, y7, t7⟩ := r 7 _ c7 rfl rfl
  obtain ⟨z0, e0, _, _⟩ := DataW.trod_int Tryz.underlying3 t0
  obtain ⟨z1, e1, _, _⟩ := DataW.trod_int Tryz.underlying3 t1
  obtain ⟨z2, e2, _, _⟩ := DataW.trod_int Tryz.underlying3 t2
  obtain ⟨z3, e3, _, q3⟩ := DataW.trod_string Tryz.underlying9 t3
  obtain ⟨z4, e4, _, q4⟩ := DataW.trod_string Tryz.underlying9 t4
  obtain ⟨z5, e5, _, q5⟩ := DataW.trod_string Tryz.underlying9 t5
  obtain ⟨z6, e6, _, _⟩ := DataW.trod_int Tryz.underlying3 t6
  simp only [List.cons.injEq, and_true] at e0 e1 e2 e3 e4 e5 e6
  subst e0 e1 e2 e3 e4 e5 e6
  unfold maxLen at q3 q4 q5
  rcases open_strings Tryz.underlying50 Tryz.underlying9 Tryz.strCells t7 with ⟨hcs, _⟩ | ⟨a, len, cap, ss, hcs, _, hl, hm, hz, _, hc, hs⟩
  · simp only [List.cons.injEq, and_true] at hcs
    subst hcs
    exact ⟨⟨z0, z1, z2, z3, z4, z5, z6, []⟩, _, rfl, strs_nil _ _ _, q3, q4, q5⟩
  · simp only [List.cons.injEq, and_true] at hcs
    subst hcs
    exact ⟨⟨z0, z1, z2, z3, z4, z5, z6, ss.take len⟩, _, rfl, strs_of_open hl hm hz (by simpa using hl) hc hs, q3, q4, q5⟩
end Go.Proofs.YtckeeadkhopljaaGreatDoor
/- Instances that came in: from their reading to the slice. -/
namespace Go.Proofs.YtckeeadkhopljaaGreatDoor
open Go Go.ChangeShapes Go.WideShapes Go.ChangeAt Go.RowKit Go.Joins Go.Deep
set_option linter.unusedVariables false

theorem Tryz.instCells : Tryz.prog.cellsOf 55 = 16 := by kernel_rfl
theorem list16 {α : Type} {cs : List α} (h : cs.length = 16) : ∃ c0 c1 c2 c3 c4 c5 c6 c7 c8 c9 c10 c11 c12 c13 c14 c15, cs = [c0, c1, c2, c3, c4, c5, c6, c7, c8, c9, c10, c11, c12, c13, c14, c15] := by
  match cs, h with
  | [c0, c1, c2, c3, c4, c5, c6, c7, c8, c9, c10, c11, c12, c13, c14, c15], _ => exact ⟨c0, c1, c2, c3, c4, c5, c6, c7, c8, c9, c10, c11, c12, c13, c14, c15, rfl⟩
theorem list8 {α : Type} {cs : List α} (h : cs.length = 8) : ∃ c0 c1 c2 c3 c4 c5 c6 c7, cs = [c0, c1, c2, c3, c4, c5, c6, c7] := by
  match cs, h with
  | [c0, c1, c2, c3, c4, c5, c6, c7], _ => exact ⟨c0, c1, c2, c3, c4, c5, c6, c7, rfl⟩
/-- A field of a struct, wherever it lies. -/
theorem struct_part {H : Type} {enc : TypeId × Value → H} {P : Program} {W : World} {sp : Nat → Bool} {held : Bool} {base : Nat} {t : TypeId} {fs : Array Field} {fuel : Nat} {cs : List Value} {x : DataW H × List MemPlace} (ht : P.underlying t = some (.struct fs))
    (h : DataW.trod enc P W base sp held fuel t cs = some x) (i : Nat) (f : Field) (hf : fs[i]? = some f) : ∃ n y, DataW.trod enc P W base sp held n f.type ((cs.drop f.offset).take (P.cellsOf f.type)) = some y := by
  obtain ⟨xs, n, _, _, _, hlen, hfd⟩ := DataW.trod_struct ht h
  have hi : i < fs.size := (Array.getElem?_eq_some_iff.1 hf).1
  have e := hfd i f hf
  rw [List.getElem?_eq_getElem (by omega)] at e
  exact ⟨n, _, e⟩
set_option maxRecDepth 100000 in
/-- A command, opened, by its cells. -/
theorem open_cmdC {H : Type} {enc : TypeId × Value → H} {W : World} {n : Nat} {cs : List Value} {y : DataW H × List MemPlace} (hcl : cs.length = 8) (h : DataW.trod enc Tryz.prog W 0 (fun _ => true) true n 52 cs = some y) :
    ∃ (c : CmdM) (u : Value), cs = [.int .i64 c.kind, .int .i64 c.client, .int .i64 c.no, .string c.set, .string c.name, .string c.tag, .int .i64 c.n, u] ∧ Strs W u c.ch ∧ c.set.size ≤ 9223372036854775807 ∧ c.name.size ≤ 9223372036854775807 ∧ c.tag.size ≤ 9223372036854775807 := by
  obtain ⟨c0, c1, c2, c3, c4, c5, c6, c7, rfl⟩ := list8 hcl
  have hone := Tryz.one52
  rw [Tryz.underlying52] at hone
  have r := struct_cells Tryz.underlying52 hone h
  obtain ⟨_, y0, t0⟩ := r 0 _ c0 rfl rfl
  obtain ⟨_, y1, t1⟩ := r 1 _ c1 rfl rfl
  obtain ⟨_, y2, t2⟩ := r 2 _ c2 rfl rfl
  obtain ⟨_, y3, t3⟩ := r 3 _ c3 rfl rfl
  obtain ⟨_, y4, t4⟩ := r 4 _ c4 rfl rfl
  obtain ⟨_, y5, t5⟩ := r 5 _ c5 rfl rfl
  obtain ⟨_, y6, t6⟩ := r 6 _ c6 rfl rfl
  obtain ⟨_, y7, t7⟩ := r 7 _ c7 rfl rfl
  obtain ⟨z0, e0, _, _⟩ := DataW.trod_int Tryz.underlying3 t0
  obtain ⟨z1, e1, _, _⟩ := DataW.trod_int Tryz.underlying3 t1
  obtain ⟨z2, e2, _, _⟩ := DataW.trod_int Tryz.underlying3 t2
  obtain ⟨z3, e3, _, q3⟩ := DataW.trod_string Tryz.underlying9 t3
  obtain ⟨z4, e4, _, q4⟩ := DataW.trod_string Tryz.underlying9 t4
  obtain ⟨z5, e5, _, q5⟩ := DataW.trod_string Tryz.underlying9 t5
  obtain ⟨z6, e6, _, _⟩ := DataW.trod_int Tryz.underlying3 t6
  simp only [List.cons.injEq, and_true] at e0 e1 e2 e3 e4 e5 e6
  subst e0 e1 e2 e3 e4 e5 e6
  unfold maxLen at q3 q4 q5
  rcases open_strings Tryz.underlying50 Tryz.underlying9 Tryz.strCells t7 with ⟨hcs, _⟩ | ⟨a, len, cap, ss, hcs, _, hl, hm, hz, _, hc, hs⟩
  · simp only [List.cons.injEq, and_true] at hcs
    subst hcs
    exact ⟨⟨z0, z1, z2, z3, z4, z5, z6, []⟩, _, rfl, strs_nil _ _ _, q3, q4, q5⟩
  · simp only [List.cons.injEq, and_true] at hcs
    subst hcs
    exact ⟨⟨z0, z1, z2, z3, z4, z5, z6, ss.take len⟩, _, rfl, strs_of_open hl hm hz (by simpa using hl) hc hs, q3, q4, q5⟩
set_option maxRecDepth 100000 in
/-- An instance, opened, by its cells. -/
theorem open_instC {H : Type} {enc : TypeId × Value → H} {W : World} {n : Nat} {cs : List Value} {y : DataW H × List MemPlace} (hc : cs.length = 16) (h : DataW.trod enc Tryz.prog W 0 (fun _ => true) true n 55 cs = some y) :
    ∃ (x : In) (u d : Value), cs = #[.int .i64 x.rep, .int .i64 x.slot, .int .i64 x.bal, .int .i64 x.vbal, .int .i64 x.st, .int .i64 x.cmd.kind, .int .i64 x.cmd.client, .int .i64 x.cmd.no, .string x.cmd.set, .string x.cmd.name, .string x.cmd.tag, .int .i64 x.cmd.n, u, .int .i64 x.seq, d, .bool x.same].toList ∧ Pts W x u d := by
  obtain ⟨c0, c1, c2, c3, c4, c5, c6, c7, c8, c9, c10, c11, c12, c13, c14, c15, rfl⟩ := list16 hc
  have r := struct_part Tryz.underlying55 h
  obtain ⟨_, y0, t0⟩ := r 0 _ rfl
  obtain ⟨_, y1, t1⟩ := r 1 _ rfl
  obtain ⟨_, y2, t2⟩ := r 2 _ rfl
  obtain ⟨_, y3, t3⟩ := r 3 _ rfl
  obtain ⟨_, y4, t4⟩ := r 4 _ rfl
  obtain ⟨_, y5, t5⟩ := r 5 _ rfl
  obtain ⟨_, y6, t6⟩ := r 6 _ rfl
  obtain ⟨_, y7, t7⟩ := r 7 _ rfl
  have k3 : Tryz.prog.cellsOf 3 = 1 := by kernel_rfl
  have k4 : Tryz.prog.cellsOf 4 = 1 := by kernel_rfl
  have kd : Tryz.prog.cellsOf 53 = 1 := by kernel_rfl
  replace t0 : DataW.trod enc Tryz.prog W 0 (fun _ => true) true _ 49 (List.take (Tryz.prog.cellsOf 49) [c0, c1, c2, c3, c4, c5, c6, c7, c8, c9, c10, c11, c12, c13, c14, c15]) = some y0 := t0
  rw [Tryz.idCells] at t0
  replace t1 : DataW.trod enc Tryz.prog W 0 (fun _ => true) true _ 3 (List.take (Tryz.prog.cellsOf 3) [c2, c3, c4, c5, c6, c7, c8, c9, c10, c11, c12, c13, c14, c15]) = some y1 := t1
  rw [k3] at t1
  replace t2 : DataW.trod enc Tryz.prog W 0 (fun _ => true) true _ 3 (List.take (Tryz.prog.cellsOf 3) [c3, c4, c5, c6, c7, c8, c9, c10, c11, c12, c13, c14, c15]) = some y2 := t2
  rw [k3] at t2
  replace t3 : DataW.trod enc Tryz.prog W 0 (fun _ => true) true _ 3 (List.take (Tryz.prog.cellsOf 3) [c4, c5, c6, c7, c8, c9, c10, c11, c12, c13, c14, c15]) = some y3 := t3
  rw [k3] at t3
  replace t4 : DataW.trod enc Tryz.prog W 0 (fun _ => true) true _ 52 (List.take (Tryz.prog.cellsOf 52) [c5, c6, c7, c8, c9, c10, c11, c12, c13, c14, c15]) = some y4 := t4
  rw [Tryz.cmdCells] at t4
  replace t5 : DataW.trod enc Tryz.prog W 0 (fun _ => true) true _ 3 (List.take (Tryz.prog.cellsOf 3) [c13, c14, c15]) = some y5 := t5
  rw [k3] at t5
  replace t6 : DataW.trod enc Tryz.prog W 0 (fun _ => true) true _ 53 (List.take (Tryz.prog.cellsOf 53) [c14, c15]) = some y6 := t6
  rw [kd] at t6
  replace t7 : DataW.trod enc Tryz.prog W 0 (fun _ => true) true _ 4 (List.take (Tryz.prog.cellsOf 4) [c15]) = some y7 := t7
  rw [k4] at t7
  simp only [List.take_succ_cons, List.take_zero] at t0 t1 t2 t3 t4 t5 t6 t7
  obtain ⟨i0, e0⟩ := open_idC rfl t0
  obtain ⟨z1, e1, _, _⟩ := DataW.trod_int Tryz.underlying3 t1
  obtain ⟨z2, e2, _, _⟩ := DataW.trod_int Tryz.underlying3 t2
  obtain ⟨z3, e3, _, _⟩ := DataW.trod_int Tryz.underlying3 t3
  obtain ⟨cm, u, e4, hs, f1, f2, f3⟩ := open_cmdC rfl t4
  obtain ⟨z5, e5, _, _⟩ := DataW.trod_int Tryz.underlying3 t5
  obtain ⟨l6, h6⟩ := open_idsC t6
  obtain ⟨z7, e7, _⟩ := DataW.trod_bool Tryz.underlying4 t7
  simp only [List.cons.injEq, and_true] at e0 e1 e2 e3 e4 e5 e7
  obtain ⟨g0, g1⟩ := e0
  obtain ⟨d0, d1, d2, d3, d4, d5, d6, d7⟩ := e4
  subst g0 g1 e1 e2 e3 d0 d1 d2 d3 d4 d5 d6 d7 e5 e7
  exact ⟨⟨i0.rep, i0.slot, z1, z2, z3, cm, z5, l6, z7⟩, _, _, rfl, hs, h6, f1, f2, f3⟩
theorem mapIn_get (q : Nat → In) (len j : Nat) (h : j < len) : ((List.range len).map q)[j]? = some (q j) := by
  rw [List.getElem?_map, List.getElem?_range h]; rfl
set_option maxRecDepth 100000 in
/-- A slice of instances, opened. -/
theorem open_insts {H : Type} {enc : TypeId × Value → H} {W : World} {base : Nat} {v : Value} {d : DataW H} {p : List MemPlace} (hv : Value.okWide Tryz.prog W .any base 22 v) (h : DataW.Trod enc Tryz.prog W 0 (fun _ => true) true 22 v d p) :
    ∃ l : List In, Insts W v l := by
  obtain ⟨a, len, cap, rfl⟩ := okWide_slice Tryz.underlying22 hv
  obtain ⟨fuel, hf⟩ := h
  rcases open_slice Tryz.underlying22 hf with ⟨hcs, _⟩ | ⟨a, len, cap, m, n, D, Pl, hcs, hb, hl, hm, hmm, _, hx⟩
  · simp [Value.cells] at hcs
    obtain ⟨rfl, rfl, rfl⟩ := hcs
    exact ⟨[], insts_nil _ _ _⟩
  · simp [Value.cells] at hcs
    obtain ⟨rfl, rfl, rfl⟩ := hcs
    have hlm : len ≤ m := by rw [hmm]; split <;> omega
    have hq : ∀ i, i < len → ∃ x : In, ∃ u d, (∀ j, j < 16 → W.cell? (a.add (i * 16 + j)) = #[.int .i64 x.rep, .int .i64 x.slot, .int .i64 x.bal, .int .i64 x.vbal, .int .i64 x.st, .int .i64 x.cmd.kind, .int .i64 x.cmd.client, .int .i64 x.cmd.no, .string x.cmd.set, .string x.cmd.name, .string x.cmd.tag, .int .i64 x.cmd.n, u, .int .i64 x.seq, d, .bool x.same][j]?) ∧ Pts W x u d := fun i hi => by
      obtain ⟨cs', h1, h2⟩ := hx i (by omega)
      rw [Tryz.instCells] at h1
      obtain ⟨_, hlen, hcell⟩ := World.cells?_some h1
      obtain ⟨x, u, d, rfl, hp⟩ := open_instC hlen h2
      refine ⟨x, u, d, fun j hj => ?_, hp⟩
      have := hcell j hj
      rw [add_add] at this
      rw [this]
      simp
    obtain ⟨q, hq⟩ := choose_lt (α := In) (n := len) (p := fun i x => ∃ u d, (∀ j, j < 16 → W.cell? (a.add (i * 16 + j)) = #[.int .i64 x.rep, .int .i64 x.slot, .int .i64 x.bal, .int .i64 x.vbal, .int .i64 x.st, .int .i64 x.cmd.kind, .int .i64 x.cmd.client, .int .i64 x.cmd.no, .string x.cmd.set, .string x.cmd.name, .string x.cmd.tag, .int .i64 x.cmd.n, u, .int .i64 x.seq, d, .bool x.same][j]?) ∧ Pts W x u d) hq
    unfold maxLen at hm
    have hlen : ((List.range len).map q).length = len := by simp
    refine ⟨(List.range len).map q, ⟨by rw [hlen]; omega, some a, cap, by rw [hlen], by rw [hlen]; exact hl, fun h0 => ?_⟩⟩
    rw [hlen] at h0
    obtain ⟨b, off, spot⟩ := a
    have hspot : spot = none := by
      obtain ⟨u, d, hc, _⟩ := hq 0 h0
      have := hc 0 (by omega)
      simpa [Addr.add] using World.cell?_spot (this : W.cell? _ = some (.int .i64 (q 0).rep))
    subst hspot
    have hcc : ∀ i, i < len → ∃ u d, InC W b (off + i * 16) (q i) u d ∧ Pts W (q i) u d := fun i hi => by
      obtain ⟨u, d, hc, hp⟩ := hq i hi
      have h9 : ∀ j, j < 16 → W.cell? ⟨b, off + i * 16 + j, none⟩ = #[.int .i64 (q i).rep, .int .i64 (q i).slot, .int .i64 (q i).bal, .int .i64 (q i).vbal, .int .i64 (q i).st, .int .i64 (q i).cmd.kind, .int .i64 (q i).cmd.client, .int .i64 (q i).cmd.no, .string (q i).cmd.set, .string (q i).cmd.name, .string (q i).cmd.tag, .int .i64 (q i).cmd.n, u, .int .i64 (q i).seq, d, .bool (q i).same][j]? := fun j hj => by
        rw [show off + i * 16 + j = off + (i * 16 + j) by omega, ← Go.WideShapes.add_plain]; exact hc j hj
      exact ⟨u, d, ⟨h9 0 (by omega), h9 1 (by omega), h9 2 (by omega), h9 3 (by omega), h9 4 (by omega), h9 5 (by omega), h9 6 (by omega), h9 7 (by omega), h9 8 (by omega), h9 9 (by omega), h9 10 (by omega), h9 11 (by omega), h9 12 (by omega), h9 13 (by omega), h9 14 (by omega), h9 15 (by omega)⟩, hp⟩
    refine ⟨b, off, rfl, ?_, fun j hj => ?_⟩
    · obtain ⟨u, d, hc, _⟩ := hcc 0 h0
      exact cell_lt (p := ⟨b, off + 0 * 16, none⟩) hc.1
    · rw [hlen] at hj
      obtain ⟨u, d, hc, hp⟩ := hcc j hj
      rw [nth_of (mapIn_get q len j hj)]
      exact ⟨u, d, hc, hp⟩
set_option maxRecDepth 100000 in
theorem open_id {H : Type} {enc : TypeId × Value → H} {W : World} {base : Nat} {v : Value} {d : DataW H} {p : List MemPlace} (hv : Value.okWide Tryz.prog W .any base 49 v) (h : DataW.Trod enc Tryz.prog W 0 (fun _ => true) true 49 v d p) :
    ∃ x : Ii, v = .agg #[.int .i64 x.rep, .int .i64 x.slot] := by
  obtain ⟨cs, rfl, hsz⟩ := okWide_struct Tryz.underlying49 hv
  obtain ⟨fuel, hf⟩ := h
  obtain ⟨x, e⟩ := open_idC (cs := cs.toList) (by rw [Array.length_toList]; exact hsz.trans Tryz.idCells) hf
  refine ⟨x, ?_⟩
  have e2 : cs = #[.int .i64 x.rep, .int .i64 x.slot] := Array.toList_inj.1 e
  rw [e2]
set_option maxRecDepth 100000 in
theorem open_inst {H : Type} {enc : TypeId × Value → H} {W : World} {base : Nat} {v : Value} {d : DataW H} {p : List MemPlace} (hv : Value.okWide Tryz.prog W .any base 55 v) (h : DataW.Trod enc Tryz.prog W 0 (fun _ => true) true 55 v d p) :
    ∃ (x : In) (u d : Value), v = .agg #[.int .i64 x.rep, .int .i64 x.slot, .int .i64 x.bal, .int .i64 x.vbal, .int .i64 x.st, .int .i64 x.cmd.kind, .int .i64 x.cmd.client, .int .i64 x.cmd.no, .string x.cmd.set, .string x.cmd.name, .string x.cmd.tag, .int .i64 x.cmd.n, u, .int .i64 x.seq, d, .bool x.same] ∧ Pts W x u d := by
  obtain ⟨cs, rfl, hsz⟩ := okWide_struct Tryz.underlying55 hv
  obtain ⟨fuel, hf⟩ := h
  obtain ⟨x, u, d, e, hp⟩ := open_instC (cs := cs.toList) (by rw [Array.length_toList]; exact hsz.trans Tryz.instCells) hf
  refine ⟨x, u, d, ?_, hp⟩
  rw [Array.toList_inj.1 e]
end Go.Proofs.YtckeeadkhopljaaGreatDoor
/- Leads that came in: from their reading to the slice. -/
namespace Go.Proofs.YtckeeadkhopljaaGreatDoor
open Go Go.ChangeShapes Go.WideShapes Go.ChangeAt Go.RowKit Go.Joins Go.Deep
set_option linter.unusedVariables false

theorem Tryz.leadCells : Tryz.prog.cellsOf 59 = 8 := by kernel_rfl
theorem Tryz.intCells : Tryz.prog.cellsOf 3 = 1 := by kernel_rfl
theorem mapNi_get (q : Nat → Int) (len j : Nat) (h : j < len) : ((List.range len).map q)[j]? = some (q j) := by
  rw [List.getElem?_map, List.getElem?_range h]; rfl
set_option maxRecDepth 100000 in
/-- A slice of integers, opened. -/
theorem open_nsC {H : Type} {enc : TypeId × Value → H} {W : World} {n : Nat} {c : Value} {y : DataW H × List MemPlace} (h : DataW.trod enc Tryz.prog W 0 (fun _ => true) true n 57 [c] = some y) :
    ∃ l : List Int, Ns W c l := by
  rcases open_slice Tryz.underlying57 h with ⟨hcs, _⟩ | ⟨a, len, cap, m, n, D, Pl, hcs, hb, hl, hm, hmm, _, hx⟩
  · simp only [List.cons.injEq, and_true] at hcs
    subst hcs
    exact ⟨[], ns_nil _ _ _⟩
  · simp only [List.cons.injEq, and_true] at hcs
    subst hcs
    have hlm : len ≤ m := by rw [hmm]; split <;> omega
    obtain ⟨q, hq⟩ := choose_lt (α := Int) (n := len) (p := fun i s => W.cell? (a.add i) = some (.int .i64 s)) (fun i hi => by
      obtain ⟨cs', h1, h2⟩ := hx i (by omega)
      rw [Tryz.intCells] at h1
      obtain ⟨_, hlen, hcell⟩ := World.cells?_some h1
      obtain ⟨x0, g0, _⟩ := DataW.trod_int Tryz.underlying3 h2
      subst g0
      have e0 := hcell 0 (by omega)
      rw [add_add] at e0
      exact ⟨x0, by simpa using e0⟩)
    unfold maxLen at hm
    have hlen : ((List.range len).map q).length = len := by simp
    refine ⟨(List.range len).map q, ⟨by rw [hlen]; omega, some a, cap, by rw [hlen], by rw [hlen]; exact hl, fun h0 => ?_⟩⟩
    rw [hlen] at h0
    obtain ⟨b, off, spot⟩ := a
    have hspot : spot = none := by simpa [Addr.add] using World.cell?_spot (hq 0 h0)
    subst hspot
    have hc' : ∀ j, j < len → W.cell? ⟨b, off + j, none⟩ = some (.int .i64 (q j)) := fun j hj => by rw [← Go.WideShapes.add_plain]; exact hq j hj
    refine ⟨b, off, rfl, cell_lt (p := ⟨b, off + 0, none⟩) (hc' 0 (by omega)), fun j hj => ?_⟩
    rw [hlen] at hj
    rw [nI_of (mapNi_get q len j hj)]
    exact hc' j hj
set_option maxRecDepth 100000 in
/-- A Lead, opened, by its cells. -/
theorem open_leadC {H : Type} {enc : TypeId × Value → H} {W : World} {n : Nat} {cs : List Value} {y : DataW H × List MemPlace} (hc : cs.length = 8) (h : DataW.trod enc Tryz.prog W 0 (fun _ => true) true n 59 cs = some y) :
    ∃ (x : Ld) (d f : Value), cs = #[.int .i64 x.rep, .int .i64 x.slot, .int .i64 x.bal, .int .i64 x.ph, .int .i64 x.seq, d, f, .bool x.same].toList ∧ LPts W x d f := by
  obtain ⟨c0, c1, c2, c3, c4, c5, c6, c7, rfl⟩ := list8 hc
  have r := struct_part Tryz.underlying59 h
  obtain ⟨_, y0, t0⟩ := r 0 _ rfl
  obtain ⟨_, y1, t1⟩ := r 1 _ rfl
  obtain ⟨_, y2, t2⟩ := r 2 _ rfl
  obtain ⟨_, y3, t3⟩ := r 3 _ rfl
  obtain ⟨_, y4, t4⟩ := r 4 _ rfl
  obtain ⟨_, y5, t5⟩ := r 5 _ rfl
  obtain ⟨_, y6, t6⟩ := r 6 _ rfl
  have k4 : Tryz.prog.cellsOf 4 = 1 := by kernel_rfl
  have kd : Tryz.prog.cellsOf 53 = 1 := by kernel_rfl
  have kn : Tryz.prog.cellsOf 57 = 1 := by kernel_rfl
  replace t0 : DataW.trod enc Tryz.prog W 0 (fun _ => true) true _ 49 (List.take (Tryz.prog.cellsOf 49) [c0, c1, c2, c3, c4, c5, c6, c7]) = some y0 := t0
  rw [Tryz.idCells] at t0
  replace t1 : DataW.trod enc Tryz.prog W 0 (fun _ => true) true _ 3 (List.take (Tryz.prog.cellsOf 3) [c2, c3, c4, c5, c6, c7]) = some y1 := t1
  rw [Tryz.intCells] at t1
  replace t2 : DataW.trod enc Tryz.prog W 0 (fun _ => true) true _ 3 (List.take (Tryz.prog.cellsOf 3) [c3, c4, c5, c6, c7]) = some y2 := t2
  rw [Tryz.intCells] at t2
  replace t3 : DataW.trod enc Tryz.prog W 0 (fun _ => true) true _ 3 (List.take (Tryz.prog.cellsOf 3) [c4, c5, c6, c7]) = some y3 := t3
  rw [Tryz.intCells] at t3
  replace t4 : DataW.trod enc Tryz.prog W 0 (fun _ => true) true _ 53 (List.take (Tryz.prog.cellsOf 53) [c5, c6, c7]) = some y4 := t4
  rw [kd] at t4
  replace t5 : DataW.trod enc Tryz.prog W 0 (fun _ => true) true _ 57 (List.take (Tryz.prog.cellsOf 57) [c6, c7]) = some y5 := t5
  rw [kn] at t5
  replace t6 : DataW.trod enc Tryz.prog W 0 (fun _ => true) true _ 4 (List.take (Tryz.prog.cellsOf 4) [c7]) = some y6 := t6
  rw [k4] at t6
  simp only [List.take_succ_cons, List.take_zero] at t0 t1 t2 t3 t4 t5 t6
  obtain ⟨i0, e0⟩ := open_idC rfl t0
  obtain ⟨z1, e1, _, _⟩ := DataW.trod_int Tryz.underlying3 t1
  obtain ⟨z2, e2, _, _⟩ := DataW.trod_int Tryz.underlying3 t2
  obtain ⟨z3, e3, _, _⟩ := DataW.trod_int Tryz.underlying3 t3
  obtain ⟨l4, h4⟩ := open_idsC t4
  obtain ⟨l5, h5⟩ := open_nsC t5
  obtain ⟨z6, e6, _⟩ := DataW.trod_bool Tryz.underlying4 t6
  simp only [List.cons.injEq, and_true] at e0 e1 e2 e3 e6
  obtain ⟨g0, g1⟩ := e0
  subst g0 g1 e1 e2 e3 e6
  exact ⟨⟨i0.rep, i0.slot, z1, z2, z3, l4, l5, z6⟩, _, _, rfl, h4, h5⟩
theorem mapLd_get (q : Nat → Ld) (len j : Nat) (h : j < len) : ((List.range len).map q)[j]? = some (q j) := by
  rw [List.getElem?_map, List.getElem?_range h]; rfl
set_option maxRecDepth 100000 in
/-- A slice of Leads, opened. -/
theorem open_leadsC {H : Type} {enc : TypeId × Value → H} {W : World} {n : Nat} {c : Value} {y : DataW H × List MemPlace} (h : DataW.trod enc Tryz.prog W 0 (fun _ => true) true n 23 [c] = some y) :
    ∃ l : List Ld, Leads W c l := by
  rcases open_slice Tryz.underlying23 h with ⟨hcs, _⟩ | ⟨a, len, cap, m, n, D, Pl, hcs, hb, hl, hm, hmm, _, hx⟩
  · simp only [List.cons.injEq, and_true] at hcs
    subst hcs
    exact ⟨[], leads_nil _ _ _⟩
  · simp only [List.cons.injEq, and_true] at hcs
    subst hcs
    have hlm : len ≤ m := by rw [hmm]; split <;> omega
    have hq : ∀ i, i < len → ∃ x : Ld, ∃ d f, (∀ j, j < 8 → W.cell? (a.add (i * 8 + j)) = #[.int .i64 x.rep, .int .i64 x.slot, .int .i64 x.bal, .int .i64 x.ph, .int .i64 x.seq, d, f, .bool x.same][j]?) ∧ LPts W x d f := fun i hi => by
      obtain ⟨cs', h1, h2⟩ := hx i (by omega)
      rw [Tryz.leadCells] at h1
      obtain ⟨_, hlen, hcell⟩ := World.cells?_some h1
      obtain ⟨x, d, f, rfl, hp⟩ := open_leadC hlen h2
      refine ⟨x, d, f, fun j hj => ?_, hp⟩
      have := hcell j hj
      rw [add_add] at this
      rw [this]
      simp
    obtain ⟨q, hq⟩ := choose_lt (α := Ld) (n := len) (p := fun i x => ∃ d f, (∀ j, j < 8 → W.cell? (a.add (i * 8 + j)) = #[.int .i64 x.rep, .int .i64 x.slot, .int .i64 x.bal, .int .i64 x.ph, .int .i64 x.seq, d, f, .bool x.same][j]?) ∧ LPts W x d f) hq
    unfold maxLen at hm
    have hlen : ((List.range len).map q).length = len := by simp
    refine ⟨(List.range len).map q, ⟨by rw [hlen]; omega, some a, cap, by rw [hlen], by rw [hlen]; exact hl, fun h0 => ?_⟩⟩
    rw [hlen] at h0
    obtain ⟨b, off, spot⟩ := a
    have hspot : spot = none := by
      obtain ⟨d, f, hc, _⟩ := hq 0 h0
      have := hc 0 (by omega)
      simpa [Addr.add] using World.cell?_spot (this : W.cell? _ = some (.int .i64 (q 0).rep))
    subst hspot
    have hcc : ∀ i, i < len → ∃ d f, LdC W b (off + i * 8) (q i) d f ∧ LPts W (q i) d f := fun i hi => by
      obtain ⟨d, f, hc, hp⟩ := hq i hi
      have h9 : ∀ j, j < 8 → W.cell? ⟨b, off + i * 8 + j, none⟩ = #[.int .i64 (q i).rep, .int .i64 (q i).slot, .int .i64 (q i).bal, .int .i64 (q i).ph, .int .i64 (q i).seq, d, f, .bool (q i).same][j]? := fun j hj => by
        rw [show off + i * 8 + j = off + (i * 8 + j) by omega, ← Go.WideShapes.add_plain]; exact hc j hj
      exact ⟨d, f, ⟨h9 0 (by omega), h9 1 (by omega), h9 2 (by omega), h9 3 (by omega), h9 4 (by omega), h9 5 (by omega), h9 6 (by omega), h9 7 (by omega)⟩, hp⟩
    refine ⟨b, off, rfl, ?_, fun j hj => ?_⟩
    · obtain ⟨d, f, hc, _⟩ := hcc 0 h0
      exact cell_lt (p := ⟨b, off + 0 * 8, none⟩) hc.1
    · rw [hlen] at hj
      obtain ⟨d, f, hc, hp⟩ := hcc j hj
      rw [nthL_of (mapLd_get q len j hj)]
      exact ⟨d, f, hc, hp⟩
end Go.Proofs.YtckeeadkhopljaaGreatDoor
/- Nodes that came in: from their reading to their cells. -/
namespace Go.Proofs.YtckeeadkhopljaaGreatDoor
open Go Go.ChangeShapes Go.WideShapes Go.ChangeAt Go.RowKit Go.Joins Go.Deep
set_option linter.unusedVariables false

theorem Tryz.nodeCells : Tryz.prog.cellsOf 25 = 4 := by kernel_rfl
theorem list4 {α : Type} {cs : List α} (h : cs.length = 4) : ∃ c0 c1 c2 c3, cs = [c0, c1, c2, c3] := by
  match cs, h with
  | [c0, c1, c2, c3], _ => exact ⟨c0, c1, c2, c3, rfl⟩
set_option maxRecDepth 100000 in
/-- A slice of instances, opened, by its cell. -/
theorem open_instsC {H : Type} {enc : TypeId × Value → H} {W : World} {n : Nat} {c : Value} {y : DataW H × List MemPlace} (h : DataW.trod enc Tryz.prog W 0 (fun _ => true) true n 22 [c] = some y) :
    ∃ l : List In, Insts W c l := by
  rcases open_slice Tryz.underlying22 h with ⟨hcs, _⟩ | ⟨a, len, cap, m, n, D, Pl, hcs, hb, hl, hm, hmm, _, hx⟩
  · simp only [List.cons.injEq, and_true] at hcs
    subst hcs
    exact ⟨[], insts_nil _ _ _⟩
  · simp only [List.cons.injEq, and_true] at hcs
    subst hcs
    have hlm : len ≤ m := by rw [hmm]; split <;> omega
    have hq : ∀ i, i < len → ∃ x : In, ∃ u d, (∀ j, j < 16 → W.cell? (a.add (i * 16 + j)) = #[.int .i64 x.rep, .int .i64 x.slot, .int .i64 x.bal, .int .i64 x.vbal, .int .i64 x.st, .int .i64 x.cmd.kind, .int .i64 x.cmd.client, .int .i64 x.cmd.no, .string x.cmd.set, .string x.cmd.name, .string x.cmd.tag, .int .i64 x.cmd.n, u, .int .i64 x.seq, d, .bool x.same][j]?) ∧ Pts W x u d := fun i hi => by
      obtain ⟨cs', h1, h2⟩ := hx i (by omega)
      rw [Tryz.instCells] at h1
      obtain ⟨_, hlen, hcell⟩ := World.cells?_some h1
      obtain ⟨x, u, d, rfl, hp⟩ := open_instC hlen h2
      refine ⟨x, u, d, fun j hj => ?_, hp⟩
      have := hcell j hj
      rw [add_add] at this
      rw [this]
      simp
    obtain ⟨q, hq⟩ := choose_lt (α := In) (n := len) (p := fun i x => ∃ u d, (∀ j, j < 16 → W.cell? (a.add (i * 16 + j)) = #[.int .i64 x.rep, .int .i64 x.slot, .int .i64 x.bal, .int .i64 x.vbal, .int .i64 x.st, .int .i64 x.cmd.kind, .int .i64 x.cmd.client, .int .i64 x.cmd.no, .string x.cmd.set, .string x.cmd.name, .string x.cmd.tag, .int .i64 x.cmd.n, u, .int .i64 x.seq, d, .bool x.same][j]?) ∧ Pts W x u d) hq
    unfold maxLen at hm
    have hlen : ((List.range len).map q).length = len := by simp
    refine ⟨(List.range len).map q, ⟨by rw [hlen]; omega, some a, cap, by rw [hlen], by rw [hlen]; exact hl, fun h0 => ?_⟩⟩
    rw [hlen] at h0
    obtain ⟨b, off, spot⟩ := a
    have hspot : spot = none := by
      obtain ⟨u, d, hc, _⟩ := hq 0 h0
      have := hc 0 (by omega)
      simpa [Addr.add] using World.cell?_spot (this : W.cell? _ = some (.int .i64 (q 0).rep))
    subst hspot
    have hcc : ∀ i, i < len → ∃ u d, InC W b (off + i * 16) (q i) u d ∧ Pts W (q i) u d := fun i hi => by
      obtain ⟨u, d, hc, hp⟩ := hq i hi
      have h9 : ∀ j, j < 16 → W.cell? ⟨b, off + i * 16 + j, none⟩ = #[.int .i64 (q i).rep, .int .i64 (q i).slot, .int .i64 (q i).bal, .int .i64 (q i).vbal, .int .i64 (q i).st, .int .i64 (q i).cmd.kind, .int .i64 (q i).cmd.client, .int .i64 (q i).cmd.no, .string (q i).cmd.set, .string (q i).cmd.name, .string (q i).cmd.tag, .int .i64 (q i).cmd.n, u, .int .i64 (q i).seq, d, .bool (q i).same][j]? := fun j hj => by
        rw [show off + i * 16 + j = off + (i * 16 + j) by omega, ← Go.WideShapes.add_plain]; exact hc j hj
      exact ⟨u, d, ⟨h9 0 (by omega), h9 1 (by omega), h9 2 (by omega), h9 3 (by omega), h9 4 (by omega), h9 5 (by omega), h9 6 (by omega), h9 7 (by omega), h9 8 (by omega), h9 9 (by omega), h9 10 (by omega), h9 11 (by omega), h9 12 (by omega), h9 13 (by omega), h9 14 (by omega), h9 15 (by omega)⟩, hp⟩
    refine ⟨b, off, rfl, ?_, fun j hj => ?_⟩
    · obtain ⟨u, d, hc, _⟩ := hcc 0 h0
      exact cell_lt (p := ⟨b, off + 0 * 16, none⟩) hc.1
    · rw [hlen] at hj
      obtain ⟨u, d, hc, hp⟩ := hcc j hj
      rw [nth_of (mapIn_get q len j hj)]
      exact ⟨u, d, hc, hp⟩
set_option maxRecDepth 100000 in
theorem open_nodeC {H : Type} {enc : TypeId × Value → H} {W : World} {n : Nat} {cs : List Value} {y : DataW H × List MemPlace} (hc : cs.length = 4) (h : DataW.trod enc Tryz.prog W 0 (fun _ => true) true n 25 cs = some y) :
    ∃ (x : Nd) (u f : Value), cs = [.int .i64 x.me, .int .i64 x.next, u, f] ∧ NdP W x u f := by
  obtain ⟨c0, c1, c2, c3, rfl⟩ := list4 hc
  have r := struct_part Tryz.underlying25 h
  obtain ⟨_, y0, t0⟩ := r 0 _ rfl
  obtain ⟨_, y1, t1⟩ := r 1 _ rfl
  obtain ⟨_, y2, t2⟩ := r 2 _ rfl
  obtain ⟨_, y3, t3⟩ := r 3 _ rfl
  have ki : Tryz.prog.cellsOf 22 = 1 := by kernel_rfl
  have kl : Tryz.prog.cellsOf 23 = 1 := by kernel_rfl
  replace t0 : DataW.trod enc Tryz.prog W 0 (fun _ => true) true _ 3 (List.take (Tryz.prog.cellsOf 3) [c0, c1, c2, c3]) = some y0 := t0
  rw [Tryz.intCells] at t0
  replace t1 : DataW.trod enc Tryz.prog W 0 (fun _ => true) true _ 3 (List.take (Tryz.prog.cellsOf 3) [c1, c2, c3]) = some y1 := t1
  rw [Tryz.intCells] at t1
  replace t2 : DataW.trod enc Tryz.prog W 0 (fun _ => true) true _ 22 (List.take (Tryz.prog.cellsOf 22) [c2, c3]) = some y2 := t2
  rw [ki] at t2
  replace t3 : DataW.trod enc Tryz.prog W 0 (fun _ => true) true _ 23 (List.take (Tryz.prog.cellsOf 23) [c3]) = some y3 := t3
  rw [kl] at t3
  simp only [List.take_succ_cons, List.take_zero] at t0 t1 t2 t3
  obtain ⟨z0, e0, _, _⟩ := DataW.trod_int Tryz.underlying3 t0
  obtain ⟨z1, e1, _, _⟩ := DataW.trod_int Tryz.underlying3 t1
  obtain ⟨l2, h2⟩ := open_instsC t2
  obtain ⟨l3, h3⟩ := open_leadsC t3
  simp only [List.cons.injEq, and_true] at e0 e1
  subst e0 e1
  exact ⟨⟨z0, z1, l2, l3⟩, c2, c3, rfl, h2, h3⟩
set_option maxRecDepth 100000 in
theorem open_node {H : Type} {enc : TypeId × Value → H} {W : World} {base : Nat} {v : Value} {d : DataW H} {p : List MemPlace} (hv : Value.okWide Tryz.prog W .any base 25 v) (h : DataW.Trod enc Tryz.prog W 0 (fun _ => true) true 25 v d p) :
    ∃ (x : Nd) (u f : Value), v = .agg #[.int .i64 x.me, .int .i64 x.next, u, f] ∧ NdP W x u f := by
  obtain ⟨cs, rfl, hsz⟩ := okWide_struct Tryz.underlying25 hv
  obtain ⟨fuel, hf⟩ := h
  obtain ⟨x, u, f, e, hp⟩ := open_nodeC (cs := cs.toList) (by rw [Array.length_toList]; exact hsz.trans Tryz.nodeCells) hf
  refine ⟨x, u, f, ?_, hp⟩
  have e2 : cs = #[.int .i64 x.me, .int .i64 x.next, u, f] := Array.toList_inj.1 e
  rw [e2]
end Go.Proofs.YtckeeadkhopljaaGreatDoor
