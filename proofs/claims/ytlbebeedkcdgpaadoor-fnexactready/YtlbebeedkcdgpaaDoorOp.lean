/- A bundle of texts: IdOp, CmdO, InOp, IwOp. -/
import Derived.Test.YtlbebeedkcdgpaaDoorIdM
import Derived.ProofKit
import Derived.OpenShut
import Derived.ShutString
import Derived.Deep.Slices
import Derived.Deep.Fields
import Derived.ChangeSame
import Derived.Lib.SmallJoins
import Derived.Test.YtlbebeedkcdgpaaDoorStrs
import Derived.Test.YtlbebeedkcdgpaaDoorCmdM
import Derived.SliceStrings
import Derived.Test.YtlbebeedkcdgpaaDoorInM
import Derived.Test.YtlbebeedkcdgpaaDoorGrN
/- Ids that came in: from their reading to the slice. -/
namespace Go.Proofs.YtlbebeedkcdgpaaDoor
open Go Go.ChangeShapes Go.WideShapes Go.ChangeAt Go.RowKit Go.Joins Go.Deep
set_option linter.unusedVariables false

theorem list2 {α : Type} {cs : List α} (h : cs.length = 2) : ∃ c0 c1, cs = [c0, c1] := by
  match cs, h with
  | [c0, c1], _ => exact ⟨c0, c1, rfl⟩
theorem field_atI {P : Program} {fs : Array Field} (hone : oneCellFields P fs = true) (cs : List Value) (i : Nat) (f : Field) (x : Value) (hf : fs[i]? = some f) (hx : cs[i]? = some x) : (cs.drop f.offset).take (P.cellsOf f.type) = [x] := by
  obtain ⟨o, k⟩ := hone_of hone i f hf
  have hi : i < cs.length := (List.getElem?_eq_some_iff.1 hx).1
  rw [o, k, take1_drop _ i undef hi, List.getD, hx]
  rfl
theorem struct_cellsI {H : Type} {enc : TypeId × Value → H} {P : Program} {W : World} {sp : Nat → Bool} {held : Bool} {base : Nat} {t : TypeId} {fs : Array Field} {fuel : Nat} {cs : List Value} {x : DataW H × List MemPlace} (ht : P.underlying t = some (.struct fs)) (hone : oneCellFields P fs = true)
    (h : DataW.trod enc P W base sp held fuel t cs = some x) (i : Nat) (f : Field) (c : Value) (hf : fs[i]? = some f) (hx : cs[i]? = some c) : ∃ n y, DataW.trod enc P W base sp held n f.type [c] = some y := by
  obtain ⟨xs, n, _, _, _, hlen, hfd⟩ := DataW.trod_struct ht h
  have hi : i < fs.size := (Array.getElem?_eq_some_iff.1 hf).1
  have e := hfd i f hf
  rw [field_atI hone cs i f c hf hx, List.getElem?_eq_getElem (by omega)] at e
  exact ⟨n, _, e⟩
theorem Tryd.oneId : (match Tryd.prog.underlying 24 with | some (.struct fs) => oneCellFields Tryd.prog fs | _ => false) = true := by kernel_rfl
theorem Tryd.idCells : Tryd.prog.cellsOf 24 = 2 := by kernel_rfl
theorem ids_at {w : World} {a : Addr} {len : Nat} {q : Nat → Ii} (h : ∀ i, i < len → w.cell? (a.add (i * 2)) = some (.int .i64 (q i).rep) ∧ w.cell? (a.add (i * 2 + 1)) = some (.int .i64 (q i).slot)) (hp : 0 < len) :
    ∃ b o, a = ⟨b, o, none⟩ ∧ ∀ j, j < len → w.cell? ⟨b, o + j * 2, none⟩ = some (.int .i64 (q j).rep) ∧ w.cell? ⟨b, o + j * 2 + 1, none⟩ = some (.int .i64 (q j).slot) := by
  obtain ⟨b, off, spot⟩ := a
  have hspot : spot = none := by simpa [Addr.add] using World.cell?_spot (h 0 hp).1
  subst hspot
  exact ⟨b, off, rfl, fun j hj => by rw [← Go.WideShapes.add_plain, show off + j * 2 + 1 = off + (j * 2 + 1) by omega, ← Go.WideShapes.add_plain]; exact h j hj⟩
theorem mapIi_get (q : Nat → Ii) (len j : Nat) (h : j < len) : ((List.range len).map q)[j]? = some (q j) := by
  rw [List.getElem?_map, List.getElem?_range h]; rfl
set_option maxRecDepth 100000 in
/-- An Id, opened. -/
theorem open_idC {H : Type} {enc : TypeId × Value → H} {W : World} {n : Nat} {cs : List Value} {y : DataW H × List MemPlace} (hc : cs.length = 2) (h : DataW.trod enc Tryd.prog W 0 (fun _ => true) true n 24 cs = some y) :
    ∃ x : Ii, cs = [.int .i64 x.rep, .int .i64 x.slot] := by
  have hone := Tryd.oneId
  rw [Tryd.underlying24] at hone
  obtain ⟨c0, c1, rfl⟩ := list2 hc
  have r := struct_cellsI Tryd.underlying24 hone h
  obtain ⟨_, _, s0⟩ := r 0 _ c0 rfl rfl
  obtain ⟨_, _, s1⟩ := r 1 _ c1 rfl rfl
  obtain ⟨x0, g0, _⟩ := DataW.trod_int Tryd.underlying3 s0
  obtain ⟨x1, g1, _⟩ := DataW.trod_int Tryd.underlying3 s1
  simp only [List.cons.injEq, and_true] at g0 g1
  subst g0 g1
  exact ⟨⟨x0, x1⟩, rfl⟩
set_option maxRecDepth 100000 in
/-- A slice of Ids, opened. -/
theorem open_idsC {H : Type} {enc : TypeId × Value → H} {W : World} {n : Nat} {c : Value} {y : DataW H × List MemPlace} (h : DataW.trod enc Tryd.prog W 0 (fun _ => true) true n 42 [c] = some y) :
    ∃ l : List Ii, Ids W c l := by
  rcases open_slice Tryd.underlying42 h with ⟨hcs, _⟩ | ⟨a, len, cap, m, n, D, Pl, hcs, hb, hl, hm, hmm, _, hx⟩
  · simp only [List.cons.injEq, and_true] at hcs
    subst hcs
    exact ⟨[], ids_nil _ _ _⟩
  · simp only [List.cons.injEq, and_true] at hcs
    subst hcs
    have hlm : len ≤ m := by rw [hmm]; split <;> omega
    obtain ⟨q, hq⟩ := choose_lt (α := Ii) (n := len) (p := fun i s => W.cell? (a.add (i * 2)) = some (.int .i64 s.rep) ∧ W.cell? (a.add (i * 2 + 1)) = some (.int .i64 s.slot)) (fun i hi => by
      obtain ⟨cs', h1, h2⟩ := hx i (by omega)
      rw [Tryd.idCells] at h1
      obtain ⟨_, hlen, hcell⟩ := World.cells?_some h1
      obtain ⟨x, rfl⟩ := open_idC hlen h2
      have e0 := hcell 0 (by omega)
      have e1 := hcell 1 (by omega)
      rw [add_add] at e0 e1
      exact ⟨x, by simpa using e0, by simpa using e1⟩)
    unfold maxLen at hm
    have hlen : ((List.range len).map q).length = len := by simp
    refine ⟨(List.range len).map q, ⟨by rw [hlen]; omega, some a, cap, by rw [hlen], by rw [hlen]; exact hl, fun h0 => ?_⟩⟩
    rw [hlen] at h0
    obtain ⟨b, o, rfl, hc'⟩ := ids_at (fun i hi => hq i hi) h0
    refine ⟨b, o, rfl, cell_lt (p := ⟨b, o + 0 * 2, none⟩) (hc' 0 (by omega)).1, fun j hj => ?_⟩
    rw [hlen] at hj
    unfold IiAt
    rw [iR_of (mapIi_get q len j hj), iS_of (mapIi_get q len j hj)]
    exact hc' j hj
set_option maxRecDepth 100000 in
theorem open_ids {H : Type} {enc : TypeId × Value → H} {W : World} {base : Nat} {v : Value} {d : DataW H} {p : List MemPlace} (hv : Value.okWide Tryd.prog W .any base 42 v) (h : DataW.Trod enc Tryd.prog W 0 (fun _ => true) true 42 v d p) :
    ∃ l : List Ii, Ids W v l := by
  obtain ⟨a, len, cap, rfl⟩ := okWide_slice Tryd.underlying42 hv
  obtain ⟨fuel, hf⟩ := h
  exact open_idsC hf
end Go.Proofs.YtlbebeedkcdgpaaDoor
/- A command that came in: from its reading to the value and its parts. -/
namespace Go.Proofs.YtlbebeedkcdgpaaDoor
open Go Go.ChangeShapes Go.WideShapes Go.ChangeAt Go.RowKit Go.Joins Go.Deep
set_option linter.unusedVariables false

theorem strs_at {w : World} {a : Addr} {ss : List ByteArray} (h : ∀ i, i < ss.length → w.cell? (a.add i) = some (.string (ss.getD i ByteArray.empty))) (hp : 0 < ss.length) :
    ∃ b off, a = ⟨b, off, none⟩ ∧ ∀ j, j < ss.length → w.cell? ⟨b, off + j, none⟩ = some (.string (ss.getD j ByteArray.empty)) := by
  obtain ⟨b, off, spot⟩ := a
  have hspot : spot = none := by simpa [Addr.add] using World.cell?_spot (h 0 hp)
  subst hspot
  exact ⟨b, off, rfl, fun j hj => by rw [← Go.WideShapes.add_plain]; exact h j hj⟩
theorem strs_of_open {w : World} {a : Addr} {len cap n : Nat} {ss : List ByteArray} (hl : len ≤ cap) (hm : cap ≤ maxLen) (hz : ss.length = n) (hn : len ≤ n) (hc : ∀ i, i < ss.length → w.cell? (a.add i) = some (.string (ss.getD i ByteArray.empty))) (hs : ∀ s ∈ ss, s.size ≤ maxLen) :
    Strs w (.slice (some a) len cap) (ss.take len) := by
  have hlen : (ss.take len).length = len := by rw [List.length_take]; omega
  unfold maxLen at hm
  refine ⟨by omega, fun j hj => ?_, some a, cap, by rw [hlen], by omega, fun h0 => ?_⟩
  · have h := hs (el (ss.take len) j) (List.mem_of_mem_take (el_mem _ j hj))
    unfold maxLen at h
    omega
  · obtain ⟨b, o, rfl, hc'⟩ := strs_at hc (by omega)
    refine ⟨b, o, rfl, cell_lt (p := ⟨b, o + 0, none⟩) (hc' 0 (by omega)), fun j hj => ?_⟩
    rw [hc' j (by omega), el_eq]
    have hj' : j < len := by omega
    simp [List.getD, hj']

theorem array8 {α : Type} {cs : Array α} (h : cs.size = 8) : ∃ c0 c1 c2 c3 c4 c5 c6 c7, cs = #[c0, c1, c2, c3, c4, c5, c6, c7] := by
  obtain ⟨l⟩ := cs
  match l, h with
  | [c0, c1, c2, c3, c4, c5, c6, c7], _ => exact ⟨c0, c1, c2, c3, c4, c5, c6, c7, rfl⟩
theorem field_at {P : Program} {fs : Array Field} (hone : oneCellFields P fs = true) (cs : List Value) (i : Nat) (f : Field) (x : Value) (hf : fs[i]? = some f) (hx : cs[i]? = some x) : (cs.drop f.offset).take (P.cellsOf f.type) = [x] := by
  obtain ⟨o, k⟩ := hone_of hone i f hf
  have hi : i < cs.length := (List.getElem?_eq_some_iff.1 hx).1
  rw [o, k, take1_drop _ i undef hi, List.getD, hx]
  rfl
theorem struct_cells {H : Type} {enc : TypeId × Value → H} {P : Program} {W : World} {sp : Nat → Bool} {held : Bool} {base : Nat} {t : TypeId} {fs : Array Field} {fuel : Nat} {cs : List Value} {x : DataW H × List MemPlace} (ht : P.underlying t = some (.struct fs)) (hone : oneCellFields P fs = true)
    (h : DataW.trod enc P W base sp held fuel t cs = some x) (i : Nat) (f : Field) (c : Value) (hf : fs[i]? = some f) (hx : cs[i]? = some c) : ∃ n y, DataW.trod enc P W base sp held n f.type [c] = some y := by
  obtain ⟨xs, n, _, _, _, hlen, hfd⟩ := DataW.trod_struct ht h
  have hi : i < fs.size := (Array.getElem?_eq_some_iff.1 hf).1
  have e := hfd i f hf
  rw [field_at hone cs i f c hf hx, List.getElem?_eq_getElem (by omega)] at e
  exact ⟨n, _, e⟩
theorem Tryd.one41 : (match Tryd.prog.underlying 41 with | some (.struct fs) => oneCellFields Tryd.prog fs | _ => false) = true := by kernel_rfl

theorem Tryd.cmdCells : Tryd.prog.cellsOf 41 = 8 := by kernel_rfl
theorem Tryd.strCells : Tryd.prog.cellsOf 9 = 1 := by kernel_rfl

set_option maxRecDepth 100000 in
/-- A command, opened. -/
theorem open_cmd {H : Type} {enc : TypeId × Value → H} {W : World} {base : Nat} {v : Value} {d : DataW H} {p : List MemPlace} (hv : Value.okWide Tryd.prog W .any base 41 v) (h : DataW.Trod enc Tryd.prog W 0 (fun _ => true) true 41 v d p) :
    ∃ (c : CmdM) (u : Value), v = .agg #[.int .i64 c.kind, .int .i64 c.client, .int .i64 c.no, .string c.set, .string c.name, .string c.tag, .int .i64 c.n, u] ∧ Strs W u c.ch ∧ c.set.size ≤ 9223372036854775807 ∧ c.name.size ≤ 9223372036854775807 ∧ c.tag.size ≤ 9223372036854775807 := by
  obtain ⟨cs, rfl, hsz⟩ := okWide_struct Tryd.underlying41 hv
  obtain ⟨c0, c1, c2, c3, c4, c5, c6, c7, rfl⟩ := array8 (hsz.trans Tryd.cmdCells)
  obtain ⟨fuel, hf⟩ := h
  have hone := Tryd.one41
  rw [Tryd.underlying41] at hone
  have r := struct_cells Tryd.underlying41 hone hf
  obtain ⟨_, y0, t0⟩ := r 0 _ c0 rfl rfl
  obtain ⟨_, y1, t1⟩ := r 1 _ c1 rfl rfl
  obtain ⟨_, y2, t2⟩ := r 2 _ c2 rfl rfl
  obtain ⟨_, y3, t3⟩ := r 3 _ c3 rfl rfl
  obtain ⟨_, y4, t4⟩ := r 4 _ c4 rfl rfl
  obtain ⟨_, y5, t5⟩ := r 5 _ c5 rfl rfl
  obtain ⟨_, y6, t6⟩ := r 6 _ c6 rfl rfl
  obtain ⟨_, y7, t7⟩ := r 7 _ c7 rfl rfl
  obtain ⟨z0, e0, _, _⟩ := DataW.trod_int Tryd.underlying3 t0
  obtain ⟨z1, e1, _, _⟩ := DataW.trod_int Tryd.underlying3 t1
  obtain ⟨z2, e2, _, _⟩ := DataW.trod_int Tryd.underlying3 t2
  obtain ⟨z3, e3, _, q3⟩ := DataW.trod_string Tryd.underlying9 t3
  obtain ⟨z4, e4, _, q4⟩ := DataW.trod_string Tryd.underlying9 t4
  obtain ⟨z5, e5, _, q5⟩ := DataW.trod_string Tryd.underlying9 t5
  obtain ⟨z6, e6, _, _⟩ := DataW.trod_int Tryd.underlying3 t6
  simp only [List.cons.injEq, and_true] at e0 e1 e2 e3 e4 e5 e6
  subst e0 e1 e2 e3 e4 e5 e6
  unfold maxLen at q3 q4 q5
  rcases open_strings Tryd.underlying39 Tryd.underlying9 Tryd.strCells t7 with ⟨hcs, _⟩ | ⟨a, len, cap, ss, hcs, _, hl, hm, hz, _, hc, hs⟩
  · simp only [List.cons.injEq, and_true] at hcs
    subst hcs
    exact ⟨⟨z0, z1, z2, z3, z4, z5, z6, []⟩, _, rfl, strs_nil _ _ _, q3, q4, q5⟩
  · simp only [List.cons.injEq, and_true] at hcs
    subst hcs
    exact ⟨⟨z0, z1, z2, z3, z4, z5, z6, ss.take len⟩, _, rfl, strs_of_open hl hm hz (by simpa using hl) hc hs, q3, q4, q5⟩
end Go.Proofs.YtlbebeedkcdgpaaDoor
/- Instances that came in: from their reading to the slice. -/
namespace Go.Proofs.YtlbebeedkcdgpaaDoor
open Go Go.ChangeShapes Go.WideShapes Go.ChangeAt Go.RowKit Go.Joins Go.Deep
set_option linter.unusedVariables false

theorem Tryd.instCells : Tryd.prog.cellsOf 44 = 16 := by kernel_rfl
theorem list16 {α : Type} {cs : List α} (h : cs.length = 16) : ∃ c0 c1 c2 c3 c4 c5 c6 c7 c8 c9 c10 c11 c12 c13 c14 c15, cs = [c0, c1, c2, c3, c4, c5, c6, c7, c8, c9, c10, c11, c12, c13, c14, c15] := by
  match cs, h with
  | [c0, c1, c2, c3, c4, c5, c6, c7, c8, c9, c10, c11, c12, c13, c14, c15], _ => exact ⟨c0, c1, c2, c3, c4, c5, c6, c7, c8, c9, c10, c11, c12, c13, c14, c15, rfl⟩
theorem list8 {α : Type} {cs : List α} (h : cs.length = 8) : ∃ c0 c1 c2 c3 c4 c5 c6 c7, cs = [c0, c1, c2, c3, c4, c5, c6, c7] := by
  match cs, h with
  | [c0, c1, c2, c3, c4, c5, c6, c7], _ => exact ⟨c0, c1, c2, c3, c4, c5, c6, c7, rfl⟩
/-- A field of a struct, wherever it lies. -/
theorem struct_part {H : Type} {enc : TypeId × Value → H} {P : Program} {W : World} {sp : Nat → Bool} {held : Bool} {base : Nat} {t : TypeId} {fs : Array Field} {fuel : Nat} {cs : List Value} {x : DataW H × List MemPlace} (ht : P.underlying t = some (.struct fs))
    (h : DataW.trod enc P W base sp held fuel t cs = some x) (i : Nat) (f : Field) (hf : fs[i]? = some f) : ∃ n y, DataW.trod enc P W base sp held n f.type ((cs.drop f.offset).take (P.cellsOf f.type)) = some y := by
  obtain ⟨xs, n, _, _, _, hlen, hfd⟩ := DataW.trod_struct ht h
  have hi : i < fs.size := (Array.getElem?_eq_some_iff.1 hf).1
  have e := hfd i f hf
  rw [List.getElem?_eq_getElem (by omega)] at e
  exact ⟨n, _, e⟩
set_option maxRecDepth 100000 in
/-- A command, opened, by its cells. -/
theorem open_cmdC {H : Type} {enc : TypeId × Value → H} {W : World} {n : Nat} {cs : List Value} {y : DataW H × List MemPlace} (hcl : cs.length = 8) (h : DataW.trod enc Tryd.prog W 0 (fun _ => true) true n 41 cs = some y) :
    ∃ (c : CmdM) (u : Value), cs = [.int .i64 c.kind, .int .i64 c.client, .int .i64 c.no, .string c.set, .string c.name, .string c.tag, .int .i64 c.n, u] ∧ Strs W u c.ch ∧ c.set.size ≤ 9223372036854775807 ∧ c.name.size ≤ 9223372036854775807 ∧ c.tag.size ≤ 9223372036854775807 := by
  obtain ⟨c0, c1, c2, c3, c4, c5, c6, c7, rfl⟩ := list8 hcl
  have hone := Tryd.one41
  rw [Tryd.underlying41] at hone
  have r := struct_cells Tryd.underlying41 hone h
  obtain ⟨_, y0, t0⟩ := r 0 _ c0 rfl rfl
  obtain ⟨_, y1, t1⟩ := r 1 _ c1 rfl rfl
  obtain ⟨_, y2, t2⟩ := r 2 _ c2 rfl rfl
  obtain ⟨_, y3, t3⟩ := r 3 _ c3 rfl rfl
  obtain ⟨_, y4, t4⟩ := r 4 _ c4 rfl rfl
  obtain ⟨_, y5, t5⟩ := r 5 _ c5 rfl rfl
  obtain ⟨_, y6, t6⟩ := r 6 _ c6 rfl rfl
  obtain ⟨_, y7, t7⟩ := r 7 _ c7 rfl rfl
  obtain ⟨z0, e0, _, _⟩ := DataW.trod_int Tryd.underlying3 t0
  obtain ⟨z1, e1, _, _⟩ := DataW.trod_int Tryd.underlying3 t1
  obtain ⟨z2, e2, _, _⟩ := DataW.trod_int Tryd.underlying3 t2
  obtain ⟨z3, e3, _, q3⟩ := DataW.trod_string Tryd.underlying9 t3
  obtain ⟨z4, e4, _, q4⟩ := DataW.trod_string Tryd.underlying9 t4
  obtain ⟨z5, e5, _, q5⟩ := DataW.trod_string Tryd.underlying9 t5
  obtain ⟨z6, e6, _, _⟩ := DataW.trod_int Tryd.underlying3 t6
  simp only [List.cons.injEq, and_true] at e0 e1 e2 e3 e4 e5 e6
  subst e0 e1 e2 e3 e4 e5 e6
  unfold maxLen at q3 q4 q5
  rcases open_strings Tryd.underlying39 Tryd.underlying9 Tryd.strCells t7 with ⟨hcs, _⟩ | ⟨a, len, cap, ss, hcs, _, hl, hm, hz, _, hc, hs⟩
  · simp only [List.cons.injEq, and_true] at hcs
    subst hcs
    exact ⟨⟨z0, z1, z2, z3, z4, z5, z6, []⟩, _, rfl, strs_nil _ _ _, q3, q4, q5⟩
  · simp only [List.cons.injEq, and_true] at hcs
    subst hcs
    exact ⟨⟨z0, z1, z2, z3, z4, z5, z6, ss.take len⟩, _, rfl, strs_of_open hl hm hz (by simpa using hl) hc hs, q3, q4, q5⟩
set_option maxRecDepth 100000 in
/-- An instance, opened, by its cells. -/
theorem open_instC {H : Type} {enc : TypeId × Value → H} {W : World} {n : Nat} {cs : List Value} {y : DataW H × List MemPlace} (hc : cs.length = 16) (h : DataW.trod enc Tryd.prog W 0 (fun _ => true) true n 44 cs = some y) :
    ∃ (x : In) (u d : Value), cs = #[.int .i64 x.rep, .int .i64 x.slot, .int .i64 x.bal, .int .i64 x.vbal, .int .i64 x.st, .int .i64 x.cmd.kind, .int .i64 x.cmd.client, .int .i64 x.cmd.no, .string x.cmd.set, .string x.cmd.name, .string x.cmd.tag, .int .i64 x.cmd.n, u, .int .i64 x.seq, d, .bool x.same].toList ∧ Pts W x u d := by
  obtain ⟨c0, c1, c2, c3, c4, c5, c6, c7, c8, c9, c10, c11, c12, c13, c14, c15, rfl⟩ := list16 hc
  have r := struct_part Tryd.underlying44 h
  obtain ⟨_, y0, t0⟩ := r 0 _ rfl
  obtain ⟨_, y1, t1⟩ := r 1 _ rfl
  obtain ⟨_, y2, t2⟩ := r 2 _ rfl
  obtain ⟨_, y3, t3⟩ := r 3 _ rfl
  obtain ⟨_, y4, t4⟩ := r 4 _ rfl
  obtain ⟨_, y5, t5⟩ := r 5 _ rfl
  obtain ⟨_, y6, t6⟩ := r 6 _ rfl
  obtain ⟨_, y7, t7⟩ := r 7 _ rfl
  have k3 : Tryd.prog.cellsOf 3 = 1 := by kernel_rfl
  have k4 : Tryd.prog.cellsOf 4 = 1 := by kernel_rfl
  have kd : Tryd.prog.cellsOf 42 = 1 := by kernel_rfl
  replace t0 : DataW.trod enc Tryd.prog W 0 (fun _ => true) true _ 24 (List.take (Tryd.prog.cellsOf 24) [c0, c1, c2, c3, c4, c5, c6, c7, c8, c9, c10, c11, c12, c13, c14, c15]) = some y0 := t0
  rw [Tryd.idCells] at t0
  replace t1 : DataW.trod enc Tryd.prog W 0 (fun _ => true) true _ 3 (List.take (Tryd.prog.cellsOf 3) [c2, c3, c4, c5, c6, c7, c8, c9, c10, c11, c12, c13, c14, c15]) = some y1 := t1
  rw [k3] at t1
  replace t2 : DataW.trod enc Tryd.prog W 0 (fun _ => true) true _ 3 (List.take (Tryd.prog.cellsOf 3) [c3, c4, c5, c6, c7, c8, c9, c10, c11, c12, c13, c14, c15]) = some y2 := t2
  rw [k3] at t2
  replace t3 : DataW.trod enc Tryd.prog W 0 (fun _ => true) true _ 3 (List.take (Tryd.prog.cellsOf 3) [c4, c5, c6, c7, c8, c9, c10, c11, c12, c13, c14, c15]) = some y3 := t3
  rw [k3] at t3
  replace t4 : DataW.trod enc Tryd.prog W 0 (fun _ => true) true _ 41 (List.take (Tryd.prog.cellsOf 41) [c5, c6, c7, c8, c9, c10, c11, c12, c13, c14, c15]) = some y4 := t4
  rw [Tryd.cmdCells] at t4
  replace t5 : DataW.trod enc Tryd.prog W 0 (fun _ => true) true _ 3 (List.take (Tryd.prog.cellsOf 3) [c13, c14, c15]) = some y5 := t5
  rw [k3] at t5
  replace t6 : DataW.trod enc Tryd.prog W 0 (fun _ => true) true _ 42 (List.take (Tryd.prog.cellsOf 42) [c14, c15]) = some y6 := t6
  rw [kd] at t6
  replace t7 : DataW.trod enc Tryd.prog W 0 (fun _ => true) true _ 4 (List.take (Tryd.prog.cellsOf 4) [c15]) = some y7 := t7
  rw [k4] at t7
  simp only [List.take_succ_cons, List.take_zero] at t0 t1 t2 t3 t4 t5 t6 t7
  obtain ⟨i0, e0⟩ := open_idC rfl t0
  obtain ⟨z1, e1, _, _⟩ := DataW.trod_int Tryd.underlying3 t1
  obtain ⟨z2, e2, _, _⟩ := DataW.trod_int Tryd.underlying3 t2
  obtain ⟨z3, e3, _, _⟩ := DataW.trod_int Tryd.underlying3 t3
  obtain ⟨cm, u, e4, hs, f1, f2, f3⟩ := open_cmdC rfl t4
  obtain ⟨z5, e5, _, _⟩ := DataW.trod_int Tryd.underlying3 t5
  obtain ⟨l6, h6⟩ := open_idsC t6
  obtain ⟨z7, e7, _⟩ := DataW.trod_bool Tryd.underlying4 t7
  simp only [List.cons.injEq, and_true] at e0 e1 e2 e3 e4 e5 e7
  obtain ⟨g0, g1⟩ := e0
  obtain ⟨d0, d1, d2, d3, d4, d5, d6, d7⟩ := e4
  subst g0 g1 e1 e2 e3 d0 d1 d2 d3 d4 d5 d6 d7 e5 e7
  exact ⟨⟨i0.rep, i0.slot, z1, z2, z3, cm, z5, l6, z7⟩, _, _, rfl, hs, h6, f1, f2, f3⟩
theorem mapIn_get (q : Nat → In) (len j : Nat) (h : j < len) : ((List.range len).map q)[j]? = some (q j) := by
  rw [List.getElem?_map, List.getElem?_range h]; rfl
set_option maxRecDepth 100000 in
/-- A slice of instances, opened. -/
theorem open_insts {H : Type} {enc : TypeId × Value → H} {W : World} {base : Nat} {v : Value} {d : DataW H} {p : List MemPlace} (hv : Value.okWide Tryd.prog W .any base 22 v) (h : DataW.Trod enc Tryd.prog W 0 (fun _ => true) true 22 v d p) :
    ∃ l : List In, Insts W v l := by
  obtain ⟨a, len, cap, rfl⟩ := okWide_slice Tryd.underlying22 hv
  obtain ⟨fuel, hf⟩ := h
  rcases open_slice Tryd.underlying22 hf with ⟨hcs, _⟩ | ⟨a, len, cap, m, n, D, Pl, hcs, hb, hl, hm, hmm, _, hx⟩
  · simp [Value.cells] at hcs
    obtain ⟨rfl, rfl, rfl⟩ := hcs
    exact ⟨[], insts_nil _ _ _⟩
  · simp [Value.cells] at hcs
    obtain ⟨rfl, rfl, rfl⟩ := hcs
    have hlm : len ≤ m := by rw [hmm]; split <;> omega
    have hq : ∀ i, i < len → ∃ x : In, ∃ u d, (∀ j, j < 16 → W.cell? (a.add (i * 16 + j)) = #[.int .i64 x.rep, .int .i64 x.slot, .int .i64 x.bal, .int .i64 x.vbal, .int .i64 x.st, .int .i64 x.cmd.kind, .int .i64 x.cmd.client, .int .i64 x.cmd.no, .string x.cmd.set, .string x.cmd.name, .string x.cmd.tag, .int .i64 x.cmd.n, u, .int .i64 x.seq, d, .bool x.same][j]?) ∧ Pts W x u d := fun i hi => by
      obtain ⟨cs', h1, h2⟩ := hx i (by omega)
      rw [Tryd.instCells] at h1
      obtain ⟨_, hlen, hcell⟩ := World.cells?_some h1
      obtain ⟨x, u, d, rfl, hp⟩ := open_instC hlen h2
      refine ⟨x, u, d, fun j hj => ?_, hp⟩
      have := hcell j hj
      rw [add_add] at this
      rw [this]
      simp
    obtain ⟨q, hq⟩ := choose_lt (α := In) (n := len) (p := fun i x => ∃ u d, (∀ j, j < 16 → W.cell? (a.add (i * 16 + j)) = #[.int .i64 x.rep, .int .i64 x.slot, .int .i64 x.bal, .int .i64 x.vbal, .int .i64 x.st, .int .i64 x.cmd.kind, .int .i64 x.cmd.client, .int .i64 x.cmd.no, .string x.cmd.set, .string x.cmd.name, .string x.cmd.tag, .int .i64 x.cmd.n, u, .int .i64 x.seq, d, .bool x.same][j]?) ∧ Pts W x u d) hq
    unfold maxLen at hm
    have hlen : ((List.range len).map q).length = len := by simp
    refine ⟨(List.range len).map q, ⟨by rw [hlen]; omega, some a, cap, by rw [hlen], by rw [hlen]; exact hl, fun h0 => ?_⟩⟩
    rw [hlen] at h0
    obtain ⟨b, off, spot⟩ := a
    have hspot : spot = none := by
      obtain ⟨u, d, hc, _⟩ := hq 0 h0
      have := hc 0 (by omega)
      simpa [Addr.add] using World.cell?_spot (this : W.cell? _ = some (.int .i64 (q 0).rep))
    subst hspot
    have hcc : ∀ i, i < len → ∃ u d, InC W b (off + i * 16) (q i) u d ∧ Pts W (q i) u d := fun i hi => by
      obtain ⟨u, d, hc, hp⟩ := hq i hi
      have h9 : ∀ j, j < 16 → W.cell? ⟨b, off + i * 16 + j, none⟩ = #[.int .i64 (q i).rep, .int .i64 (q i).slot, .int .i64 (q i).bal, .int .i64 (q i).vbal, .int .i64 (q i).st, .int .i64 (q i).cmd.kind, .int .i64 (q i).cmd.client, .int .i64 (q i).cmd.no, .string (q i).cmd.set, .string (q i).cmd.name, .string (q i).cmd.tag, .int .i64 (q i).cmd.n, u, .int .i64 (q i).seq, d, .bool (q i).same][j]? := fun j hj => by
        rw [show off + i * 16 + j = off + (i * 16 + j) by omega, ← Go.WideShapes.add_plain]; exact hc j hj
      exact ⟨u, d, ⟨h9 0 (by omega), h9 1 (by omega), h9 2 (by omega), h9 3 (by omega), h9 4 (by omega), h9 5 (by omega), h9 6 (by omega), h9 7 (by omega), h9 8 (by omega), h9 9 (by omega), h9 10 (by omega), h9 11 (by omega), h9 12 (by omega), h9 13 (by omega), h9 14 (by omega), h9 15 (by omega)⟩, hp⟩
    refine ⟨b, off, rfl, ?_, fun j hj => ?_⟩
    · obtain ⟨u, d, hc, _⟩ := hcc 0 h0
      exact cell_lt (p := ⟨b, off + 0 * 16, none⟩) hc.1
    · rw [hlen] at hj
      obtain ⟨u, d, hc, hp⟩ := hcc j hj
      rw [nth_of (mapIn_get q len j hj)]
      exact ⟨u, d, hc, hp⟩
set_option maxRecDepth 100000 in
theorem open_id {H : Type} {enc : TypeId × Value → H} {W : World} {base : Nat} {v : Value} {d : DataW H} {p : List MemPlace} (hv : Value.okWide Tryd.prog W .any base 24 v) (h : DataW.Trod enc Tryd.prog W 0 (fun _ => true) true 24 v d p) :
    ∃ x : Ii, v = .agg #[.int .i64 x.rep, .int .i64 x.slot] := by
  obtain ⟨cs, rfl, hsz⟩ := okWide_struct Tryd.underlying24 hv
  obtain ⟨fuel, hf⟩ := h
  obtain ⟨x, e⟩ := open_idC (cs := cs.toList) (by rw [Array.length_toList]; exact hsz.trans Tryd.idCells) hf
  refine ⟨x, ?_⟩
  have e2 : cs = #[.int .i64 x.rep, .int .i64 x.slot] := Array.toList_inj.1 e
  rw [e2]
set_option maxRecDepth 100000 in
theorem open_inst {H : Type} {enc : TypeId × Value → H} {W : World} {base : Nat} {v : Value} {d : DataW H} {p : List MemPlace} (hv : Value.okWide Tryd.prog W .any base 44 v) (h : DataW.Trod enc Tryd.prog W 0 (fun _ => true) true 44 v d p) :
    ∃ (x : In) (u d : Value), v = .agg #[.int .i64 x.rep, .int .i64 x.slot, .int .i64 x.bal, .int .i64 x.vbal, .int .i64 x.st, .int .i64 x.cmd.kind, .int .i64 x.cmd.client, .int .i64 x.cmd.no, .string x.cmd.set, .string x.cmd.name, .string x.cmd.tag, .int .i64 x.cmd.n, u, .int .i64 x.seq, d, .bool x.same] ∧ Pts W x u d := by
  obtain ⟨cs, rfl, hsz⟩ := okWide_struct Tryd.underlying44 hv
  obtain ⟨fuel, hf⟩ := h
  obtain ⟨x, u, d, e, hp⟩ := open_instC (cs := cs.toList) (by rw [Array.length_toList]; exact hsz.trans Tryd.instCells) hf
  refine ⟨x, u, d, ?_, hp⟩
  rw [Array.toList_inj.1 e]
end Go.Proofs.YtlbebeedkcdgpaaDoor
/- An Id that came in, with its numbers' bounds. -/
namespace Go.Proofs.YtlbebeedkcdgpaaDoor
open Go Go.ChangeShapes Go.WideShapes Go.ChangeAt Go.RowKit Go.Joins Go.Deep
set_option linter.unusedVariables false

theorem wf_of {n : Int} (h : (Lit.int .i64 n).wf = true) : -9223372036854775808 ≤ n ∧ n ≤ 9223372036854775807 := by
  simp only [Lit.wf, Bool.and_eq_true, decide_eq_true_eq] at h
  exact h
set_option maxRecDepth 100000 in
theorem open_idw {H : Type} {enc : TypeId × Value → H} {W : World} {base : Nat} {v : Value} {d : DataW H} {p : List MemPlace} (hv : Value.okWide Tryd.prog W .any base 24 v) (h : DataW.Trod enc Tryd.prog W 0 (fun _ => true) true 24 v d p) :
    ∃ x : Ii, v = .agg #[.int .i64 x.rep, .int .i64 x.slot] ∧ Wf x.rep x.slot := by
  obtain ⟨cs, rfl, hsz⟩ := okWide_struct Tryd.underlying24 hv
  obtain ⟨fuel, hf⟩ := h
  have hone := Tryd.oneId
  rw [Tryd.underlying24] at hone
  obtain ⟨c0, c1, hcs⟩ := list2 (cs := cs.toList) (by rw [Array.length_toList]; exact hsz.trans Tryd.idCells)
  change DataW.trod enc Tryd.prog W 0 (fun _ => true) true fuel 24 cs.toList = some _ at hf
  rw [hcs] at hf
  have r := struct_cellsI Tryd.underlying24 hone hf
  obtain ⟨_, _, s0⟩ := r 0 _ c0 rfl rfl
  obtain ⟨_, _, s1⟩ := r 1 _ c1 rfl rfl
  obtain ⟨x0, g0, _, z0⟩ := DataW.trod_int Tryd.underlying3 s0
  obtain ⟨x1, g1, _, z1⟩ := DataW.trod_int Tryd.underlying3 s1
  simp only [List.cons.injEq, and_true] at g0 g1
  subst g0 g1
  have e2 : cs = #[.int .i64 x0, .int .i64 x1] := Array.toList_inj.1 hcs
  exact ⟨⟨x0, x1⟩, by rw [e2], (wf_of z0).1, (wf_of z0).2, (wf_of z1).1, (wf_of z1).2⟩
end Go.Proofs.YtlbebeedkcdgpaaDoor
