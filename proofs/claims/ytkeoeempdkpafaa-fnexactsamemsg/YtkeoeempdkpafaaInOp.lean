/- Instances that came in: from their reading to the slice. -/
import Derived.Test.YtkeoeempdkpafaaInM
import Derived.Test.YtkeoeempdkpafaaIdOp
import Derived.Test.YtkeoeempdkpafaaCmdO
namespace Go.Proofs.Ytkeoeempdkpafaa
open Go Go.ChangeShapes Go.WideShapes Go.ChangeAt Go.RowKit Go.Joins Go.Deep
set_option linter.unusedVariables false

theorem list16 {α : Type} {cs : List α} (h : cs.length = 16) : ∃ c0 c1 c2 c3 c4 c5 c6 c7 c8 c9 c10 c11 c12 c13 c14 c15, cs = [c0, c1, c2, c3, c4, c5, c6, c7, c8, c9, c10, c11, c12, c13, c14, c15] := by
  match cs, h with
  | [c0, c1, c2, c3, c4, c5, c6, c7, c8, c9, c10, c11, c12, c13, c14, c15], _ => exact ⟨c0, c1, c2, c3, c4, c5, c6, c7, c8, c9, c10, c11, c12, c13, c14, c15, rfl⟩
theorem list8 {α : Type} {cs : List α} (h : cs.length = 8) : ∃ c0 c1 c2 c3 c4 c5 c6 c7, cs = [c0, c1, c2, c3, c4, c5, c6, c7] := by
  match cs, h with
  | [c0, c1, c2, c3, c4, c5, c6, c7], _ => exact ⟨c0, c1, c2, c3, c4, c5, c6, c7, rfl⟩
/-- A field of a struct, wherever it lies. -/
theorem struct_part {H : Type} {enc : TypeId × Value → H} {P : Program} {W : World} {sp : Nat → Bool} {held : Bool} {base : Nat} {t : TypeId} {fs : Array Field} {fuel : Nat} {cs : List Value} {x : DataW H × List MemPlace} (ht : P.underlying t = some (.struct fs))
    (h : DataW.trod enc P W base sp held fuel t cs = some x) (i : Nat) (f : Field) (hf : fs[i]? = some f) : ∃ n y, DataW.trod enc P W base sp held n f.type ((cs.drop f.offset).take (P.cellsOf f.type)) = some y := by
  obtain ⟨xs, n, _, _, _, hlen, hfd⟩ := DataW.trod_struct ht h
  have hi : i < fs.size := (Array.getElem?_eq_some_iff.1 hf).1
  have e := hfd i f hf
  rw [List.getElem?_eq_getElem (by omega)] at e
  exact ⟨n, _, e⟩
set_option maxRecDepth 100000 in
/-- A command, opened, by its cells. -/
theorem open_cmdC {H : Type} {enc : TypeId × Value → H} {W : World} {n : Nat} {cs : List Value} {y : DataW H × List MemPlace} (hcl : cs.length = 8) (h : DataW.trod enc Try.prog W 0 (fun _ => true) true n 26 cs = some y) :
    ∃ (c : CmdM) (u : Value), cs = [.int .i64 c.kind, .int .i64 c.client, .int .i64 c.no, .string c.set, .string c.name, .string c.tag, .int .i64 c.n, u] ∧ Strs W u c.ch ∧ c.set.size ≤ 9223372036854775807 ∧ c.name.size ≤ 9223372036854775807 ∧ c.tag.size ≤ 9223372036854775807 := by
  obtain ⟨c0, c1, c2, c3, c4, c5, c6, c7, rfl⟩ := list8 hcl
  have hone := Try.one26
  rw [Try.underlying26] at hone
  have r := struct_cells Try.underlying26 hone h
  obtain ⟨_, y0, t0⟩ := r 0 _ c0 rfl rfl
  obtain ⟨_, y1, t1⟩ := r 1 _ c1 rfl rfl
  obtain ⟨_, y2, t2⟩ := r 2 _ c2 rfl rfl
  obtain ⟨_, y3, t3⟩ := r 3 _ c3 rfl rfl
  obtain ⟨_, y4, t4⟩ := r 4 _ c4 rfl rfl
  obtain ⟨_, y5, t5⟩ := r 5 _ c5 rfl rfl
  obtain ⟨_, y6, t6⟩ := r 6 _ c6 rfl rfl
  obtain ⟨_, y7, t7⟩ := r 7 _ c7 rfl rfl
  obtain ⟨z0, e0, _, _⟩ := DataW.trod_int Try.underlying3 t0
  obtain ⟨z1, e1, _, _⟩ := DataW.trod_int Try.underlying3 t1
  obtain ⟨z2, e2, _, _⟩ := DataW.trod_int Try.underlying3 t2
  obtain ⟨z3, e3, _, q3⟩ := DataW.trod_string Try.underlying9 t3
  obtain ⟨z4, e4, _, q4⟩ := DataW.trod_string Try.underlying9 t4
  obtain ⟨z5, e5, _, q5⟩ := DataW.trod_string Try.underlying9 t5
  obtain ⟨z6, e6, _, _⟩ := DataW.trod_int Try.underlying3 t6
  simp only [List.cons.injEq, and_true] at e0 e1 e2 e3 e4 e5 e6
  subst e0 e1 e2 e3 e4 e5 e6
  unfold maxLen at q3 q4 q5
  rcases open_strings Try.underlying24 Try.underlying9 Try.strCells t7 with ⟨hcs, _⟩ | ⟨a, len, cap, ss, hcs, _, hl, hm, hz, _, hc, hs⟩
  · simp only [List.cons.injEq, and_true] at hcs
    subst hcs
    exact ⟨⟨z0, z1, z2, z3, z4, z5, z6, []⟩, _, rfl, strs_nil _ _ _, q3, q4, q5⟩
  · simp only [List.cons.injEq, and_true] at hcs
    subst hcs
    exact ⟨⟨z0, z1, z2, z3, z4, z5, z6, ss.take len⟩, _, rfl, strs_of_open hl hm hz (by simpa using hl) hc hs, q3, q4, q5⟩
theorem mapIn_get (q : Nat → In) (len j : Nat) (h : j < len) : ((List.range len).map q)[j]? = some (q j) := by
  rw [List.getElem?_map, List.getElem?_range h]; rfl
set_option maxRecDepth 100000 in
theorem open_id {H : Type} {enc : TypeId × Value → H} {W : World} {base : Nat} {v : Value} {d : DataW H} {p : List MemPlace} (hv : Value.okWide Try.prog W .any base 23 v) (h : DataW.Trod enc Try.prog W 0 (fun _ => true) true 23 v d p) :
    ∃ x : Ii, v = .agg #[.int .i64 x.rep, .int .i64 x.slot] := by
  obtain ⟨cs, rfl, hsz⟩ := okWide_struct Try.underlying23 hv
  obtain ⟨fuel, hf⟩ := h
  obtain ⟨x, e⟩ := open_idC (cs := cs.toList) (by rw [Array.length_toList]; exact hsz.trans Try.idCells) hf
  refine ⟨x, ?_⟩
  have e2 : cs = #[.int .i64 x.rep, .int .i64 x.slot] := Array.toList_inj.1 e
  rw [e2]
end Go.Proofs.Ytkeoeempdkpafaa
