/- A command that came in: from its reading to the value and its parts. -/
import Derived.Test.YtkeoeempdkpafaaStrs
import Derived.Test.YtkeoeempdkpafaaCmdM
import Derived.ProofKit
import Derived.OpenShut
import Derived.ShutString
import Derived.SliceStrings
import Derived.Deep.Fields
import Derived.Lib.SmallJoins
namespace Go.Proofs.Ytkeoeempdkpafaa
open Go Go.ChangeShapes Go.WideShapes Go.ChangeAt Go.RowKit Go.Joins Go.Deep
set_option linter.unusedVariables false

theorem strs_at {w : World} {a : Addr} {ss : List ByteArray} (h : ∀ i, i < ss.length → w.cell? (a.add i) = some (.string (ss.getD i ByteArray.empty))) (hp : 0 < ss.length) :
    ∃ b off, a = ⟨b, off, none⟩ ∧ ∀ j, j < ss.length → w.cell? ⟨b, off + j, none⟩ = some (.string (ss.getD j ByteArray.empty)) := by
  obtain ⟨b, off, spot⟩ := a
  have hspot : spot = none := by simpa [Addr.add] using World.cell?_spot (h 0 hp)
  subst hspot
  exact ⟨b, off, rfl, fun j hj => by rw [← Go.WideShapes.add_plain]; exact h j hj⟩
theorem strs_of_open {w : World} {a : Addr} {len cap n : Nat} {ss : List ByteArray} (hl : len ≤ cap) (hm : cap ≤ maxLen) (hz : ss.length = n) (hn : len ≤ n) (hc : ∀ i, i < ss.length → w.cell? (a.add i) = some (.string (ss.getD i ByteArray.empty))) (hs : ∀ s ∈ ss, s.size ≤ maxLen) :
    Strs w (.slice (some a) len cap) (ss.take len) := by
  have hlen : (ss.take len).length = len := by rw [List.length_take]; omega
  unfold maxLen at hm
  refine ⟨by omega, fun j hj => ?_, some a, cap, by rw [hlen], by omega, fun h0 => ?_⟩
  · have h := hs (el (ss.take len) j) (List.mem_of_mem_take (el_mem _ j hj))
    unfold maxLen at h
    omega
  · obtain ⟨b, o, rfl, hc'⟩ := strs_at hc (by omega)
    refine ⟨b, o, rfl, cell_lt (p := ⟨b, o + 0, none⟩) (hc' 0 (by omega)), fun j hj => ?_⟩
    rw [hc' j (by omega), el_eq]
    have hj' : j < len := by omega
    simp [List.getD, hj']

theorem array8 {α : Type} {cs : Array α} (h : cs.size = 8) : ∃ c0 c1 c2 c3 c4 c5 c6 c7, cs = #[c0, c1, c2, c3, c4, c5, c6, c7] := by
  obtain ⟨l⟩ := cs
  match l, h with
  | [c0, c1, c2, c3, c4, c5, c6, c7], _ => exact ⟨c0, c1, c2, c3, c4, c5, c6, c7, rfl⟩
theorem field_at {P : Program} {fs : Array Field} (hone : oneCellFields P fs = true) (cs : List Value) (i : Nat) (f : Field) (x : Value) (hf : fs[i]? = some f) (hx : cs[i]? = some x) : (cs.drop f.offset).take (P.cellsOf f.type) = [x] := by
  obtain ⟨o, k⟩ := hone_of hone i f hf
  have hi : i < cs.length := (List.getElem?_eq_some_iff.1 hx).1
  rw [o, k, take1_drop _ i undef hi, List.getD, hx]
  rfl
theorem struct_cells {H : Type} {enc : TypeId × Value → H} {P : Program} {W : World} {sp : Nat → Bool} {held : Bool} {base : Nat} {t : TypeId} {fs : Array Field} {fuel : Nat} {cs : List Value} {x : DataW H × List MemPlace} (ht : P.underlying t = some (.struct fs)) (hone : oneCellFields P fs = true)
    (h : DataW.trod enc P W base sp held fuel t cs = some x) (i : Nat) (f : Field) (c : Value) (hf : fs[i]? = some f) (hx : cs[i]? = some c) : ∃ n y, DataW.trod enc P W base sp held n f.type [c] = some y := by
  obtain ⟨xs, n, _, _, _, hlen, hfd⟩ := DataW.trod_struct ht h
  have hi : i < fs.size := (Array.getElem?_eq_some_iff.1 hf).1
  have e := hfd i f hf
  rw [field_at hone cs i f c hf hx, List.getElem?_eq_getElem (by omega)] at e
  exact ⟨n, _, e⟩
theorem Try.one26 : (match Try.prog.underlying 26 with | some (.struct fs) => oneCellFields Try.prog fs | _ => false) = true := by kernel_rfl

theorem Try.cmdCells : Try.prog.cellsOf 26 = 8 := by kernel_rfl
theorem Try.strCells : Try.prog.cellsOf 9 = 1 := by kernel_rfl

set_option maxRecDepth 100000 in
/-- A command, opened. -/
theorem open_cmd {H : Type} {enc : TypeId × Value → H} {W : World} {base : Nat} {v : Value} {d : DataW H} {p : List MemPlace} (hv : Value.okWide Try.prog W .any base 26 v) (h : DataW.Trod enc Try.prog W 0 (fun _ => true) true 26 v d p) :
    ∃ (c : CmdM) (u : Value), v = .agg #[.int .i64 c.kind, .int .i64 c.client, .int .i64 c.no, .string c.set, .string c.name, .string c.tag, .int .i64 c.n, u] ∧ Strs W u c.ch ∧ c.set.size ≤ 9223372036854775807 ∧ c.name.size ≤ 9223372036854775807 ∧ c.tag.size ≤ 9223372036854775807 := by
  obtain ⟨cs, rfl, hsz⟩ := okWide_struct Try.underlying26 hv
  obtain ⟨c0, c1, c2, c3, c4, c5, c6, c7, rfl⟩ := array8 (hsz.trans Try.cmdCells)
  obtain ⟨fuel, hf⟩ := h
  have hone := Try.one26
  rw [Try.underlying26] at hone
  have r := struct_cells Try.underlying26 hone hf
  obtain ⟨_, y0, t0⟩ := r 0 _ c0 rfl rfl
  obtain ⟨_, y1, t1⟩ := r 1 _ c1 rfl rfl
  obtain ⟨_, y2, t2⟩ := r 2 _ c2 rfl rfl
  obtain ⟨_, y3, t3⟩ := r 3 _ c3 rfl rfl
  obtain ⟨_, y4, t4⟩ := r 4 _ c4 rfl rfl
  obtain ⟨_, y5, t5⟩ := r 5 _ c5 rfl rfl
  obtain ⟨_, y6, t6⟩ := r 6 _ c6 rfl rfl
  obtain ⟨_, y7, t7⟩ := r 7 _ c7 rfl rfl
  obtain ⟨z0, e0, _, _⟩ := DataW.trod_int Try.underlying3 t0
  obtain ⟨z1, e1, _, _⟩ := DataW.trod_int Try.underlying3 t1
  obtain ⟨z2, e2, _, _⟩ := DataW.trod_int Try.underlying3 t2
  obtain ⟨z3, e3, _, q3⟩ := DataW.trod_string Try.underlying9 t3
  obtain ⟨z4, e4, _, q4⟩ := DataW.trod_string Try.underlying9 t4
  obtain ⟨z5, e5, _, q5⟩ := DataW.trod_string Try.underlying9 t5
  obtain ⟨z6, e6, _, _⟩ := DataW.trod_int Try.underlying3 t6
  simp only [List.cons.injEq, and_true] at e0 e1 e2 e3 e4 e5 e6
  subst e0 e1 e2 e3 e4 e5 e6
  unfold maxLen at q3 q4 q5
  rcases open_strings Try.underlying24 Try.underlying9 Try.strCells t7 with ⟨hcs, _⟩ | ⟨a, len, cap, ss, hcs, _, hl, hm, hz, _, hc, hs⟩
  · simp only [List.cons.injEq, and_true] at hcs
    subst hcs
    exact ⟨⟨z0, z1, z2, z3, z4, z5, z6, []⟩, _, rfl, strs_nil _ _ _, q3, q4, q5⟩
  · simp only [List.cons.injEq, and_true] at hcs
    subst hcs
    exact ⟨⟨z0, z1, z2, z3, z4, z5, z6, ss.take len⟩, _, rfl, strs_of_open hl hm hz (by simpa using hl) hc hs, q3, q4, q5⟩
end Go.Proofs.Ytkeoeempdkpafaa
