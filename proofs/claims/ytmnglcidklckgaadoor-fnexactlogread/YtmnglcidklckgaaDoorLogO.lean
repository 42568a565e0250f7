/- A log that came in: from its reading to the value and its parts. -/
import Derived.Test.YtmnglcidklckgaaDoorSgA
import Derived.ProofKit
import Derived.OpenShut
import Derived.ShutString
import Derived.Deep.SlicePairs
import Derived.Deep.Fields
import Derived.Lib.SmallJoins
namespace Go.Proofs.YtmnglcidklckgaaDoor
open Go Go.ChangeShapes Go.WideShapes Go.ChangeAt Go.RowKit Go.Joins Go.Deep
set_option linter.unusedVariables false

instance : Inhabited Sg := ⟨⟨0, ByteArray.empty⟩⟩
theorem array3 {α : Type} {cs : Array α} (h : cs.size = 3) : ∃ c0 c1 c2, cs = #[c0, c1, c2] := by
  obtain ⟨l⟩ := cs
  match l, h with
  | [c0, c1, c2], _ => exact ⟨c0, c1, c2, rfl⟩
theorem field_at {P : Program} {fs : Array Field} (hone : oneCellFields P fs = true) (cs : List Value) (i : Nat) (f : Field) (x : Value) (hf : fs[i]? = some f) (hx : cs[i]? = some x) : (cs.drop f.offset).take (P.cellsOf f.type) = [x] := by
  obtain ⟨o, k⟩ := hone_of hone i f hf
  have hi : i < cs.length := (List.getElem?_eq_some_iff.1 hx).1
  rw [o, k, take1_drop _ i undef hi, List.getD, hx]
  rfl
theorem struct_cells {H : Type} {enc : TypeId × Value → H} {P : Program} {W : World} {sp : Nat → Bool} {held : Bool} {base : Nat} {t : TypeId} {fs : Array Field} {fuel : Nat} {cs : List Value} {x : DataW H × List MemPlace} (ht : P.underlying t = some (.struct fs)) (hone : oneCellFields P fs = true)
    (h : DataW.trod enc P W base sp held fuel t cs = some x) (i : Nat) (f : Field) (c : Value) (hf : fs[i]? = some f) (hx : cs[i]? = some c) : ∃ n y, DataW.trod enc P W base sp held n f.type [c] = some y := by
  obtain ⟨xs, n, _, _, _, hlen, hfd⟩ := DataW.trod_struct ht h
  have hi : i < fs.size := (Array.getElem?_eq_some_iff.1 hf).1
  have e := hfd i f hf
  rw [field_at hone cs i f c hf hx, List.getElem?_eq_getElem (by omega)] at e
  exact ⟨n, _, e⟩
theorem Tryd.oneLog : (match Tryd.prog.underlying 41 with | some (.struct fs) => oneCellFields Tryd.prog fs | _ => false) = true := by kernel_rfl
theorem Tryd.logCells : Tryd.prog.cellsOf 41 = 3 := by kernel_rfl
theorem Tryd.segCells : Tryd.prog.cellsOf 95 = 2 := by kernel_rfl
theorem Tryd.intCells : Tryd.prog.cellsOf 3 = 1 := by kernel_rfl
theorem Tryd.strCellsO : Tryd.prog.cellsOf 9 = 1 := by kernel_rfl
theorem segs_at {w : World} {a : Addr} {len : Nat} {q : Nat → Sg} (h : ∀ i, i < len → w.cell? (a.add (i * 2)) = some (.int .i64 (q i).fst) ∧ w.cell? (a.add (i * 2 + 1)) = some (.string (q i).txt)) (hp : 0 < len) :
    ∃ b off, a = ⟨b, off, none⟩ ∧ ∀ j, j < len → w.cell? ⟨b, off + j * 2, none⟩ = some (.int .i64 (q j).fst) ∧ w.cell? ⟨b, off + j * 2 + 1, none⟩ = some (.string (q j).txt) := by
  obtain ⟨b, off, spot⟩ := a
  have hspot : spot = none := by simpa [Addr.add] using World.cell?_spot (h 0 hp).1
  subst hspot
  exact ⟨b, off, rfl, fun j hj => by rw [← Go.WideShapes.add_plain, show off + j * 2 + 1 = off + (j * 2 + 1) by omega, ← Go.WideShapes.add_plain]; exact h j hj⟩
theorem mapSg_get (q : Nat → Sg) (len j : Nat) (h : j < len) : ((List.range len).map q)[j]? = some (q j) := by
  rw [List.getElem?_map, List.getElem?_range h]; rfl

set_option maxRecDepth 100000 in
/-- A log, opened. -/
theorem open_log {H : Type} {enc : TypeId × Value → H} {W : World} {base : Nat} {v : Value} {d : DataW H} {p : List MemPlace} (hv : Value.okWide Tryd.prog W .any base 41 v) (h : DataW.Trod enc Tryd.prog W 0 (fun _ => true) true 41 v d p) :
    ∃ (u : Value) (l : List Sg) (n m : Int), v = .agg #[u, .int .i64 n, .int .i64 m] ∧ Segs W u l := by
  obtain ⟨cs, rfl, hsz⟩ := okWide_struct Tryd.underlying41 hv
  obtain ⟨c0, c1, c2, rfl⟩ := array3 (hsz.trans Tryd.logCells)
  obtain ⟨fuel, hf⟩ := h
  have hone := Tryd.oneLog
  rw [Tryd.underlying41] at hone
  have r := struct_cells Tryd.underlying41 hone hf
  obtain ⟨_, y0, t0⟩ := r 0 _ c0 rfl rfl
  obtain ⟨_, y1, t1⟩ := r 1 _ c1 rfl rfl
  obtain ⟨_, y2, t2⟩ := r 2 _ c2 rfl rfl
  obtain ⟨z1, e1, _, q1⟩ := DataW.trod_int Tryd.underlying3 t1
  obtain ⟨z2, e2, _, q2⟩ := DataW.trod_int Tryd.underlying3 t2
  simp only [List.cons.injEq, and_true] at e1 e2
  subst e1 e2
  rcases open_slice_pairs Tryd.underlying39 Tryd.underlying95 Tryd.segCells rfl rfl Tryd.intCells Tryd.strCellsO t0 with ⟨hcs, _⟩ | ⟨a, len, cap, k, nn, V0, V1, D0, D1, P0, P1, hcs, _, hl, hm, hk, _, hc⟩
  · simp only [List.cons.injEq, and_true] at hcs
    subst hcs
    exact ⟨_, [], z1, z2, rfl, segs_nil _ _ _⟩
  · simp only [List.cons.injEq, and_true] at hcs
    subst hcs
    have hlk : len ≤ k := by rw [hk]; split <;> omega
    obtain ⟨q, hq⟩ := choose_lt (α := Sg) (n := len) (p := fun i s => (W.cell? (a.add (i * 2)) = some (.int .i64 s.fst) ∧ W.cell? (a.add (i * 2 + 1)) = some (.string s.txt)) ∧ s.txt.size ≤ maxLen) (fun i hi => by
      obtain ⟨g0, g1, g2, g3⟩ := hc i (by omega)
      obtain ⟨x0, e0, _, _⟩ := DataW.trod_int Tryd.underlying3 g2
      obtain ⟨x1, e1, _, k1⟩ := DataW.trod_string Tryd.underlying9 g3
      simp only [List.cons.injEq, and_true] at e0 e1
      rw [e0] at g0
      rw [e1] at g1
      exact ⟨⟨x0, x1⟩, ⟨g0, g1⟩, k1⟩)
    unfold maxLen at hm hq
    have hlen : ((List.range len).map q).length = len := by simp
    refine ⟨_, (List.range len).map q, z1, z2, rfl, ⟨by rw [hlen]; omega, fun j hj => ?_, some a, cap, by rw [hlen], by rw [hlen]; exact hl, fun h0 => ?_⟩⟩
    · rw [hlen] at hj
      rw [sT_of (mapSg_get q len j hj)]
      have := (hq j hj).2
      omega
    · rw [hlen] at h0
      obtain ⟨b, o, rfl, hc'⟩ := segs_at (fun i hi => (hq i hi).1) h0
      refine ⟨b, o, rfl, cell_lt (p := ⟨b, o + 0 * 2, none⟩) (hc' 0 (by omega)).1, fun j hj => ?_⟩
      rw [hlen] at hj
      rw [sF_of (mapSg_get q len j hj), sT_of (mapSg_get q len j hj)]
      exact hc' j hj
end Go.Proofs.YtmnglcidklckgaaDoor
