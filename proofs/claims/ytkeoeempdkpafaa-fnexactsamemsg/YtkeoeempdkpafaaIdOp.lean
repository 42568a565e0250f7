/- Ids that came in: from their reading to the slice. -/
import Derived.Test.YtkeoeempdkpafaaIdM
import Derived.ProofKit
import Derived.OpenShut
import Derived.ShutString
import Derived.Deep.Slices
import Derived.Deep.Fields
import Derived.ChangeSame
import Derived.Lib.SmallJoins
namespace Go.Proofs.Ytkeoeempdkpafaa
open Go Go.ChangeShapes Go.WideShapes Go.ChangeAt Go.RowKit Go.Joins Go.Deep
set_option linter.unusedVariables false

theorem list2 {α : Type} {cs : List α} (h : cs.length = 2) : ∃ c0 c1, cs = [c0, c1] := by
  match cs, h with
  | [c0, c1], _ => exact ⟨c0, c1, rfl⟩
theorem field_atI {P : Program} {fs : Array Field} (hone : oneCellFields P fs = true) (cs : List Value) (i : Nat) (f : Field) (x : Value) (hf : fs[i]? = some f) (hx : cs[i]? = some x) : (cs.drop f.offset).take (P.cellsOf f.type) = [x] := by
  obtain ⟨o, k⟩ := hone_of hone i f hf
  have hi : i < cs.length := (List.getElem?_eq_some_iff.1 hx).1
  rw [o, k, take1_drop _ i undef hi, List.getD, hx]
  rfl
theorem struct_cellsI {H : Type} {enc : TypeId × Value → H} {P : Program} {W : World} {sp : Nat → Bool} {held : Bool} {base : Nat} {t : TypeId} {fs : Array Field} {fuel : Nat} {cs : List Value} {x : DataW H × List MemPlace} (ht : P.underlying t = some (.struct fs)) (hone : oneCellFields P fs = true)
    (h : DataW.trod enc P W base sp held fuel t cs = some x) (i : Nat) (f : Field) (c : Value) (hf : fs[i]? = some f) (hx : cs[i]? = some c) : ∃ n y, DataW.trod enc P W base sp held n f.type [c] = some y := by
  obtain ⟨xs, n, _, _, _, hlen, hfd⟩ := DataW.trod_struct ht h
  have hi : i < fs.size := (Array.getElem?_eq_some_iff.1 hf).1
  have e := hfd i f hf
  rw [field_atI hone cs i f c hf hx, List.getElem?_eq_getElem (by omega)] at e
  exact ⟨n, _, e⟩
theorem Try.oneId : (match Try.prog.underlying 23 with | some (.struct fs) => oneCellFields Try.prog fs | _ => false) = true := by kernel_rfl
theorem Try.idCells : Try.prog.cellsOf 23 = 2 := by kernel_rfl
theorem ids_at {w : World} {a : Addr} {len : Nat} {q : Nat → Ii} (h : ∀ i, i < len → w.cell? (a.add (i * 2)) = some (.int .i64 (q i).rep) ∧ w.cell? (a.add (i * 2 + 1)) = some (.int .i64 (q i).slot)) (hp : 0 < len) :
    ∃ b o, a = ⟨b, o, none⟩ ∧ ∀ j, j < len → w.cell? ⟨b, o + j * 2, none⟩ = some (.int .i64 (q j).rep) ∧ w.cell? ⟨b, o + j * 2 + 1, none⟩ = some (.int .i64 (q j).slot) := by
  obtain ⟨b, off, spot⟩ := a
  have hspot : spot = none := by simpa [Addr.add] using World.cell?_spot (h 0 hp).1
  subst hspot
  exact ⟨b, off, rfl, fun j hj => by rw [← Go.WideShapes.add_plain, show off + j * 2 + 1 = off + (j * 2 + 1) by omega, ← Go.WideShapes.add_plain]; exact h j hj⟩
theorem mapIi_get (q : Nat → Ii) (len j : Nat) (h : j < len) : ((List.range len).map q)[j]? = some (q j) := by
  rw [List.getElem?_map, List.getElem?_range h]; rfl
set_option maxRecDepth 100000 in
/-- An Id, opened. -/
theorem open_idC {H : Type} {enc : TypeId × Value → H} {W : World} {n : Nat} {cs : List Value} {y : DataW H × List MemPlace} (hc : cs.length = 2) (h : DataW.trod enc Try.prog W 0 (fun _ => true) true n 23 cs = some y) :
    ∃ x : Ii, cs = [.int .i64 x.rep, .int .i64 x.slot] := by
  have hone := Try.oneId
  rw [Try.underlying23] at hone
  obtain ⟨c0, c1, rfl⟩ := list2 hc
  have r := struct_cellsI Try.underlying23 hone h
  obtain ⟨_, _, s0⟩ := r 0 _ c0 rfl rfl
  obtain ⟨_, _, s1⟩ := r 1 _ c1 rfl rfl
  obtain ⟨x0, g0, _⟩ := DataW.trod_int Try.underlying3 s0
  obtain ⟨x1, g1, _⟩ := DataW.trod_int Try.underlying3 s1
  simp only [List.cons.injEq, and_true] at g0 g1
  subst g0 g1
  exact ⟨⟨x0, x1⟩, rfl⟩
set_option maxRecDepth 100000 in
/-- A slice of Ids, opened. -/
theorem open_idsC {H : Type} {enc : TypeId × Value → H} {W : World} {n : Nat} {c : Value} {y : DataW H × List MemPlace} (h : DataW.trod enc Try.prog W 0 (fun _ => true) true n 27 [c] = some y) :
    ∃ l : List Ii, Ids W c l := by
  rcases open_slice Try.underlying27 h with ⟨hcs, _⟩ | ⟨a, len, cap, m, n, D, Pl, hcs, hb, hl, hm, hmm, _, hx⟩
  · simp only [List.cons.injEq, and_true] at hcs
    subst hcs
    exact ⟨[], ids_nil _ _ _⟩
  · simp only [List.cons.injEq, and_true] at hcs
    subst hcs
    have hlm : len ≤ m := by rw [hmm]; split <;> omega
    obtain ⟨q, hq⟩ := choose_lt (α := Ii) (n := len) (p := fun i s => W.cell? (a.add (i * 2)) = some (.int .i64 s.rep) ∧ W.cell? (a.add (i * 2 + 1)) = some (.int .i64 s.slot)) (fun i hi => by
      obtain ⟨cs', h1, h2⟩ := hx i (by omega)
      rw [Try.idCells] at h1
      obtain ⟨_, hlen, hcell⟩ := World.cells?_some h1
      obtain ⟨x, rfl⟩ := open_idC hlen h2
      have e0 := hcell 0 (by omega)
      have e1 := hcell 1 (by omega)
      rw [add_add] at e0 e1
      exact ⟨x, by simpa using e0, by simpa using e1⟩)
    unfold maxLen at hm
    have hlen : ((List.range len).map q).length = len := by simp
    refine ⟨(List.range len).map q, ⟨by rw [hlen]; omega, some a, cap, by rw [hlen], by rw [hlen]; exact hl, fun h0 => ?_⟩⟩
    rw [hlen] at h0
    obtain ⟨b, o, rfl, hc'⟩ := ids_at (fun i hi => hq i hi) h0
    refine ⟨b, o, rfl, cell_lt (p := ⟨b, o + 0 * 2, none⟩) (hc' 0 (by omega)).1, fun j hj => ?_⟩
    rw [hlen] at hj
    unfold IiAt
    rw [iR_of (mapIi_get q len j hj), iS_of (mapIi_get q len j hj)]
    exact hc' j hj
set_option maxRecDepth 100000 in
theorem open_ids {H : Type} {enc : TypeId × Value → H} {W : World} {base : Nat} {v : Value} {d : DataW H} {p : List MemPlace} (hv : Value.okWide Try.prog W .any base 27 v) (h : DataW.Trod enc Try.prog W 0 (fun _ => true) true 27 v d p) :
    ∃ l : List Ii, Ids W v l := by
  obtain ⟨a, len, cap, rfl⟩ := okWide_slice Try.underlying27 hv
  obtain ⟨fuel, hf⟩ := h
  exact open_idsC hf
end Go.Proofs.Ytkeoeempdkpafaa
