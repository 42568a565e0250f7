/- A store of chunks that came in: from its reading to the value and its parts. -/
import Derived.Test.YtemhhjkmolndbaaDoorBlM
import Derived.ProofKit
import Derived.OpenShut
import Derived.ShutString
import Derived.Deep.Slices
import Derived.Deep.Fields
import Derived.ChangeSame
import Derived.Lib.SmallJoins
namespace Go.Proofs.YtemhhjkmolndbaaDoor
open Go Go.ChangeShapes Go.WideShapes Go.ChangeAt Go.RowKit Go.Joins Go.Deep
set_option linter.unusedVariables false

theorem array2 {α : Type} {cs : Array α} (h : cs.size = 2) : ∃ c0 c1, cs = #[c0, c1] := by
  obtain ⟨l⟩ := cs
  match l, h with
  | [c0, c1], _ => exact ⟨c0, c1, rfl⟩
theorem list3 {α : Type} {cs : List α} (h : cs.length = 3) : ∃ c0 c1 c2, cs = [c0, c1, c2] := by
  match cs, h with
  | [c0, c1, c2], _ => exact ⟨c0, c1, c2, rfl⟩
theorem field_at {P : Program} {fs : Array Field} (hone : oneCellFields P fs = true) (cs : List Value) (i : Nat) (f : Field) (x : Value) (hf : fs[i]? = some f) (hx : cs[i]? = some x) : (cs.drop f.offset).take (P.cellsOf f.type) = [x] := by
  obtain ⟨o, k⟩ := hone_of hone i f hf
  have hi : i < cs.length := (List.getElem?_eq_some_iff.1 hx).1
  rw [o, k, take1_drop _ i undef hi, List.getD, hx]
  rfl
theorem struct_cells {H : Type} {enc : TypeId × Value → H} {P : Program} {W : World} {sp : Nat → Bool} {held : Bool} {base : Nat} {t : TypeId} {fs : Array Field} {fuel : Nat} {cs : List Value} {x : DataW H × List MemPlace} (ht : P.underlying t = some (.struct fs)) (hone : oneCellFields P fs = true)
    (h : DataW.trod enc P W base sp held fuel t cs = some x) (i : Nat) (f : Field) (c : Value) (hf : fs[i]? = some f) (hx : cs[i]? = some c) : ∃ n y, DataW.trod enc P W base sp held n f.type [c] = some y := by
  obtain ⟨xs, n, _, _, _, hlen, hfd⟩ := DataW.trod_struct ht h
  have hi : i < fs.size := (Array.getElem?_eq_some_iff.1 hf).1
  have e := hfd i f hf
  rw [field_at hone cs i f c hf hx, List.getElem?_eq_getElem (by omega)] at e
  exact ⟨n, _, e⟩
theorem Tryd.oneBlobs : (match Tryd.prog.underlying 55 with | some (.struct fs) => oneCellFields Tryd.prog fs | _ => false) = true := by kernel_rfl
theorem Tryd.oneBlob : (match Tryd.prog.underlying 127 with | some (.struct fs) => oneCellFields Tryd.prog fs | _ => false) = true := by kernel_rfl
theorem Tryd.blobsCells : Tryd.prog.cellsOf 55 = 2 := by kernel_rfl
theorem Tryd.blobCells : Tryd.prog.cellsOf 127 = 3 := by kernel_rfl
theorem blobs_at {w : World} {a : Addr} {len : Nat} {q : Nat → Bb} (h : ∀ i, i < len → w.cell? (a.add (i * 3)) = some (.string (q i).id) ∧ w.cell? (a.add (i * 3 + 1)) = some (.string (q i).dat) ∧ w.cell? (a.add (i * 3 + 2)) = some (.bool (q i).bad)) (hp : 0 < len) :
    ∃ b o, a = ⟨b, o, none⟩ ∧ ∀ j, j < len → w.cell? ⟨b, o + j * 3, none⟩ = some (.string (q j).id) ∧ w.cell? ⟨b, o + j * 3 + 1, none⟩ = some (.string (q j).dat) ∧ w.cell? ⟨b, o + j * 3 + 2, none⟩ = some (.bool (q j).bad) := by
  obtain ⟨b, off, spot⟩ := a
  have hspot : spot = none := by simpa [Addr.add] using World.cell?_spot (h 0 hp).1
  subst hspot
  exact ⟨b, off, rfl, fun j hj => by rw [← Go.WideShapes.add_plain, show off + j * 3 + 1 = off + (j * 3 + 1) by omega, ← Go.WideShapes.add_plain, show off + j * 3 + 2 = off + (j * 3 + 2) by omega, ← Go.WideShapes.add_plain]; exact h j hj⟩
theorem mapBb_get (q : Nat → Bb) (len j : Nat) (h : j < len) : ((List.range len).map q)[j]? = some (q j) := by
  rw [List.getElem?_map, List.getElem?_range h]; rfl

set_option maxRecDepth 100000 in
/-- A store, opened. -/
theorem open_blobs {H : Type} {enc : TypeId × Value → H} {W : World} {base : Nat} {v : Value} {d : DataW H} {p : List MemPlace} (hv : Value.okWide Tryd.prog W .any base 55 v) (h : DataW.Trod enc Tryd.prog W 0 (fun _ => true) true 55 v d p) :
    ∃ (u : Value) (l : List Bb) (q : Int), v = .agg #[.int .i64 q, u] ∧ Blbs W u l := by
  obtain ⟨cs, rfl, hsz⟩ := okWide_struct Tryd.underlying55 hv
  obtain ⟨c0, c1, rfl⟩ := array2 (hsz.trans Tryd.blobsCells)
  obtain ⟨fuel, hf⟩ := h
  have hone := Tryd.oneBlobs
  rw [Tryd.underlying55] at hone
  have r := struct_cells Tryd.underlying55 hone hf
  obtain ⟨_, y0, t0⟩ := r 0 _ c0 rfl rfl
  obtain ⟨_, y1, t1⟩ := r 1 _ c1 rfl rfl
  obtain ⟨z0, e0, _, q0⟩ := DataW.trod_int Tryd.underlying3 t0
  simp only [List.cons.injEq, and_true] at e0
  subst e0
  rcases open_slice Tryd.underlying53 t1 with ⟨hcs, _⟩ | ⟨a, len, cap, m, n, D, Pl, hcs, hb, hl, hm, hmm, _, hx⟩
  · simp only [List.cons.injEq, and_true] at hcs
    subst hcs
    exact ⟨_, [], z0, rfl, blbs_nil _ _ _⟩
  · simp only [List.cons.injEq, and_true] at hcs
    subst hcs
    have hlm : len ≤ m := by rw [hmm]; split <;> omega
    have hone2 := Tryd.oneBlob
    rw [Tryd.underlying127] at hone2
    obtain ⟨q, hq⟩ := choose_lt (α := Bb) (n := len) (p := fun i s => (W.cell? (a.add (i * 3)) = some (.string s.id) ∧ W.cell? (a.add (i * 3 + 1)) = some (.string s.dat) ∧ W.cell? (a.add (i * 3 + 2)) = some (.bool s.bad)) ∧ s.id.size ≤ maxLen ∧ s.dat.size ≤ maxLen) (fun i hi => by
      obtain ⟨cs', h1, h2⟩ := hx i (by omega)
      rw [Tryd.blobCells] at h1
      obtain ⟨_, hlen, hcell⟩ := World.cells?_some h1
      obtain ⟨v0, v1, v2, rfl⟩ := list3 hlen
      have r2 := struct_cells Tryd.underlying127 hone2 h2
      obtain ⟨_, _, s0⟩ := r2 0 _ v0 rfl rfl
      obtain ⟨_, _, s1⟩ := r2 1 _ v1 rfl rfl
      obtain ⟨_, _, s2⟩ := r2 2 _ v2 rfl rfl
      obtain ⟨x0, g0, _, k0⟩ := DataW.trod_string Tryd.underlying9 s0
      obtain ⟨x1, g1, _, k1⟩ := DataW.trod_string Tryd.underlying9 s1
      obtain ⟨x2, g2, _⟩ := DataW.trod_bool Tryd.underlying4 s2
      simp only [List.cons.injEq, and_true] at g0 g1 g2
      subst g0 g1 g2
      have e0 := hcell 0 (by omega)
      have e1 := hcell 1 (by omega)
      have e2 := hcell 2 (by omega)
      rw [add_add] at e0 e1 e2
      exact ⟨⟨x0, x1, x2⟩, ⟨by simpa using e0, by simpa using e1, by simpa using e2⟩, k0, k1⟩)
    unfold maxLen at hm hq
    have hlen : ((List.range len).map q).length = len := by simp
    refine ⟨_, (List.range len).map q, z0, rfl, ⟨by rw [hlen]; omega, fun j hj => ?_, some a, cap, by rw [hlen], by rw [hlen]; exact hl, fun h0 => ?_⟩⟩
    · rw [hlen] at hj
      rw [bI_of (mapBb_get q len j hj), bD_of (mapBb_get q len j hj)]
      have := (hq j hj).2
      omega
    · rw [hlen] at h0
      obtain ⟨b, o, rfl, hc'⟩ := blobs_at (fun i hi => (hq i hi).1) h0
      refine ⟨b, o, rfl, cell_lt (p := ⟨b, o + 0 * 3, none⟩) (hc' 0 (by omega)).1, fun j hj => ?_⟩
      rw [hlen] at hj
      unfold BbAt
      rw [bI_of (mapBb_get q len j hj), bD_of (mapBb_get q len j hj), bX_of (mapBb_get q len j hj)]
      exact hc' j hj
end Go.Proofs.YtemhhjkmolndbaaDoor
