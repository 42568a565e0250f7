/- A log that came in: from its reading to the value and its parts. -/
import Derived.Test.YtemhhjkmolndbaaDoorSgM
import Derived.ProofKit
import Derived.OpenShut
import Derived.ShutString
import Derived.Deep.SlicePairs
import Derived.Deep.Fields
import Derived.Lib.SmallJoins
namespace Go.Proofs.YtemhhjkmolndbaaDoor
open Go Go.ChangeShapes Go.WideShapes Go.ChangeAt Go.RowKit Go.Joins Go.Deep
set_option linter.unusedVariables false

instance : Inhabited Sg := ⟨⟨0, ByteArray.empty⟩⟩
theorem array3 {α : Type} {cs : Array α} (h : cs.size = 3) : ∃ c0 c1 c2, cs = #[c0, c1, c2] := by
  obtain ⟨l⟩ := cs
  match l, h with
  | [c0, c1, c2], _ => exact ⟨c0, c1, c2, rfl⟩
theorem field_at {P : Program} {fs : Array Field} (hone : oneCellFields P fs = true) (cs : List Value) (i : Nat) (f : Field) (x : Value) (hf : fs[i]? = some f) (hx : cs[i]? = some x) : (cs.drop f.offset).take (P.cellsOf f.type) = [x] := by
  obtain ⟨o, k⟩ := hone_of hone i f hf
  have hi : i < cs.length := (List.getElem?_eq_some_iff.1 hx).1
  rw [o, k, take1_drop _ i undef hi, List.getD, hx]
  rfl
theorem struct_cells {H : Type} {enc : TypeId × Value → H} {P : Program} {W : World} {sp : Nat → Bool} {held : Bool} {base : Nat} {t : TypeId} {fs : Array Field} {fuel : Nat} {cs : List Value} {x : DataW H × List MemPlace} (ht : P.underlying t = some (.struct fs)) (hone : oneCellFields P fs = true)
    (h : DataW.trod enc P W base sp held fuel t cs = some x) (i : Nat) (f : Field) (c : Value) (hf : fs[i]? = some f) (hx : cs[i]? = some c) : ∃ n y, DataW.trod enc P W base sp held n f.type [c] = some y := by
  obtain ⟨xs, n, _, _, _, hlen, hfd⟩ := DataW.trod_struct ht h
  have hi : i < fs.size := (Array.getElem?_eq_some_iff.1 hf).1
  have e := hfd i f hf
  rw [field_at hone cs i f c hf hx, List.getElem?_eq_getElem (by omega)] at e
  exact ⟨n, _, e⟩
theorem Tryd.intCells : Tryd.prog.cellsOf 3 = 1 := by kernel_rfl
theorem Tryd.strCellsO : Tryd.prog.cellsOf 9 = 1 := by kernel_rfl
theorem segs_at {w : World} {a : Addr} {len : Nat} {q : Nat → Sg} (h : ∀ i, i < len → w.cell? (a.add (i * 2)) = some (.int .i64 (q i).fst) ∧ w.cell? (a.add (i * 2 + 1)) = some (.string (q i).txt)) (hp : 0 < len) :
    ∃ b off, a = ⟨b, off, none⟩ ∧ ∀ j, j < len → w.cell? ⟨b, off + j * 2, none⟩ = some (.int .i64 (q j).fst) ∧ w.cell? ⟨b, off + j * 2 + 1, none⟩ = some (.string (q j).txt) := by
  obtain ⟨b, off, spot⟩ := a
  have hspot : spot = none := by simpa [Addr.add] using World.cell?_spot (h 0 hp).1
  subst hspot
  exact ⟨b, off, rfl, fun j hj => by rw [← Go.WideShapes.add_plain, show off + j * 2 + 1 = off + (j * 2 + 1) by omega, ← Go.WideShapes.add_plain]; exact h j hj⟩
theorem mapSg_get (q : Nat → Sg) (len j : Nat) (h : j < len) : ((List.range len).map q)[j]? = some (q j) := by
  rw [List.getElem?_map, List.getElem?_range h]; rfl

end Go.Proofs.YtemhhjkmolndbaaDoor
