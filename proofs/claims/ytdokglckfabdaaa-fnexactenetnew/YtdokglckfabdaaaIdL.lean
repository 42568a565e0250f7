/- IdsOk: the loops, the model's and the program's. -/
import Derived.Test.YtdokglckfabdaaaIdW
import Derived.BigQuiet
namespace Go.Proofs.Ytdokglckfabdaaa
open Go.RowKit Go.PlainAid
set_option linter.unusedVariables false

theorem cells2_below {w w' : World} {B x o : Nat} {a b : Value} (h : w.cell? ⟨x, o, none⟩ = some a ∧ w.cell? ⟨x, o + 1, none⟩ = some b) (hb : Below B w w') (hx : x < B) : w'.cell? ⟨x, o, none⟩ = some a ∧ w'.cell? ⟨x, o + 1, none⟩ = some b := by
  rw [hb.cell (p := ⟨x, o, none⟩) hx, hb.cell (p := ⟨x, o + 1, none⟩) hx]; exact h
def LatI (w0 w : World) : Prop := Below w0.heap.size w0 w
theorem LatI.trans {w0 w w' : World} (h : LatI w0 w) (hb : Below w.heap.size w w') : LatI w0 w' := Below.trans h (hb.mono (Below.size h))
end Go.Proofs.Ytdokglckfabdaaa
