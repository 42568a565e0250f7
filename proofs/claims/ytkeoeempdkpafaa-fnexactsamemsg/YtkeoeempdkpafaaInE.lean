/- The law's comparison of instances and of slices of them. -/
import Derived.Test.YtkeoeempdkpafaaInM
import Derived.BigQuiet
namespace Go.Proofs.Ytkeoeempdkpafaa
open Go.RowKit Go.PlainAid
set_option linter.unusedVariables false

def LatE (w0 w : World) : Prop := Below w0.heap.size w0 w
theorem LatE.trans {w0 w w' : World} (h : LatE w0 w) (hb : Below w.heap.size w w') : LatE w0 w' := Below.trans h (hb.mono (Below.size h))
end Go.Proofs.Ytkeoeempdkpafaa
