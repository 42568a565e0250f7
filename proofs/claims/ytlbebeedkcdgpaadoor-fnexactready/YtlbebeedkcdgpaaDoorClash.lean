/- When two commands conflict: the program's walk and the model's. -/
import Derived.Test.YtlbebeedkcdgpaaDoorOkC
import Derived.Test.YtlbebeedkcdgpaaDoorOkS
namespace Go.Proofs.YtlbebeedkcdgpaaDoor
open Go.RowKit Go.PlainAid
set_option linter.unusedVariables false

/-- Two commands conflict. -/
@[irreducible] def clashB (c d : CmdM) : Bool := okB c && (okB d && (!(c.kind == 0) && (!(d.kind == 0) && ((c.kind == 7) || ((d.kind == 7) || decide (c.set = d.set))))))
end Go.Proofs.YtlbebeedkcdgpaaDoor
