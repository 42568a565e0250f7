/- When two messages are the same, in plain words. -/
import Derived.Test.YtdokglckfabdaaaGreatDoorEmM
namespace Go.Proofs.YtdokglckfabdaaaGreatDoor
open Go.RowKit Go.PlainAid
set_option linter.unusedVariables false

/-- Are two messages the same? -/
def smB (x y : Em) : Bool := decide (x.kind = y.kind ∧ x.frm = y.frm ∧ x.dst = y.dst ∧ x.i.rep = y.i.rep ∧ x.i.slot = y.i.slot ∧ x.i.bal = y.i.bal ∧ x.i.seq = y.i.seq ∧ x.i.st = y.i.st ∧ x.i.vbal = y.i.vbal ∧ x.i.same = y.i.same ∧ x.i.cmd = y.i.cmd ∧ x.i.deps = y.i.deps)
end Go.Proofs.YtdokglckfabdaaaGreatDoor
