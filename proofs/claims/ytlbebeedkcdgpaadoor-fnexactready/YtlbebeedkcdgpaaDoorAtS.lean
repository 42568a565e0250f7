/- AttrsOf: the model's walk. -/
import Derived.Test.YtlbebeedkcdgpaaDoorAtI
import Derived.Test.YtlbebeedkcdgpaaDoorInLs
namespace Go.Proofs.YtlbebeedkcdgpaaDoor
open Go.RowKit Go.PlainAid
set_option linter.unusedVariables false

end Go.Proofs.YtlbebeedkcdgpaaDoor
