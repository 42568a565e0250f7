/- The law's comparison of slices of strings. -/
import Derived.Test.YtemhhjkmolndbaaDoorStrs
import Derived.Deep.RegionWith
namespace Go.Proofs.YtemhhjkmolndbaaDoor
open Go.RowKit Go.PlainAid
set_option linter.unusedVariables false

theorem ne_list {a b : ByteArray} (h : a ≠ b) : (a.toList == b.toList) = false := by
  rw [beq_eq_false_iff_ne]; exact fun e => h (str_eq e)

end Go.Proofs.YtemhhjkmolndbaaDoor
