/- A small word on strings that differ. -/
import Derived.Test.YtmnglcidklckgaaStrs
import Derived.Deep.RegionWith
namespace Go.Proofs.Ytmnglcidklckgaa
open Go.RowKit Go.PlainAid
set_option linter.unusedVariables false

theorem ne_list {a b : ByteArray} (h : a ≠ b) : (a.toList == b.toList) = false := by
  rw [beq_eq_false_iff_ne]; exact fun e => h (str_eq e)

end Go.Proofs.Ytmnglcidklckgaa
