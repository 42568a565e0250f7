/-
  NARROWER THAN 'FOR EVERY INPUT', by the rows' own cells (each row's printed sentence says how): FnLog: laid · FnExactLogOk: laid · FnExactLogAdd: laid · FnExactLogMark: laid · FnExactLogRead: laid · FnExactLogCut: laid.
  DERIVED. THE GIVEN ROWS OF THIS SEAT. 6 by the template 'for every input the law returns true; each argument reads behind the call as it read before'; 0 by the template 'total and deterministic' (their statements: YtmnglcidklckgaaDoorTotals.lean).
  GIVEN WITH THE SEED: the statements are not yours to turn. If you find one false, say at which input.
  Laid BY PROGRAM, IN A SANDBOX (cutbox-rows.mjs): the forced cells as the released guide's own fill.sh prints them over the translation 66df032a2b4196f0… (all of the seat's roots in one cut). By AI agents, Wed Nov 11 2026. No macro, syntax, notation, axiom, sorry.
-/
import Derived.Test.YtmnglcidklckgaaDoorChecked
import GoSem.Claim
import GoSem.ClaimJoined
import GoSem.ClaimMapViews
import Derived.JoinedTies
import Derived.KernelRfl
namespace Go.Proofs.YtmnglcidklckgaaDoor
/- THE CELL 'sum', in the pinned program and in every row, IS THE sha256 OF THE DUMP (.gsa) THAT YtmnglcidklckgaaDoorProg.lean LOADS. Nothing in Lean hashes anything: it is a label: what it is worth is what the hold of that sum in a sandbox is worth. -/
noncomputable def Tryd.pinned : Pinned := { name := "ytmnglcidklckgaadoor", sum := "66df032a2b4196f001a2e1ce1321574844c87dbb1d8a57d8564ef6a73cc8e3bd", checked := Tryd.checked }
namespace Rows
def none {H : Type} : Left H := { results := [], args := [] }

/- WHAT THE LISTED PACKAGE-LEVEL VARIABLES READ AS WHEN THE CALL BEGINS. Each datum BY PROGRAM (the guide's laid-datum.mjs) off the statement by which the dump's own 'gosem.cut.vars' lays the variable. In a bare row this is a premise. The card (YtmnglcidklckgaaDoorCards.lean) ties it to the program's text. -/
def laid_errors_errorType {H : Type} : DataW H := .iface "internal/reflectlite.rtype" (.agg [.ptr (.lit (.string [101, 114, 114, 111, 114]))])
def laid_loop_example_g00954_impl_crcTable {H : Type} : DataW H := .agg [.lit (.int .u32 0), .lit (.int .u32 274646895), .lit (.int .u32 549293790), .lit (.int .u32 820201905), .lit (.int .u32 1098587580), .lit (.int .u32 1361435347), .lit (.int .u32 1640403810), .lit (.int .u32 1905808397), .lit (.int .u32 2197175160), .lit (.int .u32 2460548119), .lit (.int .u32 2722870694), .lit (.int .u32 2987750089), .lit (.int .u32 3280807620), .lit (.int .u32 3553878443), .lit (.int .u32 3811616794), .lit (.int .u32 4084100981)]

/-- 'laws.FnLog': WHATEVER THE INPUT: true; the input reads as it did. -/
def fnLogSpec : ChangeSpec := { name := "fnLog", vars := ["loop.example/g00954/impl.crcTable"], fn := fun _ => fun
  | [d, g1] => { results := [.lit (.bool true)], args := [d], vars := [g1] }
  | _ => none }
def fnLogRow : OpenClaim := { program := "ytmnglcidklckgaadoor", sum := "66df032a2b4196f001a2e1ce1321574844c87dbb1d8a57d8564ef6a73cc8e3bd", func := "loop.example/g00954/laws.FnLog", spec := "fnLog", inPlace := ["internal/reflectlite.ValueOf", "(internal/reflectlite.Value).Type", "(internal/reflectlite.Value).IsNil", "internal/reflectlite.TypeOf", "(internal/reflectlite.Value).Elem", "(internal/reflectlite.Value).Set"], unfollowed := true, recurses := true, named := ["loop.example/g00954/impl.crcTable", "errors.errorType"], apart := false, laid := [("errors.errorType", laid_errors_errorType), ("loop.example/g00954/impl.crcTable", laid_loop_example_g00954_impl_crcTable)] }
def FnLogSaid : Prop := fnLogRow.holds Tryd.pinned (OpenSpec.ofChange fnLogSpec)

/-- ITS FALSE NEIGHBOUR: 'it returns false'. Refute it at one input. -/
def fnLogWrong : ChangeSpec := { name := "fnLog", vars := ["loop.example/g00954/impl.crcTable"], fn := fun _ => fun
  | [d, g1] => { results := [.lit (.bool false)], args := [d], vars := [g1] }
  | _ => none }
def FnLogWrongFalsely : Prop := fnLogRow.holds Tryd.pinned (OpenSpec.ofChange fnLogWrong)

/-- 'laws.FnExactLogOk': WHATEVER THE INPUT: true; the input reads as it did. -/
def fnExactLogOkSpec : ChangeSpec := { name := "fnExactLogOk", vars := ["loop.example/g00954/impl.crcTable"], fn := fun _ => fun
  | [d, g1] => { results := [.lit (.bool true)], args := [d], vars := [g1] }
  | _ => none }
def fnExactLogOkRow : OpenClaim := { program := "ytmnglcidklckgaadoor", sum := "66df032a2b4196f001a2e1ce1321574844c87dbb1d8a57d8564ef6a73cc8e3bd", func := "loop.example/g00954/laws.FnExactLogOk", spec := "fnExactLogOk", inPlace := ["internal/reflectlite.ValueOf", "(internal/reflectlite.Value).Type", "(internal/reflectlite.Value).IsNil", "internal/reflectlite.TypeOf", "(internal/reflectlite.Value).Elem", "(internal/reflectlite.Value).Set"], unfollowed := true, recurses := true, named := ["loop.example/g00954/impl.crcTable", "errors.errorType"], apart := false, laid := [("errors.errorType", laid_errors_errorType), ("loop.example/g00954/impl.crcTable", laid_loop_example_g00954_impl_crcTable)] }
def FnExactLogOkSaid : Prop := fnExactLogOkRow.holds Tryd.pinned (OpenSpec.ofChange fnExactLogOkSpec)

/-- ITS FALSE NEIGHBOUR: 'it returns false'. Refute it at one input. -/
def fnExactLogOkWrong : ChangeSpec := { name := "fnExactLogOk", vars := ["loop.example/g00954/impl.crcTable"], fn := fun _ => fun
  | [d, g1] => { results := [.lit (.bool false)], args := [d], vars := [g1] }
  | _ => none }
def FnExactLogOkWrongFalsely : Prop := fnExactLogOkRow.holds Tryd.pinned (OpenSpec.ofChange fnExactLogOkWrong)

/-- 'laws.FnExactLogAdd': WHATEVER THE INPUT: true; the input reads as it did. -/
def fnExactLogAddSpec : ChangeSpec := { name := "fnExactLogAdd", vars := ["loop.example/g00954/impl.crcTable"], fn := fun _ => fun
  | [d1, d2, g1] => { results := [.lit (.bool true)], args := [d1, d2], vars := [g1] }
  | _ => none }
def fnExactLogAddRow : OpenClaim := { program := "ytmnglcidklckgaadoor", sum := "66df032a2b4196f001a2e1ce1321574844c87dbb1d8a57d8564ef6a73cc8e3bd", func := "loop.example/g00954/laws.FnExactLogAdd", spec := "fnExactLogAdd", inPlace := ["internal/reflectlite.ValueOf", "(internal/reflectlite.Value).Type", "(internal/reflectlite.Value).IsNil", "internal/reflectlite.TypeOf", "(internal/reflectlite.Value).Elem", "(internal/reflectlite.Value).Set"], unfollowed := true, recurses := true, named := ["loop.example/g00954/impl.crcTable", "errors.errorType"], apart := false, laid := [("errors.errorType", laid_errors_errorType), ("loop.example/g00954/impl.crcTable", laid_loop_example_g00954_impl_crcTable)] }
def FnExactLogAddSaid : Prop := fnExactLogAddRow.holds Tryd.pinned (OpenSpec.ofChange fnExactLogAddSpec)

/-- ITS FALSE NEIGHBOUR: 'it returns false'. Refute it at one input. -/
def fnExactLogAddWrong : ChangeSpec := { name := "fnExactLogAdd", vars := ["loop.example/g00954/impl.crcTable"], fn := fun _ => fun
  | [d1, d2, g1] => { results := [.lit (.bool false)], args := [d1, d2], vars := [g1] }
  | _ => none }
def FnExactLogAddWrongFalsely : Prop := fnExactLogAddRow.holds Tryd.pinned (OpenSpec.ofChange fnExactLogAddWrong)

/-- 'laws.FnExactLogMark': WHATEVER THE INPUT: true; the input reads as it did. -/
def fnExactLogMarkSpec : ChangeSpec := { name := "fnExactLogMark", vars := ["loop.example/g00954/impl.crcTable"], fn := fun _ => fun
  | [d1, d2, g1] => { results := [.lit (.bool true)], args := [d1, d2], vars := [g1] }
  | _ => none }
def fnExactLogMarkRow : OpenClaim := { program := "ytmnglcidklckgaadoor", sum := "66df032a2b4196f001a2e1ce1321574844c87dbb1d8a57d8564ef6a73cc8e3bd", func := "loop.example/g00954/laws.FnExactLogMark", spec := "fnExactLogMark", inPlace := ["internal/reflectlite.ValueOf", "(internal/reflectlite.Value).Type", "(internal/reflectlite.Value).IsNil", "internal/reflectlite.TypeOf", "(internal/reflectlite.Value).Elem", "(internal/reflectlite.Value).Set"], unfollowed := true, recurses := true, named := ["loop.example/g00954/impl.crcTable", "errors.errorType"], apart := false, laid := [("errors.errorType", laid_errors_errorType), ("loop.example/g00954/impl.crcTable", laid_loop_example_g00954_impl_crcTable)] }
def FnExactLogMarkSaid : Prop := fnExactLogMarkRow.holds Tryd.pinned (OpenSpec.ofChange fnExactLogMarkSpec)

/-- ITS FALSE NEIGHBOUR: 'it returns false'. Refute it at one input. -/
def fnExactLogMarkWrong : ChangeSpec := { name := "fnExactLogMark", vars := ["loop.example/g00954/impl.crcTable"], fn := fun _ => fun
  | [d1, d2, g1] => { results := [.lit (.bool false)], args := [d1, d2], vars := [g1] }
  | _ => none }
def FnExactLogMarkWrongFalsely : Prop := fnExactLogMarkRow.holds Tryd.pinned (OpenSpec.ofChange fnExactLogMarkWrong)

/-- 'laws.FnExactLogRead': WHATEVER THE INPUT: true; the input reads as it did. -/
def fnExactLogReadSpec : ChangeSpec := { name := "fnExactLogRead", vars := ["loop.example/g00954/impl.crcTable"], fn := fun _ => fun
  | [d, g1] => { results := [.lit (.bool true)], args := [d], vars := [g1] }
  | _ => none }
def fnExactLogReadRow : OpenClaim := { program := "ytmnglcidklckgaadoor", sum := "66df032a2b4196f001a2e1ce1321574844c87dbb1d8a57d8564ef6a73cc8e3bd", func := "loop.example/g00954/laws.FnExactLogRead", spec := "fnExactLogRead", inPlace := ["internal/reflectlite.ValueOf", "(internal/reflectlite.Value).Type", "(internal/reflectlite.Value).IsNil", "internal/reflectlite.TypeOf", "(internal/reflectlite.Value).Elem", "(internal/reflectlite.Value).Set"], unfollowed := true, recurses := true, named := ["loop.example/g00954/impl.crcTable", "errors.errorType"], apart := false, laid := [("errors.errorType", laid_errors_errorType), ("loop.example/g00954/impl.crcTable", laid_loop_example_g00954_impl_crcTable)] }
def FnExactLogReadSaid : Prop := fnExactLogReadRow.holds Tryd.pinned (OpenSpec.ofChange fnExactLogReadSpec)

/-- ITS FALSE NEIGHBOUR: 'it returns false'. Refute it at one input. -/
def fnExactLogReadWrong : ChangeSpec := { name := "fnExactLogRead", vars := ["loop.example/g00954/impl.crcTable"], fn := fun _ => fun
  | [d, g1] => { results := [.lit (.bool false)], args := [d], vars := [g1] }
  | _ => none }
def FnExactLogReadWrongFalsely : Prop := fnExactLogReadRow.holds Tryd.pinned (OpenSpec.ofChange fnExactLogReadWrong)

/-- 'laws.FnExactLogCut': WHATEVER THE INPUT: true; the input reads as it did. -/
def fnExactLogCutSpec : ChangeSpec := { name := "fnExactLogCut", vars := ["loop.example/g00954/impl.crcTable"], fn := fun _ => fun
  | [d1, d2, g1] => { results := [.lit (.bool true)], args := [d1, d2], vars := [g1] }
  | _ => none }
def fnExactLogCutRow : OpenClaim := { program := "ytmnglcidklckgaadoor", sum := "66df032a2b4196f001a2e1ce1321574844c87dbb1d8a57d8564ef6a73cc8e3bd", func := "loop.example/g00954/laws.FnExactLogCut", spec := "fnExactLogCut", inPlace := ["internal/reflectlite.ValueOf", "(internal/reflectlite.Value).Type", "(internal/reflectlite.Value).IsNil", "internal/reflectlite.TypeOf", "(internal/reflectlite.Value).Elem", "(internal/reflectlite.Value).Set"], unfollowed := true, recurses := true, named := ["loop.example/g00954/impl.crcTable", "errors.errorType"], apart := false, laid := [("errors.errorType", laid_errors_errorType), ("loop.example/g00954/impl.crcTable", laid_loop_example_g00954_impl_crcTable)] }
def FnExactLogCutSaid : Prop := fnExactLogCutRow.holds Tryd.pinned (OpenSpec.ofChange fnExactLogCutSpec)

/-- ITS FALSE NEIGHBOUR: 'it returns false'. Refute it at one input. -/
def fnExactLogCutWrong : ChangeSpec := { name := "fnExactLogCut", vars := ["loop.example/g00954/impl.crcTable"], fn := fun _ => fun
  | [d1, d2, g1] => { results := [.lit (.bool false)], args := [d1, d2], vars := [g1] }
  | _ => none }
def FnExactLogCutWrongFalsely : Prop := fnExactLogCutRow.holds Tryd.pinned (OpenSpec.ofChange fnExactLogCutWrong)

/- THE SECOND FORM. 'bulk': how many values and letters a reading holds, each counted each time it is reached (what is shared counts as often as it is met; a slice's spare places count too). A statement '..UptoSaid' is the law's where the arguments, and the package variables that the reading takes, are together of bulk at most 1048576: NARROWER than '..Said'. Prove '..Said' where nothing that the law and all that it calls make is longer than what came in: it says more and counts as full. Else prove '..UptoSaid'. A law counts once. -/
mutual
def uptoBulk {H : Type} : DataW H → Nat
  | .lit (.string bytes) => bytes.length + 1
  | .lit _ => 1
  | .nil => 1
  | .ptr d => uptoBulk d + 1
  | .slice elems spare => uptoBulkAll elems + uptoBulkAll spare + 1
  | .agg parts => uptoBulkAll parts + 1
  | .iface _ d => uptoBulk d + 1
  | .map entries => uptoBulkEntries entries + 1
  | .held _ => 1
def uptoBulkAll {H : Type} : List (DataW H) → Nat
  | [] => 0
  | d :: r => uptoBulk d + uptoBulkAll r
def uptoBulkEntries {H : Type} : List (Lit × DataW H) → Nat
  | [] => 0
  | x :: r => uptoBulkEntry x + uptoBulkEntries r
def uptoBulkEntry {H : Type} : Lit × DataW H → Nat
  | (.string bytes, d) => bytes.length + uptoBulk d + 1
  | (_, d) => uptoBulk d + 1
 end
def uptoSmall : (H : Type) → List (DataW H) → Bool := fun _ ds => decide (uptoBulkAll ds ≤ 1048576)
def OpenSpec.upto (s : _root_.Go.ChangeSpec) : _root_.Go.OpenSpec := { _root_.Go.OpenSpec.ofChange s with cond := some uptoSmall }

/-- 'laws.FnLog', WHERE WHAT IT READS IS OF BULK AT MOST 1048576: true; the input reads as it did. -/
def fnLogUptoRow : OpenClaim := { program := "ytmnglcidklckgaadoor", sum := "66df032a2b4196f001a2e1ce1321574844c87dbb1d8a57d8564ef6a73cc8e3bd", func := "loop.example/g00954/laws.FnLog", spec := "fnLog", inPlace := ["internal/reflectlite.ValueOf", "(internal/reflectlite.Value).Type", "(internal/reflectlite.Value).IsNil", "internal/reflectlite.TypeOf", "(internal/reflectlite.Value).Elem", "(internal/reflectlite.Value).Set"], unfollowed := true, recurses := true, named := ["loop.example/g00954/impl.crcTable", "errors.errorType"], apart := false, laid := [("errors.errorType", laid_errors_errorType), ("loop.example/g00954/impl.crcTable", laid_loop_example_g00954_impl_crcTable)], narrowed := true }
def FnLogUptoSaid : Prop := fnLogUptoRow.holds Tryd.pinned (OpenSpec.upto fnLogSpec)

/-- 'laws.FnExactLogOk', WHERE WHAT IT READS IS OF BULK AT MOST 1048576: true; the input reads as it did. -/
def fnExactLogOkUptoRow : OpenClaim := { program := "ytmnglcidklckgaadoor", sum := "66df032a2b4196f001a2e1ce1321574844c87dbb1d8a57d8564ef6a73cc8e3bd", func := "loop.example/g00954/laws.FnExactLogOk", spec := "fnExactLogOk", inPlace := ["internal/reflectlite.ValueOf", "(internal/reflectlite.Value).Type", "(internal/reflectlite.Value).IsNil", "internal/reflectlite.TypeOf", "(internal/reflectlite.Value).Elem", "(internal/reflectlite.Value).Set"], unfollowed := true, recurses := true, named := ["loop.example/g00954/impl.crcTable", "errors.errorType"], apart := false, laid := [("errors.errorType", laid_errors_errorType), ("loop.example/g00954/impl.crcTable", laid_loop_example_g00954_impl_crcTable)], narrowed := true }
def FnExactLogOkUptoSaid : Prop := fnExactLogOkUptoRow.holds Tryd.pinned (OpenSpec.upto fnExactLogOkSpec)

/-- 'laws.FnExactLogAdd', WHERE WHAT IT READS IS OF BULK AT MOST 1048576: true; the input reads as it did. -/
def fnExactLogAddUptoRow : OpenClaim := { program := "ytmnglcidklckgaadoor", sum := "66df032a2b4196f001a2e1ce1321574844c87dbb1d8a57d8564ef6a73cc8e3bd", func := "loop.example/g00954/laws.FnExactLogAdd", spec := "fnExactLogAdd", inPlace := ["internal/reflectlite.ValueOf", "(internal/reflectlite.Value).Type", "(internal/reflectlite.Value).IsNil", "internal/reflectlite.TypeOf", "(internal/reflectlite.Value).Elem", "(internal/reflectlite.Value).Set"], unfollowed := true, recurses := true, named := ["loop.example/g00954/impl.crcTable", "errors.errorType"], apart := false, laid := [("errors.errorType", laid_errors_errorType), ("loop.example/g00954/impl.crcTable", laid_loop_example_g00954_impl_crcTable)], narrowed := true }
def FnExactLogAddUptoSaid : Prop := fnExactLogAddUptoRow.holds Tryd.pinned (OpenSpec.upto fnExactLogAddSpec)

/-- 'laws.FnExactLogMark', WHERE WHAT IT READS IS OF BULK AT MOST 1048576: true; the input reads as it did. -/
def fnExactLogMarkUptoRow : OpenClaim := { program := "ytmnglcidklckgaadoor", sum := "66df032a2b4196f001a2e1ce1321574844c87dbb1d8a57d8564ef6a73cc8e3bd", func := "loop.example/g00954/laws.FnExactLogMark", spec := "fnExactLogMark", inPlace := ["internal/reflectlite.ValueOf", "(internal/reflectlite.Value).Type", "(internal/reflectlite.Value).IsNil", "internal/reflectlite.TypeOf", "(internal/reflectlite.Value).Elem", "(internal/reflectlite.Value).Set"], unfollowed := true, recurses := true, named := ["loop.example/g00954/impl.crcTable", "errors.errorType"], apart := false, laid := [("errors.errorType", laid_errors_errorType), ("loop.example/g00954/impl.crcTable", laid_loop_example_g00954_impl_crcTable)], narrowed := true }
def FnExactLogMarkUptoSaid : Prop := fnExactLogMarkUptoRow.holds Tryd.pinned (OpenSpec.upto fnExactLogMarkSpec)

/-- 'laws.FnExactLogRead', WHERE WHAT IT READS IS OF BULK AT MOST 1048576: true; the input reads as it did. -/
def fnExactLogReadUptoRow : OpenClaim := { program := "ytmnglcidklckgaadoor", sum := "66df032a2b4196f001a2e1ce1321574844c87dbb1d8a57d8564ef6a73cc8e3bd", func := "loop.example/g00954/laws.FnExactLogRead", spec := "fnExactLogRead", inPlace := ["internal/reflectlite.ValueOf", "(internal/reflectlite.Value).Type", "(internal/reflectlite.Value).IsNil", "internal/reflectlite.TypeOf", "(internal/reflectlite.Value).Elem", "(internal/reflectlite.Value).Set"], unfollowed := true, recurses := true, named := ["loop.example/g00954/impl.crcTable", "errors.errorType"], apart := false, laid := [("errors.errorType", laid_errors_errorType), ("loop.example/g00954/impl.crcTable", laid_loop_example_g00954_impl_crcTable)], narrowed := true }
def FnExactLogReadUptoSaid : Prop := fnExactLogReadUptoRow.holds Tryd.pinned (OpenSpec.upto fnExactLogReadSpec)

/-- 'laws.FnExactLogCut', WHERE WHAT IT READS IS OF BULK AT MOST 1048576: true; the input reads as it did. -/
def fnExactLogCutUptoRow : OpenClaim := { program := "ytmnglcidklckgaadoor", sum := "66df032a2b4196f001a2e1ce1321574844c87dbb1d8a57d8564ef6a73cc8e3bd", func := "loop.example/g00954/laws.FnExactLogCut", spec := "fnExactLogCut", inPlace := ["internal/reflectlite.ValueOf", "(internal/reflectlite.Value).Type", "(internal/reflectlite.Value).IsNil", "internal/reflectlite.TypeOf", "(internal/reflectlite.Value).Elem", "(internal/reflectlite.Value).Set"], unfollowed := true, recurses := true, named := ["loop.example/g00954/impl.crcTable", "errors.errorType"], apart := false, laid := [("errors.errorType", laid_errors_errorType), ("loop.example/g00954/impl.crcTable", laid_loop_example_g00954_impl_crcTable)], narrowed := true }
def FnExactLogCutUptoSaid : Prop := fnExactLogCutUptoRow.holds Tryd.pinned (OpenSpec.upto fnExactLogCutSpec)

end Rows
end Go.Proofs.YtmnglcidklckgaaDoor
