/-
  NARROWER THAN 'FOR EVERY INPUT', by the rows' own cells (each row's printed sentence says how): FnCmds: ifaces, laid · FnExactCmdOk: ifaces, laid · FnExactClash: ifaces, laid · FnExactShowCmd: ifaces, laid · FnExactReadCmd: ifaces, laid.
  DERIVED. THE GIVEN ROWS OF THIS SEAT. 5 by the template 'for every input the law returns true; each argument reads behind the call as it read before'; 0 by the template 'total and deterministic' (their statements: YtmdacoppkjclmaaDoorTotals.lean).
  GIVEN WITH THE SEED: the statements are not yours to turn. If you find one false, say at which input.
  Laid BY PROGRAM, IN A SANDBOX (cutbox-rows.mjs): the forced cells as the released guide's own fill.sh prints them over the translation df804747e8e60f6f… (all of the seat's roots in one cut). By AI agents, Wed Nov 11 2026. No macro, syntax, notation, axiom, sorry.
-/
import Derived.Test.YtmdacoppkjclmaaDoorChecked
import GoSem.Claim
import GoSem.ClaimJoined
import GoSem.ClaimMapViews
import Derived.JoinedTies
import Derived.KernelRfl
namespace Go.Proofs.YtmdacoppkjclmaaDoor
/- THE CELL 'sum', in the pinned program and in every row, IS THE sha256 OF THE DUMP (.gsa) THAT YtmdacoppkjclmaaDoorProg.lean LOADS. Nothing in Lean hashes anything: it is a label: what it is worth is what the hold of that sum in a sandbox is worth. -/
noncomputable def Tryd.pinned : Pinned := { name := "ytmdacoppkjclmaadoor", sum := "df804747e8e60f6f9060d209b99eec4f6a91bd666cd6b1641f4dfdfc1bac3c96", checked := Tryd.checked }
namespace Rows
def none {H : Type} : Left H := { results := [], args := [] }

/- WHAT THE LISTED PACKAGE-LEVEL VARIABLES READ AS WHEN THE CALL BEGINS. Each datum BY PROGRAM (the guide's laid-datum.mjs) off the statement by which the dump's own 'gosem.cut.vars' lays the variable. In a bare row this is a premise. The card (YtmdacoppkjclmaaDoorCards.lean) ties it to the program's text. -/
def laid_loop_example_g00954_impl_errInvalidCmd {H : Type} : DataW H := .iface "*errors.errorString" (.ptr (.agg [.lit (.string [105, 110, 118, 97, 108, 105, 100, 32, 99, 111, 109, 109, 97, 110, 100])]))

/-- 'laws.FnCmds': WHATEVER THE INPUT: true; the input reads as it did. -/
def fnCmdsSpec : ChangeSpec := { name := "fnCmds", vars := ["loop.example/g00954/impl.errInvalidCmd"], fn := fun _ => fun
  | [d, g1] => { results := [.lit (.bool true)], args := [d], vars := [g1] }
  | _ => none }
def fnCmdsRow : OpenClaim := { program := "ytmdacoppkjclmaadoor", sum := "df804747e8e60f6f9060d209b99eec4f6a91bd666cd6b1641f4dfdfc1bac3c96", func := "loop.example/g00954/laws.FnCmds", spec := "fnCmds", inPlace := ["internal/reflectlite.TypeOf", "internal/abi.NoEscape", "internal/bytealg.MakeNoZero"], unfollowed := true, recurses := true, named := ["loop.example/g00954/impl.errInvalidCmd"], ifaces := true, apart := false, laid := [("loop.example/g00954/impl.errInvalidCmd", laid_loop_example_g00954_impl_errInvalidCmd)] }
def FnCmdsSaid : Prop := fnCmdsRow.holds Tryd.pinned (OpenSpec.ofChange fnCmdsSpec)

/-- ITS FALSE NEIGHBOUR: 'it returns false'. Refute it at one input. -/
def fnCmdsWrong : ChangeSpec := { name := "fnCmds", vars := ["loop.example/g00954/impl.errInvalidCmd"], fn := fun _ => fun
  | [d, g1] => { results := [.lit (.bool false)], args := [d], vars := [g1] }
  | _ => none }
def FnCmdsWrongFalsely : Prop := fnCmdsRow.holds Tryd.pinned (OpenSpec.ofChange fnCmdsWrong)

/-- 'laws.FnExactCmdOk': WHATEVER THE INPUT: true; the input reads as it did. -/
def fnExactCmdOkSpec : ChangeSpec := { name := "fnExactCmdOk", vars := ["loop.example/g00954/impl.errInvalidCmd"], fn := fun _ => fun
  | [d, g1] => { results := [.lit (.bool true)], args := [d], vars := [g1] }
  | _ => none }
def fnExactCmdOkRow : OpenClaim := { program := "ytmdacoppkjclmaadoor", sum := "df804747e8e60f6f9060d209b99eec4f6a91bd666cd6b1641f4dfdfc1bac3c96", func := "loop.example/g00954/laws.FnExactCmdOk", spec := "fnExactCmdOk", inPlace := ["internal/reflectlite.TypeOf"], unfollowed := true, recurses := true, named := ["loop.example/g00954/impl.errInvalidCmd"], ifaces := true, apart := false, laid := [("loop.example/g00954/impl.errInvalidCmd", laid_loop_example_g00954_impl_errInvalidCmd)] }
def FnExactCmdOkSaid : Prop := fnExactCmdOkRow.holds Tryd.pinned (OpenSpec.ofChange fnExactCmdOkSpec)

/-- ITS FALSE NEIGHBOUR: 'it returns false'. Refute it at one input. -/
def fnExactCmdOkWrong : ChangeSpec := { name := "fnExactCmdOk", vars := ["loop.example/g00954/impl.errInvalidCmd"], fn := fun _ => fun
  | [d, g1] => { results := [.lit (.bool false)], args := [d], vars := [g1] }
  | _ => none }
def FnExactCmdOkWrongFalsely : Prop := fnExactCmdOkRow.holds Tryd.pinned (OpenSpec.ofChange fnExactCmdOkWrong)

/-- 'laws.FnExactClash': WHATEVER THE INPUT: true; the input reads as it did. -/
def fnExactClashSpec : ChangeSpec := { name := "fnExactClash", vars := ["loop.example/g00954/impl.errInvalidCmd"], fn := fun _ => fun
  | [d1, d2, g1] => { results := [.lit (.bool true)], args := [d1, d2], vars := [g1] }
  | _ => none }
def fnExactClashRow : OpenClaim := { program := "ytmdacoppkjclmaadoor", sum := "df804747e8e60f6f9060d209b99eec4f6a91bd666cd6b1641f4dfdfc1bac3c96", func := "loop.example/g00954/laws.FnExactClash", spec := "fnExactClash", inPlace := ["internal/reflectlite.TypeOf"], unfollowed := true, recurses := true, named := ["loop.example/g00954/impl.errInvalidCmd"], ifaces := true, apart := false, laid := [("loop.example/g00954/impl.errInvalidCmd", laid_loop_example_g00954_impl_errInvalidCmd)] }
def FnExactClashSaid : Prop := fnExactClashRow.holds Tryd.pinned (OpenSpec.ofChange fnExactClashSpec)

/-- ITS FALSE NEIGHBOUR: 'it returns false'. Refute it at one input. -/
def fnExactClashWrong : ChangeSpec := { name := "fnExactClash", vars := ["loop.example/g00954/impl.errInvalidCmd"], fn := fun _ => fun
  | [d1, d2, g1] => { results := [.lit (.bool false)], args := [d1, d2], vars := [g1] }
  | _ => none }
def FnExactClashWrongFalsely : Prop := fnExactClashRow.holds Tryd.pinned (OpenSpec.ofChange fnExactClashWrong)

/-- 'laws.FnExactShowCmd': WHATEVER THE INPUT: true; the input reads as it did. -/
def fnExactShowCmdSpec : ChangeSpec := { name := "fnExactShowCmd", vars := ["loop.example/g00954/impl.errInvalidCmd"], fn := fun _ => fun
  | [d, g1] => { results := [.lit (.bool true)], args := [d], vars := [g1] }
  | _ => none }
def fnExactShowCmdRow : OpenClaim := { program := "ytmdacoppkjclmaadoor", sum := "df804747e8e60f6f9060d209b99eec4f6a91bd666cd6b1641f4dfdfc1bac3c96", func := "loop.example/g00954/laws.FnExactShowCmd", spec := "fnExactShowCmd", inPlace := ["internal/reflectlite.TypeOf", "internal/abi.NoEscape", "internal/bytealg.MakeNoZero"], unfollowed := true, recurses := true, named := ["loop.example/g00954/impl.errInvalidCmd"], ifaces := true, apart := false, laid := [("loop.example/g00954/impl.errInvalidCmd", laid_loop_example_g00954_impl_errInvalidCmd)] }
def FnExactShowCmdSaid : Prop := fnExactShowCmdRow.holds Tryd.pinned (OpenSpec.ofChange fnExactShowCmdSpec)

/-- ITS FALSE NEIGHBOUR: 'it returns false'. Refute it at one input. -/
def fnExactShowCmdWrong : ChangeSpec := { name := "fnExactShowCmd", vars := ["loop.example/g00954/impl.errInvalidCmd"], fn := fun _ => fun
  | [d, g1] => { results := [.lit (.bool false)], args := [d], vars := [g1] }
  | _ => none }
def FnExactShowCmdWrongFalsely : Prop := fnExactShowCmdRow.holds Tryd.pinned (OpenSpec.ofChange fnExactShowCmdWrong)

/-- 'laws.FnExactReadCmd': WHATEVER THE INPUT: true; the input reads as it did. -/
def fnExactReadCmdSpec : ChangeSpec := { name := "fnExactReadCmd", vars := ["loop.example/g00954/impl.errInvalidCmd"], fn := fun _ => fun
  | [d, g1] => { results := [.lit (.bool true)], args := [d], vars := [g1] }
  | _ => none }
def fnExactReadCmdRow : OpenClaim := { program := "ytmdacoppkjclmaadoor", sum := "df804747e8e60f6f9060d209b99eec4f6a91bd666cd6b1641f4dfdfc1bac3c96", func := "loop.example/g00954/laws.FnExactReadCmd", spec := "fnExactReadCmd", inPlace := ["internal/reflectlite.TypeOf"], unfollowed := true, recurses := true, named := ["loop.example/g00954/impl.errInvalidCmd"], ifaces := true, apart := false, laid := [("loop.example/g00954/impl.errInvalidCmd", laid_loop_example_g00954_impl_errInvalidCmd)] }
def FnExactReadCmdSaid : Prop := fnExactReadCmdRow.holds Tryd.pinned (OpenSpec.ofChange fnExactReadCmdSpec)

/-- ITS FALSE NEIGHBOUR: 'it returns false'. Refute it at one input. -/
def fnExactReadCmdWrong : ChangeSpec := { name := "fnExactReadCmd", vars := ["loop.example/g00954/impl.errInvalidCmd"], fn := fun _ => fun
  | [d, g1] => { results := [.lit (.bool false)], args := [d], vars := [g1] }
  | _ => none }
def FnExactReadCmdWrongFalsely : Prop := fnExactReadCmdRow.holds Tryd.pinned (OpenSpec.ofChange fnExactReadCmdWrong)

/- THE SECOND FORM. 'bulk': how many values and letters a reading holds, each counted each time it is reached (what is shared counts as often as it is met; a slice's spare places count too). A statement '..UptoSaid' is the law's where the arguments, and the package variables that the reading takes, are together of bulk at most 1048576: NARROWER than '..Said'. Prove '..Said' where nothing that the law and all that it calls make is longer than what came in: it says more and counts as full. Else prove '..UptoSaid'. A law counts once. -/
mutual
def uptoBulk {H : Type} : DataW H → Nat
  | .lit (.string bytes) => bytes.length + 1
  | .lit _ => 1
  | .nil => 1
  | .ptr d => uptoBulk d + 1
  | .slice elems spare => uptoBulkAll elems + uptoBulkAll spare + 1
  | .agg parts => uptoBulkAll parts + 1
  | .iface _ d => uptoBulk d + 1
  | .map entries => uptoBulkEntries entries + 1
  | .held _ => 1
def uptoBulkAll {H : Type} : List (DataW H) → Nat
  | [] => 0
  | d :: r => uptoBulk d + uptoBulkAll r
def uptoBulkEntries {H : Type} : List (Lit × DataW H) → Nat
  | [] => 0
  | x :: r => uptoBulkEntry x + uptoBulkEntries r
def uptoBulkEntry {H : Type} : Lit × DataW H → Nat
  | (.string bytes, d) => bytes.length + uptoBulk d + 1
  | (_, d) => uptoBulk d + 1
 end
def uptoSmall : (H : Type) → List (DataW H) → Bool := fun _ ds => decide (uptoBulkAll ds ≤ 1048576)
def OpenSpec.upto (s : _root_.Go.ChangeSpec) : _root_.Go.OpenSpec := { _root_.Go.OpenSpec.ofChange s with cond := some uptoSmall }

/-- 'laws.FnCmds', WHERE WHAT IT READS IS OF BULK AT MOST 1048576: true; the input reads as it did. -/
def fnCmdsUptoRow : OpenClaim := { program := "ytmdacoppkjclmaadoor", sum := "df804747e8e60f6f9060d209b99eec4f6a91bd666cd6b1641f4dfdfc1bac3c96", func := "loop.example/g00954/laws.FnCmds", spec := "fnCmds", inPlace := ["internal/reflectlite.TypeOf", "internal/abi.NoEscape", "internal/bytealg.MakeNoZero"], unfollowed := true, recurses := true, named := ["loop.example/g00954/impl.errInvalidCmd"], ifaces := true, apart := false, laid := [("loop.example/g00954/impl.errInvalidCmd", laid_loop_example_g00954_impl_errInvalidCmd)], narrowed := true }
def FnCmdsUptoSaid : Prop := fnCmdsUptoRow.holds Tryd.pinned (OpenSpec.upto fnCmdsSpec)

/-- 'laws.FnExactCmdOk', WHERE WHAT IT READS IS OF BULK AT MOST 1048576: true; the input reads as it did. -/
def fnExactCmdOkUptoRow : OpenClaim := { program := "ytmdacoppkjclmaadoor", sum := "df804747e8e60f6f9060d209b99eec4f6a91bd666cd6b1641f4dfdfc1bac3c96", func := "loop.example/g00954/laws.FnExactCmdOk", spec := "fnExactCmdOk", inPlace := ["internal/reflectlite.TypeOf"], unfollowed := true, recurses := true, named := ["loop.example/g00954/impl.errInvalidCmd"], ifaces := true, apart := false, laid := [("loop.example/g00954/impl.errInvalidCmd", laid_loop_example_g00954_impl_errInvalidCmd)], narrowed := true }
def FnExactCmdOkUptoSaid : Prop := fnExactCmdOkUptoRow.holds Tryd.pinned (OpenSpec.upto fnExactCmdOkSpec)

/-- 'laws.FnExactClash', WHERE WHAT IT READS IS OF BULK AT MOST 1048576: true; the input reads as it did. -/
def fnExactClashUptoRow : OpenClaim := { program := "ytmdacoppkjclmaadoor", sum := "df804747e8e60f6f9060d209b99eec4f6a91bd666cd6b1641f4dfdfc1bac3c96", func := "loop.example/g00954/laws.FnExactClash", spec := "fnExactClash", inPlace := ["internal/reflectlite.TypeOf"], unfollowed := true, recurses := true, named := ["loop.example/g00954/impl.errInvalidCmd"], ifaces := true, apart := false, laid := [("loop.example/g00954/impl.errInvalidCmd", laid_loop_example_g00954_impl_errInvalidCmd)], narrowed := true }
def FnExactClashUptoSaid : Prop := fnExactClashUptoRow.holds Tryd.pinned (OpenSpec.upto fnExactClashSpec)

/-- 'laws.FnExactShowCmd', WHERE WHAT IT READS IS OF BULK AT MOST 1048576: true; the input reads as it did. -/
def fnExactShowCmdUptoRow : OpenClaim := { program := "ytmdacoppkjclmaadoor", sum := "df804747e8e60f6f9060d209b99eec4f6a91bd666cd6b1641f4dfdfc1bac3c96", func := "loop.example/g00954/laws.FnExactShowCmd", spec := "fnExactShowCmd", inPlace := ["internal/reflectlite.TypeOf", "internal/abi.NoEscape", "internal/bytealg.MakeNoZero"], unfollowed := true, recurses := true, named := ["loop.example/g00954/impl.errInvalidCmd"], ifaces := true, apart := false, laid := [("loop.example/g00954/impl.errInvalidCmd", laid_loop_example_g00954_impl_errInvalidCmd)], narrowed := true }
def FnExactShowCmdUptoSaid : Prop := fnExactShowCmdUptoRow.holds Tryd.pinned (OpenSpec.upto fnExactShowCmdSpec)

/-- 'laws.FnExactReadCmd', WHERE WHAT IT READS IS OF BULK AT MOST 1048576: true; the input reads as it did. -/
def fnExactReadCmdUptoRow : OpenClaim := { program := "ytmdacoppkjclmaadoor", sum := "df804747e8e60f6f9060d209b99eec4f6a91bd666cd6b1641f4dfdfc1bac3c96", func := "loop.example/g00954/laws.FnExactReadCmd", spec := "fnExactReadCmd", inPlace := ["internal/reflectlite.TypeOf"], unfollowed := true, recurses := true, named := ["loop.example/g00954/impl.errInvalidCmd"], ifaces := true, apart := false, laid := [("loop.example/g00954/impl.errInvalidCmd", laid_loop_example_g00954_impl_errInvalidCmd)], narrowed := true }
def FnExactReadCmdUptoSaid : Prop := fnExactReadCmdUptoRow.holds Tryd.pinned (OpenSpec.upto fnExactReadCmdSpec)

end Rows
end Go.Proofs.YtmdacoppkjclmaaDoor
