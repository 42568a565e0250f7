/-
  NARROWER THAN 'FOR EVERY INPUT', by the rows' own cells (each row's printed sentence says how): FnExactShowEMsg: ifaces, laid · FnExactReadEMsg: ifaces, laid · FnExactEMsgOk: ifaces, laid · FnExactInstPut: ifaces, laid.
  DERIVED. THE GIVEN ROWS OF THIS SEAT. 4 by the template 'for every input the law returns true; each argument reads behind the call as it read before'; 0 by the template 'total and deterministic' (their statements: YtkeoeempdkpafaaDoorTotals.lean).
  GIVEN WITH THE SEED: the statements are not yours to turn. If you find one false, say at which input.
  Laid BY PROGRAM, IN A SANDBOX (cutbox-rows.mjs): the forced cells as the released guide's own fill.sh prints them over the translation 2e094e629b7c89e3… (all of the seat's roots in one cut). By AI agents, Wed Nov 11 2026. No macro, syntax, notation, axiom, sorry.
-/
import Derived.Test.YtkeoeempdkpafaaDoorChecked
import GoSem.Claim
import GoSem.ClaimJoined
import GoSem.ClaimMapViews
import Derived.JoinedTies
import Derived.KernelRfl
namespace Go.Proofs.YtkeoeempdkpafaaDoor
/- THE CELL 'sum', in the pinned program and in every row, IS THE sha256 OF THE DUMP (.gsa) THAT YtkeoeempdkpafaaDoorProg.lean LOADS. Nothing in Lean hashes anything: it is a label: what it is worth is what the hold of that sum in a sandbox is worth. -/
noncomputable def Tryd.pinned : Pinned := { name := "ytkeoeempdkpafaadoor", sum := "2e094e629b7c89e310c96124854be971d918ce06d926809040e0d1ffe2db196e", checked := Tryd.checked }
namespace Rows
def none {H : Type} : Left H := { results := [], args := [] }

/- WHAT THE LISTED PACKAGE-LEVEL VARIABLES READ AS WHEN THE CALL BEGINS. Each datum BY PROGRAM (the guide's laid-datum.mjs) off the statement by which the dump's own 'gosem.cut.vars' lays the variable. In a bare row this is a premise. The card (YtkeoeempdkpafaaDoorCards.lean) ties it to the program's text. -/
def laid_loop_example_g00954_impl_errInvalidCmd {H : Type} : DataW H := .iface "*errors.errorString" (.ptr (.agg [.lit (.string [105, 110, 118, 97, 108, 105, 100, 32, 99, 111, 109, 109, 97, 110, 100])]))

/-- 'laws.FnExactShowEMsg': WHATEVER THE INPUT: true; the input reads as it did. -/
def fnExactShowEMsgSpec : ChangeSpec := { name := "fnExactShowEMsg", vars := ["loop.example/g00954/impl.errInvalidCmd"], fn := fun _ => fun
  | [d, g1] => { results := [.lit (.bool true)], args := [d], vars := [g1] }
  | _ => none }
def fnExactShowEMsgRow : OpenClaim := { program := "ytkeoeempdkpafaadoor", sum := "2e094e629b7c89e310c96124854be971d918ce06d926809040e0d1ffe2db196e", func := "loop.example/g00954/laws.FnExactShowEMsg", spec := "fnExactShowEMsg", inPlace := ["internal/reflectlite.TypeOf", "internal/abi.NoEscape", "internal/bytealg.MakeNoZero"], unfollowed := true, recurses := true, named := ["loop.example/g00954/impl.errInvalidCmd"], ifaces := true, apart := false, laid := [("loop.example/g00954/impl.errInvalidCmd", laid_loop_example_g00954_impl_errInvalidCmd)] }
def FnExactShowEMsgSaid : Prop := fnExactShowEMsgRow.holds Tryd.pinned (OpenSpec.ofChange fnExactShowEMsgSpec)

/-- ITS FALSE NEIGHBOUR: 'it returns false'. Refute it at one input. -/
def fnExactShowEMsgWrong : ChangeSpec := { name := "fnExactShowEMsg", vars := ["loop.example/g00954/impl.errInvalidCmd"], fn := fun _ => fun
  | [d, g1] => { results := [.lit (.bool false)], args := [d], vars := [g1] }
  | _ => none }
def FnExactShowEMsgWrongFalsely : Prop := fnExactShowEMsgRow.holds Tryd.pinned (OpenSpec.ofChange fnExactShowEMsgWrong)

/-- 'laws.FnExactReadEMsg': WHATEVER THE INPUT: true; the input reads as it did. -/
def fnExactReadEMsgSpec : ChangeSpec := { name := "fnExactReadEMsg", vars := ["loop.example/g00954/impl.errInvalidCmd"], fn := fun _ => fun
  | [d, g1] => { results := [.lit (.bool true)], args := [d], vars := [g1] }
  | _ => none }
def fnExactReadEMsgRow : OpenClaim := { program := "ytkeoeempdkpafaadoor", sum := "2e094e629b7c89e310c96124854be971d918ce06d926809040e0d1ffe2db196e", func := "loop.example/g00954/laws.FnExactReadEMsg", spec := "fnExactReadEMsg", inPlace := ["internal/reflectlite.TypeOf"], unfollowed := true, recurses := true, named := ["loop.example/g00954/impl.errInvalidCmd"], ifaces := true, apart := false, laid := [("loop.example/g00954/impl.errInvalidCmd", laid_loop_example_g00954_impl_errInvalidCmd)] }
def FnExactReadEMsgSaid : Prop := fnExactReadEMsgRow.holds Tryd.pinned (OpenSpec.ofChange fnExactReadEMsgSpec)

/-- ITS FALSE NEIGHBOUR: 'it returns false'. Refute it at one input. -/
def fnExactReadEMsgWrong : ChangeSpec := { name := "fnExactReadEMsg", vars := ["loop.example/g00954/impl.errInvalidCmd"], fn := fun _ => fun
  | [d, g1] => { results := [.lit (.bool false)], args := [d], vars := [g1] }
  | _ => none }
def FnExactReadEMsgWrongFalsely : Prop := fnExactReadEMsgRow.holds Tryd.pinned (OpenSpec.ofChange fnExactReadEMsgWrong)

/-- 'laws.FnExactEMsgOk': WHATEVER THE INPUT: true; the input reads as it did. -/
def fnExactEMsgOkSpec : ChangeSpec := { name := "fnExactEMsgOk", vars := ["loop.example/g00954/impl.errInvalidCmd"], fn := fun _ => fun
  | [d, g1] => { results := [.lit (.bool true)], args := [d], vars := [g1] }
  | _ => none }
def fnExactEMsgOkRow : OpenClaim := { program := "ytkeoeempdkpafaadoor", sum := "2e094e629b7c89e310c96124854be971d918ce06d926809040e0d1ffe2db196e", func := "loop.example/g00954/laws.FnExactEMsgOk", spec := "fnExactEMsgOk", inPlace := ["internal/reflectlite.TypeOf"], unfollowed := true, recurses := true, named := ["loop.example/g00954/impl.errInvalidCmd"], ifaces := true, apart := false, laid := [("loop.example/g00954/impl.errInvalidCmd", laid_loop_example_g00954_impl_errInvalidCmd)] }
def FnExactEMsgOkSaid : Prop := fnExactEMsgOkRow.holds Tryd.pinned (OpenSpec.ofChange fnExactEMsgOkSpec)

/-- ITS FALSE NEIGHBOUR: 'it returns false'. Refute it at one input. -/
def fnExactEMsgOkWrong : ChangeSpec := { name := "fnExactEMsgOk", vars := ["loop.example/g00954/impl.errInvalidCmd"], fn := fun _ => fun
  | [d, g1] => { results := [.lit (.bool false)], args := [d], vars := [g1] }
  | _ => none }
def FnExactEMsgOkWrongFalsely : Prop := fnExactEMsgOkRow.holds Tryd.pinned (OpenSpec.ofChange fnExactEMsgOkWrong)

/-- 'laws.FnExactInstPut': WHATEVER THE INPUT: true; the input reads as it did. -/
def fnExactInstPutSpec : ChangeSpec := { name := "fnExactInstPut", vars := ["loop.example/g00954/impl.errInvalidCmd"], fn := fun _ => fun
  | [d1, d2, g1] => { results := [.lit (.bool true)], args := [d1, d2], vars := [g1] }
  | _ => none }
def fnExactInstPutRow : OpenClaim := { program := "ytkeoeempdkpafaadoor", sum := "2e094e629b7c89e310c96124854be971d918ce06d926809040e0d1ffe2db196e", func := "loop.example/g00954/laws.FnExactInstPut", spec := "fnExactInstPut", inPlace := ["internal/reflectlite.TypeOf"], unfollowed := true, recurses := true, named := ["loop.example/g00954/impl.errInvalidCmd"], ifaces := true, apart := false, laid := [("loop.example/g00954/impl.errInvalidCmd", laid_loop_example_g00954_impl_errInvalidCmd)] }
def FnExactInstPutSaid : Prop := fnExactInstPutRow.holds Tryd.pinned (OpenSpec.ofChange fnExactInstPutSpec)

/-- ITS FALSE NEIGHBOUR: 'it returns false'. Refute it at one input. -/
def fnExactInstPutWrong : ChangeSpec := { name := "fnExactInstPut", vars := ["loop.example/g00954/impl.errInvalidCmd"], fn := fun _ => fun
  | [d1, d2, g1] => { results := [.lit (.bool false)], args := [d1, d2], vars := [g1] }
  | _ => none }
def FnExactInstPutWrongFalsely : Prop := fnExactInstPutRow.holds Tryd.pinned (OpenSpec.ofChange fnExactInstPutWrong)

/- THE SECOND FORM. 'bulk': how many values and letters a reading holds, each counted each time it is reached (what is shared counts as often as it is met; a slice's spare places count too). A statement '..UptoSaid' is the law's where the arguments, and the package variables that the reading takes, are together of bulk at most 1048576: NARROWER than '..Said'. Prove '..Said' where nothing that the law and all that it calls make is longer than what came in: it says more and counts as full. Else prove '..UptoSaid'. A law counts once. -/
mutual
def uptoBulk {H : Type} : DataW H → Nat
  | .lit (.string bytes) => bytes.length + 1
  | .lit _ => 1
  | .nil => 1
  | .ptr d => uptoBulk d + 1
  | .slice elems spare => uptoBulkAll elems + uptoBulkAll spare + 1
  | .agg parts => uptoBulkAll parts + 1
  | .iface _ d => uptoBulk d + 1
  | .map entries => uptoBulkEntries entries + 1
  | .held _ => 1
def uptoBulkAll {H : Type} : List (DataW H) → Nat
  | [] => 0
  | d :: r => uptoBulk d + uptoBulkAll r
def uptoBulkEntries {H : Type} : List (Lit × DataW H) → Nat
  | [] => 0
  | x :: r => uptoBulkEntry x + uptoBulkEntries r
def uptoBulkEntry {H : Type} : Lit × DataW H → Nat
  | (.string bytes, d) => bytes.length + uptoBulk d + 1
  | (_, d) => uptoBulk d + 1
 end
def uptoSmall : (H : Type) → List (DataW H) → Bool := fun _ ds => decide (uptoBulkAll ds ≤ 1048576)
def OpenSpec.upto (s : _root_.Go.ChangeSpec) : _root_.Go.OpenSpec := { _root_.Go.OpenSpec.ofChange s with cond := some uptoSmall }

/-- 'laws.FnExactShowEMsg', WHERE WHAT IT READS IS OF BULK AT MOST 1048576: true; the input reads as it did. -/
def fnExactShowEMsgUptoRow : OpenClaim := { program := "ytkeoeempdkpafaadoor", sum := "2e094e629b7c89e310c96124854be971d918ce06d926809040e0d1ffe2db196e", func := "loop.example/g00954/laws.FnExactShowEMsg", spec := "fnExactShowEMsg", inPlace := ["internal/reflectlite.TypeOf", "internal/abi.NoEscape", "internal/bytealg.MakeNoZero"], unfollowed := true, recurses := true, named := ["loop.example/g00954/impl.errInvalidCmd"], ifaces := true, apart := false, laid := [("loop.example/g00954/impl.errInvalidCmd", laid_loop_example_g00954_impl_errInvalidCmd)], narrowed := true }
def FnExactShowEMsgUptoSaid : Prop := fnExactShowEMsgUptoRow.holds Tryd.pinned (OpenSpec.upto fnExactShowEMsgSpec)

/-- 'laws.FnExactReadEMsg', WHERE WHAT IT READS IS OF BULK AT MOST 1048576: true; the input reads as it did. -/
def fnExactReadEMsgUptoRow : OpenClaim := { program := "ytkeoeempdkpafaadoor", sum := "2e094e629b7c89e310c96124854be971d918ce06d926809040e0d1ffe2db196e", func := "loop.example/g00954/laws.FnExactReadEMsg", spec := "fnExactReadEMsg", inPlace := ["internal/reflectlite.TypeOf"], unfollowed := true, recurses := true, named := ["loop.example/g00954/impl.errInvalidCmd"], ifaces := true, apart := false, laid := [("loop.example/g00954/impl.errInvalidCmd", laid_loop_example_g00954_impl_errInvalidCmd)], narrowed := true }
def FnExactReadEMsgUptoSaid : Prop := fnExactReadEMsgUptoRow.holds Tryd.pinned (OpenSpec.upto fnExactReadEMsgSpec)

/-- 'laws.FnExactEMsgOk', WHERE WHAT IT READS IS OF BULK AT MOST 1048576: true; the input reads as it did. -/
def fnExactEMsgOkUptoRow : OpenClaim := { program := "ytkeoeempdkpafaadoor", sum := "2e094e629b7c89e310c96124854be971d918ce06d926809040e0d1ffe2db196e", func := "loop.example/g00954/laws.FnExactEMsgOk", spec := "fnExactEMsgOk", inPlace := ["internal/reflectlite.TypeOf"], unfollowed := true, recurses := true, named := ["loop.example/g00954/impl.errInvalidCmd"], ifaces := true, apart := false, laid := [("loop.example/g00954/impl.errInvalidCmd", laid_loop_example_g00954_impl_errInvalidCmd)], narrowed := true }
def FnExactEMsgOkUptoSaid : Prop := fnExactEMsgOkUptoRow.holds Tryd.pinned (OpenSpec.upto fnExactEMsgOkSpec)

/-- 'laws.FnExactInstPut', WHERE WHAT IT READS IS OF BULK AT MOST 1048576: true; the input reads as it did. -/
def fnExactInstPutUptoRow : OpenClaim := { program := "ytkeoeempdkpafaadoor", sum := "2e094e629b7c89e310c96124854be971d918ce06d926809040e0d1ffe2db196e", func := "loop.example/g00954/laws.FnExactInstPut", spec := "fnExactInstPut", inPlace := ["internal/reflectlite.TypeOf"], unfollowed := true, recurses := true, named := ["loop.example/g00954/impl.errInvalidCmd"], ifaces := true, apart := false, laid := [("loop.example/g00954/impl.errInvalidCmd", laid_loop_example_g00954_impl_errInvalidCmd)], narrowed := true }
def FnExactInstPutUptoSaid : Prop := fnExactInstPutUptoRow.holds Tryd.pinned (OpenSpec.upto fnExactInstPutSpec)

end Rows
end Go.Proofs.YtkeoeempdkpafaaDoor
