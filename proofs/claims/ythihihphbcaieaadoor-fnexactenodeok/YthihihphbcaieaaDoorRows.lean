/-
  NARROWER THAN 'FOR EVERY INPUT', by the rows' own cells (each row's printed sentence says how): FnBlobs: laid · FnInsts: ifaces, laid · FnExactInstsOk: ifaces, laid · FnExactAttrsOf: ifaces, laid · FnExactInstPut: ifaces, laid · FnExactEMsgOk: ifaces, laid · FnExactENodeOk: ifaces, laid.
  DERIVED. THE GIVEN ROWS OF THIS SEAT. 7 by the template 'for every input the law returns true; each argument reads behind the call as it read before'; 0 by the template 'total and deterministic' (their statements: YthihihphbcaieaaDoorTotals.lean).
  GIVEN WITH THE SEED: the statements are not yours to turn. If you find one false, say at which input.
  Laid BY PROGRAM, IN A SANDBOX (cutbox-rows.mjs): the forced cells as the released guide's own fill.sh prints them over the translation 030331ea97047813… (all of the seat's roots in one cut). By AI agents, Wed Nov 11 2026. No macro, syntax, notation, axiom, sorry.
-/
import Derived.Test.YthihihphbcaieaaDoorChecked
import GoSem.Claim
import GoSem.ClaimJoined
import GoSem.ClaimMapViews
import Derived.JoinedTies
import Derived.KernelRfl
namespace Go.Proofs.YthihihphbcaieaaDoor
/- THE CELL 'sum', in the pinned program and in every row, IS THE sha256 OF THE DUMP (.gsa) THAT YthihihphbcaieaaDoorProg.lean LOADS. Nothing in Lean hashes anything: it is a label: what it is worth is what the hold of that sum in a sandbox is worth. -/
noncomputable def Tryd.pinned : Pinned := { name := "ythihihphbcaieaadoor", sum := "030331ea97047813c1e0820d088e2c0578314e7ccd5f7cafcf3a7fc77d460a1f", checked := Tryd.checked }
namespace Rows
def none {H : Type} : Left H := { results := [], args := [] }

/- WHAT THE LISTED PACKAGE-LEVEL VARIABLES READ AS WHEN THE CALL BEGINS. Each datum BY PROGRAM (the guide's laid-datum.mjs) off the statement by which the dump's own 'gosem.cut.vars' lays the variable. In a bare row this is a premise. The card (YthihihphbcaieaaDoorCards.lean) ties it to the program's text. -/
def laid_loop_example_g00954_impl_shaStart {H : Type} : DataW H := .agg [.lit (.int .u32 1779033703), .lit (.int .u32 3144134277), .lit (.int .u32 1013904242), .lit (.int .u32 2773480762), .lit (.int .u32 1359893119), .lit (.int .u32 2600822924), .lit (.int .u32 528734635), .lit (.int .u32 1541459225)]
def laid_loop_example_g00954_impl_shaAdds {H : Type} : DataW H := .agg [.lit (.int .u32 1116352408), .lit (.int .u32 1899447441), .lit (.int .u32 3049323471), .lit (.int .u32 3921009573), .lit (.int .u32 961987163), .lit (.int .u32 1508970993), .lit (.int .u32 2453635748), .lit (.int .u32 2870763221), .lit (.int .u32 3624381080), .lit (.int .u32 310598401), .lit (.int .u32 607225278), .lit (.int .u32 1426881987), .lit (.int .u32 1925078388), .lit (.int .u32 2162078206), .lit (.int .u32 2614888103), .lit (.int .u32 3248222580), .lit (.int .u32 3835390401), .lit (.int .u32 4022224774), .lit (.int .u32 264347078), .lit (.int .u32 604807628), .lit (.int .u32 770255983), .lit (.int .u32 1249150122), .lit (.int .u32 1555081692), .lit (.int .u32 1996064986), .lit (.int .u32 2554220882), .lit (.int .u32 2821834349), .lit (.int .u32 2952996808), .lit (.int .u32 3210313671), .lit (.int .u32 3336571891), .lit (.int .u32 3584528711), .lit (.int .u32 113926993), .lit (.int .u32 338241895), .lit (.int .u32 666307205), .lit (.int .u32 773529912), .lit (.int .u32 1294757372), .lit (.int .u32 1396182291), .lit (.int .u32 1695183700), .lit (.int .u32 1986661051), .lit (.int .u32 2177026350), .lit (.int .u32 2456956037), .lit (.int .u32 2730485921), .lit (.int .u32 2820302411), .lit (.int .u32 3259730800), .lit (.int .u32 3345764771), .lit (.int .u32 3516065817), .lit (.int .u32 3600352804), .lit (.int .u32 4094571909), .lit (.int .u32 275423344), .lit (.int .u32 430227734), .lit (.int .u32 506948616), .lit (.int .u32 659060556), .lit (.int .u32 883997877), .lit (.int .u32 958139571), .lit (.int .u32 1322822218), .lit (.int .u32 1537002063), .lit (.int .u32 1747873779), .lit (.int .u32 1955562222), .lit (.int .u32 2024104815), .lit (.int .u32 2227730452), .lit (.int .u32 2361852424), .lit (.int .u32 2428436474), .lit (.int .u32 2756734187), .lit (.int .u32 3204031479), .lit (.int .u32 3329325298)]
def laid_loop_example_g00954_impl_errInvalidCmd {H : Type} : DataW H := .iface "*errors.errorString" (.ptr (.agg [.lit (.string [105, 110, 118, 97, 108, 105, 100, 32, 99, 111, 109, 109, 97, 110, 100])]))

/-- 'laws.FnBlobs': WHATEVER THE INPUT: true; the input reads as it did. -/
def fnBlobsSpec : ChangeSpec := { name := "fnBlobs", vars := ["loop.example/g00954/impl.shaStart", "loop.example/g00954/impl.shaAdds"], fn := fun _ => fun
  | [d, g1, g2] => { results := [.lit (.bool true)], args := [d], vars := [g1, g2] }
  | _ => none }
def fnBlobsRow : OpenClaim := { program := "ythihihphbcaieaadoor", sum := "030331ea97047813c1e0820d088e2c0578314e7ccd5f7cafcf3a7fc77d460a1f", func := "loop.example/g00954/laws.FnBlobs", spec := "fnBlobs", unfollowed := true, recurses := true, named := ["loop.example/g00954/impl.shaStart", "loop.example/g00954/impl.shaAdds"], apart := false, laid := [("loop.example/g00954/impl.shaStart", laid_loop_example_g00954_impl_shaStart), ("loop.example/g00954/impl.shaAdds", laid_loop_example_g00954_impl_shaAdds)] }
def FnBlobsSaid : Prop := fnBlobsRow.holds Tryd.pinned (OpenSpec.ofChange fnBlobsSpec)

/-- ITS FALSE NEIGHBOUR: 'it returns false'. Refute it at one input. -/
def fnBlobsWrong : ChangeSpec := { name := "fnBlobs", vars := ["loop.example/g00954/impl.shaStart", "loop.example/g00954/impl.shaAdds"], fn := fun _ => fun
  | [d, g1, g2] => { results := [.lit (.bool false)], args := [d], vars := [g1, g2] }
  | _ => none }
def FnBlobsWrongFalsely : Prop := fnBlobsRow.holds Tryd.pinned (OpenSpec.ofChange fnBlobsWrong)

/-- 'laws.FnInsts': WHATEVER THE INPUT: true; the input reads as it did. -/
def fnInstsSpec : ChangeSpec := { name := "fnInsts", vars := ["loop.example/g00954/impl.errInvalidCmd"], fn := fun _ => fun
  | [d, g1] => { results := [.lit (.bool true)], args := [d], vars := [g1] }
  | _ => none }
def fnInstsRow : OpenClaim := { program := "ythihihphbcaieaadoor", sum := "030331ea97047813c1e0820d088e2c0578314e7ccd5f7cafcf3a7fc77d460a1f", func := "loop.example/g00954/laws.FnInsts", spec := "fnInsts", inPlace := ["internal/reflectlite.TypeOf"], unfollowed := true, recurses := true, named := ["loop.example/g00954/impl.errInvalidCmd"], ifaces := true, apart := false, laid := [("loop.example/g00954/impl.errInvalidCmd", laid_loop_example_g00954_impl_errInvalidCmd)] }
def FnInstsSaid : Prop := fnInstsRow.holds Tryd.pinned (OpenSpec.ofChange fnInstsSpec)

/-- ITS FALSE NEIGHBOUR: 'it returns false'. Refute it at one input. -/
def fnInstsWrong : ChangeSpec := { name := "fnInsts", vars := ["loop.example/g00954/impl.errInvalidCmd"], fn := fun _ => fun
  | [d, g1] => { results := [.lit (.bool false)], args := [d], vars := [g1] }
  | _ => none }
def FnInstsWrongFalsely : Prop := fnInstsRow.holds Tryd.pinned (OpenSpec.ofChange fnInstsWrong)

/-- 'laws.FnExactInstsOk': WHATEVER THE INPUT: true; the input reads as it did. -/
def fnExactInstsOkSpec : ChangeSpec := { name := "fnExactInstsOk", vars := ["loop.example/g00954/impl.errInvalidCmd"], fn := fun _ => fun
  | [d, g1] => { results := [.lit (.bool true)], args := [d], vars := [g1] }
  | _ => none }
def fnExactInstsOkRow : OpenClaim := { program := "ythihihphbcaieaadoor", sum := "030331ea97047813c1e0820d088e2c0578314e7ccd5f7cafcf3a7fc77d460a1f", func := "loop.example/g00954/laws.FnExactInstsOk", spec := "fnExactInstsOk", inPlace := ["internal/reflectlite.TypeOf"], unfollowed := true, recurses := true, named := ["loop.example/g00954/impl.errInvalidCmd"], ifaces := true, apart := false, laid := [("loop.example/g00954/impl.errInvalidCmd", laid_loop_example_g00954_impl_errInvalidCmd)] }
def FnExactInstsOkSaid : Prop := fnExactInstsOkRow.holds Tryd.pinned (OpenSpec.ofChange fnExactInstsOkSpec)

/-- ITS FALSE NEIGHBOUR: 'it returns false'. Refute it at one input. -/
def fnExactInstsOkWrong : ChangeSpec := { name := "fnExactInstsOk", vars := ["loop.example/g00954/impl.errInvalidCmd"], fn := fun _ => fun
  | [d, g1] => { results := [.lit (.bool false)], args := [d], vars := [g1] }
  | _ => none }
def FnExactInstsOkWrongFalsely : Prop := fnExactInstsOkRow.holds Tryd.pinned (OpenSpec.ofChange fnExactInstsOkWrong)

/-- 'laws.FnExactAttrsOf': WHATEVER THE INPUT: true; the input reads as it did. -/
def fnExactAttrsOfSpec : ChangeSpec := { name := "fnExactAttrsOf", vars := ["loop.example/g00954/impl.errInvalidCmd"], fn := fun _ => fun
  | [d1, d2, d3, g1] => { results := [.lit (.bool true)], args := [d1, d2, d3], vars := [g1] }
  | _ => none }
def fnExactAttrsOfRow : OpenClaim := { program := "ythihihphbcaieaadoor", sum := "030331ea97047813c1e0820d088e2c0578314e7ccd5f7cafcf3a7fc77d460a1f", func := "loop.example/g00954/laws.FnExactAttrsOf", spec := "fnExactAttrsOf", inPlace := ["internal/reflectlite.TypeOf"], unfollowed := true, recurses := true, named := ["loop.example/g00954/impl.errInvalidCmd"], ifaces := true, apart := false, laid := [("loop.example/g00954/impl.errInvalidCmd", laid_loop_example_g00954_impl_errInvalidCmd)] }
def FnExactAttrsOfSaid : Prop := fnExactAttrsOfRow.holds Tryd.pinned (OpenSpec.ofChange fnExactAttrsOfSpec)

/-- ITS FALSE NEIGHBOUR: 'it returns false'. Refute it at one input. -/
def fnExactAttrsOfWrong : ChangeSpec := { name := "fnExactAttrsOf", vars := ["loop.example/g00954/impl.errInvalidCmd"], fn := fun _ => fun
  | [d1, d2, d3, g1] => { results := [.lit (.bool false)], args := [d1, d2, d3], vars := [g1] }
  | _ => none }
def FnExactAttrsOfWrongFalsely : Prop := fnExactAttrsOfRow.holds Tryd.pinned (OpenSpec.ofChange fnExactAttrsOfWrong)

/-- 'laws.FnExactInstPut': WHATEVER THE INPUT: true; the input reads as it did. -/
def fnExactInstPutSpec : ChangeSpec := { name := "fnExactInstPut", vars := ["loop.example/g00954/impl.errInvalidCmd"], fn := fun _ => fun
  | [d1, d2, g1] => { results := [.lit (.bool true)], args := [d1, d2], vars := [g1] }
  | _ => none }
def fnExactInstPutRow : OpenClaim := { program := "ythihihphbcaieaadoor", sum := "030331ea97047813c1e0820d088e2c0578314e7ccd5f7cafcf3a7fc77d460a1f", func := "loop.example/g00954/laws.FnExactInstPut", spec := "fnExactInstPut", inPlace := ["internal/reflectlite.TypeOf"], unfollowed := true, recurses := true, named := ["loop.example/g00954/impl.errInvalidCmd"], ifaces := true, apart := false, laid := [("loop.example/g00954/impl.errInvalidCmd", laid_loop_example_g00954_impl_errInvalidCmd)] }
def FnExactInstPutSaid : Prop := fnExactInstPutRow.holds Tryd.pinned (OpenSpec.ofChange fnExactInstPutSpec)

/-- ITS FALSE NEIGHBOUR: 'it returns false'. Refute it at one input. -/
def fnExactInstPutWrong : ChangeSpec := { name := "fnExactInstPut", vars := ["loop.example/g00954/impl.errInvalidCmd"], fn := fun _ => fun
  | [d1, d2, g1] => { results := [.lit (.bool false)], args := [d1, d2], vars := [g1] }
  | _ => none }
def FnExactInstPutWrongFalsely : Prop := fnExactInstPutRow.holds Tryd.pinned (OpenSpec.ofChange fnExactInstPutWrong)

/-- 'laws.FnExactEMsgOk': WHATEVER THE INPUT: true; the input reads as it did. -/
def fnExactEMsgOkSpec : ChangeSpec := { name := "fnExactEMsgOk", vars := ["loop.example/g00954/impl.errInvalidCmd"], fn := fun _ => fun
  | [d, g1] => { results := [.lit (.bool true)], args := [d], vars := [g1] }
  | _ => none }
def fnExactEMsgOkRow : OpenClaim := { program := "ythihihphbcaieaadoor", sum := "030331ea97047813c1e0820d088e2c0578314e7ccd5f7cafcf3a7fc77d460a1f", func := "loop.example/g00954/laws.FnExactEMsgOk", spec := "fnExactEMsgOk", inPlace := ["internal/reflectlite.TypeOf"], unfollowed := true, recurses := true, named := ["loop.example/g00954/impl.errInvalidCmd"], ifaces := true, apart := false, laid := [("loop.example/g00954/impl.errInvalidCmd", laid_loop_example_g00954_impl_errInvalidCmd)] }
def FnExactEMsgOkSaid : Prop := fnExactEMsgOkRow.holds Tryd.pinned (OpenSpec.ofChange fnExactEMsgOkSpec)

/-- ITS FALSE NEIGHBOUR: 'it returns false'. Refute it at one input. -/
def fnExactEMsgOkWrong : ChangeSpec := { name := "fnExactEMsgOk", vars := ["loop.example/g00954/impl.errInvalidCmd"], fn := fun _ => fun
  | [d, g1] => { results := [.lit (.bool false)], args := [d], vars := [g1] }
  | _ => none }
def FnExactEMsgOkWrongFalsely : Prop := fnExactEMsgOkRow.holds Tryd.pinned (OpenSpec.ofChange fnExactEMsgOkWrong)

/-- 'laws.FnExactENodeOk': WHATEVER THE INPUT: true; the input reads as it did. -/
def fnExactENodeOkSpec : ChangeSpec := { name := "fnExactENodeOk", vars := ["loop.example/g00954/impl.errInvalidCmd"], fn := fun _ => fun
  | [d, g1] => { results := [.lit (.bool true)], args := [d], vars := [g1] }
  | _ => none }
def fnExactENodeOkRow : OpenClaim := { program := "ythihihphbcaieaadoor", sum := "030331ea97047813c1e0820d088e2c0578314e7ccd5f7cafcf3a7fc77d460a1f", func := "loop.example/g00954/laws.FnExactENodeOk", spec := "fnExactENodeOk", inPlace := ["internal/reflectlite.TypeOf"], unfollowed := true, recurses := true, named := ["loop.example/g00954/impl.errInvalidCmd"], ifaces := true, apart := false, laid := [("loop.example/g00954/impl.errInvalidCmd", laid_loop_example_g00954_impl_errInvalidCmd)] }
def FnExactENodeOkSaid : Prop := fnExactENodeOkRow.holds Tryd.pinned (OpenSpec.ofChange fnExactENodeOkSpec)

/-- ITS FALSE NEIGHBOUR: 'it returns false'. Refute it at one input. -/
def fnExactENodeOkWrong : ChangeSpec := { name := "fnExactENodeOk", vars := ["loop.example/g00954/impl.errInvalidCmd"], fn := fun _ => fun
  | [d, g1] => { results := [.lit (.bool false)], args := [d], vars := [g1] }
  | _ => none }
def FnExactENodeOkWrongFalsely : Prop := fnExactENodeOkRow.holds Tryd.pinned (OpenSpec.ofChange fnExactENodeOkWrong)

/- THE SECOND FORM. 'bulk': how many values and letters a reading holds, each counted each time it is reached (what is shared counts as often as it is met; a slice's spare places count too). A statement '..UptoSaid' is the law's where the arguments, and the package variables that the reading takes, are together of bulk at most 1048576: NARROWER than '..Said'. Prove '..Said' where nothing that the law and all that it calls make is longer than what came in: it says more and counts as full. Else prove '..UptoSaid'. A law counts once. -/
mutual
def uptoBulk {H : Type} : DataW H → Nat
  | .lit (.string bytes) => bytes.length + 1
  | .lit _ => 1
  | .nil => 1
  | .ptr d => uptoBulk d + 1
  | .slice elems spare => uptoBulkAll elems + uptoBulkAll spare + 1
  | .agg parts => uptoBulkAll parts + 1
  | .iface _ d => uptoBulk d + 1
  | .map entries => uptoBulkEntries entries + 1
  | .held _ => 1
def uptoBulkAll {H : Type} : List (DataW H) → Nat
  | [] => 0
  | d :: r => uptoBulk d + uptoBulkAll r
def uptoBulkEntries {H : Type} : List (Lit × DataW H) → Nat
  | [] => 0
  | x :: r => uptoBulkEntry x + uptoBulkEntries r
def uptoBulkEntry {H : Type} : Lit × DataW H → Nat
  | (.string bytes, d) => bytes.length + uptoBulk d + 1
  | (_, d) => uptoBulk d + 1
 end
def uptoSmall : (H : Type) → List (DataW H) → Bool := fun _ ds => decide (uptoBulkAll ds ≤ 1048576)
def OpenSpec.upto (s : _root_.Go.ChangeSpec) : _root_.Go.OpenSpec := { _root_.Go.OpenSpec.ofChange s with cond := some uptoSmall }

/-- 'laws.FnBlobs', WHERE WHAT IT READS IS OF BULK AT MOST 1048576: true; the input reads as it did. -/
def fnBlobsUptoRow : OpenClaim := { program := "ythihihphbcaieaadoor", sum := "030331ea97047813c1e0820d088e2c0578314e7ccd5f7cafcf3a7fc77d460a1f", func := "loop.example/g00954/laws.FnBlobs", spec := "fnBlobs", unfollowed := true, recurses := true, named := ["loop.example/g00954/impl.shaStart", "loop.example/g00954/impl.shaAdds"], apart := false, laid := [("loop.example/g00954/impl.shaStart", laid_loop_example_g00954_impl_shaStart), ("loop.example/g00954/impl.shaAdds", laid_loop_example_g00954_impl_shaAdds)], narrowed := true }
def FnBlobsUptoSaid : Prop := fnBlobsUptoRow.holds Tryd.pinned (OpenSpec.upto fnBlobsSpec)

/-- 'laws.FnInsts', WHERE WHAT IT READS IS OF BULK AT MOST 1048576: true; the input reads as it did. -/
def fnInstsUptoRow : OpenClaim := { program := "ythihihphbcaieaadoor", sum := "030331ea97047813c1e0820d088e2c0578314e7ccd5f7cafcf3a7fc77d460a1f", func := "loop.example/g00954/laws.FnInsts", spec := "fnInsts", inPlace := ["internal/reflectlite.TypeOf"], unfollowed := true, recurses := true, named := ["loop.example/g00954/impl.errInvalidCmd"], ifaces := true, apart := false, laid := [("loop.example/g00954/impl.errInvalidCmd", laid_loop_example_g00954_impl_errInvalidCmd)], narrowed := true }
def FnInstsUptoSaid : Prop := fnInstsUptoRow.holds Tryd.pinned (OpenSpec.upto fnInstsSpec)

/-- 'laws.FnExactInstsOk', WHERE WHAT IT READS IS OF BULK AT MOST 1048576: true; the input reads as it did. -/
def fnExactInstsOkUptoRow : OpenClaim := { program := "ythihihphbcaieaadoor", sum := "030331ea97047813c1e0820d088e2c0578314e7ccd5f7cafcf3a7fc77d460a1f", func := "loop.example/g00954/laws.FnExactInstsOk", spec := "fnExactInstsOk", inPlace := ["internal/reflectlite.TypeOf"], unfollowed := true, recurses := true, named := ["loop.example/g00954/impl.errInvalidCmd"], ifaces := true, apart := false, laid := [("loop.example/g00954/impl.errInvalidCmd", laid_loop_example_g00954_impl_errInvalidCmd)], narrowed := true }
def FnExactInstsOkUptoSaid : Prop := fnExactInstsOkUptoRow.holds Tryd.pinned (OpenSpec.upto fnExactInstsOkSpec)

/-- 'laws.FnExactAttrsOf', WHERE WHAT IT READS IS OF BULK AT MOST 1048576: true; the input reads as it did. -/
def fnExactAttrsOfUptoRow : OpenClaim := { program := "ythihihphbcaieaadoor", sum := "030331ea97047813c1e0820d088e2c0578314e7ccd5f7cafcf3a7fc77d460a1f", func := "loop.example/g00954/laws.FnExactAttrsOf", spec := "fnExactAttrsOf", inPlace := ["internal/reflectlite.TypeOf"], unfollowed := true, recurses := true, named := ["loop.example/g00954/impl.errInvalidCmd"], ifaces := true, apart := false, laid := [("loop.example/g00954/impl.errInvalidCmd", laid_loop_example_g00954_impl_errInvalidCmd)], narrowed := true }
def FnExactAttrsOfUptoSaid : Prop := fnExactAttrsOfUptoRow.holds Tryd.pinned (OpenSpec.upto fnExactAttrsOfSpec)

/-- 'laws.FnExactInstPut', WHERE WHAT IT READS IS OF BULK AT MOST 1048576: true; the input reads as it did. -/
def fnExactInstPutUptoRow : OpenClaim := { program := "ythihihphbcaieaadoor", sum := "030331ea97047813c1e0820d088e2c0578314e7ccd5f7cafcf3a7fc77d460a1f", func := "loop.example/g00954/laws.FnExactInstPut", spec := "fnExactInstPut", inPlace := ["internal/reflectlite.TypeOf"], unfollowed := true, recurses := true, named := ["loop.example/g00954/impl.errInvalidCmd"], ifaces := true, apart := false, laid := [("loop.example/g00954/impl.errInvalidCmd", laid_loop_example_g00954_impl_errInvalidCmd)], narrowed := true }
def FnExactInstPutUptoSaid : Prop := fnExactInstPutUptoRow.holds Tryd.pinned (OpenSpec.upto fnExactInstPutSpec)

/-- 'laws.FnExactEMsgOk', WHERE WHAT IT READS IS OF BULK AT MOST 1048576: true; the input reads as it did. -/
def fnExactEMsgOkUptoRow : OpenClaim := { program := "ythihihphbcaieaadoor", sum := "030331ea97047813c1e0820d088e2c0578314e7ccd5f7cafcf3a7fc77d460a1f", func := "loop.example/g00954/laws.FnExactEMsgOk", spec := "fnExactEMsgOk", inPlace := ["internal/reflectlite.TypeOf"], unfollowed := true, recurses := true, named := ["loop.example/g00954/impl.errInvalidCmd"], ifaces := true, apart := false, laid := [("loop.example/g00954/impl.errInvalidCmd", laid_loop_example_g00954_impl_errInvalidCmd)], narrowed := true }
def FnExactEMsgOkUptoSaid : Prop := fnExactEMsgOkUptoRow.holds Tryd.pinned (OpenSpec.upto fnExactEMsgOkSpec)

/-- 'laws.FnExactENodeOk', WHERE WHAT IT READS IS OF BULK AT MOST 1048576: true; the input reads as it did. -/
def fnExactENodeOkUptoRow : OpenClaim := { program := "ythihihphbcaieaadoor", sum := "030331ea97047813c1e0820d088e2c0578314e7ccd5f7cafcf3a7fc77d460a1f", func := "loop.example/g00954/laws.FnExactENodeOk", spec := "fnExactENodeOk", inPlace := ["internal/reflectlite.TypeOf"], unfollowed := true, recurses := true, named := ["loop.example/g00954/impl.errInvalidCmd"], ifaces := true, apart := false, laid := [("loop.example/g00954/impl.errInvalidCmd", laid_loop_example_g00954_impl_errInvalidCmd)], narrowed := true }
def FnExactENodeOkUptoSaid : Prop := fnExactENodeOkUptoRow.holds Tryd.pinned (OpenSpec.upto fnExactENodeOkSpec)

end Rows
end Go.Proofs.YthihihphbcaieaaDoor
