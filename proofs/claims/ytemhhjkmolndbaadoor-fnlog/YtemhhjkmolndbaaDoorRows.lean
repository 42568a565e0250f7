/-
  NARROWER THAN 'FOR EVERY INPUT', by the rows' own cells (each row's printed sentence says how): FnLog: laid · FnBlobs: laid · FnExactBlobsOk: laid · FnExactBlobPut: laid · FnExactBlobGet: laid · FnExactBlobDrop: laid · FnExactBlobBend: laid · FnExactBlobUsed: laid.
  DERIVED. THE GIVEN ROWS OF THIS SEAT. 8 by the template 'for every input the law returns true; each argument reads behind the call as it read before'; 0 by the template 'total and deterministic' (their statements: YtemhhjkmolndbaaDoorTotals.lean).
  GIVEN WITH THE SEED: the statements are not yours to turn. If you find one false, say at which input.
  Laid BY PROGRAM, IN A SANDBOX (cutbox-rows.mjs): the forced cells as the released guide's own fill.sh prints them over the translation cb0fd7a643d0be2a… (all of the seat's roots in one cut). By AI agents, Wed Nov 11 2026. No macro, syntax, notation, axiom, sorry.
-/
import Derived.Test.YtemhhjkmolndbaaDoorChecked
import GoSem.Claim
import GoSem.ClaimJoined
import GoSem.ClaimMapViews
import Derived.JoinedTies
import Derived.KernelRfl
namespace Go.Proofs.YtemhhjkmolndbaaDoor
/- THE CELL 'sum', in the pinned program and in every row, IS THE sha256 OF THE DUMP (.gsa) THAT YtemhhjkmolndbaaDoorProg.lean LOADS. Nothing in Lean hashes anything: it is a label: what it is worth is what the hold of that sum in a sandbox is worth. -/
noncomputable def Tryd.pinned : Pinned := { name := "ytemhhjkmolndbaadoor", sum := "cb0fd7a643d0be2ad93111693880cceafa60876135771a6f80e2cb9b34d4a232", checked := Tryd.checked }
namespace Rows
def none {H : Type} : Left H := { results := [], args := [] }

/- WHAT THE LISTED PACKAGE-LEVEL VARIABLES READ AS WHEN THE CALL BEGINS. Each datum BY PROGRAM (the guide's laid-datum.mjs) off the statement by which the dump's own 'gosem.cut.vars' lays the variable. In a bare row this is a premise. The card (YtemhhjkmolndbaaDoorCards.lean) ties it to the program's text. -/
def laid_errors_errorType {H : Type} : DataW H := .iface "internal/reflectlite.rtype" (.agg [.ptr (.lit (.string [101, 114, 114, 111, 114]))])
def laid_loop_example_g00954_impl_crcTable {H : Type} : DataW H := .agg [.lit (.int .u32 0), .lit (.int .u32 274646895), .lit (.int .u32 549293790), .lit (.int .u32 820201905), .lit (.int .u32 1098587580), .lit (.int .u32 1361435347), .lit (.int .u32 1640403810), .lit (.int .u32 1905808397), .lit (.int .u32 2197175160), .lit (.int .u32 2460548119), .lit (.int .u32 2722870694), .lit (.int .u32 2987750089), .lit (.int .u32 3280807620), .lit (.int .u32 3553878443), .lit (.int .u32 3811616794), .lit (.int .u32 4084100981)]
def laid_loop_example_g00954_impl_shaStart {H : Type} : DataW H := .agg [.lit (.int .u32 1779033703), .lit (.int .u32 3144134277), .lit (.int .u32 1013904242), .lit (.int .u32 2773480762), .lit (.int .u32 1359893119), .lit (.int .u32 2600822924), .lit (.int .u32 528734635), .lit (.int .u32 1541459225)]
def laid_loop_example_g00954_impl_shaAdds {H : Type} : DataW H := .agg [.lit (.int .u32 1116352408), .lit (.int .u32 1899447441), .lit (.int .u32 3049323471), .lit (.int .u32 3921009573), .lit (.int .u32 961987163), .lit (.int .u32 1508970993), .lit (.int .u32 2453635748), .lit (.int .u32 2870763221), .lit (.int .u32 3624381080), .lit (.int .u32 310598401), .lit (.int .u32 607225278), .lit (.int .u32 1426881987), .lit (.int .u32 1925078388), .lit (.int .u32 2162078206), .lit (.int .u32 2614888103), .lit (.int .u32 3248222580), .lit (.int .u32 3835390401), .lit (.int .u32 4022224774), .lit (.int .u32 264347078), .lit (.int .u32 604807628), .lit (.int .u32 770255983), .lit (.int .u32 1249150122), .lit (.int .u32 1555081692), .lit (.int .u32 1996064986), .lit (.int .u32 2554220882), .lit (.int .u32 2821834349), .lit (.int .u32 2952996808), .lit (.int .u32 3210313671), .lit (.int .u32 3336571891), .lit (.int .u32 3584528711), .lit (.int .u32 113926993), .lit (.int .u32 338241895), .lit (.int .u32 666307205), .lit (.int .u32 773529912), .lit (.int .u32 1294757372), .lit (.int .u32 1396182291), .lit (.int .u32 1695183700), .lit (.int .u32 1986661051), .lit (.int .u32 2177026350), .lit (.int .u32 2456956037), .lit (.int .u32 2730485921), .lit (.int .u32 2820302411), .lit (.int .u32 3259730800), .lit (.int .u32 3345764771), .lit (.int .u32 3516065817), .lit (.int .u32 3600352804), .lit (.int .u32 4094571909), .lit (.int .u32 275423344), .lit (.int .u32 430227734), .lit (.int .u32 506948616), .lit (.int .u32 659060556), .lit (.int .u32 883997877), .lit (.int .u32 958139571), .lit (.int .u32 1322822218), .lit (.int .u32 1537002063), .lit (.int .u32 1747873779), .lit (.int .u32 1955562222), .lit (.int .u32 2024104815), .lit (.int .u32 2227730452), .lit (.int .u32 2361852424), .lit (.int .u32 2428436474), .lit (.int .u32 2756734187), .lit (.int .u32 3204031479), .lit (.int .u32 3329325298)]

/-- 'laws.FnLog': WHATEVER THE INPUT: true; the input reads as it did. -/
def fnLogSpec : ChangeSpec := { name := "fnLog", vars := ["loop.example/g00954/impl.crcTable"], fn := fun _ => fun
  | [d, g1] => { results := [.lit (.bool true)], args := [d], vars := [g1] }
  | _ => none }
def fnLogRow : OpenClaim := { program := "ytemhhjkmolndbaadoor", sum := "cb0fd7a643d0be2ad93111693880cceafa60876135771a6f80e2cb9b34d4a232", func := "loop.example/g00954/laws.FnLog", spec := "fnLog", inPlace := ["internal/reflectlite.ValueOf", "(internal/reflectlite.Value).Type", "(internal/reflectlite.Value).IsNil", "internal/reflectlite.TypeOf", "(internal/reflectlite.Value).Elem", "(internal/reflectlite.Value).Set"], unfollowed := true, recurses := true, named := ["loop.example/g00954/impl.crcTable", "errors.errorType"], apart := false, laid := [("errors.errorType", laid_errors_errorType), ("loop.example/g00954/impl.crcTable", laid_loop_example_g00954_impl_crcTable)] }
def FnLogSaid : Prop := fnLogRow.holds Tryd.pinned (OpenSpec.ofChange fnLogSpec)

/-- ITS FALSE NEIGHBOUR: 'it returns false'. Refute it at one input. -/
def fnLogWrong : ChangeSpec := { name := "fnLog", vars := ["loop.example/g00954/impl.crcTable"], fn := fun _ => fun
  | [d, g1] => { results := [.lit (.bool false)], args := [d], vars := [g1] }
  | _ => none }
def FnLogWrongFalsely : Prop := fnLogRow.holds Tryd.pinned (OpenSpec.ofChange fnLogWrong)

/-- 'laws.FnBlobs': WHATEVER THE INPUT: true; the input reads as it did. -/
def fnBlobsSpec : ChangeSpec := { name := "fnBlobs", vars := ["loop.example/g00954/impl.shaStart", "loop.example/g00954/impl.shaAdds"], fn := fun _ => fun
  | [d, g1, g2] => { results := [.lit (.bool true)], args := [d], vars := [g1, g2] }
  | _ => none }
def fnBlobsRow : OpenClaim := { program := "ytemhhjkmolndbaadoor", sum := "cb0fd7a643d0be2ad93111693880cceafa60876135771a6f80e2cb9b34d4a232", func := "loop.example/g00954/laws.FnBlobs", spec := "fnBlobs", unfollowed := true, recurses := true, named := ["loop.example/g00954/impl.shaStart", "loop.example/g00954/impl.shaAdds"], apart := false, laid := [("loop.example/g00954/impl.shaStart", laid_loop_example_g00954_impl_shaStart), ("loop.example/g00954/impl.shaAdds", laid_loop_example_g00954_impl_shaAdds)] }
def FnBlobsSaid : Prop := fnBlobsRow.holds Tryd.pinned (OpenSpec.ofChange fnBlobsSpec)

/-- ITS FALSE NEIGHBOUR: 'it returns false'. Refute it at one input. -/
def fnBlobsWrong : ChangeSpec := { name := "fnBlobs", vars := ["loop.example/g00954/impl.shaStart", "loop.example/g00954/impl.shaAdds"], fn := fun _ => fun
  | [d, g1, g2] => { results := [.lit (.bool false)], args := [d], vars := [g1, g2] }
  | _ => none }
def FnBlobsWrongFalsely : Prop := fnBlobsRow.holds Tryd.pinned (OpenSpec.ofChange fnBlobsWrong)

/-- 'laws.FnExactBlobsOk': WHATEVER THE INPUT: true; the input reads as it did. -/
def fnExactBlobsOkSpec : ChangeSpec := { name := "fnExactBlobsOk", vars := ["loop.example/g00954/impl.shaStart", "loop.example/g00954/impl.shaAdds"], fn := fun _ => fun
  | [d, g1, g2] => { results := [.lit (.bool true)], args := [d], vars := [g1, g2] }
  | _ => none }
def fnExactBlobsOkRow : OpenClaim := { program := "ytemhhjkmolndbaadoor", sum := "cb0fd7a643d0be2ad93111693880cceafa60876135771a6f80e2cb9b34d4a232", func := "loop.example/g00954/laws.FnExactBlobsOk", spec := "fnExactBlobsOk", named := ["loop.example/g00954/impl.shaStart", "loop.example/g00954/impl.shaAdds"], apart := false, laid := [("loop.example/g00954/impl.shaStart", laid_loop_example_g00954_impl_shaStart), ("loop.example/g00954/impl.shaAdds", laid_loop_example_g00954_impl_shaAdds)] }
def FnExactBlobsOkSaid : Prop := fnExactBlobsOkRow.holds Tryd.pinned (OpenSpec.ofChange fnExactBlobsOkSpec)

/-- ITS FALSE NEIGHBOUR: 'it returns false'. Refute it at one input. -/
def fnExactBlobsOkWrong : ChangeSpec := { name := "fnExactBlobsOk", vars := ["loop.example/g00954/impl.shaStart", "loop.example/g00954/impl.shaAdds"], fn := fun _ => fun
  | [d, g1, g2] => { results := [.lit (.bool false)], args := [d], vars := [g1, g2] }
  | _ => none }
def FnExactBlobsOkWrongFalsely : Prop := fnExactBlobsOkRow.holds Tryd.pinned (OpenSpec.ofChange fnExactBlobsOkWrong)

/-- 'laws.FnExactBlobPut': WHATEVER THE INPUT: true; the input reads as it did. -/
def fnExactBlobPutSpec : ChangeSpec := { name := "fnExactBlobPut", vars := ["loop.example/g00954/impl.shaStart", "loop.example/g00954/impl.shaAdds"], fn := fun _ => fun
  | [d1, d2, g1, g2] => { results := [.lit (.bool true)], args := [d1, d2], vars := [g1, g2] }
  | _ => none }
def fnExactBlobPutRow : OpenClaim := { program := "ytemhhjkmolndbaadoor", sum := "cb0fd7a643d0be2ad93111693880cceafa60876135771a6f80e2cb9b34d4a232", func := "loop.example/g00954/laws.FnExactBlobPut", spec := "fnExactBlobPut", unfollowed := true, recurses := true, named := ["loop.example/g00954/impl.shaStart", "loop.example/g00954/impl.shaAdds"], apart := false, laid := [("loop.example/g00954/impl.shaStart", laid_loop_example_g00954_impl_shaStart), ("loop.example/g00954/impl.shaAdds", laid_loop_example_g00954_impl_shaAdds)] }
def FnExactBlobPutSaid : Prop := fnExactBlobPutRow.holds Tryd.pinned (OpenSpec.ofChange fnExactBlobPutSpec)

/-- ITS FALSE NEIGHBOUR: 'it returns false'. Refute it at one input. -/
def fnExactBlobPutWrong : ChangeSpec := { name := "fnExactBlobPut", vars := ["loop.example/g00954/impl.shaStart", "loop.example/g00954/impl.shaAdds"], fn := fun _ => fun
  | [d1, d2, g1, g2] => { results := [.lit (.bool false)], args := [d1, d2], vars := [g1, g2] }
  | _ => none }
def FnExactBlobPutWrongFalsely : Prop := fnExactBlobPutRow.holds Tryd.pinned (OpenSpec.ofChange fnExactBlobPutWrong)

/-- 'laws.FnExactBlobGet': WHATEVER THE INPUT: true; the input reads as it did. -/
def fnExactBlobGetSpec : ChangeSpec := { name := "fnExactBlobGet", vars := ["loop.example/g00954/impl.shaStart", "loop.example/g00954/impl.shaAdds"], fn := fun _ => fun
  | [d1, d2, g1, g2] => { results := [.lit (.bool true)], args := [d1, d2], vars := [g1, g2] }
  | _ => none }
def fnExactBlobGetRow : OpenClaim := { program := "ytemhhjkmolndbaadoor", sum := "cb0fd7a643d0be2ad93111693880cceafa60876135771a6f80e2cb9b34d4a232", func := "loop.example/g00954/laws.FnExactBlobGet", spec := "fnExactBlobGet", named := ["loop.example/g00954/impl.shaStart", "loop.example/g00954/impl.shaAdds"], apart := false, laid := [("loop.example/g00954/impl.shaStart", laid_loop_example_g00954_impl_shaStart), ("loop.example/g00954/impl.shaAdds", laid_loop_example_g00954_impl_shaAdds)] }
def FnExactBlobGetSaid : Prop := fnExactBlobGetRow.holds Tryd.pinned (OpenSpec.ofChange fnExactBlobGetSpec)

/-- ITS FALSE NEIGHBOUR: 'it returns false'. Refute it at one input. -/
def fnExactBlobGetWrong : ChangeSpec := { name := "fnExactBlobGet", vars := ["loop.example/g00954/impl.shaStart", "loop.example/g00954/impl.shaAdds"], fn := fun _ => fun
  | [d1, d2, g1, g2] => { results := [.lit (.bool false)], args := [d1, d2], vars := [g1, g2] }
  | _ => none }
def FnExactBlobGetWrongFalsely : Prop := fnExactBlobGetRow.holds Tryd.pinned (OpenSpec.ofChange fnExactBlobGetWrong)

/-- 'laws.FnExactBlobDrop': WHATEVER THE INPUT: true; the input reads as it did. -/
def fnExactBlobDropSpec : ChangeSpec := { name := "fnExactBlobDrop", vars := ["loop.example/g00954/impl.shaStart", "loop.example/g00954/impl.shaAdds"], fn := fun _ => fun
  | [d1, d2, g1, g2] => { results := [.lit (.bool true)], args := [d1, d2], vars := [g1, g2] }
  | _ => none }
def fnExactBlobDropRow : OpenClaim := { program := "ytemhhjkmolndbaadoor", sum := "cb0fd7a643d0be2ad93111693880cceafa60876135771a6f80e2cb9b34d4a232", func := "loop.example/g00954/laws.FnExactBlobDrop", spec := "fnExactBlobDrop", unfollowed := true, recurses := true, named := ["loop.example/g00954/impl.shaStart", "loop.example/g00954/impl.shaAdds"], apart := false, laid := [("loop.example/g00954/impl.shaStart", laid_loop_example_g00954_impl_shaStart), ("loop.example/g00954/impl.shaAdds", laid_loop_example_g00954_impl_shaAdds)] }
def FnExactBlobDropSaid : Prop := fnExactBlobDropRow.holds Tryd.pinned (OpenSpec.ofChange fnExactBlobDropSpec)

/-- ITS FALSE NEIGHBOUR: 'it returns false'. Refute it at one input. -/
def fnExactBlobDropWrong : ChangeSpec := { name := "fnExactBlobDrop", vars := ["loop.example/g00954/impl.shaStart", "loop.example/g00954/impl.shaAdds"], fn := fun _ => fun
  | [d1, d2, g1, g2] => { results := [.lit (.bool false)], args := [d1, d2], vars := [g1, g2] }
  | _ => none }
def FnExactBlobDropWrongFalsely : Prop := fnExactBlobDropRow.holds Tryd.pinned (OpenSpec.ofChange fnExactBlobDropWrong)

/-- 'laws.FnExactBlobBend': WHATEVER THE INPUT: true; the input reads as it did. -/
def fnExactBlobBendSpec : ChangeSpec := { name := "fnExactBlobBend", vars := ["loop.example/g00954/impl.shaStart", "loop.example/g00954/impl.shaAdds"], fn := fun _ => fun
  | [d1, d2, g1, g2] => { results := [.lit (.bool true)], args := [d1, d2], vars := [g1, g2] }
  | _ => none }
def fnExactBlobBendRow : OpenClaim := { program := "ytemhhjkmolndbaadoor", sum := "cb0fd7a643d0be2ad93111693880cceafa60876135771a6f80e2cb9b34d4a232", func := "loop.example/g00954/laws.FnExactBlobBend", spec := "fnExactBlobBend", unfollowed := true, recurses := true, named := ["loop.example/g00954/impl.shaStart", "loop.example/g00954/impl.shaAdds"], apart := false, laid := [("loop.example/g00954/impl.shaStart", laid_loop_example_g00954_impl_shaStart), ("loop.example/g00954/impl.shaAdds", laid_loop_example_g00954_impl_shaAdds)] }
def FnExactBlobBendSaid : Prop := fnExactBlobBendRow.holds Tryd.pinned (OpenSpec.ofChange fnExactBlobBendSpec)

/-- ITS FALSE NEIGHBOUR: 'it returns false'. Refute it at one input. -/
def fnExactBlobBendWrong : ChangeSpec := { name := "fnExactBlobBend", vars := ["loop.example/g00954/impl.shaStart", "loop.example/g00954/impl.shaAdds"], fn := fun _ => fun
  | [d1, d2, g1, g2] => { results := [.lit (.bool false)], args := [d1, d2], vars := [g1, g2] }
  | _ => none }
def FnExactBlobBendWrongFalsely : Prop := fnExactBlobBendRow.holds Tryd.pinned (OpenSpec.ofChange fnExactBlobBendWrong)

/-- 'laws.FnExactBlobUsed': WHATEVER THE INPUT: true; the input reads as it did. -/
def fnExactBlobUsedSpec : ChangeSpec := { name := "fnExactBlobUsed", vars := ["loop.example/g00954/impl.shaStart", "loop.example/g00954/impl.shaAdds"], fn := fun _ => fun
  | [d, g1, g2] => { results := [.lit (.bool true)], args := [d], vars := [g1, g2] }
  | _ => none }
def fnExactBlobUsedRow : OpenClaim := { program := "ytemhhjkmolndbaadoor", sum := "cb0fd7a643d0be2ad93111693880cceafa60876135771a6f80e2cb9b34d4a232", func := "loop.example/g00954/laws.FnExactBlobUsed", spec := "fnExactBlobUsed", named := ["loop.example/g00954/impl.shaStart", "loop.example/g00954/impl.shaAdds"], apart := false, laid := [("loop.example/g00954/impl.shaStart", laid_loop_example_g00954_impl_shaStart), ("loop.example/g00954/impl.shaAdds", laid_loop_example_g00954_impl_shaAdds)] }
def FnExactBlobUsedSaid : Prop := fnExactBlobUsedRow.holds Tryd.pinned (OpenSpec.ofChange fnExactBlobUsedSpec)

/-- ITS FALSE NEIGHBOUR: 'it returns false'. Refute it at one input. -/
def fnExactBlobUsedWrong : ChangeSpec := { name := "fnExactBlobUsed", vars := ["loop.example/g00954/impl.shaStart", "loop.example/g00954/impl.shaAdds"], fn := fun _ => fun
  | [d, g1, g2] => { results := [.lit (.bool false)], args := [d], vars := [g1, g2] }
  | _ => none }
def FnExactBlobUsedWrongFalsely : Prop := fnExactBlobUsedRow.holds Tryd.pinned (OpenSpec.ofChange fnExactBlobUsedWrong)

/- THE SECOND FORM. 'bulk': how many values and letters a reading holds, each counted each time it is reached (what is shared counts as often as it is met; a slice's spare places count too). A statement '..UptoSaid' is the law's where the arguments, and the package variables that the reading takes, are together of bulk at most 1048576: NARROWER than '..Said'. Prove '..Said' where nothing that the law and all that it calls make is longer than what came in: it says more and counts as full. Else prove '..UptoSaid'. A law counts once. -/
mutual
def uptoBulk {H : Type} : DataW H → Nat
  | .lit (.string bytes) => bytes.length + 1
  | .lit _ => 1
  | .nil => 1
  | .ptr d => uptoBulk d + 1
  | .slice elems spare => uptoBulkAll elems + uptoBulkAll spare + 1
  | .agg parts => uptoBulkAll parts + 1
  | .iface _ d => uptoBulk d + 1
  | .map entries => uptoBulkEntries entries + 1
  | .held _ => 1
def uptoBulkAll {H : Type} : List (DataW H) → Nat
  | [] => 0
  | d :: r => uptoBulk d + uptoBulkAll r
def uptoBulkEntries {H : Type} : List (Lit × DataW H) → Nat
  | [] => 0
  | x :: r => uptoBulkEntry x + uptoBulkEntries r
def uptoBulkEntry {H : Type} : Lit × DataW H → Nat
  | (.string bytes, d) => bytes.length + uptoBulk d + 1
  | (_, d) => uptoBulk d + 1
 end
def uptoSmall : (H : Type) → List (DataW H) → Bool := fun _ ds => decide (uptoBulkAll ds ≤ 1048576)
def OpenSpec.upto (s : _root_.Go.ChangeSpec) : _root_.Go.OpenSpec := { _root_.Go.OpenSpec.ofChange s with cond := some uptoSmall }

/-- 'laws.FnLog', WHERE WHAT IT READS IS OF BULK AT MOST 1048576: true; the input reads as it did. -/
def fnLogUptoRow : OpenClaim := { program := "ytemhhjkmolndbaadoor", sum := "cb0fd7a643d0be2ad93111693880cceafa60876135771a6f80e2cb9b34d4a232", func := "loop.example/g00954/laws.FnLog", spec := "fnLog", inPlace := ["internal/reflectlite.ValueOf", "(internal/reflectlite.Value).Type", "(internal/reflectlite.Value).IsNil", "internal/reflectlite.TypeOf", "(internal/reflectlite.Value).Elem", "(internal/reflectlite.Value).Set"], unfollowed := true, recurses := true, named := ["loop.example/g00954/impl.crcTable", "errors.errorType"], apart := false, laid := [("errors.errorType", laid_errors_errorType), ("loop.example/g00954/impl.crcTable", laid_loop_example_g00954_impl_crcTable)], narrowed := true }
def FnLogUptoSaid : Prop := fnLogUptoRow.holds Tryd.pinned (OpenSpec.upto fnLogSpec)

/-- 'laws.FnBlobs', WHERE WHAT IT READS IS OF BULK AT MOST 1048576: true; the input reads as it did. -/
def fnBlobsUptoRow : OpenClaim := { program := "ytemhhjkmolndbaadoor", sum := "cb0fd7a643d0be2ad93111693880cceafa60876135771a6f80e2cb9b34d4a232", func := "loop.example/g00954/laws.FnBlobs", spec := "fnBlobs", unfollowed := true, recurses := true, named := ["loop.example/g00954/impl.shaStart", "loop.example/g00954/impl.shaAdds"], apart := false, laid := [("loop.example/g00954/impl.shaStart", laid_loop_example_g00954_impl_shaStart), ("loop.example/g00954/impl.shaAdds", laid_loop_example_g00954_impl_shaAdds)], narrowed := true }
def FnBlobsUptoSaid : Prop := fnBlobsUptoRow.holds Tryd.pinned (OpenSpec.upto fnBlobsSpec)

/-- 'laws.FnExactBlobsOk', WHERE WHAT IT READS IS OF BULK AT MOST 1048576: true; the input reads as it did. -/
def fnExactBlobsOkUptoRow : OpenClaim := { program := "ytemhhjkmolndbaadoor", sum := "cb0fd7a643d0be2ad93111693880cceafa60876135771a6f80e2cb9b34d4a232", func := "loop.example/g00954/laws.FnExactBlobsOk", spec := "fnExactBlobsOk", named := ["loop.example/g00954/impl.shaStart", "loop.example/g00954/impl.shaAdds"], apart := false, laid := [("loop.example/g00954/impl.shaStart", laid_loop_example_g00954_impl_shaStart), ("loop.example/g00954/impl.shaAdds", laid_loop_example_g00954_impl_shaAdds)], narrowed := true }
def FnExactBlobsOkUptoSaid : Prop := fnExactBlobsOkUptoRow.holds Tryd.pinned (OpenSpec.upto fnExactBlobsOkSpec)

/-- 'laws.FnExactBlobPut', WHERE WHAT IT READS IS OF BULK AT MOST 1048576: true; the input reads as it did. -/
def fnExactBlobPutUptoRow : OpenClaim := { program := "ytemhhjkmolndbaadoor", sum := "cb0fd7a643d0be2ad93111693880cceafa60876135771a6f80e2cb9b34d4a232", func := "loop.example/g00954/laws.FnExactBlobPut", spec := "fnExactBlobPut", unfollowed := true, recurses := true, named := ["loop.example/g00954/impl.shaStart", "loop.example/g00954/impl.shaAdds"], apart := false, laid := [("loop.example/g00954/impl.shaStart", laid_loop_example_g00954_impl_shaStart), ("loop.example/g00954/impl.shaAdds", laid_loop_example_g00954_impl_shaAdds)], narrowed := true }
def FnExactBlobPutUptoSaid : Prop := fnExactBlobPutUptoRow.holds Tryd.pinned (OpenSpec.upto fnExactBlobPutSpec)

/-- 'laws.FnExactBlobGet', WHERE WHAT IT READS IS OF BULK AT MOST 1048576: true; the input reads as it did. -/
def fnExactBlobGetUptoRow : OpenClaim := { program := "ytemhhjkmolndbaadoor", sum := "cb0fd7a643d0be2ad93111693880cceafa60876135771a6f80e2cb9b34d4a232", func := "loop.example/g00954/laws.FnExactBlobGet", spec := "fnExactBlobGet", named := ["loop.example/g00954/impl.shaStart", "loop.example/g00954/impl.shaAdds"], apart := false, laid := [("loop.example/g00954/impl.shaStart", laid_loop_example_g00954_impl_shaStart), ("loop.example/g00954/impl.shaAdds", laid_loop_example_g00954_impl_shaAdds)], narrowed := true }
def FnExactBlobGetUptoSaid : Prop := fnExactBlobGetUptoRow.holds Tryd.pinned (OpenSpec.upto fnExactBlobGetSpec)

/-- 'laws.FnExactBlobDrop', WHERE WHAT IT READS IS OF BULK AT MOST 1048576: true; the input reads as it did. -/
def fnExactBlobDropUptoRow : OpenClaim := { program := "ytemhhjkmolndbaadoor", sum := "cb0fd7a643d0be2ad93111693880cceafa60876135771a6f80e2cb9b34d4a232", func := "loop.example/g00954/laws.FnExactBlobDrop", spec := "fnExactBlobDrop", unfollowed := true, recurses := true, named := ["loop.example/g00954/impl.shaStart", "loop.example/g00954/impl.shaAdds"], apart := false, laid := [("loop.example/g00954/impl.shaStart", laid_loop_example_g00954_impl_shaStart), ("loop.example/g00954/impl.shaAdds", laid_loop_example_g00954_impl_shaAdds)], narrowed := true }
def FnExactBlobDropUptoSaid : Prop := fnExactBlobDropUptoRow.holds Tryd.pinned (OpenSpec.upto fnExactBlobDropSpec)

/-- 'laws.FnExactBlobBend', WHERE WHAT IT READS IS OF BULK AT MOST 1048576: true; the input reads as it did. -/
def fnExactBlobBendUptoRow : OpenClaim := { program := "ytemhhjkmolndbaadoor", sum := "cb0fd7a643d0be2ad93111693880cceafa60876135771a6f80e2cb9b34d4a232", func := "loop.example/g00954/laws.FnExactBlobBend", spec := "fnExactBlobBend", unfollowed := true, recurses := true, named := ["loop.example/g00954/impl.shaStart", "loop.example/g00954/impl.shaAdds"], apart := false, laid := [("loop.example/g00954/impl.shaStart", laid_loop_example_g00954_impl_shaStart), ("loop.example/g00954/impl.shaAdds", laid_loop_example_g00954_impl_shaAdds)], narrowed := true }
def FnExactBlobBendUptoSaid : Prop := fnExactBlobBendUptoRow.holds Tryd.pinned (OpenSpec.upto fnExactBlobBendSpec)

/-- 'laws.FnExactBlobUsed', WHERE WHAT IT READS IS OF BULK AT MOST 1048576: true; the input reads as it did. -/
def fnExactBlobUsedUptoRow : OpenClaim := { program := "ytemhhjkmolndbaadoor", sum := "cb0fd7a643d0be2ad93111693880cceafa60876135771a6f80e2cb9b34d4a232", func := "loop.example/g00954/laws.FnExactBlobUsed", spec := "fnExactBlobUsed", named := ["loop.example/g00954/impl.shaStart", "loop.example/g00954/impl.shaAdds"], apart := false, laid := [("loop.example/g00954/impl.shaStart", laid_loop_example_g00954_impl_shaStart), ("loop.example/g00954/impl.shaAdds", laid_loop_example_g00954_impl_shaAdds)], narrowed := true }
def FnExactBlobUsedUptoSaid : Prop := fnExactBlobUsedUptoRow.holds Tryd.pinned (OpenSpec.upto fnExactBlobUsedSpec)

end Rows
end Go.Proofs.YtemhhjkmolndbaaDoor
