/-
  No cell of these rows narrows 'for every input' (looked for: loops, veiled, ifaces, maps, wideKeys, modest, calm, conditions, laid).
  DERIVED. THE GIVEN ROWS OF THIS SEAT. 4 by the template 'for every input the law returns true; each argument reads behind the call as it read before'; 0 by the template 'total and deterministic' (their statements: YthihihphbcaieaaTotals.lean).
  GIVEN WITH THE SEED: the statements are not yours to turn. If you find one false, say at which input.
  Laid BY PROGRAM, IN A SANDBOX (cutbox-rows.mjs): the forced cells as the released guide's own fill.sh prints them over the translation abfbcb1c79fda85e… (all of the seat's roots in one cut). By AI agents, Wed Nov 11 2026. No macro, syntax, notation, axiom, sorry.
-/
import Derived.Test.YthihihphbcaieaaChecked
import GoSem.Claim
import GoSem.ClaimJoined
import GoSem.ClaimMapViews
import Derived.JoinedTies
import Derived.KernelRfl
namespace Go.Proofs.Ythihihphbcaieaa
/- THE CELL 'sum', in the pinned program and in every row, IS THE sha256 OF THE DUMP (.gsa) THAT YthihihphbcaieaaProg.lean LOADS. Nothing in Lean hashes anything: it is a label: what it is worth is what the hold of that sum in a sandbox is worth. -/
noncomputable def Try.pinned : Pinned := { name := "ythihihphbcaieaa", sum := "abfbcb1c79fda85efb8796504f99291f64297252fa2d7284e488470fa48df510", checked := Try.checked }
namespace Rows
def none {H : Type} : Left H := { results := [], args := [] }

/-- 'laws.FnExactIdsOk': WHATEVER THE INPUT: true; the input reads as it did. -/
def fnExactIdsOkSpec : ChangeSpec := { name := "fnExactIdsOk", fn := fun _ => fun
  | [d] => { results := [.lit (.bool true)], args := [d] }
  | _ => none }
def fnExactIdsOkRow : OpenClaim := { program := "ythihihphbcaieaa", sum := "abfbcb1c79fda85efb8796504f99291f64297252fa2d7284e488470fa48df510", func := "loop.example/g00954/laws.FnExactIdsOk", spec := "fnExactIdsOk", unfollowed := true, recurses := true, apart := false }
def FnExactIdsOkSaid : Prop := fnExactIdsOkRow.holds Try.pinned (OpenSpec.ofChange fnExactIdsOkSpec)

/-- ITS FALSE NEIGHBOUR: 'it returns false'. Refute it at one input. -/
def fnExactIdsOkWrong : ChangeSpec := { name := "fnExactIdsOk", fn := fun _ => fun
  | [d] => { results := [.lit (.bool false)], args := [d] }
  | _ => none }
def FnExactIdsOkWrongFalsely : Prop := fnExactIdsOkRow.holds Try.pinned (OpenSpec.ofChange fnExactIdsOkWrong)

/-- 'laws.FnExactJoinIds': WHATEVER THE INPUT: true; the input reads as it did. -/
def fnExactJoinIdsSpec : ChangeSpec := { name := "fnExactJoinIds", fn := fun _ => fun
  | [d1, d2] => { results := [.lit (.bool true)], args := [d1, d2] }
  | _ => none }
def fnExactJoinIdsRow : OpenClaim := { program := "ythihihphbcaieaa", sum := "abfbcb1c79fda85efb8796504f99291f64297252fa2d7284e488470fa48df510", func := "loop.example/g00954/laws.FnExactJoinIds", spec := "fnExactJoinIds", unfollowed := true, recurses := true, apart := false }
def FnExactJoinIdsSaid : Prop := fnExactJoinIdsRow.holds Try.pinned (OpenSpec.ofChange fnExactJoinIdsSpec)

/-- ITS FALSE NEIGHBOUR: 'it returns false'. Refute it at one input. -/
def fnExactJoinIdsWrong : ChangeSpec := { name := "fnExactJoinIds", fn := fun _ => fun
  | [d1, d2] => { results := [.lit (.bool false)], args := [d1, d2] }
  | _ => none }
def FnExactJoinIdsWrongFalsely : Prop := fnExactJoinIdsRow.holds Try.pinned (OpenSpec.ofChange fnExactJoinIdsWrong)

/-- 'laws.FnExactInstAt': WHATEVER THE INPUT: true; the input reads as it did. -/
def fnExactInstAtSpec : ChangeSpec := { name := "fnExactInstAt", fn := fun _ => fun
  | [d1, d2] => { results := [.lit (.bool true)], args := [d1, d2] }
  | _ => none }
def fnExactInstAtRow : OpenClaim := { program := "ythihihphbcaieaa", sum := "abfbcb1c79fda85efb8796504f99291f64297252fa2d7284e488470fa48df510", func := "loop.example/g00954/laws.FnExactInstAt", spec := "fnExactInstAt", apart := false }
def FnExactInstAtSaid : Prop := fnExactInstAtRow.holds Try.pinned (OpenSpec.ofChange fnExactInstAtSpec)

/-- ITS FALSE NEIGHBOUR: 'it returns false'. Refute it at one input. -/
def fnExactInstAtWrong : ChangeSpec := { name := "fnExactInstAt", fn := fun _ => fun
  | [d1, d2] => { results := [.lit (.bool false)], args := [d1, d2] }
  | _ => none }
def FnExactInstAtWrongFalsely : Prop := fnExactInstAtRow.holds Try.pinned (OpenSpec.ofChange fnExactInstAtWrong)

/-- 'laws.FnExactENodeNew': WHATEVER THE INPUT: true; the input reads as it did. -/
def fnExactENodeNewSpec : ChangeSpec := { name := "fnExactENodeNew", fn := fun _ => fun
  | [d] => { results := [.lit (.bool true)], args := [d] }
  | _ => none }
def fnExactENodeNewRow : OpenClaim := { program := "ythihihphbcaieaa", sum := "abfbcb1c79fda85efb8796504f99291f64297252fa2d7284e488470fa48df510", func := "loop.example/g00954/laws.FnExactENodeNew", spec := "fnExactENodeNew", apart := false }
def FnExactENodeNewSaid : Prop := fnExactENodeNewRow.holds Try.pinned (OpenSpec.ofChange fnExactENodeNewSpec)

/-- ITS FALSE NEIGHBOUR: 'it returns false'. Refute it at one input. -/
def fnExactENodeNewWrong : ChangeSpec := { name := "fnExactENodeNew", fn := fun _ => fun
  | [d] => { results := [.lit (.bool false)], args := [d] }
  | _ => none }
def FnExactENodeNewWrongFalsely : Prop := fnExactENodeNewRow.holds Try.pinned (OpenSpec.ofChange fnExactENodeNewWrong)

/- THE SECOND FORM. 'bulk': how many values and letters a reading holds, each counted each time it is reached (what is shared counts as often as it is met; a slice's spare places count too). A statement '..UptoSaid' is the law's where the arguments, and the package variables that the reading takes, are together of bulk at most 1048576: NARROWER than '..Said'. Prove '..Said' where nothing that the law and all that it calls make is longer than what came in: it says more and counts as full. Else prove '..UptoSaid'. A law counts once. -/
mutual
def uptoBulk {H : Type} : DataW H → Nat
  | .lit (.string bytes) => bytes.length + 1
  | .lit _ => 1
  | .nil => 1
  | .ptr d => uptoBulk d + 1
  | .slice elems spare => uptoBulkAll elems + uptoBulkAll spare + 1
  | .agg parts => uptoBulkAll parts + 1
  | .iface _ d => uptoBulk d + 1
  | .map entries => uptoBulkEntries entries + 1
  | .held _ => 1
def uptoBulkAll {H : Type} : List (DataW H) → Nat
  | [] => 0
  | d :: r => uptoBulk d + uptoBulkAll r
def uptoBulkEntries {H : Type} : List (Lit × DataW H) → Nat
  | [] => 0
  | x :: r => uptoBulkEntry x + uptoBulkEntries r
def uptoBulkEntry {H : Type} : Lit × DataW H → Nat
  | (.string bytes, d) => bytes.length + uptoBulk d + 1
  | (_, d) => uptoBulk d + 1
 end
def uptoSmall : (H : Type) → List (DataW H) → Bool := fun _ ds => decide (uptoBulkAll ds ≤ 1048576)
def OpenSpec.upto (s : _root_.Go.ChangeSpec) : _root_.Go.OpenSpec := { _root_.Go.OpenSpec.ofChange s with cond := some uptoSmall }

/-- 'laws.FnExactIdsOk', WHERE WHAT IT READS IS OF BULK AT MOST 1048576: true; the input reads as it did. -/
def fnExactIdsOkUptoRow : OpenClaim := { program := "ythihihphbcaieaa", sum := "abfbcb1c79fda85efb8796504f99291f64297252fa2d7284e488470fa48df510", func := "loop.example/g00954/laws.FnExactIdsOk", spec := "fnExactIdsOk", unfollowed := true, recurses := true, apart := false, narrowed := true }
def FnExactIdsOkUptoSaid : Prop := fnExactIdsOkUptoRow.holds Try.pinned (OpenSpec.upto fnExactIdsOkSpec)

/-- 'laws.FnExactJoinIds', WHERE WHAT IT READS IS OF BULK AT MOST 1048576: true; the input reads as it did. -/
def fnExactJoinIdsUptoRow : OpenClaim := { program := "ythihihphbcaieaa", sum := "abfbcb1c79fda85efb8796504f99291f64297252fa2d7284e488470fa48df510", func := "loop.example/g00954/laws.FnExactJoinIds", spec := "fnExactJoinIds", unfollowed := true, recurses := true, apart := false, narrowed := true }
def FnExactJoinIdsUptoSaid : Prop := fnExactJoinIdsUptoRow.holds Try.pinned (OpenSpec.upto fnExactJoinIdsSpec)

/-- 'laws.FnExactInstAt', WHERE WHAT IT READS IS OF BULK AT MOST 1048576: true; the input reads as it did. -/
def fnExactInstAtUptoRow : OpenClaim := { program := "ythihihphbcaieaa", sum := "abfbcb1c79fda85efb8796504f99291f64297252fa2d7284e488470fa48df510", func := "loop.example/g00954/laws.FnExactInstAt", spec := "fnExactInstAt", apart := false, narrowed := true }
def FnExactInstAtUptoSaid : Prop := fnExactInstAtUptoRow.holds Try.pinned (OpenSpec.upto fnExactInstAtSpec)

/-- 'laws.FnExactENodeNew', WHERE WHAT IT READS IS OF BULK AT MOST 1048576: true; the input reads as it did. -/
def fnExactENodeNewUptoRow : OpenClaim := { program := "ythihihphbcaieaa", sum := "abfbcb1c79fda85efb8796504f99291f64297252fa2d7284e488470fa48df510", func := "loop.example/g00954/laws.FnExactENodeNew", spec := "fnExactENodeNew", apart := false, narrowed := true }
def FnExactENodeNewUptoSaid : Prop := fnExactENodeNewUptoRow.holds Try.pinned (OpenSpec.upto fnExactENodeNewSpec)

end Rows
end Go.Proofs.Ythihihphbcaieaa
