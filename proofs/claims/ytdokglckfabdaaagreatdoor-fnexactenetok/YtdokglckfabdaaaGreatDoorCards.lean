/-
  DERIVED. GIVEN WITH THE SEED: THE CARDS: each row of YtdokglckfabdaaaGreatDoorRows.lean that lists a variable, with what it lists TIED to the program's text (the seventh form; the later family's looks); each row that meets fmt, with fmt's text TOLD by the authors' own Lean function (tested against real Go, not proved from fmt's source: count such statements apart). THE CARD IS WHAT COUNTS. Prove the row's statement (the work); the ties are given (YtdokglckfabdaaaGreatDoorTie.lean); close each card by the builder's one call (the guide's Derived/Test/ToyasCard.lean, 'card_holds'). Laid BY PROGRAM, IN A SANDBOX (cutbox-door.mjs). By AI agents, Wed Nov 11 2026. No macro, syntax, notation, axiom, sorry.
-/
import Derived.Test.YtdokglckfabdaaaGreatDoorRows
import GoSem.ClaimSeven
namespace Go.Proofs.YtdokglckfabdaaaGreatDoor
namespace Rows

/-- THE TIED CARD OF 'laws.FnExactENetOk'. -/
def fnExactENetOkCard : Claim7 := { stood := { row := fnExactENetOkRow, standIns := [], harness := (true, "ea2f1638fc5eed7f1de56ad38fefb8671ecb8e6d3b086e0a76d3fd5ab103ff1a"), looks := true }, kinds := [], alts := [], laidByText := true, laidKinds := [.sentinel], laidTests := true, laidLooks := .later }
def FnExactENetOkCardSaid : Prop := Claim7.holds Tryz.pinned (.plain (OpenSpec.ofChange fnExactENetOkSpec)) fnExactENetOkCard

/-- THE SECOND FORM's CARD OF 'laws.FnExactENetOk'. -/
def fnExactENetOkUptoCard : Claim7 := { stood := { row := fnExactENetOkUptoRow, standIns := [], harness := (true, "ea2f1638fc5eed7f1de56ad38fefb8671ecb8e6d3b086e0a76d3fd5ab103ff1a"), looks := true }, kinds := [], alts := [], laidByText := true, laidKinds := [.sentinel], laidTests := true, laidLooks := .later }
def FnExactENetOkUptoCardSaid : Prop := Claim7.holds Tryz.pinned (.plain (OpenSpec.upto fnExactENetOkSpec)) fnExactENetOkUptoCard
end Rows
end Go.Proofs.YtdokglckfabdaaaGreatDoor
