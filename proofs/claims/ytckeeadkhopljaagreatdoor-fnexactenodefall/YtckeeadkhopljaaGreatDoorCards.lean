/-
  DERIVED. GIVEN WITH THE SEED: THE CARDS: each row of YtckeeadkhopljaaGreatDoorRows.lean that lists a variable, with what it lists TIED to the program's text (the seventh form; the later family's looks); each row that meets fmt, with fmt's text TOLD by the authors' own Lean function (tested against real Go, not proved from fmt's source: count such statements apart). THE CARD IS WHAT COUNTS. Prove the row's statement (the work); the ties are given (YtckeeadkhopljaaGreatDoorTie.lean); close each card by the builder's one call (the guide's Derived/Test/ToyasCard.lean, 'card_holds'). Laid BY PROGRAM, IN A SANDBOX (cutbox-door.mjs). By AI agents, Wed Nov 11 2026. No macro, syntax, notation, axiom, sorry.
-/
import Derived.Test.YtckeeadkhopljaaGreatDoorRows
import GoSem.ClaimSeven
namespace Go.Proofs.YtckeeadkhopljaaGreatDoor
namespace Rows

/-- THE TIED CARD OF 'laws.FnExactENodeFall'. -/
def fnExactENodeFallCard : Claim7 := { stood := { row := fnExactENodeFallRow, standIns := [], harness := (true, "373d08f0b76413f35c0d4e4e42a2a978bec987c97361ee05acb8501ed6ff5ba8"), looks := true }, kinds := [], alts := [], laidByText := true, laidKinds := [.sentinel], laidTests := true, laidLooks := .later }
def FnExactENodeFallCardSaid : Prop := Claim7.holds Tryz.pinned (.plain (OpenSpec.ofChange fnExactENodeFallSpec)) fnExactENodeFallCard

/-- THE SECOND FORM's CARD OF 'laws.FnExactENodeFall'. -/
def fnExactENodeFallUptoCard : Claim7 := { stood := { row := fnExactENodeFallUptoRow, standIns := [], harness := (true, "373d08f0b76413f35c0d4e4e42a2a978bec987c97361ee05acb8501ed6ff5ba8"), looks := true }, kinds := [], alts := [], laidByText := true, laidKinds := [.sentinel], laidTests := true, laidLooks := .later }
def FnExactENodeFallUptoCardSaid : Prop := Claim7.holds Tryz.pinned (.plain (OpenSpec.upto fnExactENodeFallSpec)) fnExactENodeFallUptoCard
end Rows
end Go.Proofs.YtckeeadkhopljaaGreatDoor
