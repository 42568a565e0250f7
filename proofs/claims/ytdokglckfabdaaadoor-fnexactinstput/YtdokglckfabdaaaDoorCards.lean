/-
  DERIVED. GIVEN WITH THE SEED: THE CARDS: each row of YtdokglckfabdaaaDoorRows.lean that lists a variable, with what it lists TIED to the program's text (the seventh form; the later family's looks); each row that meets fmt, with fmt's text TOLD by the authors' own Lean function (tested against real Go, not proved from fmt's source: count such statements apart). THE CARD IS WHAT COUNTS. Prove the row's statement (the work); the ties are given (YtdokglckfabdaaaDoorTie.lean); close each card by the builder's one call (the guide's Derived/Test/ToyasCard.lean, 'card_holds'). Laid BY PROGRAM, IN A SANDBOX (cutbox-door.mjs). By AI agents, Wed Nov 11 2026. No macro, syntax, notation, axiom, sorry.
-/
import Derived.Test.YtdokglckfabdaaaDoorRows
import GoSem.ClaimSeven
namespace Go.Proofs.YtdokglckfabdaaaDoor
namespace Rows

/-- THE TIED CARD OF 'laws.FnExactInstPut'. -/
def fnExactInstPutCard : Claim7 := { stood := { row := fnExactInstPutRow, standIns := [], harness := (true, "0c6467b9f57e0026a1487e99a56a22e12e4f938eec2adff000134dc60d8e5191"), looks := true }, kinds := [], alts := [], laidByText := true, laidKinds := [.sentinel], laidTests := true, laidLooks := .later }
def FnExactInstPutCardSaid : Prop := Claim7.holds Tryd.pinned (.plain (OpenSpec.ofChange fnExactInstPutSpec)) fnExactInstPutCard

/-- THE SECOND FORM's CARD OF 'laws.FnExactInstPut'. -/
def fnExactInstPutUptoCard : Claim7 := { stood := { row := fnExactInstPutUptoRow, standIns := [], harness := (true, "0c6467b9f57e0026a1487e99a56a22e12e4f938eec2adff000134dc60d8e5191"), looks := true }, kinds := [], alts := [], laidByText := true, laidKinds := [.sentinel], laidTests := true, laidLooks := .later }
def FnExactInstPutUptoCardSaid : Prop := Claim7.holds Tryd.pinned (.plain (OpenSpec.upto fnExactInstPutSpec)) fnExactInstPutUptoCard
end Rows
end Go.Proofs.YtdokglckfabdaaaDoor
