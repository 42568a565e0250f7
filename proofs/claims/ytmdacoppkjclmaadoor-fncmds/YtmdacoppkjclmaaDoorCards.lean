/-
  DERIVED. GIVEN WITH THE SEED: THE CARDS: each row of YtmdacoppkjclmaaDoorRows.lean that lists a variable, with what it lists TIED to the program's text (the seventh form; the later family's looks); each row that meets fmt, with fmt's text TOLD by the authors' own Lean function (tested against real Go, not proved from fmt's source: count such statements apart). THE CARD IS WHAT COUNTS. Prove the row's statement (the work); the ties are given (YtmdacoppkjclmaaDoorTie.lean); close each card by the builder's one call (the guide's Derived/Test/ToyasCard.lean, 'card_holds'). Laid BY PROGRAM, IN A SANDBOX (cutbox-door.mjs). By AI agents, Wed Nov 11 2026. No macro, syntax, notation, axiom, sorry.
-/
import Derived.Test.YtmdacoppkjclmaaDoorRows
import GoSem.ClaimSeven
namespace Go.Proofs.YtmdacoppkjclmaaDoor
namespace Rows

/-- THE TIED CARD OF 'laws.FnCmds'. -/
def fnCmdsCard : Claim7 := { stood := { row := fnCmdsRow, standIns := [], harness := (true, "d742174cf0f64c3f9703d2ff8003a96d248f0096f776244f86c6d5e2b6af4418"), looks := true }, kinds := [], alts := [], laidByText := true, laidKinds := [.sentinel], laidTests := true, laidLooks := .later }
def FnCmdsCardSaid : Prop := Claim7.holds Tryd.pinned (.plain (OpenSpec.ofChange fnCmdsSpec)) fnCmdsCard

/-- THE TIED CARD OF 'laws.FnExactCmdOk'. -/
def fnExactCmdOkCard : Claim7 := { stood := { row := fnExactCmdOkRow, standIns := [], harness := (true, "d742174cf0f64c3f9703d2ff8003a96d248f0096f776244f86c6d5e2b6af4418"), looks := true }, kinds := [], alts := [], laidByText := true, laidKinds := [.sentinel], laidTests := true, laidLooks := .later }
def FnExactCmdOkCardSaid : Prop := Claim7.holds Tryd.pinned (.plain (OpenSpec.ofChange fnExactCmdOkSpec)) fnExactCmdOkCard

/-- THE TIED CARD OF 'laws.FnExactClash'. -/
def fnExactClashCard : Claim7 := { stood := { row := fnExactClashRow, standIns := [], harness := (true, "d742174cf0f64c3f9703d2ff8003a96d248f0096f776244f86c6d5e2b6af4418"), looks := true }, kinds := [], alts := [], laidByText := true, laidKinds := [.sentinel], laidTests := true, laidLooks := .later }
def FnExactClashCardSaid : Prop := Claim7.holds Tryd.pinned (.plain (OpenSpec.ofChange fnExactClashSpec)) fnExactClashCard

/-- THE TIED CARD OF 'laws.FnExactShowCmd'. -/
def fnExactShowCmdCard : Claim7 := { stood := { row := fnExactShowCmdRow, standIns := [], harness := (true, "d742174cf0f64c3f9703d2ff8003a96d248f0096f776244f86c6d5e2b6af4418"), looks := true }, kinds := [], alts := [], laidByText := true, laidKinds := [.sentinel], laidTests := true, laidLooks := .later }
def FnExactShowCmdCardSaid : Prop := Claim7.holds Tryd.pinned (.plain (OpenSpec.ofChange fnExactShowCmdSpec)) fnExactShowCmdCard

/-- THE TIED CARD OF 'laws.FnExactReadCmd'. -/
def fnExactReadCmdCard : Claim7 := { stood := { row := fnExactReadCmdRow, standIns := [], harness := (true, "d742174cf0f64c3f9703d2ff8003a96d248f0096f776244f86c6d5e2b6af4418"), looks := true }, kinds := [], alts := [], laidByText := true, laidKinds := [.sentinel], laidTests := true, laidLooks := .later }
def FnExactReadCmdCardSaid : Prop := Claim7.holds Tryd.pinned (.plain (OpenSpec.ofChange fnExactReadCmdSpec)) fnExactReadCmdCard

/-- THE SECOND FORM's CARD OF 'laws.FnCmds'. -/
def fnCmdsUptoCard : Claim7 := { stood := { row := fnCmdsUptoRow, standIns := [], harness := (true, "d742174cf0f64c3f9703d2ff8003a96d248f0096f776244f86c6d5e2b6af4418"), looks := true }, kinds := [], alts := [], laidByText := true, laidKinds := [.sentinel], laidTests := true, laidLooks := .later }
def FnCmdsUptoCardSaid : Prop := Claim7.holds Tryd.pinned (.plain (OpenSpec.upto fnCmdsSpec)) fnCmdsUptoCard

/-- THE SECOND FORM's CARD OF 'laws.FnExactCmdOk'. -/
def fnExactCmdOkUptoCard : Claim7 := { stood := { row := fnExactCmdOkUptoRow, standIns := [], harness := (true, "d742174cf0f64c3f9703d2ff8003a96d248f0096f776244f86c6d5e2b6af4418"), looks := true }, kinds := [], alts := [], laidByText := true, laidKinds := [.sentinel], laidTests := true, laidLooks := .later }
def FnExactCmdOkUptoCardSaid : Prop := Claim7.holds Tryd.pinned (.plain (OpenSpec.upto fnExactCmdOkSpec)) fnExactCmdOkUptoCard

/-- THE SECOND FORM's CARD OF 'laws.FnExactClash'. -/
def fnExactClashUptoCard : Claim7 := { stood := { row := fnExactClashUptoRow, standIns := [], harness := (true, "d742174cf0f64c3f9703d2ff8003a96d248f0096f776244f86c6d5e2b6af4418"), looks := true }, kinds := [], alts := [], laidByText := true, laidKinds := [.sentinel], laidTests := true, laidLooks := .later }
def FnExactClashUptoCardSaid : Prop := Claim7.holds Tryd.pinned (.plain (OpenSpec.upto fnExactClashSpec)) fnExactClashUptoCard

/-- THE SECOND FORM's CARD OF 'laws.FnExactShowCmd'. -/
def fnExactShowCmdUptoCard : Claim7 := { stood := { row := fnExactShowCmdUptoRow, standIns := [], harness := (true, "d742174cf0f64c3f9703d2ff8003a96d248f0096f776244f86c6d5e2b6af4418"), looks := true }, kinds := [], alts := [], laidByText := true, laidKinds := [.sentinel], laidTests := true, laidLooks := .later }
def FnExactShowCmdUptoCardSaid : Prop := Claim7.holds Tryd.pinned (.plain (OpenSpec.upto fnExactShowCmdSpec)) fnExactShowCmdUptoCard

/-- THE SECOND FORM's CARD OF 'laws.FnExactReadCmd'. -/
def fnExactReadCmdUptoCard : Claim7 := { stood := { row := fnExactReadCmdUptoRow, standIns := [], harness := (true, "d742174cf0f64c3f9703d2ff8003a96d248f0096f776244f86c6d5e2b6af4418"), looks := true }, kinds := [], alts := [], laidByText := true, laidKinds := [.sentinel], laidTests := true, laidLooks := .later }
def FnExactReadCmdUptoCardSaid : Prop := Claim7.holds Tryd.pinned (.plain (OpenSpec.upto fnExactReadCmdSpec)) fnExactReadCmdUptoCard
end Rows
end Go.Proofs.YtmdacoppkjclmaaDoor
