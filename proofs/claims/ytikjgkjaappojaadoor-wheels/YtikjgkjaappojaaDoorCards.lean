/-
  DERIVED. GIVEN WITH THE SEED: THE CARDS: each row of YtikjgkjaappojaaDoorRows.lean that lists a variable, with what it lists TIED to the program's text (the seventh form; the later family's looks); each row that meets fmt, with fmt's text TOLD by the authors' own Lean function (tested against real Go, not proved from fmt's source: count such statements apart). THE CARD IS WHAT COUNTS. Prove the row's statement (the work); the ties are given (YtikjgkjaappojaaDoorTie.lean); close each card by the builder's one call (the guide's Derived/Test/ToyasCard.lean, 'card_holds'). Laid BY PROGRAM, IN A SANDBOX (cutbox-door.mjs). By AI agents, Wed Nov 11 2026. No macro, syntax, notation, axiom, sorry.
-/
import Derived.Test.YtikjgkjaappojaaDoorRows
import GoSem.ClaimSeven
namespace Go.Proofs.YtikjgkjaappojaaDoor
namespace Rows

/-- THE TIED CARD OF 'pacerlaw.Wheels'. -/
def wheelsCard : Claim7 := { stood := { row := wheelsRow, standIns := [], harness := (true, "599c395eb68042b16c62743090cefab44331867794b4d6ee960e9c96745d33e9"), looks := false }, kinds := [], alts := [], laidByText := true, laidKinds := [.data], laidTests := true, laidLooks := .later }
def WheelsCardSaid : Prop := Claim7.holds Tryd.pinned (.plain (OpenSpec.ofChange wheelsSpec)) wheelsCard

/-- THE TIED CARD OF 'pacerlaw.Steps'. -/
def stepsCard : Claim7 := { stood := { row := stepsRow, standIns := [], harness := (true, "599c395eb68042b16c62743090cefab44331867794b4d6ee960e9c96745d33e9"), looks := false }, kinds := [], alts := [], laidByText := true, laidKinds := [.data], laidTests := true, laidLooks := .later }
def StepsCardSaid : Prop := Claim7.holds Tryd.pinned (.plain (OpenSpec.ofChange stepsSpec)) stepsCard

/-- THE SECOND FORM's CARD OF 'pacerlaw.Wheels'. -/
def wheelsUptoCard : Claim7 := { stood := { row := wheelsUptoRow, standIns := [], harness := (true, "599c395eb68042b16c62743090cefab44331867794b4d6ee960e9c96745d33e9"), looks := false }, kinds := [], alts := [], laidByText := true, laidKinds := [.data], laidTests := true, laidLooks := .later }
def WheelsUptoCardSaid : Prop := Claim7.holds Tryd.pinned (.plain (OpenSpec.upto wheelsSpec)) wheelsUptoCard

/-- THE SECOND FORM's CARD OF 'pacerlaw.Steps'. -/
def stepsUptoCard : Claim7 := { stood := { row := stepsUptoRow, standIns := [], harness := (true, "599c395eb68042b16c62743090cefab44331867794b4d6ee960e9c96745d33e9"), looks := false }, kinds := [], alts := [], laidByText := true, laidKinds := [.data], laidTests := true, laidLooks := .later }
def StepsUptoCardSaid : Prop := Claim7.holds Tryd.pinned (.plain (OpenSpec.upto stepsSpec)) stepsUptoCard
end Rows
end Go.Proofs.YtikjgkjaappojaaDoor
