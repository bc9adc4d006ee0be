/-
  DERIVED. GIVEN WITH THE SEED: THE CARDS: each row of YtogdekjklbbbiaaDoorRows.lean that lists a variable, with what it lists TIED to the program's text (the seventh form; the later family's looks); each row that meets fmt, with fmt's text TOLD by the authors' own Lean function (tested against real Go, not proved from fmt's source: count such statements apart). THE CARD IS WHAT COUNTS. Prove the row's statement (the work); the ties are given (YtogdekjklbbbiaaDoorTie.lean); close each card by the builder's one call (the guide's Derived/Test/ToyasCard.lean, 'card_holds'). Laid BY PROGRAM, IN A SANDBOX (cutbox-door.mjs). By AI agents, Wed Nov 11 2026. No macro, syntax, notation, axiom, sorry.
-/
import Derived.Test.YtogdekjklbbbiaaDoorRows
import GoSem.ClaimSeven
namespace Go.Proofs.YtogdekjklbbbiaaDoor
namespace Rows

/-- THE TIED CARD OF 'pacerlaw.Wheels'. -/
def wheelsCard : Claim7 := { stood := { row := wheelsRow, standIns := [], harness := (true, "5f02c4935317efc34755d38172af7076f4436a084e124a27792f733e1c86bac9"), looks := false }, kinds := [], alts := [], laidByText := true, laidKinds := [.data], laidTests := true, laidLooks := .later }
def WheelsCardSaid : Prop := Claim7.holds Tryd.pinned (.plain (OpenSpec.ofChange wheelsSpec)) wheelsCard

/-- THE TIED CARD OF 'pacerlaw.Steps'. -/
def stepsCard : Claim7 := { stood := { row := stepsRow, standIns := [], harness := (true, "5f02c4935317efc34755d38172af7076f4436a084e124a27792f733e1c86bac9"), looks := false }, kinds := [], alts := [], laidByText := true, laidKinds := [.data], laidTests := true, laidLooks := .later }
def StepsCardSaid : Prop := Claim7.holds Tryd.pinned (.plain (OpenSpec.ofChange stepsSpec)) stepsCard

/-- THE TIED CARD OF 'pacerlaw.Bound'. -/
def boundCard : Claim7 := { stood := { row := boundRow, standIns := [], harness := (true, "5f02c4935317efc34755d38172af7076f4436a084e124a27792f733e1c86bac9"), looks := false }, kinds := [], alts := [], laidByText := true, laidKinds := [.data], laidTests := true, laidLooks := .later }
def BoundCardSaid : Prop := Claim7.holds Tryd.pinned (.plain (OpenSpec.ofChange boundSpec)) boundCard

/-- THE TIED CARD OF 'pacerlaw.Prompt'. -/
def promptCard : Claim7 := { stood := { row := promptRow, standIns := [], harness := (true, "5f02c4935317efc34755d38172af7076f4436a084e124a27792f733e1c86bac9"), looks := false }, kinds := [], alts := [], laidByText := true, laidKinds := [.data], laidTests := true, laidLooks := .later }
def PromptCardSaid : Prop := Claim7.holds Tryd.pinned (.plain (OpenSpec.ofChange promptSpec)) promptCard

/-- THE TIED CARD OF 'pacerlaw.Once'. -/
def onceCard : Claim7 := { stood := { row := onceRow, standIns := [], harness := (true, "5f02c4935317efc34755d38172af7076f4436a084e124a27792f733e1c86bac9"), looks := false }, kinds := [], alts := [], laidByText := true, laidKinds := [.data], laidTests := true, laidLooks := .later }
def OnceCardSaid : Prop := Claim7.holds Tryd.pinned (.plain (OpenSpec.ofChange onceSpec)) onceCard

/-- THE TIED CARD OF 'pacerlaw.Own'. -/
def ownCard : Claim7 := { stood := { row := ownRow, standIns := [], harness := (true, "5f02c4935317efc34755d38172af7076f4436a084e124a27792f733e1c86bac9"), looks := false }, kinds := [], alts := [], laidByText := true, laidKinds := [.data], laidTests := true, laidLooks := .later }
def OwnCardSaid : Prop := Claim7.holds Tryd.pinned (.plain (OpenSpec.ofChange ownSpec)) ownCard

/-- THE SECOND FORM's CARD OF 'pacerlaw.Wheels'. -/
def wheelsUptoCard : Claim7 := { stood := { row := wheelsUptoRow, standIns := [], harness := (true, "5f02c4935317efc34755d38172af7076f4436a084e124a27792f733e1c86bac9"), looks := false }, kinds := [], alts := [], laidByText := true, laidKinds := [.data], laidTests := true, laidLooks := .later }
def WheelsUptoCardSaid : Prop := Claim7.holds Tryd.pinned (.plain (OpenSpec.upto wheelsSpec)) wheelsUptoCard

/-- THE SECOND FORM's CARD OF 'pacerlaw.Steps'. -/
def stepsUptoCard : Claim7 := { stood := { row := stepsUptoRow, standIns := [], harness := (true, "5f02c4935317efc34755d38172af7076f4436a084e124a27792f733e1c86bac9"), looks := false }, kinds := [], alts := [], laidByText := true, laidKinds := [.data], laidTests := true, laidLooks := .later }
def StepsUptoCardSaid : Prop := Claim7.holds Tryd.pinned (.plain (OpenSpec.upto stepsSpec)) stepsUptoCard

/-- THE SECOND FORM's CARD OF 'pacerlaw.Bound'. -/
def boundUptoCard : Claim7 := { stood := { row := boundUptoRow, standIns := [], harness := (true, "5f02c4935317efc34755d38172af7076f4436a084e124a27792f733e1c86bac9"), looks := false }, kinds := [], alts := [], laidByText := true, laidKinds := [.data], laidTests := true, laidLooks := .later }
def BoundUptoCardSaid : Prop := Claim7.holds Tryd.pinned (.plain (OpenSpec.upto boundSpec)) boundUptoCard

/-- THE SECOND FORM's CARD OF 'pacerlaw.Prompt'. -/
def promptUptoCard : Claim7 := { stood := { row := promptUptoRow, standIns := [], harness := (true, "5f02c4935317efc34755d38172af7076f4436a084e124a27792f733e1c86bac9"), looks := false }, kinds := [], alts := [], laidByText := true, laidKinds := [.data], laidTests := true, laidLooks := .later }
def PromptUptoCardSaid : Prop := Claim7.holds Tryd.pinned (.plain (OpenSpec.upto promptSpec)) promptUptoCard

/-- THE SECOND FORM's CARD OF 'pacerlaw.Once'. -/
def onceUptoCard : Claim7 := { stood := { row := onceUptoRow, standIns := [], harness := (true, "5f02c4935317efc34755d38172af7076f4436a084e124a27792f733e1c86bac9"), looks := false }, kinds := [], alts := [], laidByText := true, laidKinds := [.data], laidTests := true, laidLooks := .later }
def OnceUptoCardSaid : Prop := Claim7.holds Tryd.pinned (.plain (OpenSpec.upto onceSpec)) onceUptoCard

/-- THE SECOND FORM's CARD OF 'pacerlaw.Own'. -/
def ownUptoCard : Claim7 := { stood := { row := ownUptoRow, standIns := [], harness := (true, "5f02c4935317efc34755d38172af7076f4436a084e124a27792f733e1c86bac9"), looks := false }, kinds := [], alts := [], laidByText := true, laidKinds := [.data], laidTests := true, laidLooks := .later }
def OwnUptoCardSaid : Prop := Claim7.holds Tryd.pinned (.plain (OpenSpec.upto ownSpec)) ownUptoCard
end Rows
end Go.Proofs.YtogdekjklbbbiaaDoor
