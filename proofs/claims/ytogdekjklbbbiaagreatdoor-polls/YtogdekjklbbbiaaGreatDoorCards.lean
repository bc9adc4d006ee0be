/-
  DERIVED. GIVEN WITH THE SEED: THE CARDS: each row of YtogdekjklbbbiaaGreatDoorRows.lean that lists a variable, with what it lists TIED to the program's text (the seventh form; the later family's looks); each row that meets fmt, with fmt's text TOLD by the authors' own Lean function (tested against real Go, not proved from fmt's source: count such statements apart). THE CARD IS WHAT COUNTS. Prove the row's statement (the work); the ties are given (YtogdekjklbbbiaaGreatDoorTie.lean); close each card by the builder's one call (the guide's Derived/Test/ToyasCard.lean, 'card_holds'). Laid BY PROGRAM, IN A SANDBOX (cutbox-door.mjs). By AI agents, Wed Nov 11 2026. No macro, syntax, notation, axiom, sorry.
-/
import Derived.Test.YtogdekjklbbbiaaGreatDoorRows
import GoSem.ClaimSeven
namespace Go.Proofs.YtogdekjklbbbiaaGreatDoor
namespace Rows

/-- THE TIED CARD OF 'pacerlaw.Flows'. -/
def flowsCard : Claim7 := { stood := { row := flowsRow, standIns := [], harness := (true, "354ec7656430c5ba35f420916ea923158e5a82b140dd047a939fdf521d6df7f5"), looks := false }, kinds := [], alts := [], goes := true, laidByText := true, laidKinds := [.data, .data, .data], laidTests := true, laidLooks := .later }
def FlowsCardSaid : Prop := Claim7.holds Tryz.pinned (.plain (OpenSpec.ofChange flowsSpec)) flowsCard

/-- THE TIED CARD OF 'pacerlaw.Polls'. -/
def pollsCard : Claim7 := { stood := { row := pollsRow, standIns := [], harness := (true, "354ec7656430c5ba35f420916ea923158e5a82b140dd047a939fdf521d6df7f5"), looks := false }, kinds := [], alts := [], goes := true, laidByText := true, laidKinds := [.data, .data, .data], laidTests := true, laidLooks := .later }
def PollsCardSaid : Prop := Claim7.holds Tryz.pinned (.plain (OpenSpec.ofChange pollsSpec)) pollsCard

/-- THE TIED CARD OF 'pacerlaw.Feeds'. -/
def feedsCard : Claim7 := { stood := { row := feedsRow, standIns := [], harness := (true, "354ec7656430c5ba35f420916ea923158e5a82b140dd047a939fdf521d6df7f5"), looks := false }, kinds := [], alts := [], goes := true, laidByText := true, laidKinds := [.data, .data, .data], laidTests := true, laidLooks := .later }
def FeedsCardSaid : Prop := Claim7.holds Tryz.pinned (.plain (OpenSpec.ofChange feedsSpec)) feedsCard

/-- THE TIED CARD OF 'pacerlaw.Dealt'. -/
def dealtCard : Claim7 := { stood := { row := dealtRow, standIns := [], harness := (true, "354ec7656430c5ba35f420916ea923158e5a82b140dd047a939fdf521d6df7f5"), looks := false }, kinds := [], alts := [], goes := true, laidByText := true, laidKinds := [.data, .data, .data], laidTests := true, laidLooks := .later }
def DealtCardSaid : Prop := Claim7.holds Tryz.pinned (.plain (OpenSpec.ofChange dealtSpec)) dealtCard

/-- THE SECOND FORM's CARD OF 'pacerlaw.Flows'. -/
def flowsUptoCard : Claim7 := { stood := { row := flowsUptoRow, standIns := [], harness := (true, "354ec7656430c5ba35f420916ea923158e5a82b140dd047a939fdf521d6df7f5"), looks := false }, kinds := [], alts := [], goes := true, laidByText := true, laidKinds := [.data, .data, .data], laidTests := true, laidLooks := .later }
def FlowsUptoCardSaid : Prop := Claim7.holds Tryz.pinned (.plain (OpenSpec.upto flowsSpec)) flowsUptoCard

/-- THE SECOND FORM's CARD OF 'pacerlaw.Polls'. -/
def pollsUptoCard : Claim7 := { stood := { row := pollsUptoRow, standIns := [], harness := (true, "354ec7656430c5ba35f420916ea923158e5a82b140dd047a939fdf521d6df7f5"), looks := false }, kinds := [], alts := [], goes := true, laidByText := true, laidKinds := [.data, .data, .data], laidTests := true, laidLooks := .later }
def PollsUptoCardSaid : Prop := Claim7.holds Tryz.pinned (.plain (OpenSpec.upto pollsSpec)) pollsUptoCard

/-- THE SECOND FORM's CARD OF 'pacerlaw.Feeds'. -/
def feedsUptoCard : Claim7 := { stood := { row := feedsUptoRow, standIns := [], harness := (true, "354ec7656430c5ba35f420916ea923158e5a82b140dd047a939fdf521d6df7f5"), looks := false }, kinds := [], alts := [], goes := true, laidByText := true, laidKinds := [.data, .data, .data], laidTests := true, laidLooks := .later }
def FeedsUptoCardSaid : Prop := Claim7.holds Tryz.pinned (.plain (OpenSpec.upto feedsSpec)) feedsUptoCard

/-- THE SECOND FORM's CARD OF 'pacerlaw.Dealt'. -/
def dealtUptoCard : Claim7 := { stood := { row := dealtUptoRow, standIns := [], harness := (true, "354ec7656430c5ba35f420916ea923158e5a82b140dd047a939fdf521d6df7f5"), looks := false }, kinds := [], alts := [], goes := true, laidByText := true, laidKinds := [.data, .data, .data], laidTests := true, laidLooks := .later }
def DealtUptoCardSaid : Prop := Claim7.holds Tryz.pinned (.plain (OpenSpec.upto dealtSpec)) dealtUptoCard
end Rows
end Go.Proofs.YtogdekjklbbbiaaGreatDoor
