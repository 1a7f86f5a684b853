/-
  DERIVED. GIVEN WITH THE SEED: THE CARDS: each row of YtmdhmmckhknbdaaDoorRows.lean that lists a variable, with what it lists TIED to the program's text (the seventh form; the later family's looks); each row that meets fmt, with fmt's text TOLD by the authors' own Lean function (tested against real Go, not proved from fmt's source: count such statements apart). THE CARD IS WHAT COUNTS. Prove the row's statement (the work); the ties are given (YtmdhmmckhknbdaaDoorTie.lean); close each card by the builder's one call (the guide's Derived/Test/ToyasCard.lean, 'card_holds'). Laid BY PROGRAM, IN A SANDBOX (cutbox-door.mjs). By AI agents, Wed Nov 11 2026. No macro, syntax, notation, axiom, sorry.
-/
import Derived.Test.YtmdhmmckhknbdaaDoorRows
import GoSem.ClaimSeven
namespace Go.Proofs.YtmdhmmckhknbdaaDoor
namespace Rows

/-- THE TIED CARD OF 'quillpresslaw09.SquashTells'. -/
def squashTellsCard : Claim7 := { stood := { row := squashTellsRow, standIns := [], harness := (true, "18612332d5379f9464cfe0432aa25aca87a194259f204768877901c0c945f476"), looks := false }, kinds := [], alts := [], laidByText := true, laidKinds := [.data], laidTests := true, laidLooks := .later }
def SquashTellsCardSaid : Prop := Claim7.holds Tryd.pinned (.plain (OpenSpec.ofChange squashTellsSpec)) squashTellsCard

/-- THE TIED CARD OF 'quillpresslaw09.SquashBack'. -/
def squashBackCard : Claim7 := { stood := { row := squashBackRow, standIns := [], harness := (true, "18612332d5379f9464cfe0432aa25aca87a194259f204768877901c0c945f476"), looks := false }, kinds := [], alts := [], laidByText := true, laidKinds := [.data], laidTests := true, laidLooks := .later }
def SquashBackCardSaid : Prop := Claim7.holds Tryd.pinned (.plain (OpenSpec.ofChange squashBackSpec)) squashBackCard

/-- THE SECOND FORM's CARD OF 'quillpresslaw09.SquashTells'. -/
def squashTellsUptoCard : Claim7 := { stood := { row := squashTellsUptoRow, standIns := [], harness := (true, "18612332d5379f9464cfe0432aa25aca87a194259f204768877901c0c945f476"), looks := false }, kinds := [], alts := [], laidByText := true, laidKinds := [.data], laidTests := true, laidLooks := .later }
def SquashTellsUptoCardSaid : Prop := Claim7.holds Tryd.pinned (.plain (OpenSpec.upto squashTellsSpec)) squashTellsUptoCard

/-- THE SECOND FORM's CARD OF 'quillpresslaw09.SquashBack'. -/
def squashBackUptoCard : Claim7 := { stood := { row := squashBackUptoRow, standIns := [], harness := (true, "18612332d5379f9464cfe0432aa25aca87a194259f204768877901c0c945f476"), looks := false }, kinds := [], alts := [], laidByText := true, laidKinds := [.data], laidTests := true, laidLooks := .later }
def SquashBackUptoCardSaid : Prop := Claim7.holds Tryd.pinned (.plain (OpenSpec.upto squashBackSpec)) squashBackUptoCard
end Rows
end Go.Proofs.YtmdhmmckhknbdaaDoor
