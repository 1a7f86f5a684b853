/-
  DERIVED. GIVEN WITH THE SEED: THE CARDS: each row of YtkfdbibgjoaefaaGreatDoorRows.lean that lists a variable, with what it lists TIED to the program's text (the seventh form; the later family's looks); each row that meets fmt, with fmt's text TOLD by the authors' own Lean function (tested against real Go, not proved from fmt's source: count such statements apart). THE CARD IS WHAT COUNTS. Prove the row's statement (the work); the ties are given (YtkfdbibgjoaefaaGreatDoorTie.lean); close each card by the builder's one call (the guide's Derived/Test/ToyasCard.lean, 'card_holds'). Laid BY PROGRAM, IN A SANDBOX (cutbox-door.mjs). By AI agents, Wed Nov 11 2026. No macro, syntax, notation, axiom, sorry.
-/
import Derived.Test.YtkfdbibgjoaefaaGreatDoorRows
import GoSem.ClaimSeven
namespace Go.Proofs.YtkfdbibgjoaefaaGreatDoor
namespace Rows

/-- THE TIED CARD OF 'quillpresslaw12.BlendTells'. -/
def blendTellsCard : Claim7 := { stood := { row := blendTellsRow, standIns := [], harness := (true, "4b8cc9dc624ec335539d26a3244618b60592ddd91a23a0f58612f642ed3c76af"), looks := false }, kinds := [], alts := [], laidByText := true, laidKinds := [.data], laidTests := true, laidLooks := .later }
def BlendTellsCardSaid : Prop := Claim7.holds Tryz.pinned (.plain (OpenSpec.ofChange blendTellsSpec)) blendTellsCard

/-- THE SECOND FORM's CARD OF 'quillpresslaw12.BlendTells'. -/
def blendTellsUptoCard : Claim7 := { stood := { row := blendTellsUptoRow, standIns := [], harness := (true, "4b8cc9dc624ec335539d26a3244618b60592ddd91a23a0f58612f642ed3c76af"), looks := false }, kinds := [], alts := [], laidByText := true, laidKinds := [.data], laidTests := true, laidLooks := .later }
def BlendTellsUptoCardSaid : Prop := Claim7.holds Tryz.pinned (.plain (OpenSpec.upto blendTellsSpec)) blendTellsUptoCard
end Rows
end Go.Proofs.YtkfdbibgjoaefaaGreatDoor
