/-
  DERIVED. GIVEN WITH THE SEED: THE CARDS: each row of YtkfdbibgjoaefaaDoorRows.lean that lists a variable, with what it lists TIED to the program's text (the seventh form; the later family's looks); each row that meets fmt, with fmt's text TOLD by the authors' own Lean function (tested against real Go, not proved from fmt's source: count such statements apart). THE CARD IS WHAT COUNTS. Prove the row's statement (the work); the ties are given (YtkfdbibgjoaefaaDoorTie.lean); close each card by the builder's one call (the guide's Derived/Test/ToyasCard.lean, 'card_holds'). Laid BY PROGRAM, IN A SANDBOX (cutbox-door.mjs). By AI agents, Wed Nov 11 2026. No macro, syntax, notation, axiom, sorry.
-/
import Derived.Test.YtkfdbibgjoaefaaDoorRows
import GoSem.ClaimSeven
namespace Go.Proofs.YtkfdbibgjoaefaaDoor
namespace Rows

/-- THE TIED CARD OF 'quillpresslaw12.BlendNone'. -/
def blendNoneCard : Claim7 := { stood := { row := blendNoneRow, standIns := [], harness := (true, "2a188ad0932ffc05274fbf256ef039e8dcb36fe3c66419c05d9b1686f11f3db7"), looks := false }, kinds := [], alts := [], laidByText := true, laidKinds := [.data], laidTests := true, laidLooks := .later }
def BlendNoneCardSaid : Prop := Claim7.holds Tryd.pinned (.plain (OpenSpec.ofChange blendNoneSpec)) blendNoneCard

/-- THE TIED CARD OF 'quillpresslaw12.BlendSame'. -/
def blendSameCard : Claim7 := { stood := { row := blendSameRow, standIns := [], harness := (true, "2a188ad0932ffc05274fbf256ef039e8dcb36fe3c66419c05d9b1686f11f3db7"), looks := false }, kinds := [], alts := [], laidByText := true, laidKinds := [.data], laidTests := true, laidLooks := .later }
def BlendSameCardSaid : Prop := Claim7.holds Tryd.pinned (.plain (OpenSpec.ofChange blendSameSpec)) blendSameCard

/-- THE TIED CARD OF 'quillpresslaw12.BlendLearns'. -/
def blendLearnsCard : Claim7 := { stood := { row := blendLearnsRow, standIns := [], harness := (true, "2a188ad0932ffc05274fbf256ef039e8dcb36fe3c66419c05d9b1686f11f3db7"), looks := false }, kinds := [], alts := [], laidByText := true, laidKinds := [.data], laidTests := true, laidLooks := .later }
def BlendLearnsCardSaid : Prop := Claim7.holds Tryd.pinned (.plain (OpenSpec.ofChange blendLearnsSpec)) blendLearnsCard

/-- THE SECOND FORM's CARD OF 'quillpresslaw12.BlendNone'. -/
def blendNoneUptoCard : Claim7 := { stood := { row := blendNoneUptoRow, standIns := [], harness := (true, "2a188ad0932ffc05274fbf256ef039e8dcb36fe3c66419c05d9b1686f11f3db7"), looks := false }, kinds := [], alts := [], laidByText := true, laidKinds := [.data], laidTests := true, laidLooks := .later }
def BlendNoneUptoCardSaid : Prop := Claim7.holds Tryd.pinned (.plain (OpenSpec.upto blendNoneSpec)) blendNoneUptoCard

/-- THE SECOND FORM's CARD OF 'quillpresslaw12.BlendSame'. -/
def blendSameUptoCard : Claim7 := { stood := { row := blendSameUptoRow, standIns := [], harness := (true, "2a188ad0932ffc05274fbf256ef039e8dcb36fe3c66419c05d9b1686f11f3db7"), looks := false }, kinds := [], alts := [], laidByText := true, laidKinds := [.data], laidTests := true, laidLooks := .later }
def BlendSameUptoCardSaid : Prop := Claim7.holds Tryd.pinned (.plain (OpenSpec.upto blendSameSpec)) blendSameUptoCard

/-- THE SECOND FORM's CARD OF 'quillpresslaw12.BlendLearns'. -/
def blendLearnsUptoCard : Claim7 := { stood := { row := blendLearnsUptoRow, standIns := [], harness := (true, "2a188ad0932ffc05274fbf256ef039e8dcb36fe3c66419c05d9b1686f11f3db7"), looks := false }, kinds := [], alts := [], laidByText := true, laidKinds := [.data], laidTests := true, laidLooks := .later }
def BlendLearnsUptoCardSaid : Prop := Claim7.holds Tryd.pinned (.plain (OpenSpec.upto blendLearnsSpec)) blendLearnsUptoCard
end Rows
end Go.Proofs.YtkfdbibgjoaefaaDoor
