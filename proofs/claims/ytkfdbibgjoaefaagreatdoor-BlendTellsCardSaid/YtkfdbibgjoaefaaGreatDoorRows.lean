/-
  NARROWER THAN 'FOR EVERY INPUT', by the rows' own cells (each row's printed sentence says how): BlendTells: laid.
  DERIVED. THE GIVEN ROWS OF THIS SEAT. 1 by the template 'for every input the law returns true; each argument reads behind the call as it read before'; 0 by the template 'total and deterministic' (their statements: YtkfdbibgjoaefaaGreatDoorTotals.lean).
  GIVEN WITH THE SEED: the statements are not yours to turn. If you find one false, say at which input.
  Laid BY PROGRAM, IN A SANDBOX (cutbox-rows.mjs): the forced cells as the released guide's own fill.sh prints them over the translation 833de38e6001c118… (all of the seat's roots in one cut). By AI agents, Wed Nov 11 2026. No macro, syntax, notation, axiom, sorry.
-/
import Derived.Test.YtkfdbibgjoaefaaGreatDoorChecked
import GoSem.Claim
import GoSem.ClaimJoined
import GoSem.ClaimMapViews
import Derived.JoinedTies
import Derived.KernelRfl
namespace Go.Proofs.YtkfdbibgjoaefaaGreatDoor
/- THE CELL 'sum', in the pinned program and in every row, IS THE sha256 OF THE DUMP (.gsa) THAT YtkfdbibgjoaefaaGreatDoorProg.lean LOADS. Nothing in Lean hashes anything: it is a label: what it is worth is what the hold of that sum in a sandbox is worth. -/
noncomputable def Tryz.pinned : Pinned := { name := "ytkfdbibgjoaefaagreatdoor", sum := "833de38e6001c118d9bd0f1982e49a86f5f6d58b31964816dcf2e9345781dc7f", checked := Tryz.checked }
namespace Rows
def none {H : Type} : Left H := { results := [], args := [] }

/- WHAT THE LISTED PACKAGE-LEVEL VARIABLES READ AS WHEN THE CALL BEGINS. Each datum BY PROGRAM (the guide's laid-datum.mjs) off the statement by which the dump's own 'gosem.cut.vars' lays the variable. In a bare row this is a premise. The card (YtkfdbibgjoaefaaGreatDoorCards.lean) ties it to the program's text. -/
def laid_quillpress_squash_knots {H : Type} : DataW H := .agg [.lit (.int .i64 1), .lit (.int .i64 2), .lit (.int .i64 4), .lit (.int .i64 6), .lit (.int .i64 10), .lit (.int .i64 17), .lit (.int .i64 27), .lit (.int .i64 45), .lit (.int .i64 74), .lit (.int .i64 120), .lit (.int .i64 194), .lit (.int .i64 311), .lit (.int .i64 488), .lit (.int .i64 747), .lit (.int .i64 1102), .lit (.int .i64 1546), .lit (.int .i64 2048), .lit (.int .i64 2550), .lit (.int .i64 2994), .lit (.int .i64 3349), .lit (.int .i64 3608), .lit (.int .i64 3785), .lit (.int .i64 3902), .lit (.int .i64 3976), .lit (.int .i64 4022), .lit (.int .i64 4051), .lit (.int .i64 4069), .lit (.int .i64 4079), .lit (.int .i64 4086), .lit (.int .i64 4090), .lit (.int .i64 4092), .lit (.int .i64 4094), .lit (.int .i64 4095)]

/-- 'quillpresslaw12.BlendTells': WHATEVER THE INPUT: true; the input reads as it did. -/
def blendTellsSpec : ChangeSpec := { name := "blendTells", fn := fun _ => fun
  | [d1, d2] => { results := [.lit (.bool true)], args := [d1, d2] }
  | _ => none }
def blendTellsRow : OpenClaim := { program := "ytkfdbibgjoaefaagreatdoor", sum := "833de38e6001c118d9bd0f1982e49a86f5f6d58b31964816dcf2e9345781dc7f", func := "quillpress/quillpresslaw12.BlendTells", spec := "blendTells", unfollowed := true, recurses := true, named := ["quillpress/squash.knots"], apart := false, laid := [("quillpress/squash.knots", laid_quillpress_squash_knots)] }
def BlendTellsSaid : Prop := blendTellsRow.holds Tryz.pinned (OpenSpec.ofChange blendTellsSpec)

/-- ITS FALSE NEIGHBOUR: 'it returns false'. Refute it at one input. -/
def blendTellsWrong : ChangeSpec := { name := "blendTells", fn := fun _ => fun
  | [d1, d2] => { results := [.lit (.bool false)], args := [d1, d2] }
  | _ => none }
def BlendTellsWrongFalsely : Prop := blendTellsRow.holds Tryz.pinned (OpenSpec.ofChange blendTellsWrong)

/- THE SECOND FORM. 'bulk': how many values and letters a reading holds, each counted each time it is reached (what is shared counts as often as it is met; a slice's spare places count too). A statement '..UptoSaid' is the law's where the arguments, and the package variables that the reading takes, are together of bulk at most 1048576: NARROWER than '..Said'. Prove '..Said' where nothing that the law and all that it calls make is longer than what came in: it says more and counts as full. Else prove '..UptoSaid'. A law counts once. -/
mutual
def uptoBulk {H : Type} : DataW H → Nat
  | .lit (.string bytes) => bytes.length + 1
  | .lit _ => 1
  | .nil => 1
  | .ptr d => uptoBulk d + 1
  | .slice elems spare => uptoBulkAll elems + uptoBulkAll spare + 1
  | .agg parts => uptoBulkAll parts + 1
  | .iface _ d => uptoBulk d + 1
  | .map entries => uptoBulkEntries entries + 1
  | .held _ => 1
def uptoBulkAll {H : Type} : List (DataW H) → Nat
  | [] => 0
  | d :: r => uptoBulk d + uptoBulkAll r
def uptoBulkEntries {H : Type} : List (Lit × DataW H) → Nat
  | [] => 0
  | x :: r => uptoBulkEntry x + uptoBulkEntries r
def uptoBulkEntry {H : Type} : Lit × DataW H → Nat
  | (.string bytes, d) => bytes.length + uptoBulk d + 1
  | (_, d) => uptoBulk d + 1
 end
def uptoSmall : (H : Type) → List (DataW H) → Bool := fun _ ds => decide (uptoBulkAll ds ≤ 1048576)
def OpenSpec.upto (s : _root_.Go.ChangeSpec) : _root_.Go.OpenSpec := { _root_.Go.OpenSpec.ofChange s with cond := some uptoSmall }

/-- 'quillpresslaw12.BlendTells', WHERE WHAT IT READS IS OF BULK AT MOST 1048576: true; the input reads as it did. -/
def blendTellsUptoRow : OpenClaim := { program := "ytkfdbibgjoaefaagreatdoor", sum := "833de38e6001c118d9bd0f1982e49a86f5f6d58b31964816dcf2e9345781dc7f", func := "quillpress/quillpresslaw12.BlendTells", spec := "blendTells", unfollowed := true, recurses := true, named := ["quillpress/squash.knots"], apart := false, laid := [("quillpress/squash.knots", laid_quillpress_squash_knots)], narrowed := true }
def BlendTellsUptoSaid : Prop := blendTellsUptoRow.holds Tryz.pinned (OpenSpec.upto blendTellsSpec)

end Rows
end Go.Proofs.YtkfdbibgjoaefaaGreatDoor
