/-
  NARROWER THAN 'FOR EVERY INPUT', by the rows' own cells (each row's printed sentence says how): SquashTells: laid · SquashBack: laid.
  DERIVED. THE GIVEN ROWS OF THIS SEAT. 2 by the template 'for every input the law returns true; each argument reads behind the call as it read before'; 0 by the template 'total and deterministic' (their statements: YtmdhmmckhknbdaaDoorTotals.lean).
  GIVEN WITH THE SEED: the statements are not yours to turn. If you find one false, say at which input.
  Laid BY PROGRAM, IN A SANDBOX (cutbox-rows.mjs): the forced cells as the released guide's own fill.sh prints them over the translation 280fef19f8a59a23… (all of the seat's roots in one cut). By AI agents, Wed Nov 11 2026. No macro, syntax, notation, axiom, sorry.
-/
import Derived.Test.YtmdhmmckhknbdaaDoorChecked
import GoSem.Claim
import GoSem.ClaimJoined
import GoSem.ClaimMapViews
import Derived.JoinedTies
import Derived.KernelRfl
namespace Go.Proofs.YtmdhmmckhknbdaaDoor
/- THE CELL 'sum', in the pinned program and in every row, IS THE sha256 OF THE DUMP (.gsa) THAT YtmdhmmckhknbdaaDoorProg.lean LOADS. Nothing in Lean hashes anything: it is a label: what it is worth is what the hold of that sum in a sandbox is worth. -/
noncomputable def Tryd.pinned : Pinned := { name := "ytmdhmmckhknbdaadoor", sum := "280fef19f8a59a2342b8ff22664b269b5f7ba3698f9033a5651c5fe884762a80", checked := Tryd.checked }
namespace Rows
def none {H : Type} : Left H := { results := [], args := [] }

/- WHAT THE LISTED PACKAGE-LEVEL VARIABLES READ AS WHEN THE CALL BEGINS. Each datum BY PROGRAM (the guide's laid-datum.mjs) off the statement by which the dump's own 'gosem.cut.vars' lays the variable. In a bare row this is a premise. The card (YtmdhmmckhknbdaaDoorCards.lean) ties it to the program's text. -/
def laid_quillpress_squash_knots {H : Type} : DataW H := .agg [.lit (.int .i64 1), .lit (.int .i64 2), .lit (.int .i64 4), .lit (.int .i64 6), .lit (.int .i64 10), .lit (.int .i64 17), .lit (.int .i64 27), .lit (.int .i64 45), .lit (.int .i64 74), .lit (.int .i64 120), .lit (.int .i64 194), .lit (.int .i64 311), .lit (.int .i64 488), .lit (.int .i64 747), .lit (.int .i64 1102), .lit (.int .i64 1546), .lit (.int .i64 2048), .lit (.int .i64 2550), .lit (.int .i64 2994), .lit (.int .i64 3349), .lit (.int .i64 3608), .lit (.int .i64 3785), .lit (.int .i64 3902), .lit (.int .i64 3976), .lit (.int .i64 4022), .lit (.int .i64 4051), .lit (.int .i64 4069), .lit (.int .i64 4079), .lit (.int .i64 4086), .lit (.int .i64 4090), .lit (.int .i64 4092), .lit (.int .i64 4094), .lit (.int .i64 4095)]

/-- 'quillpresslaw09.SquashTells': WHATEVER THE INPUT: true; the input reads as it did. -/
def squashTellsSpec : ChangeSpec := { name := "squashTells", fn := fun _ => fun
  | [d1, d2] => { results := [.lit (.bool true)], args := [d1, d2] }
  | _ => none }
def squashTellsRow : OpenClaim := { program := "ytmdhmmckhknbdaadoor", sum := "280fef19f8a59a2342b8ff22664b269b5f7ba3698f9033a5651c5fe884762a80", func := "quillpress/quillpresslaw09.SquashTells", spec := "squashTells", unfollowed := true, recurses := true, named := ["quillpress/squash.knots"], apart := false, laid := [("quillpress/squash.knots", laid_quillpress_squash_knots)] }
def SquashTellsSaid : Prop := squashTellsRow.holds Tryd.pinned (OpenSpec.ofChange squashTellsSpec)

/-- ITS FALSE NEIGHBOUR: 'it returns false'. Refute it at one input. -/
def squashTellsWrong : ChangeSpec := { name := "squashTells", fn := fun _ => fun
  | [d1, d2] => { results := [.lit (.bool false)], args := [d1, d2] }
  | _ => none }
def SquashTellsWrongFalsely : Prop := squashTellsRow.holds Tryd.pinned (OpenSpec.ofChange squashTellsWrong)

/-- 'quillpresslaw09.SquashBack': WHATEVER THE INPUT: true; the input reads as it did. -/
def squashBackSpec : ChangeSpec := { name := "squashBack", fn := fun _ => fun
  | [d1, d2] => { results := [.lit (.bool true)], args := [d1, d2] }
  | _ => none }
def squashBackRow : OpenClaim := { program := "ytmdhmmckhknbdaadoor", sum := "280fef19f8a59a2342b8ff22664b269b5f7ba3698f9033a5651c5fe884762a80", func := "quillpress/quillpresslaw09.SquashBack", spec := "squashBack", unfollowed := true, recurses := true, named := ["quillpress/squash.knots"], apart := false, laid := [("quillpress/squash.knots", laid_quillpress_squash_knots)] }
def SquashBackSaid : Prop := squashBackRow.holds Tryd.pinned (OpenSpec.ofChange squashBackSpec)

/-- ITS FALSE NEIGHBOUR: 'it returns false'. Refute it at one input. -/
def squashBackWrong : ChangeSpec := { name := "squashBack", fn := fun _ => fun
  | [d1, d2] => { results := [.lit (.bool false)], args := [d1, d2] }
  | _ => none }
def SquashBackWrongFalsely : Prop := squashBackRow.holds Tryd.pinned (OpenSpec.ofChange squashBackWrong)

/- THE SECOND FORM. 'bulk': how many values and letters a reading holds, each counted each time it is reached (what is shared counts as often as it is met; a slice's spare places count too). A statement '..UptoSaid' is the law's where the arguments, and the package variables that the reading takes, are together of bulk at most 1048576: NARROWER than '..Said'. Prove '..Said' where nothing that the law and all that it calls make is longer than what came in: it says more and counts as full. Else prove '..UptoSaid'. A law counts once. -/
mutual
def uptoBulk {H : Type} : DataW H → Nat
  | .lit (.string bytes) => bytes.length + 1
  | .lit _ => 1
  | .nil => 1
  | .ptr d => uptoBulk d + 1
  | .slice elems spare => uptoBulkAll elems + uptoBulkAll spare + 1
  | .agg parts => uptoBulkAll parts + 1
  | .iface _ d => uptoBulk d + 1
  | .map entries => uptoBulkEntries entries + 1
  | .held _ => 1
def uptoBulkAll {H : Type} : List (DataW H) → Nat
  | [] => 0
  | d :: r => uptoBulk d + uptoBulkAll r
def uptoBulkEntries {H : Type} : List (Lit × DataW H) → Nat
  | [] => 0
  | x :: r => uptoBulkEntry x + uptoBulkEntries r
def uptoBulkEntry {H : Type} : Lit × DataW H → Nat
  | (.string bytes, d) => bytes.length + uptoBulk d + 1
  | (_, d) => uptoBulk d + 1
 end
def uptoSmall : (H : Type) → List (DataW H) → Bool := fun _ ds => decide (uptoBulkAll ds ≤ 1048576)
def OpenSpec.upto (s : _root_.Go.ChangeSpec) : _root_.Go.OpenSpec := { _root_.Go.OpenSpec.ofChange s with cond := some uptoSmall }

/-- 'quillpresslaw09.SquashTells', WHERE WHAT IT READS IS OF BULK AT MOST 1048576: true; the input reads as it did. -/
def squashTellsUptoRow : OpenClaim := { program := "ytmdhmmckhknbdaadoor", sum := "280fef19f8a59a2342b8ff22664b269b5f7ba3698f9033a5651c5fe884762a80", func := "quillpress/quillpresslaw09.SquashTells", spec := "squashTells", unfollowed := true, recurses := true, named := ["quillpress/squash.knots"], apart := false, laid := [("quillpress/squash.knots", laid_quillpress_squash_knots)], narrowed := true }
def SquashTellsUptoSaid : Prop := squashTellsUptoRow.holds Tryd.pinned (OpenSpec.upto squashTellsSpec)

/-- 'quillpresslaw09.SquashBack', WHERE WHAT IT READS IS OF BULK AT MOST 1048576: true; the input reads as it did. -/
def squashBackUptoRow : OpenClaim := { program := "ytmdhmmckhknbdaadoor", sum := "280fef19f8a59a2342b8ff22664b269b5f7ba3698f9033a5651c5fe884762a80", func := "quillpress/quillpresslaw09.SquashBack", spec := "squashBack", unfollowed := true, recurses := true, named := ["quillpress/squash.knots"], apart := false, laid := [("quillpress/squash.knots", laid_quillpress_squash_knots)], narrowed := true }
def SquashBackUptoSaid : Prop := squashBackUptoRow.holds Tryd.pinned (OpenSpec.upto squashBackSpec)

end Rows
end Go.Proofs.YtmdhmmckhknbdaaDoor
