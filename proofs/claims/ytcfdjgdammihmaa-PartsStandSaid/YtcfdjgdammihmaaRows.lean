/-
  No cell of these rows narrows 'for every input' (looked for: loops, veiled, ifaces, maps, wideKeys, modest, calm, conditions, laid).
  DERIVED. THE GIVEN ROWS OF THIS SEAT. 2 by the template 'for every input the law returns true; each argument reads behind the call as it read before'; 0 by the template 'total and deterministic' (their statements: YtcfdjgdammihmaaTotals.lean).
  GIVEN WITH THE SEED: the statements are not yours to turn. If you find one false, say at which input.
  Laid BY PROGRAM, IN A SANDBOX (cutbox-rows.mjs): the forced cells as the released guide's own fill.sh prints them over the translation 6ff7a7c398c9e13a… (all of the seat's roots in one cut). By AI agents, Wed Nov 11 2026. No macro, syntax, notation, axiom, sorry.
-/
import Derived.Test.YtcfdjgdammihmaaChecked
import GoSem.Claim
import GoSem.ClaimJoined
import GoSem.ClaimMapViews
import Derived.JoinedTies
import Derived.KernelRfl
namespace Go.Proofs.Ytcfdjgdammihmaa
/- THE CELL 'sum', in the pinned program and in every row, IS THE sha256 OF THE DUMP (.gsa) THAT YtcfdjgdammihmaaProg.lean LOADS. Nothing in Lean hashes anything: it is a label: what it is worth is what the hold of that sum in a sandbox is worth. -/
noncomputable def Try.pinned : Pinned := { name := "ytcfdjgdammihmaa", sum := "6ff7a7c398c9e13adffbdeaf498d48a6cf25aaf0b5cf33f66fee1da1b28ea3d2", checked := Try.checked }
namespace Rows
def none {H : Type} : Left H := { results := [], args := [] }

/-- 'quillpresslaw11.PartsTell': WHATEVER THE INPUT: true; the input reads as it did. -/
def partsTellSpec : ChangeSpec := { name := "partsTell", fn := fun _ => fun
  | [d] => { results := [.lit (.bool true)], args := [d] }
  | _ => none }
def partsTellRow : OpenClaim := { program := "ytcfdjgdammihmaa", sum := "6ff7a7c398c9e13adffbdeaf498d48a6cf25aaf0b5cf33f66fee1da1b28ea3d2", func := "quillpress/quillpresslaw11.PartsTell", spec := "partsTell", unfollowed := true, recurses := true, apart := false }
def PartsTellSaid : Prop := partsTellRow.holds Try.pinned (OpenSpec.ofChange partsTellSpec)

/-- ITS FALSE NEIGHBOUR: 'it returns false'. Refute it at one input. -/
def partsTellWrong : ChangeSpec := { name := "partsTell", fn := fun _ => fun
  | [d] => { results := [.lit (.bool false)], args := [d] }
  | _ => none }
def PartsTellWrongFalsely : Prop := partsTellRow.holds Try.pinned (OpenSpec.ofChange partsTellWrong)

/-- 'quillpresslaw11.PartsStand': WHATEVER THE INPUT: true; the input reads as it did. -/
def partsStandSpec : ChangeSpec := { name := "partsStand", fn := fun _ => fun
  | [d] => { results := [.lit (.bool true)], args := [d] }
  | _ => none }
def partsStandRow : OpenClaim := { program := "ytcfdjgdammihmaa", sum := "6ff7a7c398c9e13adffbdeaf498d48a6cf25aaf0b5cf33f66fee1da1b28ea3d2", func := "quillpress/quillpresslaw11.PartsStand", spec := "partsStand", unfollowed := true, recurses := true, apart := false }
def PartsStandSaid : Prop := partsStandRow.holds Try.pinned (OpenSpec.ofChange partsStandSpec)

/-- ITS FALSE NEIGHBOUR: 'it returns false'. Refute it at one input. -/
def partsStandWrong : ChangeSpec := { name := "partsStand", fn := fun _ => fun
  | [d] => { results := [.lit (.bool false)], args := [d] }
  | _ => none }
def PartsStandWrongFalsely : Prop := partsStandRow.holds Try.pinned (OpenSpec.ofChange partsStandWrong)

/- THE SECOND FORM. 'bulk': how many values and letters a reading holds, each counted each time it is reached (what is shared counts as often as it is met; a slice's spare places count too). A statement '..UptoSaid' is the law's where the arguments, and the package variables that the reading takes, are together of bulk at most 1048576: NARROWER than '..Said'. Prove '..Said' where nothing that the law and all that it calls make is longer than what came in: it says more and counts as full. Else prove '..UptoSaid'. A law counts once. -/
mutual
def uptoBulk {H : Type} : DataW H → Nat
  | .lit (.string bytes) => bytes.length + 1
  | .lit _ => 1
  | .nil => 1
  | .ptr d => uptoBulk d + 1
  | .slice elems spare => uptoBulkAll elems + uptoBulkAll spare + 1
  | .agg parts => uptoBulkAll parts + 1
  | .iface _ d => uptoBulk d + 1
  | .map entries => uptoBulkEntries entries + 1
  | .held _ => 1
def uptoBulkAll {H : Type} : List (DataW H) → Nat
  | [] => 0
  | d :: r => uptoBulk d + uptoBulkAll r
def uptoBulkEntries {H : Type} : List (Lit × DataW H) → Nat
  | [] => 0
  | x :: r => uptoBulkEntry x + uptoBulkEntries r
def uptoBulkEntry {H : Type} : Lit × DataW H → Nat
  | (.string bytes, d) => bytes.length + uptoBulk d + 1
  | (_, d) => uptoBulk d + 1
 end
def uptoSmall : (H : Type) → List (DataW H) → Bool := fun _ ds => decide (uptoBulkAll ds ≤ 1048576)
def OpenSpec.upto (s : _root_.Go.ChangeSpec) : _root_.Go.OpenSpec := { _root_.Go.OpenSpec.ofChange s with cond := some uptoSmall }

/-- 'quillpresslaw11.PartsTell', WHERE WHAT IT READS IS OF BULK AT MOST 1048576: true; the input reads as it did. -/
def partsTellUptoRow : OpenClaim := { program := "ytcfdjgdammihmaa", sum := "6ff7a7c398c9e13adffbdeaf498d48a6cf25aaf0b5cf33f66fee1da1b28ea3d2", func := "quillpress/quillpresslaw11.PartsTell", spec := "partsTell", unfollowed := true, recurses := true, apart := false, narrowed := true }
def PartsTellUptoSaid : Prop := partsTellUptoRow.holds Try.pinned (OpenSpec.upto partsTellSpec)

/-- 'quillpresslaw11.PartsStand', WHERE WHAT IT READS IS OF BULK AT MOST 1048576: true; the input reads as it did. -/
def partsStandUptoRow : OpenClaim := { program := "ytcfdjgdammihmaa", sum := "6ff7a7c398c9e13adffbdeaf498d48a6cf25aaf0b5cf33f66fee1da1b28ea3d2", func := "quillpress/quillpresslaw11.PartsStand", spec := "partsStand", unfollowed := true, recurses := true, apart := false, narrowed := true }
def PartsStandUptoSaid : Prop := partsStandUptoRow.holds Try.pinned (OpenSpec.upto partsStandSpec)

end Rows
end Go.Proofs.Ytcfdjgdammihmaa
