/-
  A blend's own struct and lists in memory; what all walks of a part's functions share.
-/
import Derived.Test.YtkfdbibgjoaefaaDoorUm
import Derived.LaidEqlPtr
import Derived.Deep.RegionHeld3
import Derived.Deep.DeepMust
import Derived.Laws.Rows
namespace Go.Proofs.YtkfdbibgjoaefaaDoor
open Go.RowKit

/-- What a part sees. -/
def mo (h c le n : Nat) : Value := .agg #[.int .u32 h, .int .u32 c, sl le n]
theorem undrew {B : Nat} {w w' : World} (h : Below B w.drew w') : Below B w w' := ⟨h.os, h.tape, h.output, h.size, h.block⟩
theorem unbut {S : Nat → Prop} {w w' : World} (h : But S w.drew w') : But S w w' := ⟨h.os, h.tape, h.output, h.size, h.block⟩
theorem bel2 {w W w1 : World} (b0 : Below w.heap.size w W) (b1 : Below W.heap.size W w1) : Below w.heap.size w w1 := b0.trans (b1.mono b0.size)
theorem bel3 {w W w1 w2 : World} (b0 : Below w.heap.size w W) (b1 : Below W.heap.size W w1) (b2 : Below w1.heap.size w1 w2) : Below w.heap.size w w2 := (b0.trans (b1.mono b0.size)).trans (b2.mono (Nat.le_trans b0.size b1.size))
theorem knk {w w' : World} (b : Below w.heap.size w w') (h : KnIs w) : KnIs w' := h.below b
theorem rok {w w' : World} {d : Nat} {T : TypeId} {n : Nat} {F : Nat → Value} (b : Below w.heap.size w w') (h : Ro w d T n F) : Ro w' d T n F := h.below b
def u32F (h : List Nat) : Nat → Value := fun k => .int .u32 (h.getD k 0 : Nat)
/-- A blend's struct: block g; its parts from pa on, its contexts in ct, its leans in le. -/
structure Bx (w : World) (g pa ct le n cap c : Nat) (v : Nat → Value) (h : List Nat) (L : List Int) : Prop where
  row : w.heap[g]? = some (.cells #[pt g, .slice (some ⟨pa, 0, none⟩) n cap, sl ct n, sl le n, .int .u32 (c : Nat)] 28 (0, 0))
  part : ∀ i, i < n → w.cell? ⟨pa, i, none⟩ = some (v i)
  ctx : Ro w ct 26 n (u32F h)
  lea : Ro w le 3 n (intsF L)
  lenL : L.length = n
  lenH : h.length = n
  one : 1 ≤ n
  most : n ≤ 16
  ne : g ≠ pa ∧ g ≠ ct ∧ g ≠ le ∧ pa ≠ ct ∧ pa ≠ le ∧ ct ≠ le ∧ g ≠ 0 ∧ pa ≠ 0 ∧ ct ≠ 0 ∧ le ≠ 0
section
variable {w w' : World} {g pa ct le n cap c : Nat} {v : Nat → Value} {h : List Nat} {L : List Int} {S : Nat → Prop}
theorem Bx.but (b : Bx w g pa ct le n cap c v h L) (x : But S w w') (h1 : ¬ S g) (h2 : ¬ S pa) (h3 : ¬ S ct) (h4 : ¬ S le) : Bx w' g pa ct le n cap c v h L :=
  ⟨x.heap b.row h1, fun i hi => x.cell (b.part i hi) h2, b.ctx.on x h3, b.lea.on x h4, b.lenL, b.lenH, b.one, b.most, b.ne⟩
theorem Bx.below (b : Bx w g pa ct le n cap c v h L) (x : Below w.heap.size w w') : Bx w' g pa ct le n cap c v h L := b.but (But.of_below (S := fun _ => False) x) id id id id
theorem Bx.drew (b : Bx w g pa ct le n cap c v h L) : Bx w.drew g pa ct le n cap c v h L := b.but ((But.refl (fun _ => False) w).drew) id id id id
theorem Bx.c0 (b : Bx w g pa ct le n cap c v h L) : w.cell? ⟨g, 0, none⟩ = some (.pointer (some ⟨g, 0, none⟩)) := row_cell b.row 0
theorem Bx.c1 (b : Bx w g pa ct le n cap c v h L) : w.cell? ⟨g, 1, none⟩ = some (.slice (some ⟨pa, 0, none⟩) n cap) := row_cell b.row 1
theorem Bx.c2 (b : Bx w g pa ct le n cap c v h L) : w.cell? ⟨g, 2, none⟩ = some (.slice (some ⟨ct, 0, none⟩) n n) := row_cell b.row 2
theorem Bx.c3 (b : Bx w g pa ct le n cap c v h L) : w.cell? ⟨g, 3, none⟩ = some (.slice (some ⟨le, 0, none⟩) n n) := row_cell b.row 3
theorem Bx.c4 (b : Bx w g pa ct le n cap c v h L) : w.cell? ⟨g, 4, none⟩ = some (.int .u32 (c : Nat)) := row_cell b.row 4
theorem Bx.setC (b : Bx w g pa ct le n cap c v h L) (c' : Nat) : Bx (w.setCell ⟨g, 4, none⟩ (.int .u32 (c' : Nat))) g pa ct le n cap c' v h L := by
  have x : But (· = g) w (w.setCell ⟨g, 4, none⟩ (.int .u32 (c' : Nat))) := (But.refl (· = g) w).set ⟨g, 4, none⟩ _ (.inl rfl)
  obtain ⟨n1, n2, n3, _⟩ := b.ne
  exact ⟨row_set b.row 4 _, fun i hi => x.cell (b.part i hi) (Ne.symm n1), b.ctx.on x (Ne.symm n2), b.lea.on x (Ne.symm n3), b.lenL, b.lenH, b.one, b.most, b.ne⟩
theorem Bx.setL (b : Bx w g pa ct le n cap c v h L) {L' : List Int} (x : But (· = le) w w') (r : Ro w' le 3 n (intsF L')) (hl : L'.length = n) : Bx w' g pa ct le n cap c v h L' := by
  obtain ⟨n1, n2, n3, n4, n5, n6, _⟩ := b.ne
  exact ⟨x.heap b.row n3, fun i hi => x.cell (b.part i hi) n5, b.ctx.on x n6, r, hl, b.lenH, b.one, b.most, b.ne⟩
end
theorem Tryd.isPtr23 : Tryd.prog.underlying 23 = some (.pointer 28) := by kernel_rfl
theorem Tryd.has28 : (Tryd.prog.info? 28).isSome = true := by kernel_rfl
theorem ptr_self (a : Addr) (w : World) : (binOp BinOp.eql 23 (.pointer (some a)) (.pointer (some a))).run Tryd.prog w = .ok (.bool true) w := by
  obtain ⟨j, hj⟩ := Option.isSome_iff_exists.1 Tryd.has28
  exact run_eql_ptr_same w a Tryd.isPtr23 hj
theorem ptr_none (a : Addr) (w : World) : (binOp BinOp.eql 23 (.pointer none) (.pointer (some a))).run Tryd.prog w = .ok (.bool false) w := by kernel_rfl
set_option maxRecDepth 10000 in
set_option maxHeartbeats 1000000 in
theorem made_yes (g : Nat) (w : World) (c0 : w.cell? ⟨g, 0, none⟩ = some (.pointer (some ⟨g, 0, none⟩))) : Calls Tryd.prog 16 #[.pointer (some ⟨g, 0, none⟩)] w fun r w' => r = .returned (.bool true) ∧ w = w' := by
  have hp := ptr_self ⟨g, 0, none⟩
  go_enter Tryd.func16, Tryd.ntmps16
  go_wp2_with fail
  go_ret
  exact ⟨rfl, rfl⟩
set_option maxRecDepth 10000 in
set_option maxHeartbeats 1000000 in
theorem made_nil (w : World) : Calls Tryd.prog 16 #[.pointer none] w fun r w' => r = .returned (.bool false) ∧ w = w' := by
  go_enter Tryd.func16, Tryd.ntmps16
  go_wp2_with fail
  go_ret
  exact ⟨rfl, rfl⟩
set_option maxRecDepth 10000 in
set_option maxHeartbeats 1000000 in
theorem made_zero (g : Nat) (w : World) (c0 : w.cell? ⟨g, 0, none⟩ = some (.pointer none)) : Calls Tryd.prog 16 #[.pointer (some ⟨g, 0, none⟩)] w fun r w' => r = .returned (.bool false) ∧ w = w' := by
  have hp := ptr_none ⟨g, 0, none⟩
  go_enter Tryd.func16, Tryd.ntmps16
  go_wp2_with fail
  go_ret
  exact ⟨rfl, rfl⟩
set_option maxRecDepth 10000 in
set_option maxHeartbeats 1000000 in
theorem moment_any {w : World} {g pa ct le n cap c : Nat} {v : Nat → Value} {h : List Nat} {L : List Int} (b : Bx w g pa ct le n cap c v h L) (i : Nat) (hi : i < n) :
    Calls Tryd.prog 18 #[pt g, .int .i64 (i : Nat)] w fun e w' => e = .returned (mo (h.getD i 0) c le n) ∧ Below w.heap.size w w' := by
  have c2 : ∀ o, (w.alloc o).cell? ⟨g, 2, none⟩ = some (.slice (some ⟨ct, 0, none⟩) n n) := fun o => keeps ((Below.refl _ _).alloc (Nat.le_refl _) o) b.c2
  have c3 : ∀ o, (w.alloc o).cell? ⟨g, 3, none⟩ = some (.slice (some ⟨le, 0, none⟩) n n) := fun o => keeps ((Below.refl _ _).alloc (Nat.le_refl _) o) b.c3
  have c4 : ∀ o, (w.alloc o).cell? ⟨g, 4, none⟩ = some (.int .u32 (c : Nat)) := fun o => keeps ((Below.refl _ _).alloc (Nat.le_refl _) o) b.c4
  have x0 : ∀ o, (w.alloc o).cell? ⟨ct, i, none⟩ = some (.int .u32 (h.getD i 0 : Nat)) := fun o => keeps ((Below.refl _ _).alloc (Nat.le_refl _) o) (b.ctx.cell i hi)
  have i0 : (i : Int) < (n : Int) := by omega
  have n16 := b.most
  have n0 : (n : Int) ≤ 16 := by omega
  generalize h.getD i 0 = hh at *
  unfold mo pt sl
  clear b
  go_enter Tryd.func18, Tryd.ntmps18
  go_wp2_with fail
  go_region
  go_wp2_with fail
  refine bodyPost_ret (results_cell_row (by kernel_rfl : Tryd.f18.results = #[.cell 4 55]) _ _ w.heap.size 55 #[.int .u32 hh, .int .u32 c, .slice (some ⟨le, 0, none⟩) n n] (0, 0) _ rfl ?_ Tryd.underlying55 rfl rfl) rfl ⟨rfl, ?_⟩
  · exact heap_alloc_new w _
  · have := (Below.refl w.heap.size w).alloc (Nat.le_refl _) (.cells #[.int .u32 hh, .int .u32 c, .slice (some ⟨le, 0, none⟩) n n] 55)
    exact ⟨this.os, this.tape, this.output, this.size, this.block⟩
end Go.Proofs.YtkfdbibgjoaefaaDoor
