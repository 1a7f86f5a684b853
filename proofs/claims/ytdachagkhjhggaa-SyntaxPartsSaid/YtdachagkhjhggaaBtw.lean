/-
  Ranges asked by closures; a line of the table; is an instruction right, how long is it.
-/
import Derived.Test.YtdachagkhjhggaaBas
import Derived.Test.YtdachagkhjhggaaCde
import Derived.WalkKit
import Derived.WalkSpells
import Derived.WalkLawsBesides
import Derived.RegionTactic
import Derived.BigRegion
import Derived.BigQuiet
import Derived.Laws.Rows
import Derived.Below
import Derived.Shelf.Abstract
import Derived.IntWalk
namespace Go.Proofs.Ytdachagkhjhggaa
open Go.RowKit

theorem Below.drewN (B : Nat) (w : World) (n : Nat) : Below B w (w.drewN n) := ⟨rfl, rfl, rfl, Nat.le_refl _, fun _ _ => rfl⟩
/-- A closure that asks whether a number is from a to b. -/
def Bt (w : World) (f : Value) (a b : Int) : Prop := ∃ g1 g2, f = .func (.func 34) #[] #[.pointer (some ⟨g1, 0, none⟩), .pointer (some ⟨g2, 0, none⟩)] ∧ w.cell? ⟨g1, 0, none⟩ = some (.int .i64 a) ∧ w.cell? ⟨g2, 0, none⟩ = some (.int .i64 b)
theorem lt_cell {w : World} {p : Addr} {v : Value} (h : w.cell? p = some v) : p.block < w.heap.size := by
  unfold World.cell? at h
  rcases Nat.lt_or_ge p.block w.heap.size with hlt | hge
  · exact hlt
  · rw [Array.getElem?_eq_none hge] at h; simp at h
theorem keeps {w w' : World} {p : Addr} {v : Value} (hb : Below w.heap.size w w') (h : w.cell? p = some v) : w'.cell? p = some v := (hb.cell (lt_cell h)).trans h
theorem Bt.below {w w' : World} {f : Value} {a b : Int} (h : Bt w f a b) (hb : Below w.heap.size w w') : Bt w' f a b := by
  obtain ⟨g1, g2, rfl, h1, h2⟩ := h
  exact ⟨g1, g2, rfl, (hb.cell (lt_cell h1)).trans h1, (hb.cell (lt_cell h2)).trans h2⟩
set_option maxRecDepth 10000 in
theorem asks_any (w : World) (g1 g2 : Nat) (a b n : Int) (h1 : w.cell? ⟨g1, 0, none⟩ = some (.int .i64 a)) (h2 : w.cell? ⟨g2, 0, none⟩ = some (.int .i64 b)) :
    Calls Try.prog 34 #[.int .i64 n, .pointer (some ⟨g1, 0, none⟩), .pointer (some ⟨g2, 0, none⟩)] w fun e w' => e = .returned (.bool (decide (inn n a b))) ∧ w' = w := by
  by_cases h : a ≤ n
  · by_cases h' : n ≤ b
    · have e : decide (inn n a b) = true := decide_eq_true ⟨h, h'⟩
      rw [e]
      go_enter Try.func34, Try.ntmps34
      go_wp2_with fail
      go_ret
      exact ⟨rfl, rfl⟩
    · have e : decide (inn n a b) = false := decide_eq_false (fun hh => h' hh.2)
      rw [e]
      go_enter Try.func34, Try.ntmps34
      go_wp2_with fail
      go_ret
      exact ⟨rfl, rfl⟩
  · have e : decide (inn n a b) = false := decide_eq_false (fun hh => h hh.1)
    rw [e]
    go_enter Try.func34, Try.ntmps34
    go_wp2_with fail
    go_ret
    exact ⟨rfl, rfl⟩
theorem asks_T (w : World) (g1 g2 : Nat) (a b n : Int) (T : Bool) (e : decide (inn n a b) = T) (h1 : w.cell? ⟨g1, 0, none⟩ = some (.int .i64 a)) (h2 : w.cell? ⟨g2, 0, none⟩ = some (.int .i64 b)) :
    Calls Try.prog 34 #[.int .i64 n, .pointer (some ⟨g1, 0, none⟩), .pointer (some ⟨g2, 0, none⟩)] w fun e w' => e = .returned (.bool T) ∧ w' = w := by
  rw [← e]
  exact asks_any w g1 g2 a b n h1 h2
set_option maxRecDepth 10000 in
theorem between_any (a b : Int) (w : World) :
    Calls Try.prog 28 #[.int .i64 a, .int .i64 b] w fun e w' => ∃ f, e = .returned f ∧ Bt w' f a b ∧ Below w.heap.size w w' := by
  go_enter Try.func28, Try.ntmps28
  go_wp2_with fail
  go_ret
  exact ⟨_, rfl, ⟨_, _, rfl, by go_simp, by go_simp⟩, ((Below.refl _ _).alloc (Nat.le_refl _) _).alloc (by simp) _⟩
/-- An instruction as a value. -/
def vI (o d s n : Int) : Value := .agg #[.int .u8 o, .int .i64 d, .int .i64 s, .int .i64 n]
def vR (d s n b : Int) : Value := .agg #[.int .i64 d, .int .i64 s, .int .i64 n, .int .i64 b]
set_option maxRecDepth 10000 in
theorem reck_any (o : Int) (w : World) : Calls Try.prog 33 #[.int .u8 o] w fun e w' => e = .returned (.bool (decide (reck o))) ∧ w' = w := by
  by_cases h : 8 ≤ o
  · by_cases h' : o ≤ 21
    · rw [show decide (reck o) = true from decide_eq_true ⟨h, h'⟩]
      go_enter Try.func33, Try.ntmps33
      go_wp2_with fail
      go_ret
      exact ⟨rfl, rfl⟩
    · rw [show decide (reck o) = false from decide_eq_false (fun hh => h' hh.2)]
      go_enter Try.func33, Try.ntmps33
      go_wp2_with fail
      go_ret
      exact ⟨rfl, rfl⟩
  · rw [show decide (reck o) = false from decide_eq_false (fun hh => h hh.1)]
    go_enter Try.func33, Try.ntmps33
    go_wp2_with fail
    go_ret
    exact ⟨rfl, rfl⟩
end Go.Proofs.Ytdachagkhjhggaa
