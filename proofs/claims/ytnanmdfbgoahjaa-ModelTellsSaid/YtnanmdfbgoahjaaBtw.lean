/-
  Ranges asked by closures: between, what it makes, sizes; within and most, the document's.
-/
import Derived.Test.YtnanmdfbgoahjaaProg
import Derived.Test.YtnanmdfbgoahjaaPrn
import Derived.WalkKit
import Derived.WalkSpells
import Derived.WalkLawsBesides
import Derived.RegionTactic
import Derived.BigRegion
import Derived.BigQuiet
import Derived.Laws.Rows
import Derived.Below
import Derived.Shelf.Abstract
import Derived.IntWalk
namespace Go.Proofs.Ytnanmdfbgoahjaa
open Go.RowKit

theorem hid {p : Prop} (h : p) : RowKit.Hid p := h
theorem Below.drewN (B : Nat) (w : World) (n : Nat) : Below B w (w.drewN n) := ⟨rfl, rfl, rfl, Nat.le_refl _, fun _ _ => rfl⟩
/-- A closure that asks whether a number is from a to b. -/
def Bt (w : World) (f : Value) (a b : Int) : Prop := ∃ g1 g2, f = .func (.func 42) #[] #[.pointer (some ⟨g1, 0, none⟩), .pointer (some ⟨g2, 0, none⟩)] ∧ w.cell? ⟨g1, 0, none⟩ = some (.int .i64 a) ∧ w.cell? ⟨g2, 0, none⟩ = some (.int .i64 b)
theorem lt_cell {w : World} {p : Addr} {v : Value} (h : w.cell? p = some v) : p.block < w.heap.size := by
  unfold World.cell? at h
  rcases Nat.lt_or_ge p.block w.heap.size with hlt | hge
  · exact hlt
  · rw [Array.getElem?_eq_none hge] at h; simp at h
theorem keeps {w w' : World} {p : Addr} {v : Value} (hb : Below w.heap.size w w') (h : w.cell? p = some v) : w'.cell? p = some v := (hb.cell (lt_cell h)).trans h
theorem Bt.below {w w' : World} {f : Value} {a b : Int} (h : Bt w f a b) (hb : Below w.heap.size w w') : Bt w' f a b := by
  obtain ⟨g1, g2, rfl, h1, h2⟩ := h
  exact ⟨g1, g2, rfl, (hb.cell (lt_cell h1)).trans h1, (hb.cell (lt_cell h2)).trans h2⟩
set_option maxRecDepth 10000 in
theorem asks_any (w : World) (g1 g2 : Nat) (a b n : Int) (h1 : w.cell? ⟨g1, 0, none⟩ = some (.int .i64 a)) (h2 : w.cell? ⟨g2, 0, none⟩ = some (.int .i64 b)) :
    Calls Try.prog 42 #[.int .i64 n, .pointer (some ⟨g1, 0, none⟩), .pointer (some ⟨g2, 0, none⟩)] w fun e w' => e = .returned (.bool (decide (inn n a b))) ∧ w' = w := by
  unfold inn
  by_cases h : a ≤ n
  · by_cases h' : n ≤ b
    · have e : decide (a ≤ n ∧ n ≤ b) = true := decide_eq_true ⟨h, h'⟩
      rw [e]
      go_enter Try.func42, Try.ntmps42
      go_wp2_with fail
      go_ret
      exact ⟨rfl, rfl⟩
    · have e : decide (a ≤ n ∧ n ≤ b) = false := decide_eq_false (fun hh => h' hh.2)
      rw [e]
      go_enter Try.func42, Try.ntmps42
      go_wp2_with fail
      go_ret
      exact ⟨rfl, rfl⟩
  · have e : decide (a ≤ n ∧ n ≤ b) = false := decide_eq_false (fun hh => h hh.1)
    rw [e]
    go_enter Try.func42, Try.ntmps42
    go_wp2_with fail
    go_ret
    exact ⟨rfl, rfl⟩
set_option maxRecDepth 10000 in
theorem between_any (a b : Int) (w : World) :
    Calls Try.prog 37 #[.int .i64 a, .int .i64 b] w fun e w' => ∃ f, e = .returned f ∧ Bt w' f a b ∧ Below w.heap.size w w' := by
  go_enter Try.func37, Try.ntmps37
  go_wp2_with fail
  go_ret
  exact ⟨_, rfl, ⟨_, _, rfl, by go_simp, by go_simp⟩, ((Below.refl _ _).alloc (Nat.le_refl _) _).alloc (by simp) _⟩
def leastS (k : Int) : Int := if k = 4 then 4 else 0
def mostS (k : Int) : Int := if k = 2 ∨ k = 3 ∨ k = 4 ∨ k = 6 ∨ k = 8 then 16 else if k = 7 then 12 else if k = 9 then 10 else 0
set_option maxRecDepth 10000 in
theorem sizes_any (k : Int) (w : World) :
    Calls Try.prog 36 #[.int .u8 k] w fun e w' => ∃ f, e = .returned f ∧ Bt w' f (leastS k) (mostS k) ∧ Below w.heap.size w w' := by
  have H0 := hid (fun a b w => between_any a b w)
  have fin : ∀ a b, leastS k = a → mostS k = b → ∀ (f : Value) (w' : World), Bt w' f a b → Below w.heap.size w w' → ∃ f', Ending.returned f = .returned f' ∧ Bt w' f' (leastS k) (mostS k) ∧ Below w.heap.size w w' := by
    intro a b h1 h2 f w' h3 h4
    rw [h1, h2]
    exact ⟨f, rfl, h3, h4⟩
  have FIN := hid fin
  clear fin
  rcases (by omega : k = 2 ∨ k = 3 ∨ k = 6 ∨ k = 8 ∨ k = 4 ∨ k = 7 ∨ k = 9 ∨ (k ≠ 2 ∧ k ≠ 3 ∧ k ≠ 6 ∧ k ≠ 8 ∧ k ≠ 4 ∧ k ≠ 7 ∧ k ≠ 9)) with h | h | h | h | h | h | h | ⟨h1, h2, h3, h4, h5, h6, h7⟩
  iterate 7
    · subst h
      go_enter Try.func36, Try.ntmps36
      go_wp2_with fail
      refine (H0.out _ _ _).mono ?_
      rintro e w1 ⟨f, rfl, h1, b1⟩
      go_wp2_with fail
      go_ret
      exact FIN.out _ _ rfl rfl _ _ h1 b1
  · have HF := hid (FIN.out 0 0 (by unfold leastS; rw [if_neg h5]) (by unfold mostS; rw [if_neg (by omega), if_neg h6, if_neg h7]))
    go_enter Try.func36, Try.ntmps36
    go_wp2_with fail
    refine (H0.out _ _ _).mono ?_
    rintro e w1 ⟨f, rfl, h1, b1⟩
    go_wp2_with fail
    go_ret
    exact HF.out _ _ h1 b1
end Go.Proofs.Ytnanmdfbgoahjaa
