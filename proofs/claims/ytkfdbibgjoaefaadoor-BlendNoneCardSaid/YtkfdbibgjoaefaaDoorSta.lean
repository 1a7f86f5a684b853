/-
  The contracts of Counts, Next and Chance: the states' plain functions.
-/
import Derived.Test.YtkfdbibgjoaefaaDoorStr
import Derived.Test.YtkfdbibgjoaefaaDoorStn
import Derived.WalkKit
import Derived.WalkSpells
import Derived.WalkLawsBesides
import Derived.RegionTactic
import Derived.BigRegion
import Derived.BigQuiet
import Derived.Laws.Rows
import Derived.Below
namespace Go.Proofs.YtkfdbibgjoaefaaDoor
open Go.RowKit

theorem ret_u8 {a b : Int} (h : a = b) : Ending.returned (.int .u8 a) = .returned (.int .u8 b) := by rw [h]
def Is (v : Value) (e : Ending) (w w' : World) : Prop := e = .returned v ∧ ∃ m, w' = w.drewN m
theorem Is.below {v : Value} {e : Ending} {w w' : World} (h : Is v e w w') : e = .returned v ∧ Below w.heap.size w w' := by
  obtain ⟨h1, m, rfl⟩ := h
  exact ⟨h1, Below.drewN _ _ _⟩
set_option maxRecDepth 10000 in
theorem counts_any (s : Nat) (hs : s < 256) (w : World) :
    Calls Tryd.prog 46 #[.int .u8 s] w fun e w' => e = .returned (.tuple #[.int .i64 (s / 16 : Nat), .int .i64 (s % 16 : Nat)]) ∧ w' = w := by
  obtain ⟨a, ha⟩ : ∃ a, a = s / 16 := ⟨_, rfl⟩
  obtain ⟨b, hb⟩ : ∃ b, b = s % 16 := ⟨_, rfl⟩
  rw [← ha, ← hb]
  have ha1 : (s : Int) / 16 = (a : Int) := by omega
  have hb1 : (s : Int) % 16 = (b : Int) := by omega
  have la : a < 16 := by omega
  have lb : b < 16 := by omega
  clear ha hb
  go_enter Tryd.func46, Tryd.ntmps46
  go_wp2_with fail
  go_ret2
  exact ⟨rfl, rfl⟩
set_option maxRecDepth 10000 in
theorem state_any (a b : Nat) (ha : a < 16) (hb : b < 16) (w : World) :
    Calls Tryd.prog 77 #[.int .i64 a, .int .i64 b] w fun e w' => e = .returned (.int .u8 (a * 16 + b : Nat)) ∧ ∃ m, w' = w.drewN m := by
  have az : (a : Int) < 16 := by omega
  have bz : (b : Int) < 16 := by omega
  go_enter Tryd.func77, Tryd.ntmps77
  go_wp2_with fail
  go_ret
  exact ⟨ret_u8 (by omega), 0, rfl⟩
set_option maxRecDepth 10000 in
theorem oth_any (g1 g2 g3 a b : Nat) (bit : Int) (ha : a < 16) (hb : b < 16) (w : World) (c1 : w.cell? ⟨g1, 0, none⟩ = some (.int .i64 b)) (c2 : w.cell? ⟨g2, 0, none⟩ = some (.int .i64 bit))
    (c3 : w.cell? ⟨g3, 0, none⟩ = some (.int .i64 a)) :
    Calls Tryd.prog 76 #[.pointer (some ⟨g1, 0, none⟩), .pointer (some ⟨g2, 0, none⟩), .pointer (some ⟨g3, 0, none⟩)] w fun e w' =>
      e = .returned (.int .i64 (othN (if bit = 0 then b else a) : Nat)) ∧ ∃ m, w' = w.drewN m := by
  by_cases h0 : bit = 0
  · rw [if_pos h0]
    subst h0
    obtain ⟨h, hh⟩ : ∃ h, b / 2 = h := ⟨_, rfl⟩
    have hz : (b : Int) / 2 = (h : Int) := by omega
    by_cases h2 : b ≤ 2
    · have h2z : (b : Int) ≤ 2 := by omega
      have e : othN b = b := if_pos h2
      rw [e]
      clear hh hz e
      go_enter Tryd.func76, Tryd.ntmps76
      go_wp2_with fail
      go_ret
      exact ⟨rfl, 0, rfl⟩
    · have h2z : ¬ (b : Int) ≤ 2 := by omega
      have e : othN b = h + 1 := by unfold othN; rw [if_neg h2, hh]
      rw [e]
      have hl : h < 16 := by omega
      clear hh e
      go_enter Tryd.func76, Tryd.ntmps76
      go_wp2_with fail
      go_ret
      exact ⟨ret_i64 (by omega), 0, rfl⟩
  · rw [if_neg h0]
    obtain ⟨h, hh⟩ : ∃ h, a / 2 = h := ⟨_, rfl⟩
    have hz : (a : Int) / 2 = (h : Int) := by omega
    by_cases h2 : a ≤ 2
    · have h2z : (a : Int) ≤ 2 := by omega
      have e : othN a = a := if_pos h2
      rw [e]
      clear hh hz e
      go_enter Tryd.func76, Tryd.ntmps76
      go_wp2_with fail
      go_ret
      exact ⟨rfl, 0, rfl⟩
    · have h2z : ¬ (a : Int) ≤ 2 := by omega
      have e : othN a = h + 1 := by unfold othN; rw [if_neg h2, hh]
      rw [e]
      have hl : h < 16 := by omega
      clear hh e
      go_enter Tryd.func76, Tryd.ntmps76
      go_wp2_with fail
      go_ret
      exact ⟨ret_i64 (by omega), 0, rfl⟩
end Go.Proofs.YtkfdbibgjoaefaaDoor
