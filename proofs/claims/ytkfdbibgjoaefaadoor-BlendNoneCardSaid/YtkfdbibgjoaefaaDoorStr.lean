/-
  The contract of Stretch: the least place, found by halving.
-/
import Derived.Test.YtkfdbibgjoaefaaDoorSq
import Derived.Shelf.Abstract
import Derived.BigQuiet
import Derived.Below
namespace Go.Proofs.YtkfdbibgjoaefaaDoor
open Go.RowKit

theorem KnIs.drewN {w : World} (h : KnIs w) (m : Nat) : KnIs (w.drewN m) := fun i hi => by
  have := h i hi
  simpa using this
set_option maxRecDepth 10000 in
set_option maxHeartbeats 1000000 in
theorem clo_any (i : Nat) (p : Int) (g : Nat) (w : World) (hk : KnIs w) (hc : w.cell? ⟨g, 0, none⟩ = some (.int .i64 p)) (hi : i < 4094) :
    Calls Tryd.prog 28 #[.int .i64 i, .pointer (some ⟨g, 0, none⟩)] w fun e w' => e = .returned (.bool (decide (p ≤ sq ((i : Int) - 2047)))) ∧ ∃ m, w' = w.drewN m := by
  have hiz : (i : Int) < 4094 := by omega
  have HS : ∀ n, Calls Tryd.prog 20 #[.int .i64 ((i : Int) - 2047)] (w.drewN n) fun e w'' => e = .returned (.int .i64 (sq ((i : Int) - 2047))) ∧ ∃ m, w'' = w.drewN m := fun n =>
    (squash_any _ _ (hk.drewN n) (by omega) (by omega)).mono fun e w'' ⟨h1, m, h2⟩ => ⟨h1, n + m, by rw [h2, World.drewN_drewN]⟩
  have hr := sq_range ((i : Int) - 2047)
  go_enter Tryd.func28, Tryd.ntmps28
  go_wp2_with fail
  go_quiet (with_reducible exact HS _)
  go_wp2_with fail
  go_ret
  exact ⟨by first | rfl | simp, _, rfl⟩
/-- What halving has found so far. -/
structure SeSt (p : Int) (i j : Nat) : Prop where
  le : i ≤ j
  top : j ≤ 4094
  low : 0 < i → sq ((i : Int) - 1 - 2047) < p
  high : j < 4094 → p ≤ sq ((j : Int) - 2047)
theorem SeSt.done {p : Int} {i : Nat} (s : SeSt p i i) : stz p = (i : Int) - 2047 := by
  have r := stz_range p
  have ht := s.top
  have h1 : stz p ≤ (i : Int) - 2047 := by
    by_cases h : i < 4094
    · exact stz_le p _ (by omega) (s.high h)
    · omega
  by_cases h : stz p < (i : Int) - 2047
  · have h2 := s.low (by omega)
    have h3 := sq_mono (stz p) ((i : Int) - 1 - 2047) (by omega)
    rcases lst_hit p 4094 (-2047) with h4 | h4
    · have : p ≤ sq (stz p) := h4
      omega
    · have : stz p = -2047 + ((4094 : Nat) : Int) := h4
      omega
  · omega
set_option maxRecDepth 10000 in
set_option maxHeartbeats 1000000 in
theorem search_any (p : Int) (g : Nat) (w : World) (hk : KnIs w) (hc : w.cell? ⟨g, 0, none⟩ = some (.int .i64 p)) :
    Calls Tryd.prog 27 #[.int .i64 4094, .func (.func 28) #[] #[.pointer (some ⟨g, 0, none⟩)]] w fun e w' => e = .returned (.int .i64 (stz p + 2047)) ∧ ∃ m, w' = w.drewN m := by
  have he : ∀ args w, (callFunc 28 args).run Tryd.prog w = .ok (.enter 28 args) w := enters_of Tryd.func28 (by kernel_rfl) rfl
  go_enter Tryd.func27, Tryd.ntmps27
  go_wp2_with fail
  go_loopw [5, 6] (fun vi vj wr => ∃ i j m : Nat, vi = .int .i64 i ∧ vj = .int .i64 j ∧ wr = w.drewN m ∧ SeSt p i j) (fun vi vj _ => (intOf vj - intOf vi).toNat)
  case atStart => exact ⟨0, 4094, 0, rfl, rfl, rfl, ⟨by omega, by omega, fun h => by omega, fun h => by omega⟩⟩
  case round =>
    obtain ⟨i, j, m, rfl, rfl, rfl, hs⟩ := hrel
    have h1 := hs.le
    have h2 := hs.top
    by_cases hlt : i < j
    · obtain ⟨h, hh⟩ : ∃ h, h = (i + j) / 2 := ⟨_, rfl⟩
      have hz : (i : Int) < (j : Int) := by omega
      have hh1 : ((i : Int) + (j : Int)) / 2 = (h : Int) := by omega
      have hi4 : h < 4094 := by omega
      have Hh := hid hh
      clear hh
      have HC := hid (clo_any h p g (w.drewN m) (hk.drewN m) (by simpa using hc) hi4)
      by_cases hp : p ≤ sq ((h : Int) - 2047)
      · have hd : decide (p ≤ sq ((h : Int) - 2047)) = true := by simp [hp]
        go_wp2_with fail
        refine HC.out.mono ?_
        rintro e w' ⟨rfl, m', rfl⟩
        go_wp2_with fail
        go_roundw
        case rel => exact ⟨i, h, m + m', rfl, rfl, rfl, ⟨by omega, by omega, hs.low, fun _ => hp⟩⟩
        case measure => simp [intOf]; omega
      · have hd : decide (p ≤ sq ((h : Int) - 2047)) = false := by simp [hp]
        go_wp2_with fail
        refine HC.out.mono ?_
        rintro e w' ⟨rfl, m', rfl⟩
        go_wp2_with fail
        go_roundw
        case rel => exact ⟨h + 1, j, m + m', by go_num, rfl, rfl, ⟨by omega, h2, fun _ => by rw [show (((h + 1 : Nat) : Int) - 1 - 2047) = (h : Int) - 2047 by omega]; omega, hs.high⟩⟩
        case measure => simp [intOf]; omega
    · obtain rfl : i = j := by omega
      have e := hs.done
      have e2 : stz p + 2047 = (i : Int) := by omega
      clear e
      go_wp2_with fail
      go_ret
      exact ⟨ret_i64 e2.symm, m, rfl⟩
theorem Below.drewN (B : Nat) (w : World) (n : Nat) : Below B w (w.drewN n) := ⟨rfl, rfl, rfl, Nat.le_refl _, fun _ _ => rfl⟩
theorem KnIs.below {w w' : World} (h : KnIs w) (b : Below w.heap.size w w') : KnIs w' := fun i hi => by
  have h0 := h i hi
  have : (⟨0, i, none⟩ : Addr).block < w.heap.size := by
    rcases Nat.lt_or_ge 0 w.heap.size with hlt | hge
    · exact hlt
    · unfold World.cell? at h0
      rw [Array.getElem?_eq_none hge] at h0
      simp at h0
  unfold World.cell? at h0 ⊢
  rw [b.block 0 this]
  exact h0
set_option maxRecDepth 10000 in
set_option maxHeartbeats 1000000 in
theorem stretch_any (p : Int) (w : World) (hk : KnIs w) :
    Calls Tryd.prog 23 #[.int .i64 p] w fun e w' => e = .returned (.int .i64 (stz p)) ∧ Below w.heap.size w w' := by
  have hr := stz_range p
  go_enter Tryd.func23, Tryd.ntmps23
  go_wp2_with fail
  have b1 : Below w.heap.size w (w.alloc (Obj.cells #[Value.int IntKind.i64 p] 3)) := (Below.refl _ _).alloc (Nat.le_refl _) _
  refine (search_any p w.heap.size _ (hk.below b1) (by simp)).mono ?_
  rintro e w' ⟨rfl, m, rfl⟩
  go_wp2_with fail
  go_ret
  exact ⟨ret_i64 (by omega), b1.trans (Below.drewN _ _ _)⟩
end Go.Proofs.YtkfdbibgjoaefaaDoor
