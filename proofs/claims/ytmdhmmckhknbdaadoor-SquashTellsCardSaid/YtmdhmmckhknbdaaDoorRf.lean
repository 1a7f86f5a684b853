/-
  The contracts of the document's own Knot, Squash and Stretch.
-/
import Derived.Test.YtmdhmmckhknbdaaDoorSq
import Derived.Below
namespace Go.Proofs.YtmdhmmckhknbdaaDoor
open Go.RowKit

theorem kn_at (i : Nat) (hi : i < 33) : (knL.map fun k => Value.int IntKind.i64 (k : Nat))[i]'(by rw [List.length_map]; exact hi) = .int .i64 (kn i : Nat) := by
  rw [List.getElem_map]
  unfold kn
  rw [List.getD_eq_getElem?_getD, List.getElem?_eq_getElem hi]
  rfl
set_option maxRecDepth 10000 in
set_option maxHeartbeats 1000000 in
theorem knot_any (i : Nat) (hi : i < 33) (w : World) : Calls Tryd.prog 10 #[.int .i64 i] w fun e w' => e = .returned (.int .i64 (kn i : Nat)) ∧ Below w.heap.size w w' := by
  have hz : (i : Int) < 33 := by omega
  go_enter Tryd.func10, Tryd.ntmps10
  go_wp2_with fail
  go_ret
  refine ⟨?_, (Below.refl _ _).alloc (Nat.le_refl _) _⟩
  exact congrArg Ending.returned (kn_at i hi)
set_option maxRecDepth 10000 in
set_option maxHeartbeats 1000000 in
theorem refSquash_any (d : Int) (w : World) (h1 : -9223372036854775808 ≤ d) (h2 : d ≤ 9223372036854775807) :
    Calls Tryd.prog 6 #[.int .i64 d] w fun e w' => e = .returned (.int .i64 (sq d)) ∧ Below w.heap.size w w' := by
  by_cases ha : 2047 < d
  · have e : sq d = 4095 := by unfold sq; rw [if_pos ha]
    rw [e]
    go_enter Tryd.func6, Tryd.ntmps6
    go_wp2_with fail
    go_ret
    exact ⟨rfl, Below.refl _ _⟩
  · by_cases hb : d < -2047
    · have e : sq d = 1 := by unfold sq; rw [if_neg ha, if_pos hb]
      rw [e]
      go_enter Tryd.func6, Tryd.ntmps6
      go_wp2_with fail
      go_ret
      exact ⟨rfl, Below.refl _ _⟩
    · obtain ⟨q, hq⟩ : ∃ q, q = (d + 2048).toNat / 128 := ⟨_, rfl⟩
      obtain ⟨r, hr⟩ : ∃ r, r = (d + 2048).toNat % 128 := ⟨_, rfl⟩
      have hq33 : q < 32 := by omega
      have e : sq d = (((kn q * (128 - r) + kn (q + 1) * r + 64) / 128 : Nat) : Int) := by
        unfold sq sqN; rw [if_neg ha, if_neg hb, hq, hr]
      have b1 := kn_high q (by omega)
      have b2 := kn_high (q + 1) (by omega)
      have K1 := hid (fun w => knot_any q (by omega) w)
      have K2 := hid (fun w => knot_any (q + 1) (by omega) w)
      rw [e]
      generalize kn q = a at b1 K1 ⊢
      generalize kn (q + 1) = b at b2 K2 ⊢
      have b3 : r < 128 := by omega
      obtain ⟨n, hn⟩ : ∃ n : Nat, d + 2048 = (n : Int) := ⟨(d + 2048).toNat, by omega⟩
      have hn2 : n ≤ 4095 := by omega
      have hq1 : (n : Int) / 128 = (q : Int) := by omega
      have hr1 : (n : Int) % 128 = (r : Int) := by omega
      clear e hq hr
      go_enter Tryd.func6, Tryd.ntmps6
      go_wp2_with fail
      refine (K1.out w).mono ?_
      rintro e w1 ⟨rfl, B1⟩
      go_wp2_with fail
      refine (K2.out w1).mono ?_
      rintro e w2 ⟨rfl, B2⟩
      go_wp2_with fail
      go_ret
      exact ⟨ret_i64 (sum_eq a b r b1 b2 b3), B1.trans (B2.mono B1.size)⟩
/-- Nothing ahead of d reaches p. -/
def Ahead (p d : Int) : Prop := ∀ x, -2047 ≤ x → x < d → sq x < p
theorem Ahead.least {p d : Int} (h : Ahead p d) : d ≤ stz p ∨ stz p = 2047 := by
  have r := stz_range p
  by_cases e : stz p < d
  · have h1 := h _ r.1 e
    rcases lst_hit p 4094 (-2047) with h4 | h4
    · have : p ≤ sq (stz p) := h4
      omega
    · have : stz p = -2047 + ((4094 : Nat) : Int) := h4
      omega
  · omega
set_option maxRecDepth 10000 in
set_option maxHeartbeats 1000000 in
theorem refStretch_any (p : Int) (w : World) :
    Calls Tryd.prog 8 #[.int .i64 p] w fun e w' => e = .returned (.int .i64 (stz p)) ∧ Below w.heap.size w w' := by
  go_enter Tryd.func8, Tryd.ntmps8
  go_wp2_with fail
  go_loopw [3] (fun vd wr => ∃ d : Int, vd = .int .i64 d ∧ -2047 ≤ d ∧ d ≤ 2047 ∧ Ahead p d ∧ Below w.heap.size w wr) (fun vd _ => (2047 - intOf vd).toNat)
  case atStart => exact ⟨-2047, rfl, by omega, by omega, fun x h1 h2 => by omega, Below.refl _ _⟩
  case round =>
    obtain ⟨d, rfl, h1, h2, ha, hb⟩ := hrel
    have HA := hid ha
    clear ha
    have r := stz_range p
    by_cases hlt : d < 2047
    · have HS := hid (refSquash_any d wr (by omega) (by omega))
      by_cases hp : p ≤ sq d
      · have e : stz p = d := by
          have e1 := stz_le p d h1 hp
          rcases HA.out.least with e2 | e2 <;> omega
        have Hp := hid hp
        go_wp2_with fail
        refine HS.out.mono ?_
        rintro e w' ⟨rfl, B⟩
        go_wp2_with fail
        go_ret
        exact ⟨ret_i64 (by omega), hb.trans (B.mono hb.size)⟩
      · have hp2 : sq d < p := by omega
        go_wp2_with fail
        refine HS.out.mono ?_
        rintro e w' ⟨rfl, B⟩
        go_wp2_with fail
        go_roundw
        case rel => exact ⟨d + 1, rfl, by omega, by omega, fun x h3 h4 => by
          by_cases ex : x = d
          · rw [ex]; omega
          · exact HA.out x h3 (by omega), hb.trans (B.mono hb.size)⟩
        case measure => simp [intOf]; omega
    · have e : stz p = 2047 := by rcases HA.out.least with e2 | e2 <;> omega
      go_wp2_with fail
      go_ret
      exact ⟨ret_i64 (by omega), hb⟩
end Go.Proofs.YtmdhmmckhknbdaaDoor
