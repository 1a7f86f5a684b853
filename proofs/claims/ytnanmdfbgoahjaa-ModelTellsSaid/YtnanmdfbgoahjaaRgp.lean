/-
  Right, the program's.
-/
import Derived.Test.YtnanmdfbgoahjaaFtt
namespace Go.Proofs.Ytnanmdfbgoahjaa
open Go.RowKit

set_option maxRecDepth 10000 in
set_option maxHeartbeats 4000000 in
theorem Right_any (A : Option Addr) (n c : Nat) (L : List Pt) (w : World) (h : IsP w w.heap.size A n c L) :
    Calls Try.prog 28 #[.slice A n c] w fun e w' => e = .returned (.int .i64 (rightP L)) ∧ Below w.heap.size w w' := by
  have hm := h.max
  have hcp := h.cap
  have hlen := h.len
  unfold maxLen at hm
  by_cases h1 : n < 1
  · have hr : rightP L = 100 := if_pos (.inl (by omega))
    rw [hr]
    have z1 : (n : Int) < 1 := by omega
    clear h hlen
    go_enter Try.func28, Try.ntmps28
    go_wp2_with fail
    go_ret
    exact ⟨rfl, Below.refl _ _⟩
  by_cases h2 : 16 < n
  · have hr : rightP L = 100 := if_pos (.inr (by omega))
    rw [hr]
    have z1 : ¬ (n : Int) < 1 := by omega
    have z2 : (16 : Int) < (n : Int) := by omega
    clear h hlen
    go_enter Try.func28, Try.ntmps28
    go_wp2_with fail
    go_ret
    exact ⟨rfl, Below.refl _ _⟩
  have z1 : ¬ (n : Int) < 1 := by omega
  have z2 : ¬ (16 : Int) < (n : Int) := by omega
  have hr0 : rightP L = if ¬ allOne L then 100 else if 1048576 < memP L then 101 else 0 := if_neg (by omega)
  have HR := hid hr0
  clear hr0
  go_enter Try.func28, Try.ntmps28
  go_wp2_with fail
  go_loopw [15] (fun vi wr => ∃ i : Nat, i ≤ n ∧ vi = .int .i64 i ∧ (∀ k (hk : k < L.length), k < i → L[k].one k) ∧ Below w.heap.size w wr) (fun vi _ => n - (intOf vi).toNat)
  case atStart => exact ⟨0, Nat.zero_le _, rfl, fun k hk h0 => absurd h0 (by omega), Below.refl _ _⟩
  case round =>
    obtain ⟨i, hi, rfl, hall, hw⟩ := hrel
    have HA := hid hall
    clear hall
    by_cases hgo : i < n
    · have hz : (i : Int) < (n : Int) := by omega
      obtain ⟨ad, p, rfl, hl, hp, a1⟩ := h.at i hgo
      obtain ⟨k0, k1, k2, k3, k4, k5, k6⟩ := a1.below hw (by rw [block_of_add]; exact hl)
      have hL : i < L.length := by rw [h.len]; exact hgo
      have hpe : L[i] = p := by
        rw [List.getElem?_eq_getElem hL] at hp
        injection hp
      have HPe := hid hpe
      have HP := hid (fun w => fits_any p (i : Nat) (by omega) (by omega) w)
      unfold vPt vP at HP
      by_cases ho : p.one (i : Nat)
      · rw [decide_eq_true ho] at HP
        have HN : Hid (∀ k (hk : k < L.length), k < i + 1 → L[k].one k) := by
          intro k hk hki
          rcases Nat.lt_or_ge k i with hlt | hge
          · exact HA.out k hk hlt
          · obtain rfl : k = i := by omega
            rw [hpe]; exact ho
        clear hp a1 h ho hpe
        go_wp2_with fail
        refine (HP.out _).mono ?_
        rintro e w2 ⟨rfl, b2⟩
        have B2 : Below w.heap.size w w2 := (hw.alloc hw.size _).trans (b2.mono (by have := hw.size; simp; omega))
        go_wp2_with fail
        go_roundw
        case rel => exact ⟨i + 1, by omega, by go_num, HN.out, B2⟩
        case measure => simp [intOf]; omega
      · rw [decide_eq_false ho] at HP
        have hr : rightP L = 100 := by
          rw [HR.out, if_pos]
          intro ha
          exact ho (hpe ▸ ha i hL)
        have HR2 := hid hr
        clear hp a1 h ho hpe hr
        go_wp2_with fail
        refine (HP.out _).mono ?_
        rintro e w2 ⟨rfl, b2⟩
        have B2 : Below w.heap.size w w2 := (hw.alloc hw.size _).trans (b2.mono (by have := hw.size; simp; omega))
        go_wp2_with fail
        go_ret
        exact ⟨ret_int HR2.out.symm, B2⟩
    · obtain rfl : i = n := by omega
      have hall : allOne L := fun k hk => HA.out k hk (by omega)
      rw [if_neg (fun x => x hall)] at HR
      have HM := hid (fun w h => Memory_any A i c L w h (by omega))
      have hI := h.below hw
      have hM : Calls Try.prog 33 #[.slice A i c] wr fun e w' => e = .returned (.int .i64 (memP L)) ∧ Below wr.heap.size wr w' := HM.out wr ⟨hI.len, hI.cap, hI.max, fun h0 => by
        obtain ⟨ad, e, hl, ha⟩ := hI.lies h0
        exact ⟨ad, e, Nat.lt_of_lt_of_le hl hw.size, ha⟩⟩
      have HM2 := hid hM
      obtain ⟨q, hq⟩ : ∃ q, memP L = q := ⟨_, rfl⟩
      rw [hq] at HM2
      rw [hq] at HR
      clear HM hM hI h hq
      by_cases hb : 1048576 < q
      · rw [if_pos hb] at HR
        go_wp2_with fail
        refine HM2.out.mono ?_
        rintro e w2 ⟨rfl, b2⟩
        go_wp2_with fail
        go_ret
        exact ⟨ret_int HR.out.symm, hw.trans (b2.mono hw.size)⟩
      · rw [if_neg hb] at HR
        go_wp2_with fail
        refine HM2.out.mono ?_
        rintro e w2 ⟨rfl, b2⟩
        go_wp2_with fail
        go_ret
        exact ⟨ret_int HR.out.symm, hw.trans (b2.mono hw.size)⟩
end Go.Proofs.Ytnanmdfbgoahjaa
