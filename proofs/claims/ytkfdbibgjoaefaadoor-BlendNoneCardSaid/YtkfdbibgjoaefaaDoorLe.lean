/-
  How many bits a number below 512 has; Bits.
-/
import Derived.Test.YtkfdbibgjoaefaaDoorBx
import Derived.Lib.Tables
import Derived.Lib.BitFns
namespace Go.Proofs.YtkfdbibgjoaefaaDoor
open Go.RowKit

theorem tab8 : ∀ j : Fin 256, (Lib.len8tab[j.val]'(by rw [Lib.len8tab_size]; exact j.isLt)).toNat = Lib.bitLen j.val := by decide +kernel
theorem tab8_at (c : Nat) (h : c < Lib.len8tab.size) : (Lib.len8tab[c]'h).toNat = Lib.bitLen c := tab8 ⟨c, by rw [Lib.len8tab_size] at h; exact h⟩
theorem bl_le : ∀ c : Fin 512, Lib.bitLen c.val ≤ 9 ∧ (256 ≤ c.val → Lib.bitLen c.val = 9) := by decide +kernel
theorem bl_at : ∀ b : Fin 9, ∀ c : Fin 512, 2 ^ b.val ≤ c.val → c.val < 2 ^ (b.val + 1) → Lib.bitLen c.val = b.val + 1 := by decide +kernel
theorem w64_small : ∀ j : Fin 10, wrap64 (wrap64 ((j.val : Nat) : Int)) = (j.val : Nat) := by decide +kernel
theorem w64_at (k : Nat) (h : k ≤ 9) : wrap64 (wrap64 (k : Int)) = (k : Int) := w64_small ⟨k, by omega⟩
set_option maxRecDepth 1000000 in
set_option maxHeartbeats 4000000 in
theorem len_any (c : Nat) (h : c < 512) (w : World) : Calls Tryd.prog 21 #[.int .u32 (c : Nat)] w fun e w' => e = .returned (.int .i64 (Lib.bitLen c : Nat)) ∧ w = w' := by
  have hb := bl_le ⟨c, h⟩
  simp only at hb
  by_cases h8 : c < 256
  · have z1 : ¬ (65536 : Int) ≤ (c : Int) := by omega
    have z2 : ¬ (256 : Int) ≤ (c : Int) := by omega
    have z3 : (c : Int) % 256 = (c : Int) := by omega
    have z4 : (c : Int) < 256 := by omega
    have z5 : c < Lib.len8tab.size := by rw [Lib.len8tab_size]; exact h8
    go_enter Tryd.func21, Tryd.ntmps21
    go_wp2_with fail
    go_ret
    exact ⟨by show Ending.returned (Value.int .i64 (wrap64 (wrap64 _))) = _; rw [tab8_at, w64_at _ hb.1], rfl⟩
  · have z1 : ¬ (65536 : Int) ≤ (c : Int) := by omega
    have z2 : (256 : Int) ≤ (c : Int) := by omega
    have z3 : (c : Int) / 256 = 1 := by omega
    have z5 : Lib.bitLen c = 9 := hb.2 (by omega)
    rw [z5]
    have z6 : Lib.len8tab[1]!.toNat = 1 := by decide +kernel
    go_enter Tryd.func21, Tryd.ntmps21
    go_wp2_with fail
    go_ret
    exact ⟨by rw [show wrap64 (8 + wrap64 (Lib.len8 1)) = 9 from by decide +kernel]; rfl, rfl⟩
set_option maxRecDepth 10000 in
set_option maxHeartbeats 1000000 in
theorem Bits_any {w : World} {g pa ct le n cap c : Nat} {v : Nat → Value} {h : List Nat} {L : List Int} (b : Bx w g pa ct le n cap c v h L) (hc : c < 512) (k : Nat) (hk : k ≤ 8) (h1 : 2 ^ k ≤ c) (h2 : c < 2 ^ (k + 1)) :
    Calls Tryd.prog 9 #[pt g] w fun e w' => e = .returned (.int .i64 (k : Nat)) ∧ w = w' := by
  have c0 := b.c0
  have c4 := b.c4
  have HM := hid (made_yes g w c0)
  have HL := hid (len_any c hc w)
  have hb := bl_at ⟨k, by omega⟩ ⟨c, hc⟩ h1 h2
  simp only at hb
  rw [hb] at HL
  have e : ((k + 1 : Nat) : Int) - 1 = (k : Int) := by omega
  clear b hb h1 h2
  unfold pt
  go_enter Tryd.func9, Tryd.ntmps9
  go_wp2_with fail
  refine HM.out.mono ?_
  rintro r w1 ⟨rfl, rfl⟩
  go_wp2_with fail
  refine HL.out.mono ?_
  rintro r w1 ⟨rfl, rfl⟩
  go_wp2_with fail
  go_ret
  refine ⟨?_, rfl⟩
  congr 2
end Go.Proofs.YtkfdbibgjoaefaaDoor
