/-
  Merged: At.
-/
import Derived.Test.YtkfdbibgjoaefaaGreatDoorMg01
import Derived.Laws.BitsAllLaws
/-
  The contracts of a table's 'at': the entries of the context's place.
-/
namespace Go.Proofs.YtkfdbibgjoaefaaGreatDoor
open Go.RowKit

set_option maxRecDepth 10000 in
set_option maxHeartbeats 1000000 in
theorem at_o (d h c s wide n m mc : Nat) (A : Option Addr) (w : World) (hh : h < 4294967296) (hc : c < 256) (hs : s ≤ 16) (hw : 1 ≤ wide ∧ wide ≤ 32) (hn : n = wide * 2 ^ s) :
    Calls Tryz.prog 101 #[.agg #[.int .i64 s, .int .i64 wide, .slice (some ⟨d, 0, none⟩) n n], .agg #[.int .u32 h, .int .u32 c, .slice A m mc]] w fun e w' =>
      e = .returned (.slice (some ⟨d, placeN h c s * wide * 2, none⟩) wide (n - placeN h c s * wide)) ∧ Below w.heap.size w w' := by
  have hk := placeN_lt h c s (by omega) (by omega)
  have hn1 : n ≤ 32 * 65536 := by
    rw [hn]
    exact Nat.mul_le_mul hw.2 (by have := Nat.pow_le_pow_right (n := 2) (by decide) hs; simpa using this)
  obtain ⟨X, hX⟩ : ∃ X, h ^^^ (c * 40503) = X := ⟨_, rfl⟩
  have e1 : bits BinOp.xor IntKind.u32 (h : Int) ((c : Int) * 40503) = (X : Int) := by
    rw [show (c : Int) * 40503 = ((c * 40503 : Nat) : Int) from by omega, u32_xor_nat h (c * 40503) hh (by omega), hX]
  obtain ⟨x, hx⟩ : ∃ x, X * 2654435761 % 4294967296 = x := ⟨_, rfl⟩
  have e2 : (X : Int) * 2654435761 % 4294967296 = (x : Int) := by omega
  have hx1 : x < 4294967296 := by omega
  obtain ⟨k, hk1⟩ : ∃ k, placeN h c s = k := ⟨_, rfl⟩
  have e3 : (x : Int) / 2 ^ (32 - s) = (k : Int) := by
    rw [← hk1]
    unfold placeN
    rw [Nat.mod_eq_of_lt (by omega : c * 40503 < 4294967296), hX, hx]
    split
    next e =>
      have : s = 0 := by omega
      subst this
      rw [show (2 : Int) ^ (32 - 0) = 4294967296 from by decide]
      omega
    next e =>
      rw [show (32 - (s : Int)).toNat = 32 - s from by omega, Int.natCast_ediv]
      congr 1
  rw [hk1] at hk ⊢
  have hk2 : k < 65536 := by
    have := Nat.pow_le_pow_right (n := 2) (by decide) hs
    rw [show (s : Int).toNat = s from by omega] at hk
    omega
  obtain ⟨q, hq⟩ : ∃ q, k * wide = q := ⟨_, rfl⟩
  have e4 : (k : Int) * (wide : Int) = (q : Int) := by rw [← hq, Int.natCast_mul]
  have hq1 : q + wide ≤ n := by
    rw [hn, ← hq, ← Nat.succ_mul, Nat.mul_comm wide]
    exact Nat.mul_le_mul_right _ (by rw [show (s : Int).toNat = s from by omega] at hk; omega)
  have e5 : q + wide - q = wide := by omega
  obtain ⟨hw1, hw2⟩ := hw
  have z1 : (q : Int) + (wide : Int) ≤ (n : Int) := by omega
  rw [hq]
  clear hX hx hk1 hk hn hq
  have hl : (n : Int) ≤ 2097152 := by omega
  go_enter Tryz.func101, Tryz.ntmps101
  go_wp2_with fail
  go_quiet (fail)
  go_wp2_with fail
  go_ret
  exact ⟨by simp [e5], (((Below.refl _ _).alloc (Nat.le_refl _) _).alloc (by simp) _).trans (Below.drewN _ _ _)⟩
set_option maxRecDepth 10000 in
set_option maxHeartbeats 1000000 in
theorem at_b (d h c s wide n m mc : Nat) (A : Option Addr) (w : World) (hh : h < 4294967296) (hc : c < 256) (hs : s ≤ 16) (hw : 1 ≤ wide ∧ wide ≤ 32) (hn : n = wide * 2 ^ s) :
    Calls Tryz.prog 106 #[.agg #[.int .i64 s, .int .i64 wide, .slice (some ⟨d, 0, none⟩) n n], .agg #[.int .u32 h, .int .u32 c, .slice A m mc]] w fun e w' =>
      e = .returned (.slice (some ⟨d, placeN h c s * wide, none⟩) wide (n - placeN h c s * wide)) ∧ Below w.heap.size w w' := by
  have hk := placeN_lt h c s (by omega) (by omega)
  have hn1 : n ≤ 32 * 65536 := by
    rw [hn]
    exact Nat.mul_le_mul hw.2 (by have := Nat.pow_le_pow_right (n := 2) (by decide) hs; simpa using this)
  obtain ⟨X, hX⟩ : ∃ X, h ^^^ (c * 40503) = X := ⟨_, rfl⟩
  have e1 : bits BinOp.xor IntKind.u32 (h : Int) ((c : Int) * 40503) = (X : Int) := by
    rw [show (c : Int) * 40503 = ((c * 40503 : Nat) : Int) from by omega, u32_xor_nat h (c * 40503) hh (by omega), hX]
  obtain ⟨x, hx⟩ : ∃ x, X * 2654435761 % 4294967296 = x := ⟨_, rfl⟩
  have e2 : (X : Int) * 2654435761 % 4294967296 = (x : Int) := by omega
  have hx1 : x < 4294967296 := by omega
  obtain ⟨k, hk1⟩ : ∃ k, placeN h c s = k := ⟨_, rfl⟩
  have e3 : (x : Int) / 2 ^ (32 - s) = (k : Int) := by
    rw [← hk1]
    unfold placeN
    rw [Nat.mod_eq_of_lt (by omega : c * 40503 < 4294967296), hX, hx]
    split
    next e =>
      have : s = 0 := by omega
      subst this
      rw [show (2 : Int) ^ (32 - 0) = 4294967296 from by decide]
      omega
    next e =>
      rw [show (32 - (s : Int)).toNat = 32 - s from by omega, Int.natCast_ediv]
      congr 1
  rw [hk1] at hk ⊢
  have hk2 : k < 65536 := by
    have := Nat.pow_le_pow_right (n := 2) (by decide) hs
    rw [show (s : Int).toNat = s from by omega] at hk
    omega
  obtain ⟨q, hq⟩ : ∃ q, k * wide = q := ⟨_, rfl⟩
  have e4 : (k : Int) * (wide : Int) = (q : Int) := by rw [← hq, Int.natCast_mul]
  have hq1 : q + wide ≤ n := by
    rw [hn, ← hq, ← Nat.succ_mul, Nat.mul_comm wide]
    exact Nat.mul_le_mul_right _ (by rw [show (s : Int).toNat = s from by omega] at hk; omega)
  have e5 : q + wide - q = wide := by omega
  obtain ⟨hw1, hw2⟩ := hw
  have z1 : (q : Int) + (wide : Int) ≤ (n : Int) := by omega
  rw [hq]
  clear hX hx hk1 hk hn hq
  have hl : (n : Int) ≤ 2097152 := by omega
  go_enter Tryz.func106, Tryz.ntmps106
  go_wp2_with fail
  go_quiet (fail)
  go_wp2_with fail
  go_ret
  exact ⟨by simp [e5], (((Below.refl _ _).alloc (Nat.le_refl _) _).alloc (by simp) _).trans (Below.drewN _ _ _)⟩
set_option maxRecDepth 10000 in
set_option maxHeartbeats 1000000 in
theorem at_i (d h c s wide n m mc : Nat) (A : Option Addr) (w : World) (hh : h < 4294967296) (hc : c < 256) (hs : s ≤ 16) (hw : 1 ≤ wide ∧ wide ≤ 32) (hn : n = wide * 2 ^ s) :
    Calls Tryz.prog 113 #[.agg #[.int .i64 s, .int .i64 wide, .slice (some ⟨d, 0, none⟩) n n], .agg #[.int .u32 h, .int .u32 c, .slice A m mc]] w fun e w' =>
      e = .returned (.slice (some ⟨d, placeN h c s * wide, none⟩) wide (n - placeN h c s * wide)) ∧ Below w.heap.size w w' := by
  have hk := placeN_lt h c s (by omega) (by omega)
  have hn1 : n ≤ 32 * 65536 := by
    rw [hn]
    exact Nat.mul_le_mul hw.2 (by have := Nat.pow_le_pow_right (n := 2) (by decide) hs; simpa using this)
  obtain ⟨X, hX⟩ : ∃ X, h ^^^ (c * 40503) = X := ⟨_, rfl⟩
  have e1 : bits BinOp.xor IntKind.u32 (h : Int) ((c : Int) * 40503) = (X : Int) := by
    rw [show (c : Int) * 40503 = ((c * 40503 : Nat) : Int) from by omega, u32_xor_nat h (c * 40503) hh (by omega), hX]
  obtain ⟨x, hx⟩ : ∃ x, X * 2654435761 % 4294967296 = x := ⟨_, rfl⟩
  have e2 : (X : Int) * 2654435761 % 4294967296 = (x : Int) := by omega
  have hx1 : x < 4294967296 := by omega
  obtain ⟨k, hk1⟩ : ∃ k, placeN h c s = k := ⟨_, rfl⟩
  have e3 : (x : Int) / 2 ^ (32 - s) = (k : Int) := by
    rw [← hk1]
    unfold placeN
    rw [Nat.mod_eq_of_lt (by omega : c * 40503 < 4294967296), hX, hx]
    split
    next e =>
      have : s = 0 := by omega
      subst this
      rw [show (2 : Int) ^ (32 - 0) = 4294967296 from by decide]
      omega
    next e =>
      rw [show (32 - (s : Int)).toNat = 32 - s from by omega, Int.natCast_ediv]
      congr 1
  rw [hk1] at hk ⊢
  have hk2 : k < 65536 := by
    have := Nat.pow_le_pow_right (n := 2) (by decide) hs
    rw [show (s : Int).toNat = s from by omega] at hk
    omega
  obtain ⟨q, hq⟩ : ∃ q, k * wide = q := ⟨_, rfl⟩
  have e4 : (k : Int) * (wide : Int) = (q : Int) := by rw [← hq, Int.natCast_mul]
  have hq1 : q + wide ≤ n := by
    rw [hn, ← hq, ← Nat.succ_mul, Nat.mul_comm wide]
    exact Nat.mul_le_mul_right _ (by rw [show (s : Int).toNat = s from by omega] at hk; omega)
  have e5 : q + wide - q = wide := by omega
  obtain ⟨hw1, hw2⟩ := hw
  have z1 : (q : Int) + (wide : Int) ≤ (n : Int) := by omega
  rw [hq]
  clear hX hx hk1 hk hn hq
  have hl : (n : Int) ≤ 2097152 := by omega
  go_enter Tryz.func113, Tryz.ntmps113
  go_wp2_with fail
  go_quiet (fail)
  go_wp2_with fail
  go_ret
  exact ⟨by simp [e5], (((Below.refl _ _).alloc (Nat.le_refl _) _).alloc (by simp) _).trans (Below.drewN _ _ _)⟩
end Go.Proofs.YtkfdbibgjoaefaaGreatDoor
