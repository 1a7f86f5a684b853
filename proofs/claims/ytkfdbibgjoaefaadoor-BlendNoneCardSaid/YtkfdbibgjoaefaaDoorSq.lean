/-
  The contract of Squash: the curve's plain function, out of the table of knots.
-/
import Derived.Test.YtkfdbibgjoaefaaDoorProg
import Derived.Test.YtkfdbibgjoaefaaDoorSqn
import Derived.WalkKit
import Derived.WalkSpells
import Derived.WalkLawsBesides
import Derived.RegionTactic
import Derived.BigRegion
import Derived.Laws.Rows
namespace Go.Proofs.YtkfdbibgjoaefaaDoor
open Go.RowKit

theorem hid {p : Prop} (h : p) : RowKit.Hid p := h
theorem ret_i64 {a b : Int} (h : a = b) : Ending.returned (.int .i64 a) = .returned (.int .i64 b) := by rw [h]
/-- The table of knots holds the knots. -/
def KnIs (w : World) : Prop := ∀ i, i < 33 → w.cell? ⟨0, i, none⟩ = some (.int .i64 (kn i : Nat))

theorem wrap_in (n : Int) (h : -9223372036854775808 ≤ n ∧ n ≤ 9223372036854775807) : wrap64 n = n := by unfold wrap64; omega
theorem sum_eq (a b r : Nat) (ha : a ≤ 4095) (hb : b ≤ 4095) (hr : r < 128) :
    wrap64 ((wrap64 (wrap64 (wrap64 ((a : Int) * (128 - (r : Int))) + wrap64 ((b : Int) * (r : Int))) + 64)).tdiv 128) = (((a * (128 - r) + b * r + 64) / 128 : Nat) : Int) := by
  have h1 : a * (128 - r) ≤ 4095 * 128 := Nat.mul_le_mul ha (by omega)
  have h2 : b * r ≤ 4095 * 128 := Nat.mul_le_mul hb (by omega)
  have e1 : (a : Int) * (128 - (r : Int)) = ((a * (128 - r) : Nat) : Int) := by
    rw [show (128 : Int) - (r : Int) = ((128 - r : Nat) : Int) by omega, Int.natCast_mul]
  have e2 : (b : Int) * (r : Int) = ((b * r : Nat) : Int) := by rw [Int.natCast_mul]
  rw [e1, e2]
  generalize a * (128 - r) = x at h1 ⊢
  generalize b * r = y at h2 ⊢
  rw [wrap_in (x : Int) (by omega), wrap_in (y : Int) (by omega), wrap_in ((x : Int) + (y : Int)) (by omega), wrap_in ((x : Int) + (y : Int) + 64) (by omega)]
  rw [Int.tdiv_eq_ediv_of_nonneg (by omega), wrap_in _ (by omega)]
  omega
set_option maxRecDepth 10000 in
set_option maxHeartbeats 1000000 in
theorem squash_any (d : Int) (w : World) (hk : KnIs w) (h1 : -9223372036854775808 ≤ d) (h2 : d ≤ 9223372036854775807) :
    Calls Tryd.prog 20 #[.int .i64 d] w fun e w' => e = .returned (.int .i64 (sq d)) ∧ ∃ m, w' = w.drewN m := by
  by_cases ha : 2047 < d
  · have e : sq d = 4095 := by unfold sq; rw [if_pos ha]
    rw [e]
    go_enter Tryd.func20, Tryd.ntmps20
    go_wp2_with fail
    go_ret
    exact ⟨rfl, 0, rfl⟩
  · by_cases hb : d < -2047
    · have e : sq d = 1 := by unfold sq; rw [if_neg ha, if_pos hb]
      rw [e]
      go_enter Tryd.func20, Tryd.ntmps20
      go_wp2_with fail
      go_ret
      exact ⟨rfl, 0, rfl⟩
    · obtain ⟨q, hq⟩ : ∃ q, q = (d + 2048).toNat / 128 := ⟨_, rfl⟩
      obtain ⟨r, hr⟩ : ∃ r, r = (d + 2048).toNat % 128 := ⟨_, rfl⟩
      have hq33 : q < 32 := by omega
      have e : sq d = (((kn q * (128 - r) + kn (q + 1) * r + 64) / 128 : Nat) : Int) := by
        unfold sq sqN; rw [if_neg ha, if_neg hb, hq, hr]
      rw [e]
      have c1 := hk q (by omega)
      have c2 := hk (q + 1) (by omega)
      have b1 := kn_high q (by omega)
      have b2 := kn_high (q + 1) (by omega)
      generalize kn q = a at c1 b1 ⊢
      generalize kn (q + 1) = b at c2 b2 ⊢
      have b3 : r < 128 := by omega
      obtain ⟨n, hn⟩ : ∃ n : Nat, d + 2047 + 1 = (n : Int) := ⟨(d + 2048).toNat, by omega⟩
      have hn2 : n ≤ 4095 := by omega
      have hq1 : (n : Int) / 128 = (q : Int) := by omega
      have hr1 : (n : Int) % 128 = (r : Int) := by omega
      have hq2 : ((q : Int) + 1).toNat = q + 1 := by omega
      clear e hk hq hr
      go_enter Tryd.func20, Tryd.ntmps20
      go_wp2_with fail
      go_region
      go_wp2_with fail
      go_ret
      exact ⟨ret_i64 (sum_eq a b r b1 b2 b3), 1, rfl⟩
end Go.Proofs.YtkfdbibgjoaefaaDoor
