/-
  The walk of StatesLearn: bits one behind the other, then fifteen of one kind.
-/
import Derived.Test.YtjecnpipnbmoaaaAwk
namespace Go.Proofs.Ytjecnpipnbmoaaa
open Go.RowKit

theorem block_of_add (a : Addr) (i : Nat) : (a.add i).block = a.block := by unfold Addr.add; split <;> rfl
/-- Bools in memory. -/
def IsBs (w : World) (A : Option Addr) (n c : Nat) (B : Nat → Bool) : Prop :=
  n ≤ c ∧ c ≤ maxLen ∧ (n = 0 ∨ ∃ x : Addr, A = some x ∧ x.block < w.heap.size ∧ ∀ i, i < n → w.cell? (x.add i) = some (.bool (B i)))
theorem IsBs.below {w w' : World} {A : Option Addr} {n c : Nat} {B : Nat → Bool} (h : IsBs w A n c B) (b : Below w.heap.size w w') : IsBs w' A n c B := by
  refine ⟨h.1, h.2.1, h.2.2.imp id ?_⟩
  rintro ⟨x, h1, h2, h3⟩
  refine ⟨x, h1, by have := b.size; omega, fun i hi => ?_⟩
  have := h3 i hi
  unfold World.cell? at this ⊢
  rw [b.block _ (by rw [block_of_add]; exact h2)]
  exact this
theorem isBs_nil (w : World) : IsBs w none 0 0 (fun _ => false) := ⟨Nat.le_refl _, Nat.zero_le _, .inl rfl⟩
theorem isBs_of {w : World} {x : Addr} {n c : Nat} {B : Nat → Bool} (h1 : n ≤ c) (h2 : c ≤ maxLen) (h : ∀ i, i < c → w.cell? (x.add i) = some (.bool (B i))) : IsBs w (some x) n c B := by
  refine ⟨h1, h2, ?_⟩
  by_cases h0 : n = 0
  · exact .inl h0
  · refine .inr ⟨x, rfl, ?_, fun i hi => h i (by omega)⟩
    have hc := h 0 (by omega)
    rw [← block_of_add x 0]
    unfold World.cell? at hc
    rcases Nat.lt_or_ge (x.add 0).block w.heap.size with hlt | hge
    · exact hlt
    · rw [Array.getElem?_eq_none hge] at hc
      simp at hc
theorem oneB_1 : oneB 1 = true := by decide
theorem oneB_0 : oneB 0 = false := by decide
set_option maxRecDepth 10000 in
theorem kind_any (b : Bool) (w : World) : Calls Try.prog 12 #[.bool b] w fun e w' => e = .returned (.int .i64 (if b then 1 else 0)) ∧ w' = w := by
  cases b
  · go_enter Try.func12, Try.ntmps12
    go_wp2_with fail
    go_ret
    exact ⟨rfl, rfl⟩
  · go_enter Try.func12, Try.ntmps12
    go_wp2_with fail
    go_ret
    exact ⟨rfl, rfl⟩
theorem oneB_if (b : Bool) : oneB (if b then 1 else 0) = b := by cases b <;> decide
def natOf : Value → Nat
  | .int _ i => i.toNat
  | _ => 0
set_option maxRecDepth 10000 in
set_option maxHeartbeats 2000000 in
theorem learn_any (s : Nat) (hs : s < 256) (A : Option Addr) (n c : Nat) (B : Nat → Bool) (last : Bool) (w : World) (hB : IsBs w A n c B) :
    Calls Try.prog 4 #[.int .u8 s, .slice A n c, .bool last] w fun e w' => e = .returned (.bool true) ∧ Below w.heap.size w w' := by
  have he : ∀ args w, (callFunc 12 args).run Try.prog w = .ok (.enter 12 args) w := enters_of Try.func12 (by kernel_rfl) rfl
  go_enter Try.func4, Try.ntmps4
  go_wp2_with fail
  go_loopw [0, 8] (fun vs vi wr => ∃ t i : Nat, vs = .int .u8 t ∧ vi = .int .i64 i ∧ t < 256 ∧ i ≤ n ∧ i ≤ 200 ∧ Below w.heap.size w wr) (fun _ vi _ => 200 - natOf vi)
  case atStart => exact ⟨s, 0, rfl, rfl, hs, by omega, by omega, Below.refl _ _⟩
  case round =>
    obtain ⟨t, i, rfl, rfl, ht, hi, hi2, hw⟩ := hrel
    by_cases hgo : i < n ∧ i < 200
    · obtain ⟨hlt, h200⟩ := hgo
      · have hltz : (i : Int) < (n : Int) := by omega
        have h200z : (i : Int) < 200 := by omega
        obtain ⟨hnc, hcm, hA⟩ := hB.below hw
        rcases hA with h0 | ⟨x, rfl, hx, hc⟩
        · omega
        have hci := hc i hlt
        have H12 := hid (fun w => kind_any (B i) w)
        have HN := hid (fun w => next_any t (if B i then 1 else 0) ht w)
        rw [oneB_if] at HN
        have r1 := chN_range _ (nxN_lt t ht (B i))
        have hn := nxN_lt t ht (B i)
        have up : if B i = true then chN t ≤ chN (nxN t (B i)) else chN (nxN t (B i)) ≤ chN t := by
          have := chN_up t ht
          cases B i
          · exact this.2
          · exact this.1
        have HP := hid (fun w => chance_any t ht w)
        have HQ := hid (fun w => chance_any _ hn w)
        generalize nxN t (B i) = N at *
        generalize chN N = q at *
        generalize chN t = p at *
        have q1 : ¬ (q : Int) < 1 := by omega
        have q2 : ¬ (q : Int) > 65535 := by omega
        cases hb : B i
        all_goals
          rw [hb] at hci H12 HN up
          simp only [if_true, if_false, Bool.false_eq_true] at up H12 HN
          have q3 : (p : Int) ≤ (q : Int) ∨ (q : Int) ≤ (p : Int) := by omega
          have up2 : (if false = true then p ≤ q else True) := by simp
          clear up2
          go_wp2_with fail
          refine (H12.out _).mono ?_
          rintro e w' ⟨rfl, rfl⟩
          go_wp2_with fail
          refine (HN.out _).mono ?_
          rintro e w1 ⟨rfl, b1⟩
          have B1 := hw.trans (b1.mono hw.size)
          go_wp2_with fail
          refine (HP.out _).mono ?_
          rintro e w2 ⟨rfl, b2⟩
          have B2 := B1.trans (b2.mono B1.size)
          go_wp2_with fail
          refine (HQ.out _).mono ?_
          rintro e w3 ⟨rfl, b3⟩
          have B3 := B2.trans (b3.mono B2.size)
          have hA3 : w3.cell? (x.add i) = w'.cell? (x.add i) := by
            unfold World.cell?
            rw [b3.block _ (by have := b1.size; have := b2.size; rw [block_of_add]; omega), b2.block _ (by have := b1.size; rw [block_of_add]; omega), b1.block _ (by rw [block_of_add]; exact hx)]
          rw [hci] at hA3
          go_wp2_with fail
          go_roundw
          case rel => exact ⟨N, i + 1, rfl, by go_num, hn, by omega, by omega, B3⟩
          case measure => simp [natOf]; omega
    · have hx : ((i : Int) < (n : Int) ∧ ¬ (i : Int) < 200) ∨ ¬ (i : Int) < (n : Int) := by omega
      have hnc := hB.1
      clear hgo hB
      rcases hx with ⟨x1, x2⟩ | x1
      all_goals
        go_wp2_with fail
        go_loopw [0, 12] (fun vs vi w2 => ∃ k : Nat, vs = .int .u8 (runN last k t : Nat) ∧ vi = .int .i64 k ∧ k ≤ 15 ∧ Below w.heap.size w w2) (fun _ vi _ => 15 - natOf vi)
        case atStart => exact ⟨0, rfl, rfl, by omega, hw⟩
        case round =>
          obtain ⟨k, rfl, rfl, hk, hw2⟩ := hrel
          have hS := runN_lt last k t ht
          have H12 := hid (fun w => kind_any last w)
          by_cases hk2 : k < 15
          · have hkz : (k : Int) < 15 := by omega
            have HN := hid (fun w => next_any (runN last k t) (if last then 1 else 0) hS w)
            rw [oneB_if, ← runN_succ] at HN
            generalize runN last k t = S at *
            obtain ⟨v, hv⟩ : ∃ v, runN last (k + 1) t = v := ⟨_, rfl⟩
            rw [hv] at HN
            cases last
            all_goals
              simp only [if_true, if_false, Bool.false_eq_true] at H12 HN
              have Hv := hid hv
              clear hv
              go_wp2_with fail
              refine (H12.out _).mono ?_
              rintro e w' ⟨rfl, rfl⟩
              go_wp2_with fail
              refine (HN.out _).mono ?_
              rintro e w1 ⟨rfl, b1⟩
              have B1 := hw2.trans (b1.mono hw2.size)
              go_wp2_with fail
              go_roundw
              case rel => exact ⟨k + 1, by rw [Hv.out], by go_num, by omega, B1⟩
              case measure => simp [natOf]; omega
          · obtain rfl : k = 15 := by omega
            have h15 := run15 t ht
            have HC := hid (fun w => counts_any (runN last 15 t) hS w)
            cases last
            · generalize runN false 15 t = S at *
              obtain ⟨_, h1, h2⟩ := h15
              rw [h1] at HC
              generalize S % 16 = b at *
              have h2z : (b : Int) ≤ 2 := by omega
              go_wp2_with fail
              refine (HC.out _).mono ?_
              rintro e w' ⟨rfl, rfl⟩
              go_wp2_with fail
              refine (awake_any _).mono ?_
              rintro e w1 ⟨rfl, b1⟩
              go_wp2_with fail
              go_ret
              exact ⟨rfl, hw2.trans (b1.mono hw2.size)⟩
            · generalize runN true 15 t = S at *
              obtain ⟨⟨h1, h2⟩, _⟩ := h15
              rw [h1] at HC
              generalize S / 16 = b at *
              have h2z : (b : Int) ≤ 2 := by omega
              go_wp2_with fail
              refine (HC.out _).mono ?_
              rintro e w' ⟨rfl, rfl⟩
              go_wp2_with fail
              refine (awake_any _).mono ?_
              rintro e w1 ⟨rfl, b1⟩
              go_wp2_with fail
              go_ret
              exact ⟨rfl, hw2.trans (b1.mono hw2.size)⟩
end Go.Proofs.Ytjecnpipnbmoaaa
