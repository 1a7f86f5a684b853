/-
  The contract of the document's Sub: it is what subN tells.
-/
import Derived.Test.YtlgabihjfjlhkaaRefT
namespace Go.Proofs.Ytlgabihjfjlhkaa
open Go.RowKit

/-- What was found below x. -/
def invP (b x : Nat) : Nat := if invN b < x then invN b else 0
theorem invP_one (b : Nat) : invP b 1 = 0 := by unfold invP; split <;> omega
theorem invP_end (b : Nat) (hb : b < 256) : invP b 256 = invN b := by unfold invP; rw [if_pos (inv_lt b hb)]
theorem invP_hit (b x : Nat) (hb : b < 256) (hx : x < 256) (h : gf x b = 1) : invP b (x + 1) = x := by
  have := ((inv_unique x b hx hb).1 h).2
  unfold invP
  rw [if_pos (by omega)]; exact this.symm
theorem invP_miss (b x : Nat) (hb : b < 256) (hx : x < 256) (h1 : 1 ≤ x) (h : ¬ gf x b = 1) : invP b (x + 1) = invP b x := by
  have hne : invN b ≠ x := by
    intro e
    by_cases h0 : b = 0
    · subst h0; rw [inv_zero] at e; omega
    · exact h ((inv_unique x b hx hb).2 ⟨h0, e.symm⟩)
  unfold invP
  by_cases hl : invN b < x
  · rw [if_pos hl, if_pos (by omega)]
  · rw [if_neg hl, if_neg (by omega)]
theorem invP_lt (b x : Nat) (hb : b < 256) : invP b x < 256 := by
  have := inv_lt b hb
  unfold invP; split <;> omega
def posN (i k : Nat) : Nat := if k = 0 then i else (i + 3 + k) % 8
def bitP (c i : Nat) : Nat → Nat
  | 0 => 99 / 2 ^ i % 2
  | k + 1 => bitP c i k ^^^ (c / 2 ^ posN i k % 2)
theorem bitP_end (c i : Nat) : bitP c i 5 = subBit c i := rfl
theorem bitP_lt (c i : Nat) : ∀ k, bitP c i k < 2
  | 0 => by unfold bitP; omega
  | k + 1 => Nat.xor_lt_two_pow (n := 1) (bitP_lt c i k) (by omega)
theorem affN_lt (c : Nat) : ∀ n, affN c n < 2 ^ n
  | 0 => by show (0 : Nat) < 1; omega
  | n + 1 => by
    have h1 := affN_lt c n
    have h2 : subBit c n < 2 := by rw [← bitP_end]; exact bitP_lt c n 5
    have h3 : subBit c n * 2 ^ n ≤ 1 * 2 ^ n := Nat.mul_le_mul_right _ (by omega)
    show affN c n + subBit c n * 2 ^ n < 2 ^ (n + 1)
    rw [Nat.pow_succ]
    omega
theorem and_bit (x i : Nat) (hx : x < 65536) : bits BinOp.and IntKind.i64 ((x : Int) / 2 ^ i) 1 = ((x / 2 ^ i % 2 : Nat) : Int) := by
  have hd : x / 2 ^ i < 65536 := Nat.lt_of_le_of_lt (Nat.div_le_self _ _) hx
  rw [show (x : Int) / 2 ^ i = ((x / 2 ^ i : Nat) : Int) by push_cast; rfl]
  exact i64_and1 _ (Nat.lt_trans hd (by decide))
theorem xor_small (x y : Nat) (hx : x < 2) (hy : y < 2) : bits BinOp.xor IntKind.i64 (x : Int) (y : Int) = ((x ^^^ y : Nat) : Int) := i64_xor_nat _ _ (by omega) (by omega)
set_option maxRecDepth 10000 in
set_option maxHeartbeats 1000000 in
theorem RefSub_any (b : Nat) (hb : b < 256) (w : World) : Calls Try.prog 39 #[.int .u8 b] w fun e w' => e = .returned (.int .u8 (subN b : Nat)) ∧ w = w' := by
  have HE := hid (sub_aff b hb)
  have hsl := sub_lt b hb
  have H1 : Hid (invP b 1 = 0) := invP_one b
  have HH := hid (invP_hit b · hb)
  have HMi := hid (invP_miss b · hb)
  have HL := hid (fun x => invP_lt b x hb)
  have HX := hid (invP_end b hb)
  go_enter Try.func39, Try.ntmps39
  go_wp2_with fail
  go_loopw [3, 4] (fun vc vx wr => ∃ x : Nat, 1 ≤ x ∧ x ≤ 256 ∧ vx = .int .i64 x ∧ vc = .int .i64 (invP b x : Nat) ∧ w = wr) (fun _ vx _ => 256 - (intOf vx).toNat)
  case atStart => exact ⟨1, Nat.le_refl _, by omega, rfl, by rw [H1.out]; rfl, rfl⟩
  case round =>
    obtain ⟨x, hx1, hx, rfl, rfl, rfl⟩ := hrel
    by_cases hlt : x < 256
    · have hlz : (x : Int) < 256 := by omega
      have RT := hid (fun w => RefTimes_any x b hlt hb w)
      have hgl := gf_lt x b hlt
      by_cases h1 : gf x b = 1
      · have HN := hid (HH.out x hlt h1)
        rw [h1] at RT
        go_wp2_with (go_at_call 40; refine (RT.out _).mono ?_; rintro e w' ⟨rfl, rfl⟩)
        go_roundw
        case rel => exact ⟨x + 1, by omega, by omega, by go_num, by rw [HN.out], by first | trivial | rfl⟩
        case measure => simp [intOf]; omega
      · have HN := hid (HMi.out x hlt hx1 h1)
        generalize gf x b = z at RT h1 hgl
        have h1z : ¬ (z : Int) = 1 := by omega
        go_wp2_with (go_at_call 40; refine (RT.out _).mono ?_; rintro e w' ⟨rfl, rfl⟩)
        go_roundw
        case rel => exact ⟨x + 1, by omega, by omega, by go_num, by rw [HN.out], by first | trivial | rfl⟩
        case measure => simp [intOf]; omega
    · obtain rfl : x = 256 := by omega
      have hcl := inv_lt b hb
      rw [HX.out]
      generalize invN b = c at HE hcl ⊢
      clear H1 HH HMi HL HX
      go_wp2_with fail
      go_loopw [5, 6] (fun vs vi wr => ∃ i : Nat, i ≤ 8 ∧ vi = .int .i64 i ∧ vs = .int .i64 (affN c i : Nat) ∧ w = wr) (fun _ vi _ => 8 - (intOf vi).toNat)
      case atStart => exact ⟨0, Nat.zero_le _, rfl, rfl, rfl⟩
      case round =>
        obtain ⟨i, hi, rfl, rfl, rfl⟩ := hrel
        by_cases hlt2 : i < 8
        · have hlz : (i : Int) < 8 := by omega
          have q0 : bits BinOp.and IntKind.i64 (99 / 2 ^ i) 1 = ((99 / 2 ^ i % 2 : Nat) : Int) := and_bit 99 i (by omega)
          have B0 : Hid (bitP c i 0 = 99 / 2 ^ i % 2) := rfl
          go_wp2_with fail
          go_loopw [7, 8, 9] (fun vb vk vn wr => ∃ k : Nat, k ≤ 5 ∧ vk = .int .i64 k ∧ vb = .int .i64 (bitP c i k : Nat) ∧ w = wr) (fun _ vk _ _ => 5 - (intOf vk).toNat)
          case atStart => exact ⟨0, Nat.zero_le _, rfl, by rw [B0.out]; push_cast; rfl, rfl⟩
          case round =>
            obtain ⟨k, hk, rfl, rfl, rfl⟩ := hrel
            clear q0 B0
            have lb := bitP_lt c i k
            by_cases hlt3 : k < 5
            · have hkz : (k : Int) < 5 := by omega
              have BN : Hid (bitP c i (k + 1) = bitP c i k ^^^ (c / 2 ^ posN i k % 2)) := rfl
              generalize bitP c i k = y at lb BN ⊢
              by_cases hk0 : k = 0
              · subst hk0
                have hm : (i : Int) % 8 = (i : Int) := by omega
                have hpos : posN i 0 = i := rfl
                rw [hpos] at BN
                have q1 := and_bit c i (by omega)
                have lt2 : c / 2 ^ i % 2 < 2 := by omega
                generalize c / 2 ^ i % 2 = t at q1 lt2 BN
                have q2 := xor_small y t lb lt2
                go_wp2_with fail
                go_roundw
                case rel => exact ⟨1, by omega, rfl, by rw [BN.out], by first | trivial | rfl⟩
                case measure => simp [intOf]
              · have hkne : ¬ (k : Int) = 0 := by omega
                obtain ⟨m, hm⟩ : ∃ m, m = posN i k := ⟨_, rfl⟩
                rw [← hm] at BN
                unfold posN at hm
                rw [if_neg hk0] at hm
                have hmz : ((i : Int) + 3 + (k : Int)) % 8 = (m : Int) := by omega
                have q1 := and_bit c m (by omega)
                have lt2 : c / 2 ^ m % 2 < 2 := by omega
                generalize c / 2 ^ m % 2 = t at q1 lt2 BN
                have q2 := xor_small y t lb lt2
                have Hm := hid hm
                have hm8 : m < 8 := by omega
                clear hm
                go_wp2_with fail
                go_roundw
                case rel => exact ⟨k + 1, by omega, by go_num, by rw [BN.out], by first | trivial | rfl⟩
                case measure => simp [intOf]; omega
            · obtain rfl : k = 5 := by omega
              have AN : Hid (affN c (i + 1) = affN c i + bitP c i 5 * 2 ^ i) := rfl
              have la := affN_lt c i
              have l8 : 2 ^ i ≤ 128 := Nat.pow_le_pow_right (n := 2) (by omega) (show i ≤ 7 by omega)
              generalize bitP c i 5 = y at lb AN ⊢
              generalize affN c i = s at la AN ⊢
              have lz : y * 2 ^ i < 65536 := by
                have : y * 2 ^ i ≤ 1 * 2 ^ i := Nat.mul_le_mul_right _ (by omega)
                omega
              have qm : wrap64 ((y : Int) * 2 ^ i) = ((y * 2 ^ i : Nat) : Int) := by
                rw [show (y : Int) * 2 ^ i = ((y * 2 ^ i : Nat) : Int) by push_cast; rfl]
                exact wrap64_small _ lz
              have ls : s < 65536 := by omega
              generalize y * 2 ^ i = z at qm lz AN
              clear la l8
              go_wp2_with fail

              go_roundw
              case rel => exact ⟨i + 1, by omega, by go_num, by rw [AN.out]; rfl, by first | trivial | rfl⟩
              case measure => simp [intOf]; omega
        · obtain rfl : i = 8 := by omega
          rw [HE.out]
          go_wp2_with fail
          go_ret
          exact ⟨ret_u8 (by omega), by first | trivial | rfl⟩
end Go.Proofs.Ytlgabihjfjlhkaa
