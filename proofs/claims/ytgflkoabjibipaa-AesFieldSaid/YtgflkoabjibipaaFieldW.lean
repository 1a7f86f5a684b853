/-
  The walk of the law AesField.
-/
import Derived.Test.YtgflkoabjibipaaAwake
import Derived.Deep.Cut
namespace Go.Proofs.Ytgflkoabjibipaa
open Go.RowKit

def fnd (a x : Nat) : Bool := (List.range x).any (fun y => gf a y == 1)
theorem fnd_next (a x : Nat) : fnd a (x + 1) = (fnd a x || gf a x == 1) := by unfold fnd; rw [List.range_succ, List.any_append]; simp
theorem fnd_end (a : Nat) (ha : a < 256) : fnd a 256 = (a != 0) := by
  have e := gf_inv_found a ha
  have e2 : fnd a 256 = true ↔ a ≠ 0 := by
    rw [← e]
    unfold fnd
    rw [List.any_eq_true]
    constructor
    · rintro ⟨x, h1, h2⟩
      exact ⟨x, List.mem_range.1 h1, by simpa using h2⟩
    · rintro ⟨x, h1, h2⟩
      exact ⟨x, List.mem_range.2 h1, by simpa using h2⟩
  rw [Bool.eq_iff_iff, e2]
  simp
set_option maxRecDepth 10000 in
set_option maxHeartbeats 4000000 in
theorem field_walk (a b c : Nat) (ha : a < 256) (hb : b < 256) (hc : c < 256) (w : World) :
    Calls Try.prog 6 #[.int .u8 a, .int .u8 b, .int .u8 c] w fun e w' => e = .returned (.bool true) ∧ Below w.heap.size w w' := by
  have lab := gf_lt a b ha
  have lbc := gf_lt b c hb
  have lac := gf_lt a c ha
  have T1 := hid (fun w => times_any a b ha hb w)
  have T2 : Hid (∀ w, Calls Try.prog 17 #[.int .u8 b, .int .u8 a] w fun e w' => e = .returned (.int .u8 (gf a b : Nat)) ∧ w = w') := fun w => (times_any b a hb ha w).mono fun _ _ h => ⟨by rw [h.1, gf_comm a b ha hb], h.2⟩
  have T3 := hid (fun w => times_any b c hb hc w)
  have T4 := hid (fun w => times_any a (gf b c) ha lbc w)
  have T6 : Hid (∀ w, Calls Try.prog 17 #[.int .u8 (gf a b : Nat), .int .u8 c] w fun e w' => e = .returned (.int .u8 (gf a (gf b c) : Nat)) ∧ w = w') := fun w => (times_any (gf a b) c lab hc w).mono fun _ _ h => ⟨by rw [h.1, gf_assoc a b c ha hb hc], h.2⟩
  have T7 := hid (fun w => times_any a (b ^^^ c) ha (xor8 hb hc) w)
  have T9 := hid (fun w => times_any a c ha hc w)
  have T10 : Hid (∀ w, Calls Try.prog 17 #[.int .u8 a, .int .u8 1] w fun e w' => e = .returned (.int .u8 (a : Nat)) ∧ w = w') := fun w => (times_any a 1 ha (by omega) w).mono fun _ _ h => ⟨by rw [h.1, gf_one a ha], h.2⟩
  have T11 : Hid (∀ w, Calls Try.prog 17 #[.int .u8 a, .int .u8 0] w fun e w' => e = .returned (.int .u8 0) ∧ w = w') := fun w => (times_any a 0 ha (by omega) w).mono fun _ _ h => ⟨by rw [h.1, gf_zero a ha]; rfl, h.2⟩
  have q1 := u8_xor_nat _ _ hb hc
  have q2 := u8_xor_nat _ _ lab lac
  rw [← gf_xor_right] at q2
  generalize b ^^^ c = bc at q1 q2 T7
  generalize gf a bc = p4 at q2 T7
  generalize gf a (gf b c) = p3 at T4 T6
  generalize gf b c = p2 at T3 T4
  generalize gf a b = p1 at T1 T2 T6 q2
  generalize gf a c = p5 at T9 q2
  have S1 := hid (fun w => sub_any a ha w)
  have ls := sub_lt a ha
  have lt := back_lt a ha
  have S2 := hid (fun w => back_any (subN a) ls w)
  rw [back_sub a ha] at S2
  have S3 := hid (fun w => back_any a ha w)
  have S4 := hid (fun w => sub_any (backN a) lt w)
  rw [sub_back a ha] at S4
  generalize subN a = s at S1 S2
  generalize backN a = t at S3 S4
  clear lab lbc lac ls lt
  go_enter Try.func6, Try.ntmps6
  go_wp2_with (first
    | (go_at_call 17; with_reducible refine (T10.out _).mono ?_; rintro e w' ⟨rfl, rfl⟩)
    | (go_at_call 17; with_reducible refine (T11.out _).mono ?_; rintro e w' ⟨rfl, rfl⟩)
    | (go_at_call 17; with_reducible refine (T1.out _).mono ?_; rintro e w' ⟨rfl, rfl⟩)
    | (go_at_call 17; with_reducible refine (T2.out _).mono ?_; rintro e w' ⟨rfl, rfl⟩)
    | (go_at_call 17; with_reducible refine (T3.out _).mono ?_; rintro e w' ⟨rfl, rfl⟩)
    | (go_at_call 17; with_reducible refine (T4.out _).mono ?_; rintro e w' ⟨rfl, rfl⟩)
    | (go_at_call 17; with_reducible refine (T6.out _).mono ?_; rintro e w' ⟨rfl, rfl⟩)
    | (go_at_call 17; with_reducible refine (T7.out _).mono ?_; rintro e w' ⟨rfl, rfl⟩)
    | (go_at_call 17; with_reducible refine (T9.out _).mono ?_; rintro e w' ⟨rfl, rfl⟩)
    | (go_at_call 12; with_reducible refine (S1.out _).mono ?_; rintro e w' ⟨rfl, m1, rfl⟩)
    | (go_at_call 13; with_reducible refine (S2.out _).mono ?_; rintro e w' ⟨rfl, m2, rfl⟩)
    | (go_at_call 13; with_reducible refine (S3.out _).mono ?_; rintro e w' ⟨rfl, m3, rfl⟩)
    | (go_at_call 12; with_reducible refine (S4.out _).mono ?_; rintro e w' ⟨rfl, m4, rfl⟩))
  clear T1 T2 T3 T4 T6 T7 T9 T10 T11 S1 S2 S3 S4 q1 q2
  obtain ⟨W1, hW1⟩ : ∃ W, W = w.drewN (m1 + m2 + m3 + m4) := ⟨_, by first | trivial | rfl⟩
  have HB : Hid (Below w.heap.size w W1) := by rw [hW1]; exact below_drewN (Below.refl _ w) _
  rw [← hW1]
  clear hW1
  have F0 : Hid (fnd a 0 = false) := rfl
  go_loopw [7, 8] (fun vf vx wr => ∃ x : Nat, x ≤ 256 ∧ vx = .int .i64 x ∧ vf = .bool (fnd a x) ∧ wr = W1) (fun _ vx _ => 256 - (intOf vx).toNat)
  case atStart => exact ⟨0, Nat.zero_le _, rfl, by rw [F0.out], by first | trivial | rfl⟩
  case round =>
    obtain ⟨x, hx, rfl, rfl, rfl⟩ := hrel
    by_cases hlt : x < 256
    · have hlz : (x : Int) < 256 := by omega
      have FN := hid (fnd_next a x)
      generalize fnd a x = f at FN ⊢
      cases f with
      | true =>
        have FN2 : Hid (fnd a (x + 1) = true) := by show _ = _; rw [FN.out]; rfl
        go_wp2_with fail
        go_roundw
        case rel => exact ⟨x + 1, by omega, by go_num, by rw [FN2.out], by first | trivial | rfl⟩
        case measure => simp [intOf]; omega
      | false =>
        have TX := hid (fun w => times_any a x ha hlt w)
        have FN2 : Hid (fnd a (x + 1) = (gf a x == 1)) := by show _ = _; rw [FN.out]; rfl
        have lz := gf_lt a x ha
        generalize gf a x = z at TX FN2 lz
        by_cases h1 : z = 1
        · subst h1
          go_wp2_with (go_at_call 17; refine (TX.out _).mono ?_; rintro e w' ⟨rfl, rfl⟩)
          go_roundw
          case rel => exact ⟨x + 1, by omega, by go_num, by rw [FN2.out]; rfl, by first | trivial | rfl⟩
          case measure => simp [intOf]; omega
        · have hz1 : ¬ (z : Int) = 1 := by omega
          go_wp2_with (go_at_call 17; refine (TX.out _).mono ?_; rintro e w' ⟨rfl, rfl⟩)
          go_roundw
          case rel => exact ⟨x + 1, by omega, by go_num, by rw [FN2.out, beq_eq_false_iff_ne.2 h1]; simp [hz1], by first | trivial | rfl⟩
          case measure => simp [intOf]; omega
    · obtain rfl : x = 256 := by omega
      rw [fnd_end a ha]
      by_cases h0 : a = 0
      · subst h0
        go_wp2_with (go_at_call 15; refine (awake_any _).mono ?_; rintro e w' ⟨rfl, hb2⟩)
        go_ret
        exact ⟨rfl, bel_trans HB.out hb2⟩
      · rw [show (a != 0) = true by simpa using h0]
        have hz0 : ((a : Int) != 0) = true := by rw [bne_iff_ne]; omega
        go_wp2_with (go_at_call 15; refine (awake_any _).mono ?_; rintro e w' ⟨rfl, hb2⟩)
        go_ret
        exact ⟨rfl, bel_trans HB.out hb2⟩
end Go.Proofs.Ytgflkoabjibipaa
