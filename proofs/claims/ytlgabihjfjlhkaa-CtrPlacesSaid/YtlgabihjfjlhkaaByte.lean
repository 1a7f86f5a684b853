/-
  The contracts of double, Times, inverse, left, Sub and Back: on bytes, what the field's plain functions say.
-/
import Derived.Test.YtlgabihjfjlhkaaMem
import Derived.Test.YtlgabihjfjlhkaaGf
import Derived.Laws.BitsAllLaws
import Derived.BigQuiet
namespace Go.Proofs.Ytlgabihjfjlhkaa
open Go.RowKit

theorem ret_u8 {a b : Int} (h : a = b) : Ending.returned (.int .u8 a) = .returned (.int .u8 b) := by rw [h]
theorem xtN_alt_all : ((List.range 256).all fun x => (2 * x % 256) ^^^ (if x < 128 then 0 else 27) == xtN x) = true := by kernel_rfl
theorem xtN_alt (x : Nat) (hx : x < 256) : (2 * x % 256) ^^^ (if x < 128 then 0 else 27) = xtN x := by simpa using all1 xtN_alt_all x hx
theorem double_eq (x : Nat) (hx : x < 256) : bits BinOp.xor IntKind.u8 ((x : Int) * 2 % 256) (bits BinOp.and IntKind.u8 27 (-((x : Int) / 128) % 256)) = ((xtN x : Nat) : Int) := by
  have e1 : (x : Int) * 2 % 256 = ((2 * x % 256 : Nat) : Int) := by omega
  rw [← xtN_alt x hx, e1]
  by_cases h : x < 128
  · have e2 : -((x : Int) / 128) % 256 = ((0 : Nat) : Int) := by omega
    rw [e2, show (27 : Int) = ((27 : Nat) : Int) from rfl, u8_and_nat _ _ (by omega) (by omega), u8_xor_nat _ _ (by omega) (by decide), if_pos h]
    rfl
  · have e2 : -((x : Int) / 128) % 256 = ((255 : Nat) : Int) := by omega
    rw [e2, show (27 : Int) = ((27 : Nat) : Int) from rfl, u8_and_nat _ _ (by omega) (by omega), u8_xor_nat _ _ (by omega) (by decide), if_neg h]
    rfl
set_option maxRecDepth 10000 in
set_option maxHeartbeats 400000 in
theorem double_any (x : Nat) (hx : x < 256) (w : World) : Calls Try.prog 34 #[.int .u8 x] w fun e w' => e = .returned (.int .u8 (xtN x : Nat)) ∧ w = w' := by
  go_enter Try.func34, Try.ntmps34
  go_wp2_with fail
  go_ret
  exact ⟨ret_u8 (double_eq x hx), rfl⟩

theorem tmN_zero : ∀ n a, tmN n a 0 = 0
  | 0, _ => rfl
  | n + 1, a => by unfold tmN; rw [show (0 : Nat) / 2 = 0 from rfl, tmN_zero n]; simp
theorem tmN_more : ∀ n a b, b < 2 ^ n → tmN (n + 1) a b = tmN n a b
  | 0, a, b, h => by
    have : b = 0 := by simpa using h
    subst this
    exact tmN_zero 1 a
  | n + 1, a, b, h => by
    show (if b % 2 = 1 then a else 0) ^^^ tmN (n + 1) (xtN a) (b / 2) = (if b % 2 = 1 then a else 0) ^^^ tmN n (xtN a) (b / 2)
    rw [tmN_more n _ _ (by rw [Nat.pow_succ] at h; omega)]
theorem gf_step (a b : Nat) (hb : b < 256) : gf a b = (if b % 2 = 1 then a else 0) ^^^ gf (xtN a) (b / 2) := by
  show (if b % 2 = 1 then a else 0) ^^^ tmN 7 (xtN a) (b / 2) = (if b % 2 = 1 then a else 0) ^^^ tmN 8 (xtN a) (b / 2)
  rw [tmN_more 7 _ _ (by show b / 2 < 128; omega)]
structure TimesSt (a b p x y : Nat) : Prop where
  lp : p < 256
  lx : x < 256
  ly : y < 256
  sum : p ^^^ gf x y = gf a b
theorem TimesSt.one {a b p x y : Nat} (s : TimesSt a b p x y) (h : y % 2 = 1) : TimesSt a b (p ^^^ x) (xtN x) (y / 2) :=
  ⟨xor8 s.lp s.lx, xtN_lt x s.lx, by have := s.ly; omega, by rw [← s.sum, gf_step x y s.ly, if_pos h, Nat.xor_assoc]⟩
theorem TimesSt.none {a b p x y : Nat} (s : TimesSt a b p x y) (h : ¬ y % 2 = 1) : TimesSt a b p (xtN x) (y / 2) :=
  ⟨s.lp, xtN_lt x s.lx, by have := s.ly; omega, by rw [← s.sum, gf_step x y s.ly, if_neg h, Nat.zero_xor]⟩
theorem and1 (y : Nat) (hy : y < 256) : bits BinOp.and IntKind.u8 (y : Int) 1 = ((y % 2 : Nat) : Int) := by
  rw [show (1 : Int) = ((1 : Nat) : Int) from rfl, u8_and_nat _ _ hy (by omega), Nat.and_one_is_mod]
theorem and255_all : ((List.range 256).all fun x => x &&& 255 == x) = true := by kernel_rfl
theorem and255 (x : Nat) (hx : x < 256) : bits BinOp.and IntKind.u8 (x : Int) 255 = (x : Int) := by
  rw [show (255 : Int) = ((255 : Nat) : Int) from rfl, u8_and_nat _ _ hx (by omega)]
  have := all1 and255_all x hx
  simp only [beq_iff_eq] at this
  rw [this]
theorem and0 (x : Nat) (hx : x < 256) : bits BinOp.and IntKind.u8 (x : Int) 0 = 0 := by
  rw [show (0 : Int) = ((0 : Nat) : Int) from rfl, u8_and_nat _ _ hx (by omega), Nat.and_zero]
theorem xor0 (x : Nat) (hx : x < 256) : bits BinOp.xor IntKind.u8 (x : Int) 0 = (x : Int) := by
  rw [show (0 : Int) = ((0 : Nat) : Int) from rfl, u8_xor_nat _ _ hx (by omega), Nat.xor_zero]
set_option maxRecDepth 10000 in
set_option maxHeartbeats 400000 in
theorem times_any (a b : Nat) (ha : a < 256) (hb : b < 256) (w : World) : Calls Try.prog 43 #[.int .u8 a, .int .u8 b] w fun e w' => e = .returned (.int .u8 (gf a b : Nat)) ∧ w = w' := by
  have S0 : TimesSt a b 0 a b := ⟨by omega, ha, hb, Nat.zero_xor _⟩
  go_enter Try.func43, Try.ntmps43
  go_wp2_with fail
  go_loopw [0, 1, 5] (fun va vb vp wr => ∃ x y p : Nat, va = .int .u8 x ∧ vb = .int .u8 y ∧ vp = .int .u8 p ∧ w = wr ∧ TimesSt a b p x y) (fun _ vb _ _ => (intOf vb).toNat)
  case atStart => exact ⟨a, b, 0, rfl, rfl, rfl, rfl, S0⟩
  case round =>
    obtain ⟨x, y, p, rfl, rfl, rfl, rfl, hs⟩ := hrel
    clear S0
    have lx := hs.lx
    have ly := hs.ly
    have lp := hs.lp
    by_cases h0 : y = 0
    · subst h0
      have e := hs.sum
      rw [gf_zero x lx, Nat.xor_zero] at e
      subst e
      go_wp2_with fail
      go_ret
      exact ⟨rfl, rfl⟩
    · have hz : ¬ ((y : Int) = 0) := by omega
      have hd : (((y / 2 : Nat)) : Int) = (y : Int) / 2 := by omega
      by_cases h1 : y % 2 = 1
      · have q1 := and1 y ly
        rw [h1] at q1
        have q1' : bits BinOp.and IntKind.u8 (y : Int) 1 = 1 := q1
        have q2 := and255 x lx
        have q3 := u8_xor_nat p x lp lx
        have l3 := xor8 lp lx
        have hn := hid (hs.one h1)
        generalize p ^^^ x = z at q3 l3 hn
        clear q1
        go_wp2_with (refine (double_any x lx _).mono ?_; rintro e w' ⟨rfl, rfl⟩)
        go_roundw
        case rel => exact ⟨xtN x, y / 2, z, rfl, by rw [hd], by first | rfl | trivial, by first | rfl | trivial, hn⟩
        case measure => simp [intOf]; omega
      · have q1 := and1 y ly
        rw [show y % 2 = 0 by omega] at q1
        have q1' : bits BinOp.and IntKind.u8 (y : Int) 1 = 0 := q1
        have q2 := and0 x lx
        have q3 := xor0 p lp
        have hn := hid (hs.none h1)
        clear q1
        go_wp2_with (refine (double_any x lx _).mono ?_; rintro e w' ⟨rfl, rfl⟩)
        go_roundw
        case rel => exact ⟨xtN x, y / 2, p, rfl, by rw [hd], by first | rfl | trivial, by first | rfl | trivial, hn⟩
        case measure => simp [intOf]; omega

/-- b, squared k times. -/
def sqN (b : Nat) : Nat → Nat
  | 0 => b
  | k + 1 => gf (sqN b k) (sqN b k)
def prN (b : Nat) : Nat → Nat
  | 0 => 1
  | k + 1 => gf (prN b k) (sqN b (k + 1))
theorem sqN_lt (b : Nat) (hb : b < 256) : ∀ k, sqN b k < 256
  | 0 => hb
  | k + 1 => gf_lt _ _ (sqN_lt b hb k)
theorem prN_lt (b : Nat) (hb : b < 256) : ∀ k, prN b k < 256
  | 0 => by show (1 : Nat) < 256; omega
  | k + 1 => gf_lt _ _ (prN_lt b hb k)
theorem prN_all : ((List.range 256).all fun b => prN b 7 == invN b) = true := by kernel_rfl
theorem prN_inv (b : Nat) (hb : b < 256) : prN b 7 = invN b := by
  have := all1 prN_all b hb
  simpa using this
set_option maxRecDepth 10000 in
set_option maxHeartbeats 400000 in
theorem inverse_any (b : Nat) (hb : b < 256) (w : World) : Calls Try.prog 32 #[.int .u8 b] w fun e w' => e = .returned (.int .u8 (invN b : Nat)) ∧ w = w' := by
  go_enter Try.func32, Try.ntmps32
  go_wp2_with fail
  go_loopw [0, 3, 4] (fun vb vp vk wr => ∃ k : Nat, k ≤ 7 ∧ vk = .int .i64 k ∧ vb = .int .u8 (sqN b k : Nat) ∧ vp = .int .u8 (prN b k : Nat) ∧ w = wr) (fun _ _ vk _ => 7 - (intOf vk).toNat)
  case atStart => exact ⟨0, Nat.zero_le _, rfl, rfl, rfl, rfl⟩
  case round =>
    obtain ⟨k, hk, rfl, rfl, rfl, rfl⟩ := hrel
    by_cases hlt : k < 7
    · have hlz : (k : Int) < 7 := by omega
      have ls := sqN_lt b hb k
      have lp := prN_lt b hb k
      have ls2 := sqN_lt b hb (k + 1)
      have H1 := hid (show sqN b (k + 1) = gf (sqN b k) (sqN b k) from rfl)
      have H2 := hid (show prN b (k + 1) = gf (prN b k) (sqN b (k + 1)) from rfl)
      generalize sqN b k = s at ls H1 ⊢
      generalize prN b k = p at lp H2 ⊢
      obtain ⟨s', hs'⟩ : ∃ s', s' = sqN b (k + 1) := ⟨_, rfl⟩
      rw [← hs'] at ls2
      have H1' : gf s s = s' := by rw [hs', H1.out]
      have H2' := hid (show prN b (k + 1) = gf p s' by rw [hs', H2.out])
      have Hs' := hid hs'
      clear H1 H2 hs'
      go_wp2_with (first
        | (go_at_call 43; with_reducible refine (times_any s s ls ls _).mono ?_; rintro e w' ⟨rfl, rfl⟩; rw [H1'])
        | (go_at_call 43; with_reducible refine (times_any p s' lp ls2 _).mono ?_; rintro e w' ⟨rfl, rfl⟩))
      go_roundw
      case rel => exact ⟨k + 1, by omega, by go_num, by rw [Hs'.out], by rw [H2'.out], by first | trivial | rfl⟩
      case measure => simp [intOf]; omega
    · obtain rfl : k = 7 := by omega
      have e := prN_inv b hb
      generalize prN b 7 = p at e ⊢
      subst e
      generalize sqN b 7 = s
      go_wp2_with fail
      go_ret
      exact ⟨rfl, rfl⟩

/-- The bits turned to the left by n. -/
def leftN (x n : Nat) : Nat := (x * 2 ^ n % 256) ||| (x / 2 ^ (8 - n))
theorem left1_eq (x : Nat) (hx : x < 256) : bits BinOp.or IntKind.u8 ((x : Int) * 2 % 256) ((x : Int) / 128) = ((leftN x 1 : Nat) : Int) := by
  have e1 : (x : Int) * 2 % 256 = ((x * 2 % 256 : Nat) : Int) := by omega
  have e2 : (x : Int) / 128 = ((x / 128 : Nat) : Int) := by omega
  rw [e1, e2, u8_or_nat _ _ (by omega) (by omega)]
  rfl
set_option maxRecDepth 10000 in
set_option maxHeartbeats 400000 in
theorem left1_any (x : Nat) (hx : x < 256) (w : World) : Calls Try.prog 33 #[.int .u8 x, .int .i64 1] w fun e w' => e = .returned (.int .u8 (leftN x 1 : Nat)) ∧ ∃ m, w' = w.drewN m := by
  have q := left1_eq x hx
  go_enter Try.func33, Try.ntmps33
  go_wp2_with fail
  go_quiet (fail)
  go_wp2_with fail
  go_ret
  exact ⟨rfl, _, rfl⟩
theorem left2_eq (x : Nat) (hx : x < 256) : bits BinOp.or IntKind.u8 ((x : Int) * 4 % 256) ((x : Int) / 64) = ((leftN x 2 : Nat) : Int) := by
  have e1 : (x : Int) * 4 % 256 = ((x * 4 % 256 : Nat) : Int) := by omega
  have e2 : (x : Int) / 64 = ((x / 64 : Nat) : Int) := by omega
  rw [e1, e2, u8_or_nat _ _ (by omega) (by omega)]
  rfl
set_option maxRecDepth 10000 in
set_option maxHeartbeats 400000 in
theorem left2_any (x : Nat) (hx : x < 256) (w : World) : Calls Try.prog 33 #[.int .u8 x, .int .i64 2] w fun e w' => e = .returned (.int .u8 (leftN x 2 : Nat)) ∧ ∃ m, w' = w.drewN m := by
  have q := left2_eq x hx
  go_enter Try.func33, Try.ntmps33
  go_wp2_with fail
  go_quiet (fail)
  go_wp2_with fail
  go_ret
  exact ⟨rfl, _, rfl⟩
theorem left3_eq (x : Nat) (hx : x < 256) : bits BinOp.or IntKind.u8 ((x : Int) * 8 % 256) ((x : Int) / 32) = ((leftN x 3 : Nat) : Int) := by
  have e1 : (x : Int) * 8 % 256 = ((x * 8 % 256 : Nat) : Int) := by omega
  have e2 : (x : Int) / 32 = ((x / 32 : Nat) : Int) := by omega
  rw [e1, e2, u8_or_nat _ _ (by omega) (by omega)]
  rfl
set_option maxRecDepth 10000 in
set_option maxHeartbeats 400000 in
theorem left3_any (x : Nat) (hx : x < 256) (w : World) : Calls Try.prog 33 #[.int .u8 x, .int .i64 3] w fun e w' => e = .returned (.int .u8 (leftN x 3 : Nat)) ∧ ∃ m, w' = w.drewN m := by
  have q := left3_eq x hx
  go_enter Try.func33, Try.ntmps33
  go_wp2_with fail
  go_quiet (fail)
  go_wp2_with fail
  go_ret
  exact ⟨rfl, _, rfl⟩
theorem left4_eq (x : Nat) (hx : x < 256) : bits BinOp.or IntKind.u8 ((x : Int) * 16 % 256) ((x : Int) / 16) = ((leftN x 4 : Nat) : Int) := by
  have e1 : (x : Int) * 16 % 256 = ((x * 16 % 256 : Nat) : Int) := by omega
  have e2 : (x : Int) / 16 = ((x / 16 : Nat) : Int) := by omega
  rw [e1, e2, u8_or_nat _ _ (by omega) (by omega)]
  rfl
set_option maxRecDepth 10000 in
set_option maxHeartbeats 400000 in
theorem left4_any (x : Nat) (hx : x < 256) (w : World) : Calls Try.prog 33 #[.int .u8 x, .int .i64 4] w fun e w' => e = .returned (.int .u8 (leftN x 4 : Nat)) ∧ ∃ m, w' = w.drewN m := by
  have q := left4_eq x hx
  go_enter Try.func33, Try.ntmps33
  go_wp2_with fail
  go_quiet (fail)
  go_wp2_with fail
  go_ret
  exact ⟨rfl, _, rfl⟩
theorem left6_eq (x : Nat) (hx : x < 256) : bits BinOp.or IntKind.u8 ((x : Int) * 64 % 256) ((x : Int) / 4) = ((leftN x 6 : Nat) : Int) := by
  have e1 : (x : Int) * 64 % 256 = ((x * 64 % 256 : Nat) : Int) := by omega
  have e2 : (x : Int) / 4 = ((x / 4 : Nat) : Int) := by omega
  rw [e1, e2, u8_or_nat _ _ (by omega) (by omega)]
  rfl
set_option maxRecDepth 10000 in
set_option maxHeartbeats 400000 in
theorem left6_any (x : Nat) (hx : x < 256) (w : World) : Calls Try.prog 33 #[.int .u8 x, .int .i64 6] w fun e w' => e = .returned (.int .u8 (leftN x 6 : Nat)) ∧ ∃ m, w' = w.drewN m := by
  have q := left6_eq x hx
  go_enter Try.func33, Try.ntmps33
  go_wp2_with fail
  go_quiet (fail)
  go_wp2_with fail
  go_ret
  exact ⟨rfl, _, rfl⟩
theorem leftN_lt_all : ((List.range 256).all fun x => decide (leftN x 1 < 256) && decide (leftN x 2 < 256) && decide (leftN x 3 < 256) && decide (leftN x 4 < 256) && decide (leftN x 6 < 256)) = true := by kernel_rfl
theorem leftN_lt (x : Nat) (hx : x < 256) : leftN x 1 < 256 ∧ leftN x 2 < 256 ∧ leftN x 3 < 256 ∧ leftN x 4 < 256 ∧ leftN x 6 < 256 := by
  have := all1 leftN_lt_all x hx
  simp only [Bool.and_eq_true, decide_eq_true_eq] at this
  exact ⟨this.1.1.1.1, this.1.1.1.2, this.1.1.2, this.1.2, this.2⟩
theorem subN_left_all : ((List.range 256).all fun b => (((((invN b ^^^ leftN (invN b) 1) ^^^ leftN (invN b) 2) ^^^ leftN (invN b) 3) ^^^ leftN (invN b) 4) ^^^ 99) == subN b) = true := by kernel_rfl
theorem subN_left (b : Nat) (hb : b < 256) : (((((invN b ^^^ leftN (invN b) 1) ^^^ leftN (invN b) 2) ^^^ leftN (invN b) 3) ^^^ leftN (invN b) 4) ^^^ 99) = subN b := by
  have := all1 subN_left_all b hb
  simpa using this
theorem backN_left_all : ((List.range 256).all fun b => invN ((leftN (b ^^^ 99) 1 ^^^ leftN (b ^^^ 99) 3) ^^^ leftN (b ^^^ 99) 6) == backN b) = true := by kernel_rfl
theorem backN_left (b : Nat) (hb : b < 256) : invN ((leftN (b ^^^ 99) 1 ^^^ leftN (b ^^^ 99) 3) ^^^ leftN (b ^^^ 99) 6) = backN b := by
  have := all1 backN_left_all b hb
  simpa using this
theorem xor99 (x : Nat) (hx : x < 256) : bits BinOp.xor IntKind.u8 (x : Int) 99 = ((x ^^^ 99 : Nat) : Int) := by
  rw [show (99 : Int) = ((99 : Nat) : Int) from rfl, u8_xor_nat _ _ hx (by omega)]
set_option maxRecDepth 10000 in
set_option maxHeartbeats 400000 in
theorem sub_any (b : Nat) (hb : b < 256) (w : World) : Calls Try.prog 17 #[.int .u8 b] w fun e w' => e = .returned (.int .u8 (subN b : Nat)) ∧ ∃ m, w' = w.drewN m := by
  have E := hid (subN_left b hb)
  have lc := inv_lt b hb
  obtain ⟨l1, l2, l3, l4, _⟩ := leftN_lt (invN b) lc
  have q1 := u8_xor_nat _ _ lc l1
  have q2 := u8_xor_nat _ _ (xor8 lc l1) l2
  have q3 := u8_xor_nat _ _ (xor8 (xor8 lc l1) l2) l3
  have q4 := u8_xor_nat _ _ (xor8 (xor8 (xor8 lc l1) l2) l3) l4
  have q5 := xor99 _ (xor8 (xor8 (xor8 (xor8 lc l1) l2) l3) l4)
  rw [E.out] at q5
  clear l1 l2 l3 l4 E
  generalize (((invN b ^^^ leftN (invN b) 1) ^^^ leftN (invN b) 2) ^^^ leftN (invN b) 3) ^^^ leftN (invN b) 4 = z4 at q4 q5
  generalize ((invN b ^^^ leftN (invN b) 1) ^^^ leftN (invN b) 2) ^^^ leftN (invN b) 3 = z3 at q3 q4
  generalize (invN b ^^^ leftN (invN b) 1) ^^^ leftN (invN b) 2 = z2 at q2 q3
  generalize invN b ^^^ leftN (invN b) 1 = z1 at q1 q2
  go_enter Try.func17, Try.ntmps17
  go_wp2_with (first
    | (go_at_call 32; with_reducible refine (inverse_any b hb _).mono ?_; rintro e w' ⟨rfl, rfl⟩)
    | (go_at_call 33; with_reducible refine (left1_any (invN b) lc _).mono ?_; rintro e w' ⟨rfl, m1, rfl⟩)
    | (go_at_call 33; with_reducible refine (left2_any (invN b) lc _).mono ?_; rintro e w' ⟨rfl, m2, rfl⟩)
    | (go_at_call 33; with_reducible refine (left3_any (invN b) lc _).mono ?_; rintro e w' ⟨rfl, m3, rfl⟩)
    | (go_at_call 33; with_reducible refine (left4_any (invN b) lc _).mono ?_; rintro e w' ⟨rfl, m4, rfl⟩))
  go_ret
  exact ⟨rfl, _, rfl⟩
end Go.Proofs.Ytlgabihjfjlhkaa
