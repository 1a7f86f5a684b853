/-
  The contracts of width, ask and U8 to U64: of any bytes, at any place, the number that stands there and whether one does; nothing is written.
-/
import Derived.Test.YtdaekdfogcgdfaaProg
import Derived.Test.YtdaekdfogcgdfaaNum
import Derived.WalkKit
import Derived.WalkSpells
import Derived.WalkLawsBesides
namespace Go.Proofs.Ytdaekdfogcgdfaa
open Go.RowKit

set_option maxRecDepth 10000 in
set_option maxHeartbeats 400000 in
theorem len64_of8 (w : World) : Calls Try.prog 54 #[.int .u64 255] w fun e w' => e = .returned (.int .i64 8) ∧ w = w' := by
  go_enter Try.func54, Try.ntmps54
  go_wp2_with fail
  go_ret
  exact ⟨by kernel_rfl, rfl⟩
set_option maxRecDepth 10000 in
set_option maxHeartbeats 400000 in
theorem len64_of16 (w : World) : Calls Try.prog 54 #[.int .u64 65535] w fun e w' => e = .returned (.int .i64 16) ∧ w = w' := by
  go_enter Try.func54, Try.ntmps54
  go_wp2_with fail
  go_ret
  exact ⟨by kernel_rfl, rfl⟩
set_option maxRecDepth 10000 in
set_option maxHeartbeats 400000 in
theorem len64_of32 (w : World) : Calls Try.prog 54 #[.int .u64 4294967295] w fun e w' => e = .returned (.int .i64 32) ∧ w = w' := by
  go_enter Try.func54, Try.ntmps54
  go_wp2_with fail
  go_ret
  exact ⟨by kernel_rfl, rfl⟩
set_option maxRecDepth 10000 in
set_option maxHeartbeats 400000 in
theorem len64_of64 (w : World) : Calls Try.prog 54 #[.int .u64 18446744073709551615] w fun e w' => e = .returned (.int .i64 64) ∧ w = w' := by
  go_enter Try.func54, Try.ntmps54
  go_wp2_with fail
  go_ret
  exact ⟨by kernel_rfl, rfl⟩
set_option maxRecDepth 10000 in
set_option maxHeartbeats 400000 in
theorem width8 (w : World) : Calls Try.prog 51 #[] w fun e w' => e = .returned (.int .i64 1) ∧ w = w' := by
  have e1 : bits BinOp.xor IntKind.u8 IntKind.u8.max 0 = 255 := by kernel_rfl
  go_enter Try.func51, Try.ntmps51
  go_wp2_with (go_at_call 54; refine (len64_of8 _).mono ?_; rintro e w' ⟨rfl, rfl⟩)
  go_ret
  exact ⟨by kernel_rfl, rfl⟩
set_option maxRecDepth 10000 in
set_option maxHeartbeats 400000 in
theorem width16 (w : World) : Calls Try.prog 49 #[] w fun e w' => e = .returned (.int .i64 2) ∧ w = w' := by
  have e1 : bits BinOp.xor IntKind.u16 IntKind.u16.max 0 = 65535 := by kernel_rfl
  go_enter Try.func49, Try.ntmps49
  go_wp2_with (go_at_call 54; refine (len64_of16 _).mono ?_; rintro e w' ⟨rfl, rfl⟩)
  go_ret
  exact ⟨by kernel_rfl, rfl⟩
set_option maxRecDepth 10000 in
set_option maxHeartbeats 400000 in
theorem width32 (w : World) : Calls Try.prog 50 #[] w fun e w' => e = .returned (.int .i64 4) ∧ w = w' := by
  have e1 : bits BinOp.xor IntKind.u32 IntKind.u32.max 0 = 4294967295 := by kernel_rfl
  go_enter Try.func50, Try.ntmps50
  go_wp2_with (go_at_call 54; refine (len64_of32 _).mono ?_; rintro e w' ⟨rfl, rfl⟩)
  go_ret
  exact ⟨by kernel_rfl, rfl⟩
set_option maxRecDepth 10000 in
set_option maxHeartbeats 400000 in
theorem width64 (w : World) : Calls Try.prog 48 #[] w fun e w' => e = .returned (.int .i64 8) ∧ w = w' := by
  have e1 : bits BinOp.xor IntKind.u64 IntKind.u64.max 0 = 18446744073709551615 := by kernel_rfl
  go_enter Try.func48, Try.ntmps48
  go_wp2_with (go_at_call 54; refine (len64_of64 _).mono ?_; rintro e w' ⟨rfl, rfl⟩)
  go_ret
  exact ⟨by kernel_rfl, rfl⟩

theorem add_of_add (a : Addr) (i j : Nat) : (a.add i).add j = a.add (i + j) := by
  unfold Addr.add
  by_cases hi : i = 0 <;> by_cases hj : j = 0 <;> simp [hi, hj, Nat.add_assoc]
theorem wrap_u64_byte (y : Nat) (h : y < 256) : IntKind.u64.wrap (y : Int) = (y : Int) := by
  rw [IntKind.wrap_u64]; omega
theorem or_step (x y : Nat) (hx : (x : Int) < 72057594037927936) (h : y < 256) : bits BinOp.or IntKind.u64 (IntKind.u64.wrap ((x : Int) * 256)) (y : Int) = ((x * 256 + y : Nat) : Int) := by
  have e1 : IntKind.u64.wrap ((x : Int) * 256) = ((x * 256 : Nat) : Int) := by rw [IntKind.wrap_u64]; omega
  rw [e1, u64_or_nat _ _ (by omega) (by omega)]
  have e2 : x * 256 ||| y = x * 256 + y := by
    have := Nat.two_pow_add_eq_or_of_lt (i := 8) (b := y) (by omega) x
    rw [Nat.mul_comm x 256]
    exact this.symm
  rw [e2]

theorem ret2_int {k : IntKind} {a b : Int} {r : Bool} (h : a = b) : Ending.returned (.tuple #[.int k a, .bool r]) = .returned (.tuple #[.int k b, .bool r]) := by rw [h]
theorem mod_u8_be (x : Nat) (h : x < 256 ^ 1) : (x : Int) % 256 = (x : Int) := by omega

/-- A byte as the model has it. -/
def bv (b : UInt8) : Value := .int .u8 (b.toNat : Int)

/-- The slice of address A, length n and capacity c has the bytes l (nothing is asked of an empty one's address). -/
structure IsB (w : World) (A : Option Addr) (n c : Nat) (l : List UInt8) : Prop where
  len : l.length = n
  cap : n ≤ c
  max : c ≤ maxLen
  small : n ≤ 140737488355328
  lies : 0 < l.length → ∃ ad, A = some ad ∧ ∀ j (h : j < l.length), w.cell? (ad.add j) = some (.int .u8 (l[j].toNat : Int))

/-- Does a number of n bytes stand at a place? -/
def has (n len : Nat) (at_ : Int) : Bool := decide (0 ≤ at_ ∧ at_ + n ≤ len)
/-- The number of n bytes that stands at a place: 0 where none does. -/
def num (n : Nat) (l : List UInt8) (at_ : Int) : Int := if has n l.length at_ = true then (beN ((l.drop at_.toNat).take n) : Int) else 0
theorem has_no {n len : Nat} {at_ : Int} (h : at_ < 0 ∨ (len : Int) - n < at_) : has n len at_ = false := by
  unfold has; rw [decide_eq_false_iff_not]; omega
theorem has_yes {n len k : Nat} (h : k + n ≤ len) : has n len (k : Int) = true := by
  unfold has; rw [decide_eq_true_iff]; omega
theorem num_no {n : Nat} {l : List UInt8} {at_ : Int} (h : has n l.length at_ = false) : num n l at_ = 0 := by
  unfold num; rw [h]; rfl
theorem num_yes {n k : Nat} {l : List UInt8} (h : k + n ≤ l.length) : num n l (k : Int) = (beN ((l.drop k).take n) : Int) := by
  unfold num; rw [if_pos (has_yes h)]; rfl

theorem wrap_u8_be (x : Nat) (h : x < 256 ^ 1) : IntKind.u8.wrap (x : Int) = (x : Int) := by
  have h' : x < 256 := h
  simp [IntKind.wrap, IntKind.bits, IntKind.signed]
  omega
set_option maxRecDepth 10000 in
set_option maxHeartbeats 400000 in
theorem ask8_no (A : Option Addr) (n c : Nat) (at_ : Int) (w : World) (hn : n ≤ maxLen) (h : at_ < 0 ∨ (n : Int) - 1 < at_) :
    Calls Try.prog 40 #[.slice A n c, .int .i64 at_] w fun e w' => e = .returned (.tuple #[.int .u8 0, .bool false]) ∧ w = w' := by
  unfold maxLen at hn
  by_cases h0 : at_ < 0
  · go_enter Try.func40, Try.ntmps40
    go_wp2_with (go_at_call 51; refine (width8 _).mono ?_; rintro e w' ⟨rfl, rfl⟩)
    go_ret2
    exact ⟨rfl, rfl⟩
  · have h1 : (n : Int) - 1 < at_ := by omega
    go_enter Try.func40, Try.ntmps40
    go_wp2_with (go_at_call 51; refine (width8 _).mono ?_; rintro e w' ⟨rfl, rfl⟩)
    go_ret2
    exact ⟨rfl, rfl⟩
set_option maxRecDepth 10000 in
set_option maxHeartbeats 400000 in
theorem ask8_yes (ad : Addr) (l : List UInt8) (c k : Nat) (w : World) (hc : l.length ≤ c) (hm : c ≤ maxLen) (h : k + 1 ≤ l.length)
    (hr : ∀ j (h : j < l.length), w.cell? (ad.add j) = some (.int .u8 (l[j].toNat : Int))) :
    Calls Try.prog 40 #[.slice (some ad) l.length c, .int .i64 k] w fun e w' => e = .returned (.tuple #[.int .u8 (beN ((l.drop k).take 1)), .bool true]) ∧ w = w' := by
  unfold maxLen at hm
  have hr' := hid hr
  clear hr
  go_enter Try.func40, Try.ntmps40
  go_wp2_with (go_at_call 51; refine (width8 _).mono ?_; rintro e w' ⟨rfl, rfl⟩)
  go_loop [7, 28] (fun v i => ∃ j : Nat, j ≤ 1 ∧ i = .int .i64 j ∧ v = .int .u64 (beN ((l.drop k).take j))) (fun _ i => 1 - (intOf i).toNat)
  case atStart => exact ⟨0, Nat.zero_le _, rfl, rfl⟩
  case round =>
    obtain ⟨j, hj, rfl, rfl⟩ := hrel
    by_cases hlt : j < 1
    · have hcell := hr'.out (k + j) (by omega)
      rw [← add_of_add] at hcell
      have hb : beN ((l.drop k).take j) < 256 ^ j := beN_lt _ _ (by simp; omega)
      have hts := take_succ_drop l k j (by omega)
      have hsn := beN_snoc ((l.drop k).take j) l[k + j]
      rw [← hts] at hsn
      clear hts
      obtain ⟨x, hx⟩ : ∃ x, x = beN ((l.drop k).take j) := ⟨_, rfl⟩
      rw [← hx] at hb hsn
      rw [← hx]
      clear hx
      obtain ⟨y, hy⟩ : ∃ y, y = l[k + j].toNat := ⟨_, rfl⟩
      have hy2 : y < 256 := by rw [hy]; exact l[k + j].toNat_lt
      rw [← hy] at hcell hsn
      clear hy
      have hx2 : (x : Int) < 72057594037927936 := by
        have : 256 ^ j ≤ 256 ^ 7 := Nat.pow_le_pow_right (by omega) (by omega)
        omega
      have e1 := wrap_u64_byte y hy2
      have e2 := or_step x y hx2 hy2
      have Hs := hid hsn
      clear hb hx2 hsn
      go_wp2
      go_round
      case rel => exact ⟨j + 1, by omega, by go_num, by rw [Hs.out]; go_num⟩
      case measure => simp [intOf]; omega
    · obtain rfl : j = 1 := by omega
      have E1 := hid (mod_u8_be _ (beN_lt 1 ((l.drop k).take 1) (by simp; omega)))
      go_wp2
      go_ret2
      exact ⟨ret2_int E1.out, rfl⟩
theorem ask8_any (A : Option Addr) (l : List UInt8) (n c : Nat) (at_ : Int) (w : World) (h : IsB w A n c l) :
    Calls Try.prog 40 #[.slice A n c, .int .i64 at_] w fun e w' => e = .returned (.tuple #[.int .u8 (num 1 l at_), .bool (has 1 n at_)]) ∧ w = w' := by
  obtain rfl := h.len
  by_cases hp : 0 ≤ at_ ∧ at_ + 1 ≤ l.length
  · obtain ⟨k, rfl⟩ := Int.eq_ofNat_of_zero_le hp.1
    have hk : k + 1 ≤ l.length := by omega
    obtain ⟨ad, rfl, hr⟩ := h.lies (by omega)
    refine (ask8_yes ad l c k w h.cap h.max hk hr).mono ?_
    rintro e w' ⟨rfl, rfl⟩
    exact ⟨by rw [num_yes hk, has_yes hk], rfl⟩
  · have hno : has 1 l.length at_ = false := has_no (by omega)
    refine (ask8_no A l.length c at_ w (Nat.le_trans h.cap h.max) (by omega)).mono ?_
    rintro e w' ⟨rfl, rfl⟩
    exact ⟨by rw [num_no hno, hno], rfl⟩
set_option maxHeartbeats 400000 in
theorem U8_any (A : Option Addr) (l : List UInt8) (n c : Nat) (at_ : Int) (w : World) (h : IsB w A n c l) :
    Calls Try.prog 21 #[.slice A n c, .int .i64 at_] w fun e w' => e = .returned (.tuple #[.int .u8 (num 1 l at_), .bool (has 1 n at_)]) ∧ w = w' := by
  go_enter Try.func21, Try.ntmps21
  go_wp2_with (go_at_call 40; refine (ask8_any _ _ _ _ _ _ h).mono ?_; rintro e w' ⟨rfl, rfl⟩)
  go_ret2
  exact ⟨rfl, rfl⟩
theorem wrap_u16_be (x : Nat) (h : x < 256 ^ 2) : IntKind.u16.wrap (x : Int) = (x : Int) := by
  have h' : x < 65536 := h
  simp [IntKind.wrap, IntKind.bits, IntKind.signed]
  omega
set_option maxRecDepth 10000 in
set_option maxHeartbeats 400000 in
theorem ask16_no (A : Option Addr) (n c : Nat) (at_ : Int) (w : World) (hn : n ≤ maxLen) (h : at_ < 0 ∨ (n : Int) - 2 < at_) :
    Calls Try.prog 34 #[.slice A n c, .int .i64 at_] w fun e w' => e = .returned (.tuple #[.int .u16 0, .bool false]) ∧ w = w' := by
  unfold maxLen at hn
  by_cases h0 : at_ < 0
  · go_enter Try.func34, Try.ntmps34
    go_wp2_with (go_at_call 49; refine (width16 _).mono ?_; rintro e w' ⟨rfl, rfl⟩)
    go_ret2
    exact ⟨rfl, rfl⟩
  · have h1 : (n : Int) - 2 < at_ := by omega
    go_enter Try.func34, Try.ntmps34
    go_wp2_with (go_at_call 49; refine (width16 _).mono ?_; rintro e w' ⟨rfl, rfl⟩)
    go_ret2
    exact ⟨rfl, rfl⟩
set_option maxRecDepth 10000 in
set_option maxHeartbeats 400000 in
theorem ask16_yes (ad : Addr) (l : List UInt8) (c k : Nat) (w : World) (hc : l.length ≤ c) (hm : c ≤ maxLen) (h : k + 2 ≤ l.length)
    (hr : ∀ j (h : j < l.length), w.cell? (ad.add j) = some (.int .u8 (l[j].toNat : Int))) :
    Calls Try.prog 34 #[.slice (some ad) l.length c, .int .i64 k] w fun e w' => e = .returned (.tuple #[.int .u16 (beN ((l.drop k).take 2)), .bool true]) ∧ w = w' := by
  unfold maxLen at hm
  have hr' := hid hr
  clear hr
  go_enter Try.func34, Try.ntmps34
  go_wp2_with (go_at_call 49; refine (width16 _).mono ?_; rintro e w' ⟨rfl, rfl⟩)
  go_loop [7, 28] (fun v i => ∃ j : Nat, j ≤ 2 ∧ i = .int .i64 j ∧ v = .int .u64 (beN ((l.drop k).take j))) (fun _ i => 2 - (intOf i).toNat)
  case atStart => exact ⟨0, Nat.zero_le _, rfl, rfl⟩
  case round =>
    obtain ⟨j, hj, rfl, rfl⟩ := hrel
    by_cases hlt : j < 2
    · have hcell := hr'.out (k + j) (by omega)
      rw [← add_of_add] at hcell
      have hb : beN ((l.drop k).take j) < 256 ^ j := beN_lt _ _ (by simp; omega)
      have hts := take_succ_drop l k j (by omega)
      have hsn := beN_snoc ((l.drop k).take j) l[k + j]
      rw [← hts] at hsn
      clear hts
      obtain ⟨x, hx⟩ : ∃ x, x = beN ((l.drop k).take j) := ⟨_, rfl⟩
      rw [← hx] at hb hsn
      rw [← hx]
      clear hx
      obtain ⟨y, hy⟩ : ∃ y, y = l[k + j].toNat := ⟨_, rfl⟩
      have hy2 : y < 256 := by rw [hy]; exact l[k + j].toNat_lt
      rw [← hy] at hcell hsn
      clear hy
      have hx2 : (x : Int) < 72057594037927936 := by
        have : 256 ^ j ≤ 256 ^ 7 := Nat.pow_le_pow_right (by omega) (by omega)
        omega
      have e1 := wrap_u64_byte y hy2
      have e2 := or_step x y hx2 hy2
      have Hs := hid hsn
      clear hb hx2 hsn
      go_wp2
      go_round
      case rel => exact ⟨j + 1, by omega, by go_num, by rw [Hs.out]; go_num⟩
      case measure => simp [intOf]; omega
    · obtain rfl : j = 2 := by omega
      have E1 := hid (wrap_u16_be _ (beN_lt 2 ((l.drop k).take 2) (by simp; omega)))
      go_wp2
      go_ret2
      exact ⟨ret2_int E1.out, rfl⟩
theorem ask16_any (A : Option Addr) (l : List UInt8) (n c : Nat) (at_ : Int) (w : World) (h : IsB w A n c l) :
    Calls Try.prog 34 #[.slice A n c, .int .i64 at_] w fun e w' => e = .returned (.tuple #[.int .u16 (num 2 l at_), .bool (has 2 n at_)]) ∧ w = w' := by
  obtain rfl := h.len
  by_cases hp : 0 ≤ at_ ∧ at_ + 2 ≤ l.length
  · obtain ⟨k, rfl⟩ := Int.eq_ofNat_of_zero_le hp.1
    have hk : k + 2 ≤ l.length := by omega
    obtain ⟨ad, rfl, hr⟩ := h.lies (by omega)
    refine (ask16_yes ad l c k w h.cap h.max hk hr).mono ?_
    rintro e w' ⟨rfl, rfl⟩
    exact ⟨by rw [num_yes hk, has_yes hk], rfl⟩
  · have hno : has 2 l.length at_ = false := has_no (by omega)
    refine (ask16_no A l.length c at_ w (Nat.le_trans h.cap h.max) (by omega)).mono ?_
    rintro e w' ⟨rfl, rfl⟩
    exact ⟨by rw [num_no hno, hno], rfl⟩
set_option maxHeartbeats 400000 in
theorem U16_any (A : Option Addr) (l : List UInt8) (n c : Nat) (at_ : Int) (w : World) (h : IsB w A n c l) :
    Calls Try.prog 12 #[.slice A n c, .int .i64 at_] w fun e w' => e = .returned (.tuple #[.int .u16 (num 2 l at_), .bool (has 2 n at_)]) ∧ w = w' := by
  go_enter Try.func12, Try.ntmps12
  go_wp2_with (go_at_call 34; refine (ask16_any _ _ _ _ _ _ h).mono ?_; rintro e w' ⟨rfl, rfl⟩)
  go_ret2
  exact ⟨rfl, rfl⟩
theorem wrap_u32_be (x : Nat) (h : x < 256 ^ 4) : IntKind.u32.wrap (x : Int) = (x : Int) := by
  have h' : x < 4294967296 := h
  simp [IntKind.wrap, IntKind.bits, IntKind.signed]
  omega
set_option maxRecDepth 10000 in
set_option maxHeartbeats 400000 in
theorem ask32_no (A : Option Addr) (n c : Nat) (at_ : Int) (w : World) (hn : n ≤ maxLen) (h : at_ < 0 ∨ (n : Int) - 4 < at_) :
    Calls Try.prog 41 #[.slice A n c, .int .i64 at_] w fun e w' => e = .returned (.tuple #[.int .u32 0, .bool false]) ∧ w = w' := by
  unfold maxLen at hn
  by_cases h0 : at_ < 0
  · go_enter Try.func41, Try.ntmps41
    go_wp2_with (go_at_call 50; refine (width32 _).mono ?_; rintro e w' ⟨rfl, rfl⟩)
    go_ret2
    exact ⟨rfl, rfl⟩
  · have h1 : (n : Int) - 4 < at_ := by omega
    go_enter Try.func41, Try.ntmps41
    go_wp2_with (go_at_call 50; refine (width32 _).mono ?_; rintro e w' ⟨rfl, rfl⟩)
    go_ret2
    exact ⟨rfl, rfl⟩
set_option maxRecDepth 10000 in
set_option maxHeartbeats 400000 in
theorem ask32_yes (ad : Addr) (l : List UInt8) (c k : Nat) (w : World) (hc : l.length ≤ c) (hm : c ≤ maxLen) (h : k + 4 ≤ l.length)
    (hr : ∀ j (h : j < l.length), w.cell? (ad.add j) = some (.int .u8 (l[j].toNat : Int))) :
    Calls Try.prog 41 #[.slice (some ad) l.length c, .int .i64 k] w fun e w' => e = .returned (.tuple #[.int .u32 (beN ((l.drop k).take 4)), .bool true]) ∧ w = w' := by
  unfold maxLen at hm
  have hr' := hid hr
  clear hr
  go_enter Try.func41, Try.ntmps41
  go_wp2_with (go_at_call 50; refine (width32 _).mono ?_; rintro e w' ⟨rfl, rfl⟩)
  go_loop [7, 28] (fun v i => ∃ j : Nat, j ≤ 4 ∧ i = .int .i64 j ∧ v = .int .u64 (beN ((l.drop k).take j))) (fun _ i => 4 - (intOf i).toNat)
  case atStart => exact ⟨0, Nat.zero_le _, rfl, rfl⟩
  case round =>
    obtain ⟨j, hj, rfl, rfl⟩ := hrel
    by_cases hlt : j < 4
    · have hcell := hr'.out (k + j) (by omega)
      rw [← add_of_add] at hcell
      have hb : beN ((l.drop k).take j) < 256 ^ j := beN_lt _ _ (by simp; omega)
      have hts := take_succ_drop l k j (by omega)
      have hsn := beN_snoc ((l.drop k).take j) l[k + j]
      rw [← hts] at hsn
      clear hts
      obtain ⟨x, hx⟩ : ∃ x, x = beN ((l.drop k).take j) := ⟨_, rfl⟩
      rw [← hx] at hb hsn
      rw [← hx]
      clear hx
      obtain ⟨y, hy⟩ : ∃ y, y = l[k + j].toNat := ⟨_, rfl⟩
      have hy2 : y < 256 := by rw [hy]; exact l[k + j].toNat_lt
      rw [← hy] at hcell hsn
      clear hy
      have hx2 : (x : Int) < 72057594037927936 := by
        have : 256 ^ j ≤ 256 ^ 7 := Nat.pow_le_pow_right (by omega) (by omega)
        omega
      have e1 := wrap_u64_byte y hy2
      have e2 := or_step x y hx2 hy2
      have Hs := hid hsn
      clear hb hx2 hsn
      go_wp2
      go_round
      case rel => exact ⟨j + 1, by omega, by go_num, by rw [Hs.out]; go_num⟩
      case measure => simp [intOf]; omega
    · obtain rfl : j = 4 := by omega
      have E1 := hid (wrap_u32_be _ (beN_lt 4 ((l.drop k).take 4) (by simp; omega)))
      go_wp2
      go_ret2
      exact ⟨ret2_int E1.out, rfl⟩
theorem ask32_any (A : Option Addr) (l : List UInt8) (n c : Nat) (at_ : Int) (w : World) (h : IsB w A n c l) :
    Calls Try.prog 41 #[.slice A n c, .int .i64 at_] w fun e w' => e = .returned (.tuple #[.int .u32 (num 4 l at_), .bool (has 4 n at_)]) ∧ w = w' := by
  obtain rfl := h.len
  by_cases hp : 0 ≤ at_ ∧ at_ + 4 ≤ l.length
  · obtain ⟨k, rfl⟩ := Int.eq_ofNat_of_zero_le hp.1
    have hk : k + 4 ≤ l.length := by omega
    obtain ⟨ad, rfl, hr⟩ := h.lies (by omega)
    refine (ask32_yes ad l c k w h.cap h.max hk hr).mono ?_
    rintro e w' ⟨rfl, rfl⟩
    exact ⟨by rw [num_yes hk, has_yes hk], rfl⟩
  · have hno : has 4 l.length at_ = false := has_no (by omega)
    refine (ask32_no A l.length c at_ w (Nat.le_trans h.cap h.max) (by omega)).mono ?_
    rintro e w' ⟨rfl, rfl⟩
    exact ⟨by rw [num_no hno, hno], rfl⟩
set_option maxHeartbeats 400000 in
theorem U32_any (A : Option Addr) (l : List UInt8) (n c : Nat) (at_ : Int) (w : World) (h : IsB w A n c l) :
    Calls Try.prog 22 #[.slice A n c, .int .i64 at_] w fun e w' => e = .returned (.tuple #[.int .u32 (num 4 l at_), .bool (has 4 n at_)]) ∧ w = w' := by
  go_enter Try.func22, Try.ntmps22
  go_wp2_with (go_at_call 41; refine (ask32_any _ _ _ _ _ _ h).mono ?_; rintro e w' ⟨rfl, rfl⟩)
  go_ret2
  exact ⟨rfl, rfl⟩
set_option maxRecDepth 10000 in
set_option maxHeartbeats 400000 in
theorem ask64_no (A : Option Addr) (n c : Nat) (at_ : Int) (w : World) (hn : n ≤ maxLen) (h : at_ < 0 ∨ (n : Int) - 8 < at_) :
    Calls Try.prog 33 #[.slice A n c, .int .i64 at_] w fun e w' => e = .returned (.tuple #[.int .u64 0, .bool false]) ∧ w = w' := by
  unfold maxLen at hn
  by_cases h0 : at_ < 0
  · go_enter Try.func33, Try.ntmps33
    go_wp2_with (go_at_call 48; refine (width64 _).mono ?_; rintro e w' ⟨rfl, rfl⟩)
    go_ret2
    exact ⟨rfl, rfl⟩
  · have h1 : (n : Int) - 8 < at_ := by omega
    go_enter Try.func33, Try.ntmps33
    go_wp2_with (go_at_call 48; refine (width64 _).mono ?_; rintro e w' ⟨rfl, rfl⟩)
    go_ret2
    exact ⟨rfl, rfl⟩
set_option maxRecDepth 10000 in
set_option maxHeartbeats 400000 in
theorem ask64_yes (ad : Addr) (l : List UInt8) (c k : Nat) (w : World) (hc : l.length ≤ c) (hm : c ≤ maxLen) (h : k + 8 ≤ l.length)
    (hr : ∀ j (h : j < l.length), w.cell? (ad.add j) = some (.int .u8 (l[j].toNat : Int))) :
    Calls Try.prog 33 #[.slice (some ad) l.length c, .int .i64 k] w fun e w' => e = .returned (.tuple #[.int .u64 (beN ((l.drop k).take 8)), .bool true]) ∧ w = w' := by
  unfold maxLen at hm
  have hr' := hid hr
  clear hr
  go_enter Try.func33, Try.ntmps33
  go_wp2_with (go_at_call 48; refine (width64 _).mono ?_; rintro e w' ⟨rfl, rfl⟩)
  go_loop [7, 28] (fun v i => ∃ j : Nat, j ≤ 8 ∧ i = .int .i64 j ∧ v = .int .u64 (beN ((l.drop k).take j))) (fun _ i => 8 - (intOf i).toNat)
  case atStart => exact ⟨0, Nat.zero_le _, rfl, rfl⟩
  case round =>
    obtain ⟨j, hj, rfl, rfl⟩ := hrel
    by_cases hlt : j < 8
    · have hcell := hr'.out (k + j) (by omega)
      rw [← add_of_add] at hcell
      have hb : beN ((l.drop k).take j) < 256 ^ j := beN_lt _ _ (by simp; omega)
      have hts := take_succ_drop l k j (by omega)
      have hsn := beN_snoc ((l.drop k).take j) l[k + j]
      rw [← hts] at hsn
      clear hts
      obtain ⟨x, hx⟩ : ∃ x, x = beN ((l.drop k).take j) := ⟨_, rfl⟩
      rw [← hx] at hb hsn
      rw [← hx]
      clear hx
      obtain ⟨y, hy⟩ : ∃ y, y = l[k + j].toNat := ⟨_, rfl⟩
      have hy2 : y < 256 := by rw [hy]; exact l[k + j].toNat_lt
      rw [← hy] at hcell hsn
      clear hy
      have hx2 : (x : Int) < 72057594037927936 := by
        have : 256 ^ j ≤ 256 ^ 7 := Nat.pow_le_pow_right (by omega) (by omega)
        omega
      have e1 := wrap_u64_byte y hy2
      have e2 := or_step x y hx2 hy2
      have Hs := hid hsn
      clear hb hx2 hsn
      go_wp2
      go_round
      case rel => exact ⟨j + 1, by omega, by go_num, by rw [Hs.out]; go_num⟩
      case measure => simp [intOf]; omega
    · obtain rfl : j = 8 := by omega
      go_wp2
      go_ret2
      exact ⟨rfl, rfl⟩
theorem ask64_any (A : Option Addr) (l : List UInt8) (n c : Nat) (at_ : Int) (w : World) (h : IsB w A n c l) :
    Calls Try.prog 33 #[.slice A n c, .int .i64 at_] w fun e w' => e = .returned (.tuple #[.int .u64 (num 8 l at_), .bool (has 8 n at_)]) ∧ w = w' := by
  obtain rfl := h.len
  by_cases hp : 0 ≤ at_ ∧ at_ + 8 ≤ l.length
  · obtain ⟨k, rfl⟩ := Int.eq_ofNat_of_zero_le hp.1
    have hk : k + 8 ≤ l.length := by omega
    obtain ⟨ad, rfl, hr⟩ := h.lies (by omega)
    refine (ask64_yes ad l c k w h.cap h.max hk hr).mono ?_
    rintro e w' ⟨rfl, rfl⟩
    exact ⟨by rw [num_yes hk, has_yes hk], rfl⟩
  · have hno : has 8 l.length at_ = false := has_no (by omega)
    refine (ask64_no A l.length c at_ w (Nat.le_trans h.cap h.max) (by omega)).mono ?_
    rintro e w' ⟨rfl, rfl⟩
    exact ⟨by rw [num_no hno, hno], rfl⟩
set_option maxHeartbeats 400000 in
theorem U64_any (A : Option Addr) (l : List UInt8) (n c : Nat) (at_ : Int) (w : World) (h : IsB w A n c l) :
    Calls Try.prog 11 #[.slice A n c, .int .i64 at_] w fun e w' => e = .returned (.tuple #[.int .u64 (num 8 l at_), .bool (has 8 n at_)]) ∧ w = w' := by
  go_enter Try.func11, Try.ntmps11
  go_wp2_with (go_at_call 33; refine (ask64_any _ _ _ _ _ _ h).mono ?_; rintro e w' ⟨rfl, rfl⟩)
  go_ret2
  exact ⟨rfl, rfl⟩
end Go.Proofs.Ytdaekdfogcgdfaa
