/-
  The walk of OctetsTwice.
-/
import Derived.Test.YtdaekdfogcgdfaaTwiceN
namespace Go.Proofs.Ytdaekdfogcgdfaa
open Go.RowKit

set_option maxHeartbeats 400000 in
theorem Pick_some (x : Int) (n : Nat) (h : 0 < n) (hn : n ≤ 140737488355328) : ∃ p : Int, ∀ w : World, Calls Try.prog 31 #[.int .i64 x, .int .i64 n] w fun e w' => e = .returned (.int .i64 p) ∧ w = w' := by
  refine ⟨(wrap64 (x.tmod n + n)).tmod n, fun w => ?_⟩
  go_enter Try.func31, Try.ntmps31
  go_wp2_with fail
  go_ret
  exact ⟨rfl, rfl⟩

theorem IsBB.next {w w' : World} {A : Option Addr} {n c : Nat} {l : List UInt8} (h : IsBB w w.heap.size A n c l) (hb : Below w.heap.size w w') : IsBB w' w'.heap.size A n c l :=
  ⟨(h.below hb).toIsB, fun hp ad e => Nat.lt_of_lt_of_le (h.low hp ad e) hb.size⟩
theorem New.bel2 {w0 w w' : World} {g n c : Nat} {l : List UInt8} (h : New w w' g n c l) (hb : Below w0.heap.size w0 w) : Below w0.heap.size w0 w' := hb.trans (h.bel.mono hb.size)
theorem Add16_eq (A : Option Addr) (l : List UInt8) (n c : Nat) (x : Int) (v : Nat) (hx : x = (v : Int)) (w : World) (h : IsBB w w.heap.size A n c l) (hv : v < 65536) (hn : n + 8 ≤ 140737488355328) :
    Calls Try.prog 17 #[.slice A n c, .int .u16 x] w fun e w' => ∃ g c', e = .returned (.slice (some ⟨g, 0, none⟩) (n + 2) c') ∧ New w w' g (n + 2) c' (l ++ bytesN 2 v) := by
  subst hx; exact Add16_any A l n c v w h hv hn
theorem Add32_eq (A : Option Addr) (l : List UInt8) (n c : Nat) (x : Int) (v : Nat) (hx : x = (v : Int)) (w : World) (h : IsBB w w.heap.size A n c l) (hv : v < 4294967296) (hn : n + 8 ≤ 140737488355328) :
    Calls Try.prog 16 #[.slice A n c, .int .u32 x] w fun e w' => ∃ g c', e = .returned (.slice (some ⟨g, 0, none⟩) (n + 4) c') ∧ New w w' g (n + 4) c' (l ++ bytesN 4 v) := by
  subst hx; exact Add32_any A l n c v w h hv hn

set_option maxRecDepth 10000 in
set_option maxHeartbeats 4000000 in
theorem twice_8 (A : Option Addr) (l : List UInt8) (n c V : Nat) (at_ p : Int) (w : World) (h : IsBB w w.heap.size A n c l) (hn : n + 100 ≤ 140737488355328) (hV : V < 18446744073709551616)
    (h1 : 0 ≤ p) (h2 : p + 8 ≤ n) (hp : ∀ w : World, Calls Try.prog 31 #[.int .i64 at_, .int .i64 n] w fun e w' => e = .returned (.int .i64 p) ∧ w = w') :
    Calls Try.prog 7 #[.slice A n c, .int .i64 at_, .int .u64 V] w fun e w' => e = .returned (.bool true) ∧ Below w.heap.size w w' := by
  have e8 : has 8 n p = true := has_int_yes h1 (by omega)
  have e4 : has 4 n p = true := has_int_yes h1 (by omega)
  have e2 : has 2 n p = true := has_int_yes h1 (by omega)
  have e1 : has 1 n p = true := has_int_yes h1 (by omega)
  have f4 : has 4 n (p + 4) = true := has_int_yes (by omega) (by omega)
  have f2 : has 2 n (p + 2) = true := has_int_yes (by omega) (by omega)
  have f1 : has 1 n (p + 1) = true := has_int_yes (by omega) (by omega)
  have q64 := twice64 l p h1 (by rw [h.len]; omega)
  have q32 := twice32 l p h1 (by rw [h.len]; omega)
  have q16 := twice16 l p h1 (by rw [h.len]; omega)
  have HV := hid hV
  clear hV
  go_enter Try.func7, Try.ntmps7
  go_wp2_with (first
    | (go_at_call 31; refine (hp _).mono ?_; rintro e w' ⟨rfl, rfl⟩)
    | (go_at_call 12; refine (U16_any _ _ _ _ _ _ h.toIsB).mono ?_; rintro e w' ⟨rfl, rfl⟩)
    | (go_at_call 22; refine (U32_any _ _ _ _ _ _ h.toIsB).mono ?_; rintro e w' ⟨rfl, rfl⟩)
    | (go_at_call 21; refine (U8_any _ _ _ _ _ _ h.toIsB).mono ?_; rintro e w' ⟨rfl, rfl⟩)
    | (go_at_call 11; refine (U64_any _ _ _ _ _ _ h.toIsB).mono ?_; rintro e w' ⟨rfl, rfl⟩))
  clear e1 e2 e4 e8 f1 f2 f4 q16 q32 q64
  refine (Add64_any _ _ _ _ V _ h HV.out (by omega)).mono ?_
  rintro e w1 ⟨g1, c1, rfl, N1⟩
  have k1 := N1.isB.conv
  have b1 := N1.bel
  have i1 := h.next b1
  clear N1
  go_wp2_with fail
  refine (Add32_eq _ _ _ _ _ (V / 4294967296 % 4294967296) (by omega) _ i1 (by omega) (by omega)).mono ?_
  rintro e w2 ⟨g2, c2, rfl, N2⟩
  have b2 := N2.bel2 b1
  clear k1
  go_wp2_with fail
  refine (Add32_eq _ _ _ _ _ (V % 4294967296) (by omega) _ N2.isBB (by omega) (by omega)).mono ?_
  rintro e w3 ⟨g3, c3, rfl, N3⟩
  have k3 := N3.isB.conv
  rw [List.append_assoc, eight_four] at k3
  have b3 := N3.bel2 b2
  have i3 := h.next b3
  clear N2 N3 b1 b2 i1
  go_wp2_with fail
  refine (Add16_eq _ _ _ _ _ (V / 281474976710656 % 65536) (by rw [wrap_u16]; omega) _ i3 (by omega) (by omega)).mono ?_
  rintro e w4 ⟨g4, c4, rfl, N4⟩
  have b4 := N4.bel2 b3
  clear k3 i3 b3
  go_wp2_with fail
  refine (Add16_eq _ _ _ _ _ (V / 4294967296 % 65536) (by rw [wrap_u16]; omega) _ N4.isBB (by omega) (by omega)).mono ?_
  rintro e w5 ⟨g5, c5, rfl, N5⟩
  have b5 := N5.bel2 b4
  clear b4 N4
  go_wp2_with fail
  refine (Add16_eq _ _ _ _ _ (V / 65536 % 65536) (by rw [wrap_u16]; omega) _ N5.isBB (by omega) (by omega)).mono ?_
  rintro e w6 ⟨g6, c6, rfl, N6⟩
  have b6 := N6.bel2 b5
  clear b5 N5
  go_wp2_with fail
  refine (Add16_eq _ _ _ _ _ (V % 65536) (by rw [wrap_u16]; omega) _ N6.isBB (by omega) (by omega)).mono ?_
  rintro e w7 ⟨g7, c7, rfl, N7⟩
  have b7 := N7.bel2 b6
  have k7 := N7.isB.conv
  rw [List.append_assoc, List.append_assoc, List.append_assoc, eight_two] at k7
  clear b6 N6 N7
  go_wp2_with (go_at_call 19; refine (awake_any _).mono ?_; rintro e w8 ⟨rfl, hb⟩)
  go_ret
  exact ⟨rfl, b7.trans (hb.mono b7.size)⟩
set_option maxRecDepth 10000 in
set_option maxHeartbeats 4000000 in
theorem twice_4 (A : Option Addr) (l : List UInt8) (n c V : Nat) (at_ p : Int) (w : World) (h : IsBB w w.heap.size A n c l) (hn : n + 100 ≤ 140737488355328) (hV : V < 18446744073709551616)
    (h1 : 0 ≤ p) (h2 : p + 4 ≤ n) (h3 : (n : Int) < p + 8) (hp : ∀ w : World, Calls Try.prog 31 #[.int .i64 at_, .int .i64 n] w fun e w' => e = .returned (.int .i64 p) ∧ w = w') :
    Calls Try.prog 7 #[.slice A n c, .int .i64 at_, .int .u64 V] w fun e w' => e = .returned (.bool true) ∧ Below w.heap.size w w' := by
  have e8 : has 8 n p = false := has_int_no (by omega)
  have e4 : has 4 n p = true := has_int_yes h1 (by omega)
  have e2 : has 2 n p = true := has_int_yes h1 (by omega)
  have e1 : has 1 n p = true := has_int_yes h1 (by omega)
  have f4 := True.intro
  have f2 : has 2 n (p + 2) = true := has_int_yes (by omega) (by omega)
  have f1 : has 1 n (p + 1) = true := has_int_yes (by omega) (by omega)
  have q64 := True.intro
  have q32 := twice32 l p h1 (by rw [h.len]; omega)
  have q16 := twice16 l p h1 (by rw [h.len]; omega)
  have HV := hid hV
  clear hV
  go_enter Try.func7, Try.ntmps7
  go_wp2_with (first
    | (go_at_call 31; refine (hp _).mono ?_; rintro e w' ⟨rfl, rfl⟩)
    | (go_at_call 12; refine (U16_any _ _ _ _ _ _ h.toIsB).mono ?_; rintro e w' ⟨rfl, rfl⟩)
    | (go_at_call 22; refine (U32_any _ _ _ _ _ _ h.toIsB).mono ?_; rintro e w' ⟨rfl, rfl⟩)
    | (go_at_call 21; refine (U8_any _ _ _ _ _ _ h.toIsB).mono ?_; rintro e w' ⟨rfl, rfl⟩)
    | (go_at_call 11; refine (U64_any _ _ _ _ _ _ h.toIsB).mono ?_; rintro e w' ⟨rfl, rfl⟩))
  clear e1 e2 e4 e8 f1 f2 f4 q16 q32 q64
  refine (Add64_any _ _ _ _ V _ h HV.out (by omega)).mono ?_
  rintro e w1 ⟨g1, c1, rfl, N1⟩
  have k1 := N1.isB.conv
  have b1 := N1.bel
  have i1 := h.next b1
  clear N1
  go_wp2_with fail
  refine (Add32_eq _ _ _ _ _ (V / 4294967296 % 4294967296) (by omega) _ i1 (by omega) (by omega)).mono ?_
  rintro e w2 ⟨g2, c2, rfl, N2⟩
  have b2 := N2.bel2 b1
  clear k1
  go_wp2_with fail
  refine (Add32_eq _ _ _ _ _ (V % 4294967296) (by omega) _ N2.isBB (by omega) (by omega)).mono ?_
  rintro e w3 ⟨g3, c3, rfl, N3⟩
  have k3 := N3.isB.conv
  rw [List.append_assoc, eight_four] at k3
  have b3 := N3.bel2 b2
  have i3 := h.next b3
  clear N2 N3 b1 b2 i1
  go_wp2_with fail
  refine (Add16_eq _ _ _ _ _ (V / 281474976710656 % 65536) (by rw [wrap_u16]; omega) _ i3 (by omega) (by omega)).mono ?_
  rintro e w4 ⟨g4, c4, rfl, N4⟩
  have b4 := N4.bel2 b3
  clear k3 i3 b3
  go_wp2_with fail
  refine (Add16_eq _ _ _ _ _ (V / 4294967296 % 65536) (by rw [wrap_u16]; omega) _ N4.isBB (by omega) (by omega)).mono ?_
  rintro e w5 ⟨g5, c5, rfl, N5⟩
  have b5 := N5.bel2 b4
  clear b4 N4
  go_wp2_with fail
  refine (Add16_eq _ _ _ _ _ (V / 65536 % 65536) (by rw [wrap_u16]; omega) _ N5.isBB (by omega) (by omega)).mono ?_
  rintro e w6 ⟨g6, c6, rfl, N6⟩
  have b6 := N6.bel2 b5
  clear b5 N5
  go_wp2_with fail
  refine (Add16_eq _ _ _ _ _ (V % 65536) (by rw [wrap_u16]; omega) _ N6.isBB (by omega) (by omega)).mono ?_
  rintro e w7 ⟨g7, c7, rfl, N7⟩
  have b7 := N7.bel2 b6
  have k7 := N7.isB.conv
  rw [List.append_assoc, List.append_assoc, List.append_assoc, eight_two] at k7
  clear b6 N6 N7
  go_wp2_with (go_at_call 19; refine (awake_any _).mono ?_; rintro e w8 ⟨rfl, hb⟩)
  go_ret
  exact ⟨rfl, b7.trans (hb.mono b7.size)⟩
set_option maxRecDepth 10000 in
set_option maxHeartbeats 4000000 in
theorem twice_2 (A : Option Addr) (l : List UInt8) (n c V : Nat) (at_ p : Int) (w : World) (h : IsBB w w.heap.size A n c l) (hn : n + 100 ≤ 140737488355328) (hV : V < 18446744073709551616)
    (h1 : 0 ≤ p) (h2 : p + 2 ≤ n) (h3 : (n : Int) < p + 4) (hp : ∀ w : World, Calls Try.prog 31 #[.int .i64 at_, .int .i64 n] w fun e w' => e = .returned (.int .i64 p) ∧ w = w') :
    Calls Try.prog 7 #[.slice A n c, .int .i64 at_, .int .u64 V] w fun e w' => e = .returned (.bool true) ∧ Below w.heap.size w w' := by
  have e8 : has 8 n p = false := has_int_no (by omega)
  have e4 : has 4 n p = false := has_int_no (by omega)
  have e2 : has 2 n p = true := has_int_yes h1 (by omega)
  have e1 : has 1 n p = true := has_int_yes h1 (by omega)
  have f4 := True.intro
  have f2 := True.intro
  have f1 : has 1 n (p + 1) = true := has_int_yes (by omega) (by omega)
  have q64 := True.intro
  have q32 := True.intro
  have q16 := twice16 l p h1 (by rw [h.len]; omega)
  have HV := hid hV
  clear hV
  go_enter Try.func7, Try.ntmps7
  go_wp2_with (first
    | (go_at_call 31; refine (hp _).mono ?_; rintro e w' ⟨rfl, rfl⟩)
    | (go_at_call 12; refine (U16_any _ _ _ _ _ _ h.toIsB).mono ?_; rintro e w' ⟨rfl, rfl⟩)
    | (go_at_call 22; refine (U32_any _ _ _ _ _ _ h.toIsB).mono ?_; rintro e w' ⟨rfl, rfl⟩)
    | (go_at_call 21; refine (U8_any _ _ _ _ _ _ h.toIsB).mono ?_; rintro e w' ⟨rfl, rfl⟩)
    | (go_at_call 11; refine (U64_any _ _ _ _ _ _ h.toIsB).mono ?_; rintro e w' ⟨rfl, rfl⟩))
  clear e1 e2 e4 e8 f1 f2 f4 q16 q32 q64
  refine (Add64_any _ _ _ _ V _ h HV.out (by omega)).mono ?_
  rintro e w1 ⟨g1, c1, rfl, N1⟩
  have k1 := N1.isB.conv
  have b1 := N1.bel
  have i1 := h.next b1
  clear N1
  go_wp2_with fail
  refine (Add32_eq _ _ _ _ _ (V / 4294967296 % 4294967296) (by omega) _ i1 (by omega) (by omega)).mono ?_
  rintro e w2 ⟨g2, c2, rfl, N2⟩
  have b2 := N2.bel2 b1
  clear k1
  go_wp2_with fail
  refine (Add32_eq _ _ _ _ _ (V % 4294967296) (by omega) _ N2.isBB (by omega) (by omega)).mono ?_
  rintro e w3 ⟨g3, c3, rfl, N3⟩
  have k3 := N3.isB.conv
  rw [List.append_assoc, eight_four] at k3
  have b3 := N3.bel2 b2
  have i3 := h.next b3
  clear N2 N3 b1 b2 i1
  go_wp2_with fail
  refine (Add16_eq _ _ _ _ _ (V / 281474976710656 % 65536) (by rw [wrap_u16]; omega) _ i3 (by omega) (by omega)).mono ?_
  rintro e w4 ⟨g4, c4, rfl, N4⟩
  have b4 := N4.bel2 b3
  clear k3 i3 b3
  go_wp2_with fail
  refine (Add16_eq _ _ _ _ _ (V / 4294967296 % 65536) (by rw [wrap_u16]; omega) _ N4.isBB (by omega) (by omega)).mono ?_
  rintro e w5 ⟨g5, c5, rfl, N5⟩
  have b5 := N5.bel2 b4
  clear b4 N4
  go_wp2_with fail
  refine (Add16_eq _ _ _ _ _ (V / 65536 % 65536) (by rw [wrap_u16]; omega) _ N5.isBB (by omega) (by omega)).mono ?_
  rintro e w6 ⟨g6, c6, rfl, N6⟩
  have b6 := N6.bel2 b5
  clear b5 N5
  go_wp2_with fail
  refine (Add16_eq _ _ _ _ _ (V % 65536) (by rw [wrap_u16]; omega) _ N6.isBB (by omega) (by omega)).mono ?_
  rintro e w7 ⟨g7, c7, rfl, N7⟩
  have b7 := N7.bel2 b6
  have k7 := N7.isB.conv
  rw [List.append_assoc, List.append_assoc, List.append_assoc, eight_two] at k7
  clear b6 N6 N7
  go_wp2_with (go_at_call 19; refine (awake_any _).mono ?_; rintro e w8 ⟨rfl, hb⟩)
  go_ret
  exact ⟨rfl, b7.trans (hb.mono b7.size)⟩
set_option maxRecDepth 10000 in
set_option maxHeartbeats 4000000 in
theorem twice_1 (A : Option Addr) (l : List UInt8) (n c V : Nat) (at_ p : Int) (w : World) (h : IsBB w w.heap.size A n c l) (hn : n + 100 ≤ 140737488355328) (hV : V < 18446744073709551616)
    (h3 : p < 0 ∨ (n : Int) < p + 2) (h0 : 0 < n) (hp : ∀ w : World, Calls Try.prog 31 #[.int .i64 at_, .int .i64 n] w fun e w' => e = .returned (.int .i64 p) ∧ w = w') :
    Calls Try.prog 7 #[.slice A n c, .int .i64 at_, .int .u64 V] w fun e w' => e = .returned (.bool true) ∧ Below w.heap.size w w' := by
  have e8 : has 8 n p = false := has_int_no (by omega)
  have e4 : has 4 n p = false := has_int_no (by omega)
  have e2 : has 2 n p = false := has_int_no (by omega)
  have e1 := True.intro
  have f4 := True.intro
  have f2 := True.intro
  have f1 := True.intro
  have q64 := True.intro
  have q32 := True.intro
  have q16 := True.intro
  have HV := hid hV
  clear hV
  go_enter Try.func7, Try.ntmps7
  go_wp2_with (first
    | (go_at_call 31; refine (hp _).mono ?_; rintro e w' ⟨rfl, rfl⟩)
    | (go_at_call 12; refine (U16_any _ _ _ _ _ _ h.toIsB).mono ?_; rintro e w' ⟨rfl, rfl⟩)
    | (go_at_call 22; refine (U32_any _ _ _ _ _ _ h.toIsB).mono ?_; rintro e w' ⟨rfl, rfl⟩)
    | (go_at_call 21; refine (U8_any _ _ _ _ _ _ h.toIsB).mono ?_; rintro e w' ⟨rfl, rfl⟩)
    | (go_at_call 11; refine (U64_any _ _ _ _ _ _ h.toIsB).mono ?_; rintro e w' ⟨rfl, rfl⟩))
  clear e1 e2 e4 e8 f1 f2 f4 q16 q32 q64
  refine (Add64_any _ _ _ _ V _ h HV.out (by omega)).mono ?_
  rintro e w1 ⟨g1, c1, rfl, N1⟩
  have k1 := N1.isB.conv
  have b1 := N1.bel
  have i1 := h.next b1
  clear N1
  go_wp2_with fail
  refine (Add32_eq _ _ _ _ _ (V / 4294967296 % 4294967296) (by omega) _ i1 (by omega) (by omega)).mono ?_
  rintro e w2 ⟨g2, c2, rfl, N2⟩
  have b2 := N2.bel2 b1
  clear k1
  go_wp2_with fail
  refine (Add32_eq _ _ _ _ _ (V % 4294967296) (by omega) _ N2.isBB (by omega) (by omega)).mono ?_
  rintro e w3 ⟨g3, c3, rfl, N3⟩
  have k3 := N3.isB.conv
  rw [List.append_assoc, eight_four] at k3
  have b3 := N3.bel2 b2
  have i3 := h.next b3
  clear N2 N3 b1 b2 i1
  go_wp2_with fail
  refine (Add16_eq _ _ _ _ _ (V / 281474976710656 % 65536) (by rw [wrap_u16]; omega) _ i3 (by omega) (by omega)).mono ?_
  rintro e w4 ⟨g4, c4, rfl, N4⟩
  have b4 := N4.bel2 b3
  clear k3 i3 b3
  go_wp2_with fail
  refine (Add16_eq _ _ _ _ _ (V / 4294967296 % 65536) (by rw [wrap_u16]; omega) _ N4.isBB (by omega) (by omega)).mono ?_
  rintro e w5 ⟨g5, c5, rfl, N5⟩
  have b5 := N5.bel2 b4
  clear b4 N4
  go_wp2_with fail
  refine (Add16_eq _ _ _ _ _ (V / 65536 % 65536) (by rw [wrap_u16]; omega) _ N5.isBB (by omega) (by omega)).mono ?_
  rintro e w6 ⟨g6, c6, rfl, N6⟩
  have b6 := N6.bel2 b5
  clear b5 N5
  go_wp2_with fail
  refine (Add16_eq _ _ _ _ _ (V % 65536) (by rw [wrap_u16]; omega) _ N6.isBB (by omega) (by omega)).mono ?_
  rintro e w7 ⟨g7, c7, rfl, N7⟩
  have b7 := N7.bel2 b6
  have k7 := N7.isB.conv
  rw [List.append_assoc, List.append_assoc, List.append_assoc, eight_two] at k7
  clear b6 N6 N7
  go_wp2_with (go_at_call 19; refine (awake_any _).mono ?_; rintro e w8 ⟨rfl, hb⟩)
  go_ret
  exact ⟨rfl, b7.trans (hb.mono b7.size)⟩
set_option maxRecDepth 10000 in
set_option maxHeartbeats 4000000 in
theorem twice_0 (A : Option Addr) (l : List UInt8) (n c V : Nat) (at_ : Int) (w : World) (h : IsBB w w.heap.size A n c l) (hn : n + 100 ≤ 140737488355328) (hV : V < 18446744073709551616)
    (h0 : n = 0) :
    Calls Try.prog 7 #[.slice A n c, .int .i64 at_, .int .u64 V] w fun e w' => e = .returned (.bool true) ∧ Below w.heap.size w w' := by
  subst h0
  have e8 : has 8 0 at_ = false := has_int_no (by omega)
  have e4 : has 4 0 at_ = false := has_int_no (by omega)
  have e2 : has 2 0 at_ = false := has_int_no (by omega)
  have e1 := True.intro
  have f4 := True.intro
  have f2 := True.intro
  have f1 := True.intro
  have q64 := True.intro
  have q32 := True.intro
  have q16 := True.intro
  have HV := hid hV
  clear hV
  go_enter Try.func7, Try.ntmps7
  go_wp2_with (first
    | (go_at_call 12; refine (U16_any _ _ _ _ _ _ h.toIsB).mono ?_; rintro e w' ⟨rfl, rfl⟩)
    | (go_at_call 22; refine (U32_any _ _ _ _ _ _ h.toIsB).mono ?_; rintro e w' ⟨rfl, rfl⟩)
    | (go_at_call 21; refine (U8_any _ _ _ _ _ _ h.toIsB).mono ?_; rintro e w' ⟨rfl, rfl⟩)
    | (go_at_call 11; refine (U64_any _ _ _ _ _ _ h.toIsB).mono ?_; rintro e w' ⟨rfl, rfl⟩))
  clear e1 e2 e4 e8 f1 f2 f4 q16 q32 q64
  refine (Add64_any _ _ _ _ V _ h HV.out (by omega)).mono ?_
  rintro e w1 ⟨g1, c1, rfl, N1⟩
  have k1 := N1.isB.conv
  have b1 := N1.bel
  have i1 := h.next b1
  clear N1
  go_wp2_with fail
  refine (Add32_eq _ _ _ _ _ (V / 4294967296 % 4294967296) (by omega) _ i1 (by omega) (by omega)).mono ?_
  rintro e w2 ⟨g2, c2, rfl, N2⟩
  have b2 := N2.bel2 b1
  clear k1
  go_wp2_with fail
  refine (Add32_eq _ _ _ _ _ (V % 4294967296) (by omega) _ N2.isBB (by omega) (by omega)).mono ?_
  rintro e w3 ⟨g3, c3, rfl, N3⟩
  have k3 := N3.isB.conv
  rw [List.append_assoc, eight_four] at k3
  have b3 := N3.bel2 b2
  have i3 := h.next b3
  clear N2 N3 b1 b2 i1
  go_wp2_with fail
  refine (Add16_eq _ _ _ _ _ (V / 281474976710656 % 65536) (by rw [wrap_u16]; omega) _ i3 (by omega) (by omega)).mono ?_
  rintro e w4 ⟨g4, c4, rfl, N4⟩
  have b4 := N4.bel2 b3
  clear k3 i3 b3
  go_wp2_with fail
  refine (Add16_eq _ _ _ _ _ (V / 4294967296 % 65536) (by rw [wrap_u16]; omega) _ N4.isBB (by omega) (by omega)).mono ?_
  rintro e w5 ⟨g5, c5, rfl, N5⟩
  have b5 := N5.bel2 b4
  clear b4 N4
  go_wp2_with fail
  refine (Add16_eq _ _ _ _ _ (V / 65536 % 65536) (by rw [wrap_u16]; omega) _ N5.isBB (by omega) (by omega)).mono ?_
  rintro e w6 ⟨g6, c6, rfl, N6⟩
  have b6 := N6.bel2 b5
  clear b5 N5
  go_wp2_with fail
  refine (Add16_eq _ _ _ _ _ (V % 65536) (by rw [wrap_u16]; omega) _ N6.isBB (by omega) (by omega)).mono ?_
  rintro e w7 ⟨g7, c7, rfl, N7⟩
  have b7 := N7.bel2 b6
  have k7 := N7.isB.conv
  rw [List.append_assoc, List.append_assoc, List.append_assoc, eight_two] at k7
  clear b6 N6 N7
  go_wp2_with (go_at_call 19; refine (awake_any _).mono ?_; rintro e w8 ⟨rfl, hb⟩)
  go_ret
  exact ⟨rfl, b7.trans (hb.mono b7.size)⟩
theorem twice_walk (A : Option Addr) (l : List UInt8) (n c V : Nat) (at_ : Int) (w : World) (h : IsBB w w.heap.size A n c l) (hn : n + 100 ≤ 140737488355328) (hV : V < 18446744073709551616) :
    Calls Try.prog 7 #[.slice A n c, .int .i64 at_, .int .u64 V] w fun e w' => e = .returned (.bool true) ∧ Below w.heap.size w w' := by
  rcases Nat.eq_zero_or_pos n with h0 | h0
  · exact twice_0 A l n c V at_ w h hn hV h0
  · obtain ⟨p, hp⟩ := Pick_some at_ n h0 (by omega)
    have cs : (0 ≤ p ∧ p + 8 ≤ n) ∨ (0 ≤ p ∧ p + 4 ≤ n ∧ (n : Int) < p + 8) ∨ (0 ≤ p ∧ p + 2 ≤ n ∧ (n : Int) < p + 4) ∨ (p < 0 ∨ (n : Int) < p + 2) := by omega
    rcases cs with ⟨h1, h2⟩ | ⟨h1, h2, h3⟩ | ⟨h1, h2, h3⟩ | h3
    · exact twice_8 A l n c V at_ p w h hn hV h1 h2 hp
    · exact twice_4 A l n c V at_ p w h hn hV h1 h2 h3 hp
    · exact twice_2 A l n c V at_ p w h hn hV h1 h2 h3 hp
    · exact twice_1 A l n c V at_ p w h hn hV h3 h0 hp
end Go.Proofs.Ytdaekdfogcgdfaa
