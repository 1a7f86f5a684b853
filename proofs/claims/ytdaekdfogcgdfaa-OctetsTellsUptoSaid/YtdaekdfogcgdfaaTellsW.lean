/-
  The walk of OctetsTells.
-/
import Derived.Test.YtdaekdfogcgdfaaRef
import Derived.Test.YtdaekdfogcgdfaaTwiceN
namespace Go.Proofs.Ytdaekdfogcgdfaa
open Go.RowKit

theorem idx47_0 (x0 x1 x2 x3 : Value) (w : World) : (Instr.index 47 (.agg #[x0, x1, x2, x3]) (.int .i64 0)).run Try.prog w = .ok x0 w := by kernel_rfl
theorem idx47_1 (x0 x1 x2 x3 : Value) (w : World) : (Instr.index 47 (.agg #[x0, x1, x2, x3]) (.int .i64 1)).run Try.prog w = .ok x1 w := by kernel_rfl
theorem idx47_2 (x0 x1 x2 x3 : Value) (w : World) : (Instr.index 47 (.agg #[x0, x1, x2, x3]) (.int .i64 2)).run Try.prog w = .ok x2 w := by kernel_rfl
theorem idx47_3 (x0 x1 x2 x3 : Value) (w : World) : (Instr.index 47 (.agg #[x0, x1, x2, x3]) (.int .i64 3)).run Try.prog w = .ok x3 w := by kernel_rfl
theorem idx49_0 (x0 x1 x2 x3 : Value) (w : World) : (Instr.index 49 (.agg #[x0, x1, x2, x3]) (.int .i64 0)).run Try.prog w = .ok x0 w := by kernel_rfl
theorem idx49_1 (x0 x1 x2 x3 : Value) (w : World) : (Instr.index 49 (.agg #[x0, x1, x2, x3]) (.int .i64 1)).run Try.prog w = .ok x1 w := by kernel_rfl
theorem idx49_2 (x0 x1 x2 x3 : Value) (w : World) : (Instr.index 49 (.agg #[x0, x1, x2, x3]) (.int .i64 2)).run Try.prog w = .ok x2 w := by kernel_rfl
theorem idx49_3 (x0 x1 x2 x3 : Value) (w : World) : (Instr.index 49 (.agg #[x0, x1, x2, x3]) (.int .i64 3)).run Try.prog w = .ok x3 w := by kernel_rfl
theorem idx50_0 (x0 x1 x2 x3 : Value) (w : World) : (Instr.index 50 (.agg #[x0, x1, x2, x3]) (.int .i64 0)).run Try.prog w = .ok x0 w := by kernel_rfl
theorem idx50_1 (x0 x1 x2 x3 : Value) (w : World) : (Instr.index 50 (.agg #[x0, x1, x2, x3]) (.int .i64 1)).run Try.prog w = .ok x1 w := by kernel_rfl
theorem idx50_2 (x0 x1 x2 x3 : Value) (w : World) : (Instr.index 50 (.agg #[x0, x1, x2, x3]) (.int .i64 2)).run Try.prog w = .ok x2 w := by kernel_rfl
theorem idx50_3 (x0 x1 x2 x3 : Value) (w : World) : (Instr.index 50 (.agg #[x0, x1, x2, x3]) (.int .i64 3)).run Try.prog w = .ok x3 w := by kernel_rfl

theorem wrap_num (k : Nat) (l : List UInt8) (p : Int) (hk : k ≤ 8) : IntKind.u64.wrap (num k l p) = num k l p := by
  cases h : has k l.length p with
  | false => rw [num_no h]; rfl
  | true =>
    have hp := h
    unfold has at hp
    rw [decide_eq_true_iff] at hp
    obtain ⟨P, rfl⟩ := Int.eq_ofNat_of_zero_le hp.1
    rw [num_yes (by omega)]
    have hb : beN ((l.drop P).take k) < 256 ^ k := beN_lt _ _ (by simp; omega)
    have h8 : 256 ^ k ≤ 256 ^ 8 := Nat.pow_le_pow_right (by omega) hk
    have e8 : (256 : Nat) ^ 8 = 18446744073709551616 := rfl
    rw [e8] at h8
    rw [IntKind.wrap_u64]
    omega

theorem Add8_eq (A : Option Addr) (l : List UInt8) (n c : Nat) (x : Int) (v : Nat) (hx : x = (v : Int)) (w : World) (h : IsBB w w.heap.size A n c l) (hv : v < 256) (hn : n + 8 ≤ 140737488355328) :
    Calls Try.prog 18 #[.slice A n c, .int .u8 x] w fun e w' => ∃ g c', e = .returned (.slice (some ⟨g, 0, none⟩) (n + 1) c') ∧ New w w' g (n + 1) c' (l ++ bytesN 1 v) := by
  subst hx; exact Add8_any A l n c v w h hv hn
theorem Add16_eq2 (A : Option Addr) (l : List UInt8) (n c : Nat) (x : Int) (v : Nat) (hx : x = (v : Int)) (w : World) (h : IsBB w w.heap.size A n c l) (hv : v < 65536) (hn : n + 8 ≤ 140737488355328) :
    Calls Try.prog 17 #[.slice A n c, .int .u16 x] w fun e w' => ∃ g c', e = .returned (.slice (some ⟨g, 0, none⟩) (n + 2) c') ∧ New w w' g (n + 2) c' (l ++ bytesN 2 v) := by
  subst hx; exact Add16_any A l n c v w h hv hn
theorem Add32_eq2 (A : Option Addr) (l : List UInt8) (n c : Nat) (x : Int) (v : Nat) (hx : x = (v : Int)) (w : World) (h : IsBB w w.heap.size A n c l) (hv : v < 4294967296) (hn : n + 8 ≤ 140737488355328) :
    Calls Try.prog 16 #[.slice A n c, .int .u32 x] w fun e w' => ∃ g c', e = .returned (.slice (some ⟨g, 0, none⟩) (n + 4) c') ∧ New w w' g (n + 4) c' (l ++ bytesN 4 v) := by
  subst hx; exact Add32_any A l n c v w h hv hn
theorem bytesN_mod1 (V : Nat) : bytesN 1 (V % 256) = bytesN 1 V := bytesN_mod 1 V
theorem bytesN_mod2 (V : Nat) : bytesN 2 (V % 65536) = bytesN 2 V := bytesN_mod 2 V
theorem bytesN_mod4 (V : Nat) : bytesN 4 (V % 4294967296) = bytesN 4 V := bytesN_mod 4 V

set_option maxRecDepth 10000 in
set_option maxHeartbeats 8000000 in
theorem tells_walk (A : Option Addr) (l : List UInt8) (n c V : Nat) (text : ByteArray) (at_ : Int) (w : World) (h : IsBB w w.heap.size A n c l) (hn : n ≤ 1048576) (ht : text.size ≤ 1048576) (hV : V < 18446744073709551616) :
    Calls Try.prog 4 #[.slice A n c, .string text, .int .i64 at_, .int .u64 V] w fun e w' => e = .returned (.bool true) ∧ Below w.heap.size w w' := by
  have HV := hid hV
  clear hV
  have r1 := wrap_num 1 l at_ (by omega)
  have r2 := wrap_num 2 l at_ (by omega)
  have r4 := wrap_num 4 l at_ (by omega)
  have i0 := idx47_0
  have i1 := idx47_1
  have i2 := idx47_2
  have i3 := idx47_3
  have j0 := idx49_0
  have j1 := idx49_1
  have j2 := idx49_2
  have j3 := idx49_3
  go_enter Try.func4, Try.ntmps4
  go_wp2_with (go_at_call 20; refine (LentBytes_any _ _ _ _ _ h (by omega)).mono ?_; rintro e w1 ⟨g, c1, rfl, hN⟩; have fr := hN.front h.len; have hb1 := h.on hN.bel)
  go_wp2_with (first
    | (go_at_call 21; refine (U8_any _ _ _ _ _ _ fr.toIsB).mono ?_; rintro e w' ⟨rfl, rfl⟩)
    | (go_at_call 12; refine (U16_any _ _ _ _ _ _ fr.toIsB).mono ?_; rintro e w' ⟨rfl, rfl⟩)
    | (go_at_call 22; refine (U32_any _ _ _ _ _ _ fr.toIsB).mono ?_; rintro e w' ⟨rfl, rfl⟩)
    | (go_at_call 11; refine (U64_any _ _ _ _ _ _ fr.toIsB).mono ?_; rintro e w' ⟨rfl, rfl⟩))
  refine wp_loop_rounds 5 ?_
  rw [rounds_succ]
  go_wp2_with (go_at_call 23; refine (Number_any _ _ _ _ _ _ hb1.toIsB 1 (by omega)).mono ?_; rintro e w' ⟨rfl, rfl⟩)
  rw [rounds_succ]
  go_wp2_with (go_at_call 23; refine (Number_any _ _ _ _ _ _ hb1.toIsB 2 (by omega)).mono ?_; rintro e w' ⟨rfl, rfl⟩)
  rw [rounds_succ]
  go_wp2_with (go_at_call 23; refine (Number_any _ _ _ _ _ _ hb1.toIsB 4 (by omega)).mono ?_; rintro e w' ⟨rfl, rfl⟩)
  rw [rounds_succ]
  go_wp2_with (go_at_call 23; refine (Number_any _ _ _ _ _ _ hb1.toIsB 8 (by omega)).mono ?_; rintro e w' ⟨rfl, rfl⟩)
  rw [rounds_succ]
  clear r1 r2 r4 i0 i1 i2 i3 j0 j1 j2 j3
  go_wp2_with fail
  refine (Add8_eq _ _ _ _ _ (V % 256) (by omega) _ fr (by omega) (by omega)).mono ?_
  rintro e w2 ⟨g2, c2, rfl, N2⟩
  have b2 := N2.bel
  have fr2 := fr.on b2
  have hb2 := hb1.on b2
  have x8 := N2.isBB
  have B2 := hN.bel.trans (b2.mono hN.bel.size)
  have fl := hN.isBB.on b2
  clear hN
  clear b2 fr hb1 N2
  go_wp2_with fail
  refine (Add16_eq2 _ _ _ _ _ (V % 65536) (by rw [wrap_u16]; omega) _ fr2 (by omega) (by omega)).mono ?_
  rintro e w3 ⟨g3, c3, rfl, N3⟩
  have b3 := N3.bel
  have fr3 := fr2.on b3
  have hb3 := hb2.on b3
  have x8 := x8.on b3
  have x16 := N3.isBB
  have B3 := B2.trans (b3.mono B2.size)
  have fl := fl.on b3
  clear b3 fr2 hb2 N3 B2
  go_wp2_with fail
  refine (Add32_eq2 _ _ _ _ _ (V % 4294967296) (by omega) _ fr3 (by omega) (by omega)).mono ?_
  rintro e w4 ⟨g4, c4, rfl, N4⟩
  have b4 := N4.bel
  have fr4 := fr3.on b4
  have hb4 := hb3.on b4
  have x8 := x8.on b4
  have x16 := x16.on b4
  have x32 := N4.isBB
  have B4 := B3.trans (b4.mono B3.size)
  have fl := fl.on b4
  clear b4 fr3 hb3 N4 B3
  go_wp2_with fail
  refine (Add64_any _ _ _ _ V _ fr4 HV.out (by omega)).mono ?_
  rintro e w5 ⟨g5, c5, rfl, N5⟩
  have b5 := N5.bel
  have fr5 := fr4.on b5
  have hb5 := hb4.on b5
  have x8 := x8.on b5
  have x16 := x16.on b5
  have x32 := x32.on b5
  have x64 := N5.isBB
  have B5 := B4.trans (b5.mono B4.size)
  have fl := fl.on b5
  clear b5 fr4 hb4 N5 B4
  rw [bytesN_mod1] at x8
  rw [bytesN_mod2] at x16
  rw [bytesN_mod4] at x32
  have k0 := idx50_0
  have k1 := idx50_1
  have k2 := idx50_2
  have k3 := idx50_3
  go_wp2_with fail
  go_loopw [111] (fun i wr => ∃ k : Nat, k ≤ 4 ∧ i = .int .i64 k ∧ Below w5.heap.size w5 wr) (fun i _ => 4 - (intOf i).toNat)
  case atStart => exact ⟨0, Nat.zero_le _, rfl, Below.refl _ _⟩
  case round =>
    obtain ⟨k, hk, rfl, hbel⟩ := hrel
    have hbr := hb5.on hbel
    rcases (show k = 0 ∨ k = 1 ∨ k = 2 ∨ k = 3 ∨ k = 4 by omega) with rfl | rfl | rfl | rfl | rfl
    · have X := x8.on hbel
      have kx : (convert 24 9 (.slice (some ⟨g2, 0, none⟩) (n + 1) c2)).run Try.prog wr.drew = .ok (.string ⟨(l ++ bytesN 1 V).toArray⟩) wr.drew := X.drew.toIsB.conv
      go_wp2_with fail
      go_region_with (go_at_call 24; refine (RefAdd_any _ _ _ _ _ (by first | exact hbr.drew | exact hbr) (by omega) 1 V _ rfl HV.out (by omega)).mono ?_; rintro e w6 ⟨g6, c6, rfl, N6⟩; have k6 := N6.isB.conv; have kx' := (X.drew.below N6.bel).toIsB.conv; have b6 : Below wr.heap.size wr w6 := (by first | exact N6.bel | exact ((Below.refl _ wr).drew).trans N6.bel))
      all_goals
        clear kx kx' k6 N6
        go_wp2
        go_roundw
        case rel => exact ⟨1, by omega, rfl, hbel.trans (b6.mono hbel.size)⟩
        case measure => simp [intOf]
    · have X := x16.on hbel
      have kx : (convert 24 9 (.slice (some ⟨g3, 0, none⟩) (n + 2) c3)).run Try.prog wr.drew = .ok (.string ⟨(l ++ bytesN 2 V).toArray⟩) wr.drew := X.drew.toIsB.conv
      go_wp2_with fail
      go_region_with (go_at_call 24; refine (RefAdd_any _ _ _ _ _ (by first | exact hbr.drew | exact hbr) (by omega) 2 V _ rfl HV.out (by omega)).mono ?_; rintro e w6 ⟨g6, c6, rfl, N6⟩; have k6 := N6.isB.conv; have kx' := (X.drew.below N6.bel).toIsB.conv; have b6 : Below wr.heap.size wr w6 := (by first | exact N6.bel | exact ((Below.refl _ wr).drew).trans N6.bel))
      all_goals
        clear kx kx' k6 N6
        go_wp2
        go_roundw
        case rel => exact ⟨2, by omega, rfl, hbel.trans (b6.mono hbel.size)⟩
        case measure => simp [intOf]
    · have X := x32.on hbel
      have kx : (convert 24 9 (.slice (some ⟨g4, 0, none⟩) (n + 4) c4)).run Try.prog wr.drew = .ok (.string ⟨(l ++ bytesN 4 V).toArray⟩) wr.drew := X.drew.toIsB.conv
      go_wp2_with fail
      go_region_with (go_at_call 24; refine (RefAdd_any _ _ _ _ _ (by first | exact hbr.drew | exact hbr) (by omega) 4 V _ rfl HV.out (by omega)).mono ?_; rintro e w6 ⟨g6, c6, rfl, N6⟩; have k6 := N6.isB.conv; have kx' := (X.drew.below N6.bel).toIsB.conv; have b6 : Below wr.heap.size wr w6 := (by first | exact N6.bel | exact ((Below.refl _ wr).drew).trans N6.bel))
      all_goals
        clear kx kx' k6 N6
        go_wp2
        go_roundw
        case rel => exact ⟨3, by omega, rfl, hbel.trans (b6.mono hbel.size)⟩
        case measure => simp [intOf]
    · have X := x64.on hbel
      have kx : (convert 24 9 (.slice (some ⟨g5, 0, none⟩) (n + 8) c5)).run Try.prog wr.drew = .ok (.string ⟨(l ++ bytesN 8 V).toArray⟩) wr.drew := X.drew.toIsB.conv
      go_wp2_with fail
      go_region_with (go_at_call 24; refine (RefAdd_any _ _ _ _ _ (by first | exact hbr.drew | exact hbr) (by omega) 8 V _ rfl HV.out (by omega)).mono ?_; rintro e w6 ⟨g6, c6, rfl, N6⟩; have k6 := N6.isB.conv; have kx' := (X.drew.below N6.bel).toIsB.conv; have b6 : Below wr.heap.size wr w6 := (by first | exact N6.bel | exact ((Below.refl _ wr).drew).trans N6.bel))
      all_goals
        clear kx kx' k6 N6
        go_wp2
        go_roundw
        case rel => exact ⟨4, by omega, rfl, hbel.trans (b6.mono hbel.size)⟩
        case measure => simp [intOf]
    · have frr := fr5.on hbel
      have flr := fl.on hbel
      have Br := B5.trans (hbel.mono B5.size)
      clear fr5 fl B5 hb5 x8 x16 x32 x64 k0 k1 k2 k3
      by_cases hs : text.size ≤ 65535
      · go_wp2_with fail
        refine (AddText_any _ _ _ _ text _ frr hs (by omega)).mono ?_
        rintro e w7 ⟨g7, c7, rfl, N7⟩
        have fr7 := frr.on N7.bel
        have hb7 := hbr.on N7.bel
        have fl7 := flr.on N7.bel
        have B7 := Br.trans (N7.bel.mono Br.size)
        go_wp2_with fail
        refine (RefAddText_any _ _ _ _ text _ hb7 hs (by omega)).mono ?_
        rintro e w8 ⟨g8, c8, rfl, N8⟩
        have fr8 := fr7.on N8.bel
        have hb8 := hb7.on N8.bel
        have fl8 := fl7.on N8.bel
        have B8 := B7.trans (N8.bel.mono B7.size)
        have kx := (N7.isBB.on N8.bel).toIsB.conv
        have ky := N8.isB.conv
        clear N7 N8 fr7 hb7 fl7 frr hbr flr
        go_wp2_with (first
          | (go_at_call 13; refine (Text_any _ _ _ _ _ _ fr8.toIsB).mono ?_; rintro e w' ⟨rfl, rfl⟩)
          | (go_at_call 26; refine (RefText_any _ _ _ _ _ _ hb8.toIsB).mono ?_; rintro e w' ⟨rfl, rfl⟩)
          | (go_at_call 27; refine (KeptBytes_true _ _ _ _ _ _ _ hb8 fl8).mono ?_; rintro e w9 ⟨rfl, b9⟩)
          | (go_at_call 19; refine (awake_any _).mono ?_; rintro e w10 ⟨rfl, b10⟩))
        go_ret
        exact ⟨rfl, (B8.trans (b9.mono B8.size)).trans (b10.mono (B8.trans (b9.mono B8.size)).size)⟩
      · have kz := run_string_zero Try.prog wr 24 5 9 Try.underlying24 Try.underlying5 Try.underlying9 none 0
        go_wp2_with fail
        refine (AddText_long _ _ _ text _ (by omega) (by unfold maxLen; omega)).mono ?_
        rintro e w7 ⟨rfl, rfl⟩
        go_wp2_with fail
        refine (RefAddText_long _ _ _ text _ (by omega) (by unfold maxLen; omega)).mono ?_
        rintro e w8 ⟨rfl, rfl⟩
        go_wp2_with (first
          | (go_at_call 13; refine (Text_any _ _ _ _ _ _ frr.toIsB).mono ?_; rintro e w' ⟨rfl, rfl⟩)
          | (go_at_call 26; refine (RefText_any _ _ _ _ _ _ hbr.toIsB).mono ?_; rintro e w' ⟨rfl, rfl⟩)
          | (go_at_call 27; refine (KeptBytes_true _ _ _ _ _ _ _ hbr flr).mono ?_; rintro e w9 ⟨rfl, b9⟩)
          | (go_at_call 19; refine (awake_any _).mono ?_; rintro e w10 ⟨rfl, b10⟩))
        go_ret
        exact ⟨rfl, (Br.trans (b9.mono Br.size)).trans (b10.mono (Br.trans (b9.mono Br.size)).size)⟩
end Go.Proofs.Ytdaekdfogcgdfaa
