/-
  The walk of DiskNumbers.
-/
import Derived.Test.YtgccjclloomfgaaSeg
namespace Go.Proofs.Ytgccjclloomfgaa
open Go.RowKit

def N0 : Dk := abcD []
def N1 : Dk := { N0 with now := [97], floor := 1 }
def N2 : Dk := { N1 with now := [97, 122] }
theorem n1 : N0.trunc 1 = (N1, 0) := by rfl
theorem n2 : N1.app [122] = (N2, 0) := by rfl
theorem n2a : N2.arm (-1) = (N2, 2) := by rfl
theorem n2f : N2.fail 0 10 = (N2, 2) := by rfl
theorem n2g : N2.fail 1 14 = (N2, 2) := by rfl
theorem n2big (l : List UInt8) (h : l.length = 999) : N2.app l = (N2, 5) := by
  have h1 : N2.op = (N2, 0) := rfl
  unfold Dk.app
  rw [h1, if_neg (by simp), if_pos (by rw [h]; decide)]
theorem n2fit (l : List UInt8) (h : l.length = 998) : N2.app l = ({ N2 with now := N2.now ++ l }, 0) := by
  have h1 : N2.op = (N2, 0) := rfl
  unfold Dk.app
  rw [h1, if_neg (by simp), if_neg (by rw [h]; decide)]
theorem x1 : (N2.crash 1 []).now.toArray = #[97, 122] := by decide +kernel
theorem x2 : (N2.crash 0 []).now.toArray = #[97] := by decide +kernel
theorem x3 : (N2.crash (-1) []).now.toArray = #[97, 98, 99] := by decide +kernel
theorem ne1 (w : World) : (binOp BinOp.neq 9 (.string ⟨#[97, 122]⟩) (.string ⟨#[97, 122]⟩)).run Try.prog w = .ok (.bool false) w := by kernel_rfl
theorem ne2 (w : World) : (binOp BinOp.neq 9 (.string ⟨#[97]⟩) (.string ⟨#[97]⟩)).run Try.prog w = .ok (.bool false) w := by kernel_rfl
theorem ne3 (w : World) : (binOp BinOp.neq 9 (.string ⟨#[97, 98, 99]⟩) (.string ⟨#[97, 98, 99]⟩)).run Try.prog w = .ok (.bool false) w := by kernel_rfl
def A1 : Dk := { N0 with armed := 2 }
def A2 : Dk := { N0 with armed := 1 }
def A3 : Dk := { N0 with armed := 1, down := true }
def C1 : Dk := N0
theorem a1 : N0.arm 1 = (A1, 0) := by rfl
theorem a2 : A1.app [] = (A2, 0) := by rfl
theorem a3 : A2.app [] = (A3, 11) := by rfl
theorem a4 : A3.syn = (A3, 11) := by rfl
theorem a5 : A3.crash 0 [] = N0 := by rfl
theorem a6 : N0.app [] = (N0, 0) := by rfl
theorem b1 : N0.arm 0 = (A2, 0) := by rfl
theorem b2 : A2.op = (A3, 11) := by rfl
def F1 : Dk := { N0 with fails := 3, err := 5 }
def F2 : Dk := { N0 with fails := 2, err := 5 }
def F3 : Dk := { N0 with fails := 0, err := 5 }
def F4 : Dk := { N0 with fails := 2, err := 10 }
def F5 : Dk := { N0 with fails := 0, err := 10 }
theorem f1 : N0.fail 2 5 = (F1, 0) := by rfl
theorem f2 : F1.app [] = (F2, 0) := by rfl
theorem f3 : F2.app [] = (F3, 5) := by rfl
theorem f4 : F3.app [] = (F3, 0) := by rfl
theorem f5 : F3.fail 1 10 = (F4, 0) := by rfl
theorem f6 : F4.syn = (F5, 10) := by rfl
theorem f7 : F5.syn = (F5, 0) := by rfl
def Z0 : Dk := Dk.load 2000 []
def Z1 : Dk := { Z0 with now := List.replicate 600 0 }
def Z2 : Dk := { Z1 with old := List.replicate 600 0, floor := 600 }
def Z3 : Dk := { Z2 with now := List.replicate 600 0 ++ List.replicate 700 0 }
theorem z1 : Z0.app (List.replicate 600 0) = (Z1, 0) := by
  have h1 : Z0.op = (Z0, 0) := rfl
  unfold Dk.app
  rw [h1, if_neg (by simp), if_neg (by rw [List.length_replicate]; decide)]
  rfl
theorem z2 : Z1.syn = (Z2, 0) := by
  have h1 : Z1.op = (Z1, 0) := rfl
  have h2 : Z1.now.length = 600 := List.length_replicate
  unfold Dk.syn
  rw [h1, if_neg (by simp), h2]
  rfl
theorem z3 : Z2.app (List.replicate 700 0) = (Z3, 0) := by
  have h1 : Z2.op = (Z2, 0) := rfl
  have h2 : Z2.now.length = 600 := List.length_replicate
  unfold Dk.app
  rw [h1, if_neg (by simp), if_neg (by rw [h2, List.length_replicate]; decide)]
  rfl
def P1 : List UInt8 := (Z3.crash 600 [120, 121]).now
def P2 : List UInt8 := (Z3.crash 424 [120, 121]).now
theorem p1len : P1.length = 1200 := by decide +kernel
theorem p2len : P2.length = 1024 := by decide +kernel
theorem str_ix (l : List UInt8) (i : Nat) (b : UInt8) (hl : i < l.length) (h : l.getD i 7 = b) (w : World) : (Instr.index 9 (.string ⟨l.toArray⟩) (.int .i64 (i : Nat))).run Try.prog w = .ok (.int .u8 (b.toNat : Int)) w := by
  have hs : (⟨l.toArray⟩ : ByteArray).size = l.length := by simp [ByteArray.size]
  rw [run_index_string w 9 _ .i64 _ Try.isStr9, dif_pos (by rw [hs]; omega)]
  have e : ((⟨l.toArray⟩ : ByteArray)[((i : Nat) : Int).toNat]'(by rw [hs]; omega)) = b := by
    rw [List.getD_eq_getElem?_getD, List.getElem?_eq_getElem hl] at h
    rw [← h]
    rfl
  rw [e]
theorem y1 : P1.getD 1023 7 = 0 := by decide +kernel
theorem y2 : P1.getD 1024 7 = 120 := by decide +kernel
theorem y3 : P1.getD 1025 7 = 121 := by decide +kernel
theorem y4 : P1.getD 1199 7 = 121 := by decide +kernel
theorem y5 : P2.getD 599 7 = 0 := by decide +kernel
theorem y6 : P2.getD 600 7 = 120 := by decide +kernel
theorem y7 : P2.getD 1023 7 = 121 := by decide +kernel
theorem sz1 : (⟨P1.toArray⟩ : ByteArray).size = 1200 := by simp [ByteArray.size, p1len]
theorem sz2 : (⟨P2.toArray⟩ : ByteArray).size = 1024 := by simp [ByteArray.size, p2len]
theorem Seg.new (W : World) : Calls Try.prog 13 #[.int .i64 2000] W fun r w' => ∃ g, r = .returned (.tuple #[.pointer (some ⟨g, 0, none⟩), .int .i64 0]) ∧ Seg W.heap.size W w' g Z0 := by
  refine (New_any 2000 W (by omega)).mono ?_
  rintro r w' ⟨g, S, F, rfl, h, b⟩
  exact ⟨g, rfl, ⟨S, F, _, 0, h⟩, b⟩
set_option maxRecDepth 10000 in
set_option maxHeartbeats 4000000 in
theorem DiskNumbers_any (w : World) : Calls Try.prog 3 #[] w fun r w' => r = .returned (.bool true) ∧ Below w.heap.size w w' := by
  have kc := fun (w : World) (C : Array Value) (n c : Nat) => Lib.run_convert_bytes_const (P := Try.prog) w 27 5 C n c Try.isSl27 Try.isU8
  have q1 := ne1
  have q2 := ne2
  have q3 := ne3
  go_enter Try.func3, Try.ntmps3
  go_upto_region 4 with (first
    | (go_at_call 8; (with_reducible refine (Seg.abc w).mono ?_); rintro r W1 ⟨g, rfl, h1⟩; have S1 : Hid (Seg w.heap.size w W1 g N0) := h1; clear h1)
    | (go_at_call 9; (with_reducible refine (S1.out.trunc 1 1 rfl (by decide) n1).mono ?_); rintro r W2 ⟨rfl, h2⟩; have S2 := hid h2; clear h2; have bl2 : Below W2.heap.size W2 (W2.alloc (.cells #[.int .u8 122] 5 (1, 2))) := (Below.refl _ W2).alloc (Nat.le_refl _) _; have I2 : IsBB (W2.alloc (.cells #[.int .u8 122] 5 (1, 2))) (W2.alloc (.cells #[.int .u8 122] 5 (1, 2))).heap.size (some ⟨W2.heap.size, 0, none⟩) 1 1 [122] := lit_isBB W2 [122] (by decide) 1; have HA2 := hid (Seg.app S2.out bl2 (some ⟨W2.heap.size, 0, none⟩) 1 1 [122] I2 (fun _ ad e => by cases e; exact Nat.le_refl _) n2); clear bl2 I2)
    | (go_at_call 10; (with_reducible refine (HA2.out).mono ?_); rintro r W3 ⟨rfl, h3⟩; have S3 := hid h3; clear h3)
    | (go_at_call 11; (with_reducible refine S3.out.synced.mono ?_); rintro r w' ⟨rfl, rfl⟩)
    | (go_at_call 12; (with_reducible refine (S3.out.crashed 1 #[] _ (by omega) (by decide) x1).mono ?_); rintro r W4 ⟨rfl, h4⟩; have S4 := hid h4; clear h4)
    | (go_at_call 12; (with_reducible refine (S4.out.crashed 0 #[] _ (by omega) (by decide) x2).mono ?_); rintro r W5 ⟨rfl, h5⟩; have S5 := hid h5; clear h5)
    | (go_at_call 12; (with_reducible refine (S5.out.crashed (-1) #[] _ (by omega) (by decide) x3).mono ?_); rintro r W6 ⟨rfl, h6⟩; have S6 := hid h6; clear h6))
  go_upto_region 8 with (first
    | (go_at_call 13; (with_reducible refine (New_bad (-1) W6 (by unfold LdOk; omega)).mono ?_); rintro r w' ⟨rfl, rfl⟩)
    | (go_at_call 13; (with_reducible refine (New_bad 4194305 W6 (by unfold LdOk; omega)).mono ?_); rintro r w' ⟨rfl, rfl⟩)
    | (go_at_call 14; refine (Load_bad 2 _ 3 3 _ (by unfold LdOk; omega)).mono ?_; rintro r W7 ⟨rfl, e7⟩; have S7 : Hid (Seg w.heap.size w W7 g N2) := (by rw [← e7]; exact S6.out.below ((Below.refl _ W6).alloc (Nat.le_refl _) _)); clear e7)
    | (go_at_call 15; (with_reducible refine (S7.out.readBad 1 2 (by unfold RdOk; decide) (by omega) (by omega)).mono ?_); rintro r W8 ⟨rfl, h8⟩; have S8 := hid h8; clear h8))
  go_upto_region 9 with (first
    | (go_at_call 9; (with_reducible refine (S8.out.truncBad 3 (by decide)).mono ?_); rintro r W9 ⟨rfl, h9⟩; have S9 := hid h9; clear h9)
    | (go_at_call 16; (with_reducible refine (S9.out.arm (-1) (by omega) n2a).mono ?_); rintro r W10 ⟨rfl, h10⟩; have S10 := hid h10; clear h10)
    | (go_at_call 17; (with_reducible refine (S10.out.fail 0 10 (by omega) n2f).mono ?_); rintro r W11 ⟨rfl, h11⟩; have S11 := hid h11; clear h11)
    | (go_at_call 17; (with_reducible refine (S11.out.fail 1 14 (by omega) n2g).mono ?_); rintro r W12 ⟨rfl, h12⟩; have S12 := hid h12; clear h12)
    | (at_make; (refine wpList_zeros_w (by rfl) _ _ rfl W12 999 rfl rfl (by omega) ?_); intro W13 hN13; have N13 := hid hN13.out; clear hN13)
    | (go_at_call 10; (with_reducible refine (Seg.app S12.out N13.out.bel (some ⟨W12.heap.size, 0, none⟩) 999 999 _ N13.out.isBB (fun _ ad e => by cases e; exact Nat.le_refl _) (n2big _ List.length_replicate)).mono ?_); rintro r W14 ⟨rfl, h14⟩; have S14 := hid h14; clear h14)
    | (at_make; (refine wpList_zeros_w (by rfl) _ _ rfl W14 998 rfl rfl (by omega) ?_); intro W15 hN15; have N15 := hid hN15.out; clear hN15)
    | (go_at_call 10; (with_reducible refine (Seg.app S14.out N15.out.bel (some ⟨W14.heap.size, 0, none⟩) 998 998 _ N15.out.isBB (fun _ ad e => by cases e; exact Nat.le_refl _) (n2fit _ List.length_replicate)).mono ?_); rintro r W16 ⟨rfl, h16⟩; have S16 := hid h16; clear h16))
  go_upto_region 11 with (first
    | (go_at_call 8; (with_reducible refine (Seg.abc W16).mono ?_); rintro r W17 ⟨g2, rfl, h17⟩; have S17 : Hid (Seg W16.heap.size W16 W17 g2 N0) := h17; clear h17)
    | (go_at_call 16; (with_reducible refine (S17.out.arm 1 (by omega) a1).mono ?_); rintro r W18 ⟨rfl, h18⟩; have S18 := hid h18; clear h18)
    | (go_at_call 10; (with_reducible refine (S18.out.appNil a2).mono ?_); rintro r W19 ⟨rfl, h19⟩; have S19 := hid h19; clear h19)
    | (go_at_call 10; (with_reducible refine (S19.out.appNil a3).mono ?_); rintro r W20 ⟨rfl, h20⟩; have S20 := hid h20; clear h20)
    | (go_at_call 18; (with_reducible refine (S20.out.sync a4).mono ?_); rintro r W21 ⟨rfl, h21⟩; have S21 := hid h21; clear h21)
    | (go_at_call 19; (with_reducible refine S21.out.isDown.mono ?_); rintro r w' ⟨rfl, rfl⟩)
    | (go_at_call 20; (with_reducible refine (S21.out.crash 0 (by omega) a5).mono ?_); rintro r W22 ⟨rfl, h22⟩; have S22 := hid h22; clear h22)
    | (go_at_call 19; (with_reducible refine S22.out.isDown.mono ?_); rintro r w' ⟨rfl, rfl⟩)
    | (go_at_call 10; (with_reducible refine (S22.out.appNil a6).mono ?_); rintro r W23 ⟨rfl, h23⟩; have S23 := hid h23; clear h23))
  go_upto_region 15 with (first
    | (go_at_call 8; (with_reducible refine (Seg.abc W23).mono ?_); rintro r W24 ⟨g3, rfl, h24⟩; have S24 : Hid (Seg W23.heap.size W23 W24 g3 N0) := h24; clear h24)
    | (go_at_call 16; (with_reducible refine (S24.out.arm 0 (by omega) b1).mono ?_); rintro r W25 ⟨rfl, h25⟩; have S25 := hid h25; clear h25)
    | (go_at_call 15; (with_reducible refine (S25.out.readNo 0 0 0 0 rfl rfl (by omega) b2 (by decide)).mono ?_); rintro r W26 ⟨rfl, h26⟩; have S26 := hid h26; clear h26)
    | (go_at_call 19; (with_reducible refine S26.out.isDown.mono ?_); rintro r w' ⟨rfl, rfl⟩))
  go_upto_region 16 with (first
    | (go_at_call 17; (with_reducible refine ((Seg.below S23.out S26.out.bel).fail 2 5 (by omega) f1).mono ?_); rintro r W27 ⟨rfl, h27⟩; have S27 := hid h27; clear h27)
    | (go_at_call 10; (with_reducible refine (S27.out.appNil f2).mono ?_); rintro r W28 ⟨rfl, h28⟩; have S28 := hid h28; clear h28)
    | (go_at_call 10; (with_reducible refine (S28.out.appNil f3).mono ?_); rintro r W29 ⟨rfl, h29⟩; have S29 := hid h29; clear h29)
    | (go_at_call 10; (with_reducible refine (S29.out.appNil f4).mono ?_); rintro r W30 ⟨rfl, h30⟩; have S30 := hid h30; clear h30)
    | (go_at_call 17; (with_reducible refine (S30.out.fail 1 10 (by omega) f5).mono ?_); rintro r W31 ⟨rfl, h31⟩; have S31 := hid h31; clear h31)
    | (go_at_call 18; (with_reducible refine (S31.out.sync f6).mono ?_); rintro r W32 ⟨rfl, h32⟩; have S32 := hid h32; clear h32)
    | (go_at_call 18; (with_reducible refine (S32.out.sync f7).mono ?_); rintro r W33 ⟨rfl, h33⟩; have S33 := hid h33; clear h33))
  go_upto_region 22 with (first
    | (go_at_call 13; (with_reducible refine (Seg.new W33).mono ?_); rintro r W34 ⟨g4, rfl, h34⟩; have S34 := hid h34; clear h34)
    | (at_make; (refine wpList_zeros_w (by rfl) _ _ rfl W34 600 rfl rfl (by omega) ?_); intro W35 hN35; have N35 := hid hN35.out; clear hN35)
    | (go_at_call 10; (with_reducible refine (Seg.app S34.out N35.out.bel (some ⟨W34.heap.size, 0, none⟩) 600 600 _ N35.out.isBB (fun _ ad e => by cases e; exact Nat.le_refl _) z1).mono ?_); rintro r W36 ⟨rfl, h36⟩; have S36 := hid h36; clear h36)
    | (go_at_call 18; (with_reducible refine (S36.out.sync z2).mono ?_); rintro r W37 ⟨rfl, h37⟩; have S37 := hid h37; clear h37)
    | (at_make; (refine wpList_zeros_w (by rfl) _ _ rfl W37 700 rfl rfl (by omega) ?_); intro W38 hN38; have N38 := hid hN38.out; clear hN38)
    | (go_at_call 10; (with_reducible refine (Seg.app S37.out N38.out.bel (some ⟨W37.heap.size, 0, none⟩) 700 700 _ N38.out.isBB (fun _ ad e => by cases e; exact Nat.le_refl _) z3).mono ?_); rintro r W39 ⟨rfl, h39⟩; have S39 := hid h39; clear h39)
    | (go_at_call 12; (with_reducible refine (S39.out.crashed 600 #[120, 121] P1.toArray (by omega) (by decide) rfl).mono ?_); rintro r W40 ⟨rfl, h40⟩; have S40 := hid h40; clear h40)
    | (go_at_call 12; (with_reducible refine (S40.out.crashed 424 #[120, 121] P2.toArray (by omega) (by decide) rfl).mono ?_); rintro r W41 ⟨rfl, h41⟩; have S41 := hid h41; clear h41))
  have s1 := sz1
  have s2 := sz2
  have i1 : ∀ w, (Instr.index 9 (.string ⟨P1.toArray⟩) (.int .i64 1023)).run Try.prog w = .ok (.int .u8 0) w := fun w => str_ix P1 1023 0 (by rw [p1len]; decide) y1 w
  have i2 : ∀ w, (Instr.index 9 (.string ⟨P1.toArray⟩) (.int .i64 1024)).run Try.prog w = .ok (.int .u8 120) w := fun w => str_ix P1 1024 120 (by rw [p1len]; decide) y2 w
  have i3 : ∀ w, (Instr.index 9 (.string ⟨P1.toArray⟩) (.int .i64 1025)).run Try.prog w = .ok (.int .u8 121) w := fun w => str_ix P1 1025 121 (by rw [p1len]; decide) y3 w
  have i4 : ∀ w, (Instr.index 9 (.string ⟨P1.toArray⟩) (.int .i64 1199)).run Try.prog w = .ok (.int .u8 121) w := fun w => str_ix P1 1199 121 (by rw [p1len]; decide) y4 w
  have i5 : ∀ w, (Instr.index 9 (.string ⟨P2.toArray⟩) (.int .i64 599)).run Try.prog w = .ok (.int .u8 0) w := fun w => str_ix P2 599 0 (by rw [p2len]; decide) y5 w
  have i6 : ∀ w, (Instr.index 9 (.string ⟨P2.toArray⟩) (.int .i64 600)).run Try.prog w = .ok (.int .u8 120) w := fun w => str_ix P2 600 120 (by rw [p2len]; decide) y6 w
  have i7 : ∀ w, (Instr.index 9 (.string ⟨P2.toArray⟩) (.int .i64 1023)).run Try.prog w = .ok (.int .u8 121) w := fun w => str_ix P2 1023 121 (by rw [p2len]; decide) y7 w
  have hB := hid (bel_trans (bel_trans S16.out.bel S33.out.bel) S41.out.bel)
  generalize P1.toArray = X1 at s1 i1 i2 i3 i4 ⊢
  generalize P2.toArray = X2 at s2 i5 i6 i7 ⊢
  go_wp2_with (go_at_call 21; refine (awake_any _).mono ?_; rintro r W50 ⟨rfl, b50⟩; have B50 := hid (bel_trans hB.out b50))
  go_ret
  exact ⟨rfl, B50.out⟩
end Go.Proofs.Ytgccjclloomfgaa
