/-
  The walk of DiskSpares.
-/
import Derived.Test.YtgccjclloomfgaaSprN
namespace Go.Proofs.Ytgccjclloomfgaa
open Go.RowKit

theorem SameBytes_bel (A B : Option Addr) (l : List UInt8) (n c d : Nat) (w : World) (h1 : IsB w A n c l) (h2 : IsB w B n d l) :
    Calls Try.prog 32 #[.slice A n c, .slice B n d] w fun e w' => e = .returned (.bool true) ∧ Below w.heap.size w w' :=
  (SameBytes_true A B l n c d w h1 h2).mono fun _ _ h => ⟨h.1, by obtain ⟨k, hk⟩ := h.2; rw [hk]; exact below_drewN (Below.refl _ w) k⟩
theorem spr_op (l : List UInt8) : (Dk.load 5000 l).op = (Dk.load 5000 l, 0) := rfl
theorem spr_app (l : List UInt8) (h : l.length ≤ 3000) : (Dk.load 5000 l).app [120] = ({ Dk.load 5000 l with now := l ++ [120] }, 0) := by
  unfold Dk.app
  rw [spr_op, if_neg (by simp), if_neg (by show ¬ l.length + 1 > 5000; omega)]
  rfl
section
variable {w W1 W2 W3 W4 W5 W6 W7 W8 W9 : World} {A A0 A1 A2 A3 A4 : Option Addr} {n c c0 c1 c2 c3 c4 g g2 : Nat} {l : List UInt8} {S S2 : Nat → Prop} {F L F2 L2 : Value} {D : Dk}
theorem spr_d3 (b3 : Below W2.heap.size W2 W3) (hd : DkAt W1.heap.size S W2 g F L D 0) : DkAt W1.heap.size S W3 g F L D 0 := hd.below b3
theorem spr_x (hd : DkAt W1.heap.size S W2 g F L D 0) (b3 : Below W2.heap.size W2 W3) (o1 : W4.ownsRow W3.heap.size 5 1 (.slice A1 n c1) n (l.map bv)) (but5 : But S W4 W5) (b6 : Below W5.heap.size W5 W6) (b7 : Below W6.heap.size W6 W7) :
    W7.ownsRow W3.heap.size 5 1 (.slice A1 n c1) n (l.map bv) := by
  have s3 := b3.size
  have o5 := ownsRow_but o1 but5 (fun k hk hs => by have := (own_lt o1 k hk).1; have := (hd.lt k hs).2; omega)
  exact own_below (own_below o5 b6) b7
theorem spr_bw (b1 : Below w.heap.size w W1) (b2 : Below W1.heap.size W1 W2) (hd : DkAt W1.heap.size S W2 g F L D 0) (b3 : Below W2.heap.size W2 W3) (but4 : But S W3 W4) (but5 : But S W4 W5) (b6 : Below W5.heap.size W5 W6) (b7 : Below W6.heap.size W6 W7) : Below w.heap.size w W7 := by
  have s1 := b1.size
  have s2 := b2.size
  have s3 := b3.size
  have s4 := but4.size
  have s5 := but5.size
  have b45 : But S W3 W5 := but4.trans but5 (fun i hi => .inl hi)
  have bw3 : Below w.heap.size w W3 := bel_trans (bel_trans b1 b2) b3
  exact (bw3.trans (b45.below (B := w.heap.size) (fun i hi => by have := (hd.lt i hi).1; omega) (by omega))).trans ((bel_trans b6 b7).mono (by omega))
theorem spr_app_c {W : World} {B : Nat} (hw : w.heap.size ≤ B) (hB : B ≤ W.heap.size) (hc : DkAt B S2 W g2 F2 L2 (Dk.load 5000 l) 0) (hd : DkAt W1.heap.size S W g F L D 0) (hS : ∀ i, S i → S2 i → False) (hl : l.length ≤ 3000) (bw : Below w.heap.size w W) :
    Calls Try.prog 10 #[.pointer (some ⟨g2, 0, none⟩), .slice (some ⟨W.heap.size, 0, none⟩) 1 1] (W.alloc (.cells #[.int .u8 120] 5 (1, 2))) fun r w' => r = .returned (.int .i64 0) ∧ DkAt W1.heap.size S w' g F L D 0 ∧ Below w.heap.size w w' := by
  have bl : Below W.heap.size W (W.alloc (.cells #[.int .u8 120] 5 (1, 2))) := (Below.refl _ W).alloc (Nat.le_refl _) _
  have hI : IsBB (W.alloc (.cells #[.int .u8 120] 5 (1, 2))) (W.alloc (.cells #[.int .u8 120] 5 (1, 2))).heap.size (some ⟨W.heap.size, 0, none⟩) 1 1 [120] := lit_isBB W [120] (by decide) 1
  refine (Append_any _ 1 1 [120] (hc.below bl) (hI.out_new (w := W) (fun _ ad e => by cases e; exact Nat.le_refl _) (fun i hi => (hc.lt i hi).2))).mono ?_
  rintro r w' ⟨rfl, F', S', h, s⟩
  rw [spr_app l hl]
  have sz := bl.size
  refine ⟨rfl, (hd.below bl).but s.but (fun i h1 h2 => hS i h1 h2), (bw.trans (bl.mono (by omega))).trans (s.but.below (fun i hi => by have := (hc.lt i hi).1; omega) (by omega))⟩
theorem spr_final (hA : IsBB w w.heap.size A n c l) (hn : n ≤ 3000) (b1 : Below w.heap.size w W1) (o0 : W1.ownsRow w.heap.size 5 1 (.slice A0 n c0) n (l.map bv)) (b2 : Below W1.heap.size W1 W2) (hd : DkAt W1.heap.size S W2 g F L D 0)
    (b3 : Below W2.heap.size W2 W3) (hc : DkAt W2.heap.size S2 W3 g2 F2 L2 D 0) (but4 : But S W3 W4) (o1 : W4.ownsRow W3.heap.size 5 1 (.slice A1 n c1) n (l.map bv)) (but5 : But S W4 W5) (hd5 : DkAt W1.heap.size S W5 g F L D 0)
    (o2 : W5.ownsRow W4.heap.size 5 1 (.slice A2 n c2) n (l.map bv)) (b6 : Below W5.heap.size W5 W6) (o3 : W6.ownsRow W5.heap.size 5 1 (.slice A3 n c3) n (l.map bv)) (b7 : Below W6.heap.size W6 W7) (o4 : W7.ownsRow W6.heap.size 5 1 (.slice A4 n c4) n (l.map bv))
    (b8 : Below W7.heap.size W7 W8) (b9 : Below W8.heap.size W8 W9) :
    Calls Try.prog 38 #[.slice (some ⟨W9.heap.size, 0, none⟩) 5 5] (W9.alloc (.cells #[.slice A0 n c0, .slice A1 n c1, .slice A2 n c2, .slice A3 n c3, .slice A4 n c4] 27)) fun e w' =>
      e = .returned (.bool true) ∧ DkAt W1.heap.size S w' g F L D 0 ∧ DkAt W2.heap.size S2 w' g2 F2 L2 D 0 ∧ IsBB w' w'.heap.size A n c l ∧ Below w.heap.size w w' := by
  have s1 := b1.size
  have s2 := b2.size
  have s3 := b3.size
  have s4 := but4.size
  have s5 := but5.size
  have s6 := b6.size
  have s7 := b7.size
  have s8 := b8.size
  have s9 := b9.size
  have hS : ∀ i, S i → W1.heap.size ≤ i ∧ i < W2.heap.size := hd.lt
  have hS2 : ∀ i, S2 i → W2.heap.size ≤ i ∧ i < W3.heap.size := hc.lt
  have b10 : Below W9.heap.size W9 (W9.alloc (.cells #[.slice A0 n c0, .slice A1 n c1, .slice A2 n c2, .slice A3 n c3, .slice A4 n c4] 27)) := (Below.refl _ W9).alloc (Nat.le_refl _) _
  have hz : (W9.alloc (.cells #[.slice A0 n c0, .slice A1 n c1, .slice A2 n c2, .slice A3 n c3, .slice A4 n c4] 27)).heap.size = W9.heap.size + 1 := World.size_alloc _ _
  have hr := heap_alloc_new W9 (.cells #[.slice A0 n c0, .slice A1 n c1, .slice A2 n c2, .slice A3 n c3, .slice A4 n c4] 27)
  have b5t : Below W5.heap.size W5 (W9.alloc (.cells #[.slice A0 n c0, .slice A1 n c1, .slice A2 n c2, .slice A3 n c3, .slice A4 n c4] 27)) := bel_trans (bel_trans (bel_trans (bel_trans b6 b7) b8) b9) b10
  have b6t : Below W6.heap.size W6 (W9.alloc (.cells #[.slice A0 n c0, .slice A1 n c1, .slice A2 n c2, .slice A3 n c3, .slice A4 n c4] 27)) := bel_trans (bel_trans (bel_trans b7 b8) b9) b10
  have b7t : Below W7.heap.size W7 (W9.alloc (.cells #[.slice A0 n c0, .slice A1 n c1, .slice A2 n c2, .slice A3 n c3, .slice A4 n c4] 27)) := bel_trans (bel_trans b8 b9) b10
  generalize (W9.alloc (.cells #[.slice A0 n c0, .slice A1 n c1, .slice A2 n c2, .slice A3 n c3, .slice A4 n c4] 27)) = W at b5t b6t b7t hz hr ⊢
  have b45 : But S W3 W5 := but4.trans but5 (fun i hi => .inl hi)
  have L0 : LsI W A0 n c0 w.heap.size W1.heap.size := ((((LsI.of_own o0).below b2 (Nat.le_refl _)).below b3 (by omega)).but b45 (fun i _ h2 hs => by have := (hS i hs).1; omega) (by omega)).below b5t (by omega)
  have L1 : LsI W A1 n c1 W3.heap.size W4.heap.size := ((LsI.of_own o1).but but5 (fun i h1 _ hs => by have := (hS i hs).2; omega) (Nat.le_refl _)).below b5t (by omega)
  have L2' : LsI W A2 n c2 W4.heap.size W5.heap.size := (LsI.of_own o2).below b5t (Nat.le_refl _)
  have L3 : LsI W A3 n c3 W5.heap.size W6.heap.size := (LsI.of_own o3).below b6t (Nat.le_refl _)
  have L4 : LsI W A4 n c4 W6.heap.size W7.heap.size := (LsI.of_own o4).below b7t (Nat.le_refl _)
  have dW := hd5.below b5t
  have cW : DkAt W2.heap.size S2 W g2 F2 L2 D 0 := (hc.but b45 (fun i h1 h2 => by have := (hS i h2).2; have := (hS2 i h1).1; omega)).below b5t
  have bw3 : Below w.heap.size w W3 := bel_trans (bel_trans b1 b2) b3
  have bwW : Below w.heap.size w W := (bw3.trans (b45.below (B := w.heap.size) (fun i hi => by have := (hS i hi).1; omega) (by omega))).trans (b5t.mono (by omega))
  refine (spares_apart n W9.heap.size A0 A1 A2 A3 A4 c0 c1 c2 c3 c4 _ _ _ _ _ _ _ _ _ _ W hn L0 L1 L2' L3 L4 ⟨by omega, Nat.le_refl _, Nat.le_refl _, Nat.le_refl _, by omega⟩ ⟨by omega, by omega, by omega, by omega, by omega⟩ (by omega) hr).mono ?_
  rintro e w' ⟨rfl, T, bT, hT⟩
  have hTs : ∀ i, T i → w.heap.size ≤ i := fun i hi => by have := hT i hi; omega
  have bwt := bT.below hTs (by omega)
  refine ⟨rfl, dW.but bT (fun i h1 h2 => by have := hT i h2; have := hS i h1; omega), cW.but bT (fun i h1 h2 => by have := hT i h2; have := hS2 i h1; omega), ?_, bwW.trans bwt⟩
  exact hA.on (bwW.trans bwt)
end
set_option maxRecDepth 10000 in
set_option maxHeartbeats 1000000 in
theorem DiskSpares_any (A : Option Addr) (len c n : Nat) (l : List UInt8) (w : World) (hA : IsBB w w.heap.size A n c l) (hn : n = min len 3000) (hlc : len ≤ c) :
    Calls Try.prog 7 #[.slice A len c] w fun r w' => r = .returned (.bool true) ∧ Below w.heap.size w w' := by
  have em : (if (3000 : Int) < (len : Int) then (3000 : Int) else (len : Int)) = (n : Int) := by rw [hn]; split <;> omega
  have hcut := slice_cut A len c n (by omega)
  have hn3 : n ≤ 3000 := by omega
  have hn0 : (0 : Int) ≤ (n : Int) := by omega
  have hll := hA.len
  have HA := hid hA
  have Hll := hid hll
  have Hn3 := hid hn3
  have kc := fun (w : World) (C : Array Value) (n c : Nat) => Lib.run_convert_bytes_const (P := Try.prog) w 27 5 C n c Try.isSl27 Try.isU8
  clear hn hA hll
  go_enter Try.func7, Try.ntmps7
  go_upto_region 9 with (first
    | (go_at_call 37; refine (CopyBytes_any A l n c w HA.out).mono ?_; rintro r W1 ⟨v, rfl, o0, b1⟩; obtain ⟨A0, c0, rfl⟩ := own_sl o0; have O0 := hid o0; have B1 := hid b1; have HL := hid (Load_any 5000 A0 n c0 l W1 (own_isB2 o0 (by omega)) (by omega) (by omega)); clear o0 b1)
    | (go_at_call 14; refine HL.out.mono ?_; rintro r W2 ⟨g, S, F, rfl, hd, b2⟩; have D2 := hid hd; have B2 := hid b2; have HC := hid (Copy_any hd); clear hd b2 HL)
    | (go_at_call 31; refine HC.out.mono ?_; rintro r W3 ⟨g2, S2, F2, L2, rfl, hc, b3⟩; have C3 := hid hc; have B3 := hid b3; have hr := ReadAt_any (D2.out.below b3) 0 n (by show 0 + n ≤ l.length; rw [Hll.out]; omega) (by rw [spr_op]); rw [show ((0:Nat):Int) = 0 from rfl] at hr; have HR := hid hr; clear hc b3 HC hr)
    | (go_at_call 15; (with_reducible refine HR.out.mono ?_); rintro r W4 ⟨A1, c1, rfl, h4, but4, o1⟩; rw [spr_op] at h4; have O1 : Hid (W4.ownsRow W3.heap.size 5 1 (.slice A1 n c1) n (l.map bv)) := (by have e : ((Dk.load 5000 l).now.drop 0).take n = l := (by show (l.drop 0).take n = l; rw [List.drop_zero, List.take_of_length_le (by rw [Hll.out]; omega)]); rw [e] at o1; exact o1); have U4 := hid but4; have hr := ReadAt_any h4 0 n (by show 0 + n ≤ l.length; rw [Hll.out]; omega) (by rw [spr_op]); rw [show ((0:Nat):Int) = 0 from rfl] at hr; have HR2 := hid hr; clear h4 but4 o1 HR hr)
    | (go_at_call 15; refine HR2.out.mono ?_; rintro r W5 ⟨A2, c2, rfl, h5, but5, o2⟩; rw [spr_op] at h5; have O2 : Hid (W5.ownsRow W4.heap.size 5 1 (.slice A2 n c2) n (l.map bv)) := (by have e : ((Dk.load 5000 l).now.drop 0).take n = l := (by show (l.drop 0).take n = l; rw [List.drop_zero, List.take_of_length_le (by rw [Hll.out]; omega)]); rw [e] at o2; exact o2); have U5 := hid but5; have D5 := hid h5; clear h5 but5 o2 HR2))
  have hc5 : DkAt W2.heap.size S2 W5 g2 F2 L2 (Dk.load 5000 l) 0 := C3.out.but (U4.out.trans U5.out (fun i hi => .inl hi)) (fun i h1 h2 => by have := (D2.out.lt i h2).2; have := (C3.out.lt i h1).1; omega)
  have C5 := hid hc5
  clear hc5
  go_upto_region 10 with (first
    | (go_at_call 35; (with_reducible refine (Image_any D5.out).mono ?_); rintro r W6 ⟨v, rfl, o3, b6⟩; rw [show (Dk.load 5000 l).now = l from rfl, Hll.out] at o3; obtain ⟨A3, c3, rfl⟩ := own_sl o3; have O3 := hid o3; have B6 := hid b6; have C6 := hid (C5.out.below b6); clear o3 b6)
    | (go_at_call 35; (with_reducible refine (Image_any C6.out).mono ?_); rintro r W7 ⟨v, rfl, o4, b7⟩; rw [show (Dk.load 5000 l).now = l from rfl, Hll.out] at o4; obtain ⟨A4, c4, rfl⟩ := own_sl o4; have O4 := hid o4; have B7 := hid b7; clear o4 b7; have hbw := spr_bw B1.out B2.out D2.out B3.out U4.out U5.out B6.out B7.out; have HX := hid (SameBytes_bel A1 A l n c1 c W7 (own_isB2 (spr_x D2.out B3.out O1.out U5.out B6.out B7.out) (by have := Hn3.out; omega)).toIsB (HA.out.on hbw).toIsB); have BW7 := hid hbw; clear hbw))
  go_upto_region 12 with (first
    | (go_at_call 32; (with_reducible refine HX.out.mono ?_); rintro r W8 ⟨rfl, b8⟩; have HY := hid (SameBytes_bel A4 A l n c4 c W8 (own_isB2 (own_below O4.out b8) (by have := Hn3.out; omega)).toIsB (HA.out.on (BW7.out.trans (b8.mono BW7.out.size))).toIsB); have B8 := hid b8; clear b8 HX)
    | (go_at_call 32; (with_reducible refine HY.out.mono ?_); rintro r W9 ⟨rfl, b9⟩; have HZ := hid (spr_final HA.out Hn3.out B1.out O0.out B2.out D2.out B3.out C3.out U4.out O1.out U5.out D5.out O2.out B6.out O3.out B7.out O4.out B8.out b9); clear b9 HY)
    | (go_at_call 38; (with_reducible refine HZ.out.mono ?_); rintro r W10 ⟨rfl, d10, c10, a10, bw10⟩; have D10 := hid d10; have C10 := hid c10; have A10 := hid a10; have BW10 := hid bw10; clear d10 c10 a10 bw10 HZ))
  have hl3 : l.length ≤ 3000 := by rw [Hll.out]; exact Hn3.out
  have hdisj : ∀ i, S i → S2 i → False := fun i h1 h2 => by have := (D2.out.lt i h1).2; have := (C3.out.lt i h2).1; omega
  have hwB : w.heap.size ≤ W2.heap.size := by have := B1.out.size; have := B2.out.size; omega
  have HL3 := hid hl3
  have HDJ := hid hdisj
  have HWB := hid hwB
  clear hl3 hdisj hwB
  go_wp2_with (first
    | (go_at_call 35; (with_reducible refine (Image_any D10.out).mono ?_); rintro r W11 ⟨v, rfl, o11, b11⟩; rw [show (Dk.load 5000 l).now = l from rfl, Hll.out] at o11; obtain ⟨A5, c5, rfl⟩ := own_sl o11; have HQ := hid (SameBytes_bel A5 A l n c5 c W11 (own_isB2 o11 (by have := Hn3.out; omega)).toIsB (A10.out.on b11).toIsB); have B11 := hid b11; clear o11 b11)
    | (go_at_call 32; (with_reducible refine HQ.out.mono ?_); rintro r W12 ⟨rfl, b12⟩; have hb := bel_trans B11.out b12; have HAP := hid (spr_app_c (W := W12) HWB.out (by have := hb.size; have := C10.out; have := (C10.out.lt _ C10.out.sg); omega) (C10.out.below hb) (D10.out.below hb) HDJ.out HL3.out (bel_trans BW10.out hb)); clear hb b12 HQ)
    | (go_at_call 10; (with_reducible refine HAP.out.mono ?_); rintro r W13 ⟨rfl, d13, b13⟩; have hz := Size_any d13; rw [show (Dk.load 5000 l).now.length = n from Hll.out] at hz; have HS := hid hz; have B13 := hid b13; clear d13 b13 hz HAP)
    | (go_at_call 34; (with_reducible refine HS.out.mono ?_); rintro r w' ⟨rfl, rfl⟩)
    | (go_at_call 21; refine (awake_any _).mono ?_; rintro r W50 ⟨rfl, b50⟩; have B50 := hid (bel_trans B13.out b50)))
  go_ret
  exact ⟨rfl, B50.out⟩
end Go.Proofs.Ytgccjclloomfgaa
