/-
  The walk of the law AesTells.
-/
import Derived.Test.YtgflkoabjibipaaRefE
import Derived.Test.YtgflkoabjibipaaAwake
import Derived.Test.YtgflkoabjibipaaBad
namespace Go.Proofs.Ytgflkoabjibipaa
open Go.RowKit

theorem isBB_zero (w : World) (B : Nat) : IsBB w B none 0 0 [] := isBB_nil w B
set_option maxRecDepth 10000 in
set_option maxHeartbeats 4000000 in
theorem tells_big (A B : Option Addr) (n c m d x y : Nat) (hb : 100 < n ∨ 100 < m) (w : World) :
    Calls Try.prog 4 #[.slice A n c, .slice B m d, .int .u8 x, .int .u8 y] w fun e w' => e = .returned (.bool true) ∧ Below w.heap.size w w' := by
  by_cases h1 : 100 < n
  · have hz : (100 : Int) < (n : Int) := by omega
    go_enter Try.func4, Try.ntmps4
    go_wp2_with (go_at_call 15; refine (awake_any _).mono ?_; rintro e w' ⟨rfl, hb11⟩)
    go_ret
    exact ⟨rfl, hb11⟩
  · have hz : ¬ (100 : Int) < (n : Int) := by omega
    have hz2 : (100 : Int) < (m : Int) := by omega
    go_enter Try.func4, Try.ntmps4
    go_wp2_with (go_at_call 15; refine (awake_any _).mono ?_; rintro e w' ⟨rfl, hb11⟩)
    go_ret
    exact ⟨rfl, hb11⟩
set_option maxRecDepth 10000 in
set_option maxHeartbeats 4000000 in
theorem tells_other (A B : Option Addr) (k l : List UInt8) (n c m d x y : Nat) (hn : n ≤ 100) (hm : m ≤ 100) (hx : x < 256) (hy : y < 256) (h32 : n ≠ 32) (w : World) (hk : IsBB w w.heap.size A n c k) (hb : IsBB w w.heap.size B m d l) :
    Calls Try.prog 4 #[.slice A n c, .slice B m d, .int .u8 x, .int .u8 y] w fun e w' => e = .returned (.bool true) ∧ Below w.heap.size w w' := by
  have H := hid hk
  have J := hid hb
  clear hk hb
  have T1 := hid (fun w => times_any x y hx hy w)
  have T2 := hid (fun w => RefTimes_any x y hx hy w)
  have T3 := hid (fun w => sub_any x hx w)
  have T4 := hid (fun w => RefSub_any x hx w)
  generalize gf x y = p at T1 T2
  generalize subN x = s at T3 T4
  have z1 : ¬ (100 : Int) < (n : Int) := by omega
  have z2 : ¬ (100 : Int) < (m : Int) := by omega
  have z3 : ((n : Int) == 32) = false := by rw [beq_eq_false_iff_ne]; omega
  go_enter Try.func4, Try.ntmps4
  go_upto_region 4 with (first
    | (go_at_call 16; refine (LentBytes_any A k n c w H.out (by omega)).mono ?_; rintro e w2 ⟨gx, cx, rfl, hN⟩; have X2 := hid (hN.front H.out.len); have XK2 := hid hN.isBB; have H2 := hid (H.out.on hN.bel); have J2 := hid (J.out.on hN.bel); have Q2 := hid hN.bel; clear hN H J)
    | (go_at_call 16; refine (LentBytes_any B l m d w2 J2.out (by omega)).mono ?_; rintro e w3 ⟨gy, cy, rfl, hN⟩; have Y3 := hid (hN.front J2.out.len); have YK3 := hid hN.isBB; have X3 := hid (X2.out.on hN.bel); have XK3 := hid (XK2.out.on hN.bel); have H3 := hid (H2.out.on hN.bel); have J3 := hid (J2.out.on hN.bel); have Q3 := hid (bel_trans Q2.out hN.bel); clear hN X2 XK2 H2 J2 Q2))
  go_wp2_with (first
      | (go_at_call 7; refine (New_bad (some ⟨gx, 0, none⟩) n cx _ h32).mono ?_; rintro e w' ⟨rfl, rfl⟩)
      | (go_at_call 17; with_reducible refine (T1.out _).mono ?_; rintro e w' ⟨rfl, rfl⟩)
      | (go_at_call 18; with_reducible refine (T2.out _).mono ?_; rintro e w' ⟨rfl, rfl⟩)
      | (go_at_call 12; with_reducible refine (T3.out _).mono ?_; rintro e w' ⟨rfl, m1, rfl⟩)
      | (go_at_call 19; with_reducible refine (T4.out _).mono ?_; rintro e w' ⟨rfl, rfl⟩)
      | (go_at_call 15; refine (awake_any _).mono ?_; rintro e w' ⟨rfl, hb11⟩))
  go_ret
  exact ⟨rfl, bel_trans (below_drewN Q3.out _) hb11⟩
set_option maxRecDepth 10000 in
set_option maxHeartbeats 4000000 in
theorem tells_bad (A B : Option Addr) (k l : List UInt8) (c m d x y : Nat) (hm : m ≤ 100) (h16 : m ≠ 16) (hx : x < 256) (hy : y < 256) (w : World) (hk : IsBB w w.heap.size A 32 c k) (hb : IsBB w w.heap.size B m d l) :
    Calls Try.prog 4 #[.slice A 32 c, .slice B m d, .int .u8 x, .int .u8 y] w fun e w' => e = .returned (.bool true) ∧ Below w.heap.size w w' := by
  have H := hid hk
  have J := hid hb
  clear hk hb
  have T1 := hid (fun w => times_any x y hx hy w)
  have T2 := hid (fun w => RefTimes_any x y hx hy w)
  have T3 := hid (fun w => sub_any x hx w)
  have T4 := hid (fun w => RefSub_any x hx w)
  generalize gf x y = p at T1 T2
  generalize subN x = s at T3 T4
  have z2 : ¬ (100 : Int) < (m : Int) := by omega
  go_enter Try.func4, Try.ntmps4
  go_upto_region 4 with (first
    | (go_at_call 16; refine (LentBytes_any A k 32 c w H.out (by omega)).mono ?_; rintro e w2 ⟨gx, cx, rfl, hN⟩; have X2 := hid (hN.front H.out.len); have XK2 := hid hN.isBB; have H2 := hid (H.out.on hN.bel); have J2 := hid (J.out.on hN.bel); have Q2 := hid hN.bel; clear hN H J)
    | (go_at_call 16; refine (LentBytes_any B l m d w2 J2.out (by omega)).mono ?_; rintro e w3 ⟨gy, cy, rfl, hN⟩; have Y3 := hid (hN.front J2.out.len); have YK3 := hid hN.isBB; have X3 := hid (X2.out.on hN.bel); have XK3 := hid (XK2.out.on hN.bel); have H3 := hid (H2.out.on hN.bel); have J3 := hid (J2.out.on hN.bel); have Q3 := hid (bel_trans Q2.out hN.bel); clear hN X2 XK2 H2 J2 Q2))
  have hkk : ∀ j, j < 32 → fnOf k j < 256 := fun j _ => fnOf_lt k j
  go_upto_region 7 with (go_at_call 7; refine (New_any (some ⟨gx, 0, none⟩) cx k _ X3.out).mono ?_; rintro e w4 ⟨gc, rfl, hC4, hB4, _⟩; have C4 := hid hC4; have Y4 := hid (Y3.out.on hB4); have YK4 := hid (YK3.out.on hB4); have XK4 := hid (XK3.out.on hB4); have H4 := hid (H3.out.on hB4); have J4 := hid (J3.out.on hB4); have Q4 := hid (bel_trans Q3.out hB4); clear hC4 hB4 X3 Y3 YK3 XK3 H3 J3 Q3)
  go_upto_region 11 with (first
      | (go_at_call 17; with_reducible refine (T1.out _).mono ?_; rintro e w' ⟨rfl, rfl⟩)
      | (go_at_call 18; with_reducible refine (T2.out _).mono ?_; rintro e w' ⟨rfl, rfl⟩)
      | (go_at_call 12; with_reducible refine (T3.out _).mono ?_; rintro e w' ⟨rfl, m1, rfl⟩)
      | (go_at_call 19; with_reducible refine (T4.out _).mono ?_; rintro e w' ⟨rfl, rfl⟩))
  have hx5 : Below w4.heap.size w4 (w4.drewN m1) := below_drewN (Below.refl _ w4) m1
  have C5 := hid (C4.out.onB hx5 C4.out.lt)
  have Y5 := hid (Y4.out.on hx5)
  have YK5 := hid (YK4.out.on hx5)
  have XK5 := hid (XK4.out.on hx5)
  have H5 := hid (H4.out.on hx5)
  have J5 := hid (J4.out.on hx5)
  have Q5 := hid (bel_trans Q4.out hx5)
  clear hx5 C4 Y4 YK4 XK4 H4 J4 Q4 T1 T2 T3 T4
  generalize w4.drewN m1 = w5 at C5 Y5 YK5 XK5 H5 J5 Q5 ⊢
  go_upto_region 12 with (go_at_call 9; refine (encrypt_bad gc _ (some ⟨gy, 0, none⟩) m cy h16 _ C5.out).mono ?_; rintro e w' ⟨rfl, rfl⟩)
  go_upto_region 13 with (go_at_call 20; refine (RefEncrypt_bad A B 32 c m d (by omega) _).mono ?_; rintro e w' ⟨rfl, rfl⟩; have YK7 := YK5; have XK7 := XK5; have H7 := H5; have J7 := J5; have Q7 := Q5; clear C5 Y5 YK5 XK5 H5 J5 Q5; generalize w5 = w7 at YK7 XK7 H7 J7 Q7 ⊢)
  go_wp2_with (first
    | (go_at_call 21; refine (SameBytes_true none none [] 0 0 0 w7 (isBB_zero w7 0).toIsB (isBB_zero w7 0).toIsB).mono ?_; rintro e w' ⟨rfl, k8, rfl⟩; have b8 : Below w7.heap.size w7 (w7.drewN k8) := below_drewN (Below.refl _ w7) k8; have YK8 := hid (YK7.out.on b8); have XK8 := hid (XK7.out.on b8); have H8 := hid (H7.out.on b8); have J8 := hid (J7.out.on b8); have Q8 := hid (bel_trans Q7.out b8); clear b8 YK7 XK7 H7 J7 Q7; generalize w7.drewN k8 = w8 at YK8 XK8 H8 J8 Q8 ⊢)
    | (go_at_call 22; refine (KeptBytes_true A k gx 32 cx c _ H8.out XK8.out).mono ?_; rintro e w9 ⟨rfl, hb9⟩; have YK9 := hid (YK8.out.on hb9); have J9 := hid (J8.out.on hb9); have Q9 := hid (bel_trans Q8.out hb9); clear hb9 XK8 YK8 H8 J8 Q8)
    | (go_at_call 22; refine (KeptBytes_true B l gy m cy d _ J9.out YK9.out).mono ?_; rintro e w10 ⟨rfl, hb10⟩; have Q10 := hid (bel_trans Q9.out hb10); clear hb10 J9 YK9 Q9)
    | (go_at_call 15; refine (awake_any _).mono ?_; rintro e w11 ⟨rfl, hb11⟩))
  go_ret
  exact ⟨rfl, bel_trans Q10.out hb11⟩
set_option maxRecDepth 10000 in
set_option maxHeartbeats 4000000 in
theorem tells_good (A B : Option Addr) (k l : List UInt8) (c d x y : Nat) (hx : x < 256) (hy : y < 256) (w : World) (hk : IsBB w w.heap.size A 32 c k) (hb : IsBB w w.heap.size B 16 d l) :
    Calls Try.prog 4 #[.slice A 32 c, .slice B 16 d, .int .u8 x, .int .u8 y] w fun e w' => e = .returned (.bool true) ∧ Below w.heap.size w w' := by
  have H := hid hk
  have J := hid hb
  clear hk hb
  have T1 := hid (fun w => times_any x y hx hy w)
  have T2 := hid (fun w => RefTimes_any x y hx hy w)
  have T3 := hid (fun w => sub_any x hx w)
  have T4 := hid (fun w => RefSub_any x hx w)
  generalize gf x y = p at T1 T2
  generalize subN x = s at T3 T4
  go_enter Try.func4, Try.ntmps4
  go_upto_region 4 with (first
    | (go_at_call 16; refine (LentBytes_any A k 32 c w H.out (by omega)).mono ?_; rintro e w2 ⟨gx, cx, rfl, hN⟩; have X2 := hid (hN.front H.out.len); have XK2 := hid hN.isBB; have H2 := hid (H.out.on hN.bel); have J2 := hid (J.out.on hN.bel); have Q2 := hid hN.bel; clear hN H J)
    | (go_at_call 16; refine (LentBytes_any B l 16 d w2 J2.out (by omega)).mono ?_; rintro e w3 ⟨gy, cy, rfl, hN⟩; have Y3 := hid (hN.front J2.out.len); have YK3 := hid hN.isBB; have X3 := hid (X2.out.on hN.bel); have XK3 := hid (XK2.out.on hN.bel); have H3 := hid (H2.out.on hN.bel); have J3 := hid (J2.out.on hN.bel); have Q3 := hid (bel_trans Q2.out hN.bel); clear hN X2 XK2 H2 J2 Q2))
  have hkk : ∀ j, j < 32 → fnOf k j < 256 := fun j _ => fnOf_lt k j
  go_upto_region 7 with (go_at_call 7; refine (New_any (some ⟨gx, 0, none⟩) cx k _ X3.out).mono ?_; rintro e w4 ⟨gc, rfl, hC4, hB4, _⟩; have C4 := hid hC4; have Y4 := hid (Y3.out.on hB4); have YK4 := hid (YK3.out.on hB4); have XK4 := hid (XK3.out.on hB4); have H4 := hid (H3.out.on hB4); have J4 := hid (J3.out.on hB4); have Q4 := hid (bel_trans Q3.out hB4); clear hC4 hB4 X3 Y3 YK3 XK3 H3 J3 Q3)
  go_upto_region 11 with (first
      | (go_at_call 17; with_reducible refine (T1.out _).mono ?_; rintro e w' ⟨rfl, rfl⟩)
      | (go_at_call 18; with_reducible refine (T2.out _).mono ?_; rintro e w' ⟨rfl, rfl⟩)
      | (go_at_call 12; with_reducible refine (T3.out _).mono ?_; rintro e w' ⟨rfl, m1, rfl⟩)
      | (go_at_call 19; with_reducible refine (T4.out _).mono ?_; rintro e w' ⟨rfl, rfl⟩))
  have hx5 : Below w4.heap.size w4 (w4.drewN m1) := below_drewN (Below.refl _ w4) m1
  have C5 := hid (C4.out.onB hx5 C4.out.lt)
  have Y5 := hid (Y4.out.on hx5)
  have YK5 := hid (YK4.out.on hx5)
  have XK5 := hid (XK4.out.on hx5)
  have H5 := hid (H4.out.on hx5)
  have J5 := hid (J4.out.on hx5)
  have Q5 := hid (bel_trans Q4.out hx5)
  clear hx5 C4 Y4 YK4 XK4 H4 J4 Q4 T1 T2 T3 T4
  generalize w4.drewN m1 = w5 at C5 Y5 YK5 XK5 H5 J5 Q5 ⊢
  go_upto_region 12 with (go_at_call 9; refine (encrypt_any gc _ (some ⟨gy, 0, none⟩) cy l _ C5.out hkk Y5.out).mono ?_; rintro e w6 ⟨g6, rfl, hE6, hB6, _⟩; have E6 := hid hE6; have YK6 := hid (YK5.out.on hB6); have XK6 := hid (XK5.out.on hB6); have H6 := hid (H5.out.on hB6); have J6 := hid (J5.out.on hB6); have Q6 := hid (bel_trans Q5.out hB6); clear hE6 hB6 C5 Y5 YK5 XK5 H5 J5 Q5)
  go_upto_region 13 with (go_at_call 20; refine (RefEncrypt_any A B c d k l _ H6.out J6.out).mono ?_; rintro e w7 ⟨A7, c7, rfl, hE7, hB7⟩; have W7 := hid hE7; have E7 := hid (E6.out.on hB7); have YK7 := hid (YK6.out.on hB7); have XK7 := hid (XK6.out.on hB7); have H7 := hid (H6.out.on hB7); have J7 := hid (J6.out.on hB7); have Q7 := hid (bel_trans Q6.out hB7); clear hE7 hB7 E6 YK6 XK6 H6 J6 Q6)
  go_wp2_with (first
    | (go_at_call 21; refine (SameBytes_true (some ⟨g6, 0, none⟩) A7 (encL (fnOf k) l) 16 16 c7 _ E7.out.toIsB W7.out.toIsB).mono ?_; rintro e w' ⟨rfl, k8, rfl⟩; have b8 : Below w7.heap.size w7 (w7.drewN k8) := below_drewN (Below.refl _ w7) k8; have YK8 := hid (YK7.out.on b8); have XK8 := hid (XK7.out.on b8); have H8 := hid (H7.out.on b8); have J8 := hid (J7.out.on b8); have Q8 := hid (bel_trans Q7.out b8); clear b8 E7 W7 YK7 XK7 H7 J7 Q7; generalize w7.drewN k8 = w8 at YK8 XK8 H8 J8 Q8 ⊢)
    | (go_at_call 22; refine (KeptBytes_true A k gx 32 cx c _ H8.out XK8.out).mono ?_; rintro e w9 ⟨rfl, hb9⟩; have YK9 := hid (YK8.out.on hb9); have J9 := hid (J8.out.on hb9); have Q9 := hid (bel_trans Q8.out hb9); clear hb9 XK8 YK8 H8 J8 Q8)
    | (go_at_call 22; refine (KeptBytes_true B l gy 16 cy d _ J9.out YK9.out).mono ?_; rintro e w10 ⟨rfl, hb10⟩; have Q10 := hid (bel_trans Q9.out hb10); clear hb10 J9 YK9 Q9)
    | (go_at_call 15; refine (awake_any _).mono ?_; rintro e w11 ⟨rfl, hb11⟩))
  go_ret
  exact ⟨rfl, bel_trans Q10.out hb11⟩
end Go.Proofs.Ytgflkoabjibipaa
