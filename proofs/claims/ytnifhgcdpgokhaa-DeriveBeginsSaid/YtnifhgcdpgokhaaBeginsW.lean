/-
  The walk of DeriveBegins.
-/
import Derived.Test.YtnifhgcdpgokhaaBoth
import Derived.Test.YtnifhgcdpgokhaaAwake
import Derived.Test.YtnifhgcdpgokhaaZeros
import Derived.Test.YtnifhgcdpgokhaaPick
import Derived.Test.YtnifhgcdpgokhaaEq
namespace Go.Proofs.Ytnifhgcdpgokhaa
open Go.RowKit

theorem cut_min200 (n : Nat) (q : Nat) (hq : q = min n 200) : (if (200 : Int) < (n : Int) then (200 : Int) else (n : Int)) = (q : Int) := by split <;> omega
theorem pbk_same {k l s : List UInt8} {r N : Nat} (h : keyL k = keyL l) : pbk k s r N = pbk l s r N := by unfold pbk; rw [h]
theorem hmac_same {k l b : List UInt8} (h : keyL k = keyL l) : hmac k b = hmac l b := by unfold hmac; rw [h]

theorem Pbk_eq (A B : Option Addr) (l s : List UInt8) (n c m d r N : Nat) (x : Int) (hx : x = (r : Nat)) (w : World) (h : IsBB w w.heap.size A n c l) (hb : IsBB w w.heap.size B m d s) (hr : 1 ≤ r) (hr2 : r ≤ 1000) (hN : N ≤ 1024) :
    Calls Try.prog 6 #[.slice A n c, .slice B m d, .int .i64 x, .int .i64 (N : Nat)] w fun e w' => ∃ g, e = .returned (.tuple #[.slice (some ⟨g, 0, none⟩) N N, .int .i64 0]) ∧ New w w' g N N (pbk l s r N) := by
  subst hx; exact Pbkdf2_yes A B l s n c m d r N w h hb hr hr2 hN
theorem min_nought (n1 q k : Nat) (hn : n1 ≤ 64) (hk : k = min q (64 - n1)) : (if 64 - (n1 : Int) < (q : Int) then 64 - (n1 : Int) else (q : Int)) = (k : Int) := by split <;> omega

set_option maxRecDepth 10000 in
set_option maxHeartbeats 4000000 in
theorem begins_walk (A B : Option Addr) (l b : List UInt8) (n c m d n1 m1 q : Nat) (x3 x4 x5 : Int) (w : World) (hn1 : n1 = min n 200) (hm1 : m1 = min m 200) (h : IsBB w w.heap.size A n1 c l) (hb : IsBB w w.heap.size B m1 d b)
    (hnc : n ≤ c) (hmd : m ≤ d) (hc : c ≤ maxLen) (hd : d ≤ maxLen) (hq : q ≤ 255) :
    Calls Try.prog 5 #[.slice A n c, .slice B m d, .int .i64 x3, .int .i64 x4, .int .i64 x5, .int .u8 (q : Nat)] w fun e w' => e = .returned (.bool true) ∧ Below w.heap.size w w' := by
  have H := hid h
  have HB := hid hb
  have hmin1 := cut_min200 n n1 hn1
  have hmin2 := cut_min200 m m1 hm1
  have hs1 := fun w => cut_slice A n c n1 (by omega) hnc w
  have hs2 := fun w => cut_slice B m d m1 (by omega) hmd w
  unfold maxLen at hc hd
  have hnz : (n : Int) ≤ 9223372036854775807 := by omega
  have hmz : (m : Int) ≤ 9223372036854775807 := by omega
  have Hn := hid (And.intro hn1 (And.intro hm1 hq))
  have hn1z : (n1 : Int) ≤ 200 := by omega
  have hqz : (q : Int) ≤ 255 := by omega
  clear h hb hn1 hm1 hnc hmd hc hd hq
  go_enter Try.func5, Try.ntmps5
  go_wp2_with fail
  go_quiet (fail)
  go_wp2_with fail
  have b0 := below_drewN (Below.refl w.heap.size w) nq
  generalize w.drewN nq = w1 at b0 ⊢
  have H1 := hid (H.out.on b0)
  have J1 := hid (HB.out.on b0)
  have Q1 := hid b0
  clear b0 hmin1 hmin2 hs1 hs2
  refine (Pick_any x3 4 _ (by omega) (by omega)).mono ?_
  rintro e w2 ⟨p1, rfl, hp1, rfl⟩
  obtain ⟨r, hr⟩ : ∃ r : Nat, r = 1 + p1 := ⟨_, rfl⟩
  have Hr : Hid (1 + (p1 : Int) = (r : Nat) ∧ 1 ≤ r ∧ r ≤ 1000) := by show _ ∧ _; omega
  clear hr
  go_wp2_with fail
  refine (Pick_any x5 201 _ (by omega) (by omega)).mono ?_
  rintro e w3 ⟨L, rfl, hL, rfl⟩
  have hL' : (L : Int) ≤ 200 := by omega
  clear hL
  go_wp2_with fail
  refine (Pick_any x4 ((L : Int) + 1) _ (by omega) (by omega)).mono ?_
  rintro e w4 ⟨S, rfl, hS, rfl⟩
  have hSz : (S : Int) ≤ L := by omega
  clear hS
  go_wp2_with fail
  refine (Pbk_eq _ _ l b _ _ _ _ r S _ Hr.out.1 _ H1.out J1.out Hr.out.2.1 Hr.out.2.2 (by omega)).mono ?_
  rintro e w5 ⟨ga, rfl, hN⟩
  have H5 := hid (H1.out.on hN.bel)
  have J5 := hid (J1.out.on hN.bel)
  have Q5 := hid (Q1.out.trans (hN.bel.mono Q1.out.size))
  have A5 := hid hN.isBB
  clear hN H1 J1 Q1
  go_wp2_with fail
  refine (Pbk_eq _ _ l b _ _ _ _ r L _ Hr.out.1 _ H5.out J5.out Hr.out.2.1 Hr.out.2.2 (by omega)).mono ?_
  rintro e w6 ⟨gb, rfl, hN⟩
  have H6 := hid (H5.out.on hN.bel)
  have J6 := hid (J5.out.on hN.bel)
  have Q6 := hid (Q5.out.trans (hN.bel.mono Q5.out.size))
  have A6 := hid (A5.out.on hN.bel)
  have B6 := hid hN.isBB
  have hSL : S ≤ L := by omega
  have F6 : Hid (IsB w6 (some ⟨gb, 0, none⟩) S L (pbk l b r S)) := by
    have e := hN.isB.front hSL
    rw [pbk_take l b r L S hSL] at e
    exact e
  have hcut := fun w => cut_slice (some ⟨gb, 0, none⟩) L L S hSL (Nat.le_refl _) w
  clear hN H5 J5 Q5 A5 hSL
  go_wp2_with fail
  refine (SameBytes_true _ _ _ _ _ _ _ A6.out.toIsB F6.out).mono ?_
  rintro e w7 ⟨rfl, k7, rfl⟩
  have b7 := below_drewN (Below.refl w6.heap.size w6) k7
  generalize w6.drewN k7 = w7 at b7 ⊢
  have H7 := hid (H6.out.on b7)
  have J7 := hid (J6.out.on b7)
  have Q7 := hid (Q6.out.trans (b7.mono Q6.out.size))
  have B7 := hid (B6.out.on b7)
  clear b7 hcut F6 A6 H6 J6 Q6 B6
  go_wp2_with fail
  refine (CopyBytes_any _ l _ _ _ H7.out).mono ?_
  rintro e w8 ⟨v8, rfl, hO8, hb8⟩
  have H8 := hid (H7.out.on hb8)
  have J8 := hid (J7.out.on hb8)
  have Q8 := hid (Q7.out.trans (hb8.mono Q7.out.size))
  have B8 := hid (B7.out.on hb8)
  have O8 := hid hO8
  obtain ⟨A8, c8, rfl, I8⟩ := own_isBB hO8 (by omega)
  have I8 := hid I8
  have b8 := hid hb8
  have Hll := hid H8.out.len
  clear hO8 hb8
  have ez := eq_same (hmac l b) (hmacK_len _ _)
  rcases Nat.lt_or_ge 64 n1 with hlong | hlong
  case' inl =>
    have hz : (64 : Int) < n1 := by omega
    go_wp2_with fail
    refine (Of_any _ l _ _ _ I8.out).mono ?_
    rintro e w9 ⟨rfl, hb9⟩
    have HY := hid (sha_len l)
    have HKe : Hid (keyL (sha l) = keyL l) := keyL_hash l (by rw [Hll.out]; omega)
    obtain ⟨K', hK'⟩ : ∃ K', K' = sha l := ⟨_, rfl⟩
    rw [← hK'] at HY HKe
    rw [← hK']
    have r2 : ((w9.alloc (.cells z32 30)).setRow w9.heap.size (K'.map bv).toArray).heap[w9.heap.size]? = some (.cells (K'.map bv).toArray 30 (0, 0)) := setRow_heap _ _ _ _ _ _ (heap_alloc_new w9 _)
    have q2 : Below w8.heap.size w8 ((w9.alloc (.cells z32 30)).setRow w9.heap.size (K'.map bv).toArray) := below_setRow (hb9.alloc hb9.size _) hb9.size _
    have H9 := hid (H8.out.on q2)
    have J9 := hid (J8.out.on q2)
    have Q9 := hid (Q8.out.trans (q2.mono Q8.out.size))
    have B9 := hid (B8.out.on q2)
    have R9 := hid r2
    clear hb9 q2 r2 hK' I8 O8 b8 H8 J8 Q8 B8 H7 J7 Q7 B7
    go_upto_region 13 with (refine wpList_store_row (o := ⟨none, .store 30 (.tmp 18) (.tmp 96), _, _, _, _⟩) rfl 30 (.tmp 18) (.tmp 96) rfl w9.heap.size (K'.map bv).toArray rfl rfl 30 z32 (heap_alloc_new w9 _) (size32 _ (map_len32 HY.out)) (z32_size _ (map_len32 HY.out)) (bv_all _) ?_)
    change Code.wp _ _ _ _ ((w9.alloc (.cells z32 30)).setRow w9.heap.size (K'.map bv).toArray)
    generalize ((w9.alloc (.cells z32 30)).setRow w9.heap.size (K'.map bv).toArray) = w10 at H9 J9 Q9 B9 R9 ⊢
    generalize w9.heap.size = g9 at R9 ⊢
    have hI := arr_isBB R9.out (by rw [HY.out]; omega)
    rw [HY.out] at hI
    have HI := hid hI
    clear hI
    go_wp2_with fail
    refine (CopyBytes_any _ K' _ _ _ HI.out).mono ?_
    rintro e w11 ⟨v11, rfl, hO11, hb11⟩
    obtain ⟨Ak, ck, rfl, Ik⟩ := own_isBB hO11 (by omega)
    have K9 := hid Ik
    have H9 := hid (H9.out.on hb11)
    have J9 := hid (J9.out.on hb11)
    have Q9 := hid (Q9.out.trans (hb11.mono Q9.out.size))
    have B9 := hid (B9.out.on hb11)
    clear hO11 hb11 Ik HI R9 HY hz hlong
  case' inr =>
    have hz : (n1 : Int) ≤ 64 := by omega
    obtain ⟨k, hk⟩ : ∃ k, k = min q (64 - n1) := ⟨_, rfl⟩
    have hmin := min_nought n1 q k hlong hk
    have HKe : Hid (keyL (l ++ List.replicate k 0) = keyL l) := keyL_noughts l k (by rw [Hll.out]; omega)
    have Hk := hid hk
    clear hk
    go_upto_region 14 with (at_builtin; refine wpList_append_zeros rfl (.tmp 87) (.tmp 93) rfl w7.heap.size w7 (.slice A8 n1 c8) n1 l rfl O8.out k rfl (by have := Hk.out; have := Hn.out; omega) (by omega) b8.out (Nat.le_refl _) ?_; intro v9 w11 HO9 HB9)
    obtain ⟨Ak, ck, rfl, Ik⟩ := own_isBB HO9.out (by have := Hk.out; have := Hn.out; omega)
    have K9 := hid Ik
    have H9 := hid (H7.out.on HB9.out)
    have J9 := hid (J7.out.on HB9.out)
    have Q9 := hid (Q7.out.trans (HB9.out.mono Q7.out.size))
    have B9 := hid (B7.out.on HB9.out)
    obtain ⟨K', hK'⟩ : ∃ K', K' = l ++ List.replicate k 0 := ⟨_, rfl⟩
    rw [← hK'] at K9 HKe
    clear HO9 HB9 Ik hmin hz hlong I8 O8 b8 H8 J8 Q8 B8 H7 J7 Q7 B7 hK'
  all_goals
    go_wp2_with fail
    refine (Pbk_eq _ _ K' b _ _ _ _ r L _ Hr.out.1 _ K9.out J9.out Hr.out.2.1 Hr.out.2.2 (by omega)).mono ?_
    rintro e w12 ⟨gc, rfl, hN⟩
    have H12 := hid (H9.out.on hN.bel)
    have J12 := hid (J9.out.on hN.bel)
    have K12 := hid (K9.out.on hN.bel)
    have Q12 := hid (Q9.out.trans (hN.bel.mono Q9.out.size))
    have B12 := hid (B9.out.on hN.bel)
    have C12 := hid hN.isBB
    rw [pbk_same HKe.out] at C12
    clear hN H9 J9 K9 Q9 B9
    go_wp2_with fail
    refine (SameBytes_true _ _ _ _ _ _ _ B12.out.toIsB C12.out.toIsB).mono ?_
    rintro e w13 ⟨rfl, k13, rfl⟩
    have b13 := below_drewN (Below.refl w12.heap.size w12) k13
    generalize w12.drewN k13 = w13 at b13 ⊢
    have H13 := hid (H12.out.on b13)
    have J13 := hid (J12.out.on b13)
    have K13 := hid (K12.out.on b13)
    have Q13 := hid (Q12.out.trans (b13.mono Q12.out.size))
    clear b13 H12 J12 K12 Q12 B12 C12
    go_wp2_with fail
    refine (Hmac_any _ _ l b _ _ _ _ _ H13.out J13.out).mono ?_
    rintro e w14 ⟨rfl, hb14⟩
    have J14 := hid (J13.out.on hb14)
    have K14 := hid (K13.out.on hb14)
    have Q14 := hid (Q13.out.trans (hb14.mono Q13.out.size))
    clear hb14 H13 J13 K13 Q13
    go_wp2_with fail
    refine (Hmac_any _ _ K' b _ _ _ _ _ K14.out J14.out).mono ?_
    rintro e w15 ⟨rfl, hb15⟩
    rw [hmac_same HKe.out]
    have Q15 := hid (Q14.out.trans (hb15.mono Q14.out.size))
    clear hb15 J14 K14 Q14
    go_wp2_with fail
    refine (awake_any _).mono ?_
    rintro e w16 ⟨rfl, hb16⟩
    have Q16 := hid (Q15.out.trans (hb16.mono Q15.out.size))
    clear hb16 Q15
    go_wp2_with fail
    go_ret
    exact ⟨rfl, Q16.out⟩
end Go.Proofs.Ytnifhgcdpgokhaa
