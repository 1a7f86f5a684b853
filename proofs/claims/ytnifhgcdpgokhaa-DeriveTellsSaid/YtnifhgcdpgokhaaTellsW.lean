/-
  The walk of DeriveTells.
-/
import Derived.Test.YtnifhgcdpgokhaaBoth
import Derived.Test.YtnifhgcdpgokhaaAwake
import Derived.Test.YtnifhgcdpgokhaaEq
namespace Go.Proofs.Ytnifhgcdpgokhaa
open Go.RowKit

theorem cut_min (n m : Nat) (k : Int) (hk : (k : Int) = (m : Nat)) (q : Nat) (hq : q = min n m) : (if k < (n : Int) then k else (n : Int)) = (q : Int) := by split <;> omega

set_option maxRecDepth 10000 in
set_option maxHeartbeats 4000000 in
theorem tells_walk (A B : Option Addr) (l b : List UInt8) (n c m d n1 m1 : Nat) (r N : Int) (w : World) (hn1 : n1 = min n 300) (hm1 : m1 = min m 600) (h : IsBB w w.heap.size A n1 c l) (hb : IsBB w w.heap.size B m1 d b)
    (hnc : n ≤ c) (hmd : m ≤ d) (hc : c ≤ maxLen) (hd : d ≤ maxLen) (hr : -9223372036854775808 ≤ r) (hr2 : r ≤ 9223372036854775807) :
    Calls Try.prog 4 #[.slice A n c, .slice B m d, .int .i64 r, .int .i64 N] w fun e w' => e = .returned (.bool true) ∧ Below w.heap.size w w' := by
  have H := hid h
  have HB := hid hb
  have hmin1 := cut_min n 300 300 rfl n1 hn1
  have hmin2 := cut_min m 600 600 rfl m1 hm1
  have hs1 := fun w => cut_slice A n c n1 (by omega) hnc w
  have hs2 := fun w => cut_slice B m d m1 (by omega) hmd w
  unfold maxLen at hc hd
  have hnz : (n : Int) ≤ 9223372036854775807 := by omega
  have hmz : (m : Int) ≤ 9223372036854775807 := by omega
  have Hn := hid (And.intro hn1 hm1)
  clear h hb hn1 hm1 hnc hmd hc hd
  have ez := eq_same (hmac l b) (hmacK_len _ _)
  rcases (show r ≤ 8 ∨ (8 < r ∧ r ≤ 1000) ∨ 1000 < r by omega) with h8 | ⟨h8, h1000⟩ | h1000
  rotate_left
  rotate_left
  have h8 : (8 : Int) < r := by omega
  all_goals
    go_enter Try.func4, Try.ntmps4
    go_wp2_with fail
    go_quiet (fail)
    go_wp2_with fail
    have b0 := below_drewN (Below.refl w.heap.size w) nq
    generalize w.drewN nq = w1 at b0 ⊢
    have H1 := hid (H.out.on b0)
    have J1 := hid (HB.out.on b0)
    have Q1 := hid b0
    clear b0 hmin1 hmin2 hs1 hs2
    refine (LentBytes_any _ _ _ _ _ H1.out (by have := Hn.out; omega)).mono ?_
    rintro e w2 ⟨gx, cx, rfl, hN⟩
    have X2 := hid (hN.front H1.out.len)
    have XK2 := hid hN.isBB
    have H2 := hid (H1.out.on hN.bel)
    have J2 := hid (J1.out.on hN.bel)
    have Q2 := hid (Q1.out.trans (hN.bel.mono Q1.out.size))
    clear hN H1 J1 Q1
    go_wp2_with fail
    refine (LentBytes_any _ _ _ _ _ J2.out (by have := Hn.out; omega)).mono ?_
    rintro e w3 ⟨gy, cy, rfl, hN⟩
    have Y3 := hid (hN.front J2.out.len)
    have YK3 := hid hN.isBB
    have X3 := hid (X2.out.on hN.bel)
    have XK3 := hid (XK2.out.on hN.bel)
    have H3 := hid (H2.out.on hN.bel)
    have J3 := hid (J2.out.on hN.bel)
    have Q3 := hid (Q2.out.trans (hN.bel.mono Q2.out.size))
    clear hN X2 XK2 H2 J2 Q2
    go_wp2_with fail
    refine (Pbkdf2_all _ _ l b _ _ _ _ _ _ _ X3.out Y3.out).mono ?_
    rintro e w4 ⟨Aa, ca, rfl, hI, hb4⟩
    have A4 := hid hI
    have Y4 := hid (Y3.out.on hb4)
    have YK4 := hid (YK3.out.on hb4)
    have X4 := hid (X3.out.on hb4)
    have XK4 := hid (XK3.out.on hb4)
    have H4 := hid (H3.out.on hb4)
    have J4 := hid (J3.out.on hb4)
    have Q4 := hid (Q3.out.trans (hb4.mono Q3.out.size))
    clear hI hb4 X3 XK3 Y3 YK3 H3 J3 Q3
    go_wp2_with fail
    refine (RefPbk_all _ _ l b _ _ _ _ _ _ _ H4.out J4.out (by have := Hn.out; omega) (by have := Hn.out; omega)).mono ?_
    rintro e w5 ⟨Ac, cc, rfl, hI, hb5⟩
    have C5 := hid hI
    have A5 := hid (A4.out.on hb5)
    have Y5 := hid (Y4.out.on hb5)
    have YK5 := hid (YK4.out.on hb5)
    have X5 := hid (X4.out.on hb5)
    have XK5 := hid (XK4.out.on hb5)
    have H5 := hid (H4.out.on hb5)
    have J5 := hid (J4.out.on hb5)
    have Q5 := hid (Q4.out.trans (hb5.mono Q4.out.size))
    clear hI hb5 A4 X4 XK4 Y4 YK4 H4 J4 Q4
    go_wp2_with fail
    refine (Hmac_any _ _ l b _ _ _ _ _ X5.out Y5.out).mono ?_
    rintro e w6 ⟨rfl, hb6⟩
    have C6 := hid (C5.out.on hb6)
    have A6 := hid (A5.out.on hb6)
    have YK6 := hid (YK5.out.on hb6)
    have XK6 := hid (XK5.out.on hb6)
    have H6 := hid (H5.out.on hb6)
    have J6 := hid (J5.out.on hb6)
    have Q6 := hid (Q5.out.trans (hb6.mono Q5.out.size))
    clear hb6 C5 A5 X5 XK5 Y5 YK5 H5 J5 Q5
    go_wp2_with fail
    refine (RefHmac_any _ _ l b _ _ _ _ _ H6.out J6.out (by have := Hn.out; omega) (by have := Hn.out; omega)).mono ?_
    rintro e w7 ⟨rfl, hb7⟩
    have C7 := hid (C6.out.on hb7)
    have A7 := hid (A6.out.on hb7)
    have YK7 := hid (YK6.out.on hb7)
    have XK7 := hid (XK6.out.on hb7)
    have H7 := hid (H6.out.on hb7)
    have J7 := hid (J6.out.on hb7)
    have Q7 := hid (Q6.out.trans (hb7.mono Q6.out.size))
    clear hb7 C6 A6 XK6 YK6 H6 J6 Q6
    go_wp2_with fail
    refine (SameBytes_true _ _ _ _ _ _ _ A7.out.toIsB C7.out.toIsB).mono ?_
    rintro e w8 ⟨rfl, k8, rfl⟩
    have b8 := below_drewN (Below.refl w7.heap.size w7) k8
    generalize w7.drewN k8 = w8 at b8 ⊢
    have YK8 := hid (YK7.out.on b8)
    have XK8 := hid (XK7.out.on b8)
    have H8 := hid (H7.out.on b8)
    have J8 := hid (J7.out.on b8)
    have Q8 := hid (Q7.out.trans (b8.mono Q7.out.size))
    clear b8 C7 A7 XK7 YK7 H7 J7 Q7
    go_wp2_with fail
    refine (KeptBytes_true _ l _ _ _ _ _ H8.out XK8.out).mono ?_
    rintro e w9 ⟨rfl, hb9⟩
    have YK9 := hid (YK8.out.on hb9)
    have J9 := hid (J8.out.on hb9)
    have Q9 := hid (Q8.out.trans (hb9.mono Q8.out.size))
    clear hb9 XK8 YK8 H8 J8 Q8
    go_wp2_with fail
    refine (KeptBytes_true _ b _ _ _ _ _ J9.out YK9.out).mono ?_
    rintro e w10 ⟨rfl, hb10⟩
    have Q10 := hid (Q9.out.trans (hb10.mono Q9.out.size))
    clear hb10 J9 YK9 Q9
    go_wp2_with fail
    refine (awake_any _).mono ?_
    rintro e w11 ⟨rfl, hb11⟩
    have Q11 := hid (Q10.out.trans (hb11.mono Q10.out.size))
    clear hb11 Q10
    go_wp2_with fail
    go_ret
    exact ⟨rfl, Q11.out⟩
end Go.Proofs.Ytnifhgcdpgokhaa
