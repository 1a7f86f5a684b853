/-
  The walk of DeriveNumbers.
-/
import Derived.Test.YtnifhgcdpgokhaaBoth
import Derived.Test.YtnifhgcdpgokhaaAwake
namespace Go.Proofs.Ytnifhgcdpgokhaa
open Go.RowKit

theorem pbk_2_32 (A B : Option Addr) (l s : List UInt8) (n c m d : Nat) (w : World) (h : IsBB w w.heap.size A n c l) (hb : IsBB w w.heap.size B m d s) :
    Calls Try.prog 6 #[.slice A n c, .slice B m d, .int .i64 2, .int .i64 32] w fun e w' => ∃ g, e = .returned (.tuple #[.slice (some ⟨g, 0, none⟩) 32 32, .int .i64 0]) ∧ New w w' g 32 32 (pbk l s 2 32) :=
  Pbkdf2_yes A B l s n c m d 2 32 w h hb (by omega) (by omega) (by omega)
theorem pbk_3_1024 (A B : Option Addr) (l s : List UInt8) (n c m d : Nat) (w : World) (h : IsBB w w.heap.size A n c l) (hb : IsBB w w.heap.size B m d s) :
    Calls Try.prog 6 #[.slice A n c, .slice B m d, .int .i64 3, .int .i64 1024] w fun e w' => ∃ g, e = .returned (.tuple #[.slice (some ⟨g, 0, none⟩) 1024 1024, .int .i64 0]) ∧ New w w' g 1024 1024 (pbk l s 3 1024) :=
  Pbkdf2_yes A B l s n c m d 3 1024 w h hb (by omega) (by omega) (by omega)
theorem ref_3_1024 (A B : Option Addr) (l s : List UInt8) (n c m d : Nat) (w : World) (h : IsBB w w.heap.size A n c l) (hb : IsBB w w.heap.size B m d s) (hn : n ≤ 1000000) (hm : m ≤ 1000000) :
    Calls Try.prog 7 #[.slice A n c, .slice B m d, .int .i64 3, .int .i64 1024] w fun e w' => ∃ A2 c2, e = .returned (.tuple #[.slice A2 1024 c2, .int .i64 0]) ∧ IsBB w' w'.heap.size A2 1024 c2 (pbk l s 3 1024) ∧ Below w.heap.size w w' :=
  RefPbk_yes A B l s n c m d 3 1024 w h hb hn hm (by omega) (by omega) (by omega)
theorem pbk_1000_0 (A B : Option Addr) (l s : List UInt8) (n c m d : Nat) (w : World) (h : IsBB w w.heap.size A n c l) (hb : IsBB w w.heap.size B m d s) :
    Calls Try.prog 6 #[.slice A n c, .slice B m d, .int .i64 1000, .int .i64 0] w fun e w' => ∃ g, e = .returned (.tuple #[.slice (some ⟨g, 0, none⟩) 0 0, .int .i64 0]) ∧ New w w' g 0 0 (pbk l s 1000 0) :=
  Pbkdf2_yes A B l s n c m d 1000 0 w h hb (by omega) (by omega) (by omega)

set_option maxRecDepth 10000 in
set_option maxHeartbeats 4000000 in
theorem numbers_walk (w : World) : Calls Try.prog 3 #[] w fun e w' => e = .returned (.bool true) ∧ Below w.heap.size w w' := by
  have kc := fun (w : World) (C : Array Value) (n c : Nat) => Lib.run_convert_bytes_const (P := Try.prog) w 22 5 C n c Try.underlying22 Try.underlying5
  have kd := kc_two
  obtain ⟨i1, i2, ib⟩ := two_isBB w passB saltB (8, 9) (4, 5) (by decide) (by decide)
  have I1 := hid i1
  have I2 := hid i2
  have Ib := hid ib
  have HQ := hid hexQ
  clear i1 i2 ib
  go_enter Try.func3, Try.ntmps3
  go_wp2_with fail
  refine (pbk_2_32 _ _ passB saltB _ _ _ _ _ I1.out I2.out).mono ?_
  rintro e w1 ⟨g1, rfl, hN⟩
  have Q1 := hid (Ib.out.trans (hN.bel.mono Ib.out.size))
  have B1 := hid hN.isBB
  clear hN I1 I2 Ib
  go_wp2_with fail
  refine (Pbkdf2_no none none 0 0 0 0 0 1 _ (by omega)).mono ?_
  rintro e w2 ⟨rfl, hb⟩
  have Q2 := hid (Q1.out.trans (hb.mono Q1.out.size))
  have B2 := hid (B1.out.on hb)
  clear hb Q1 B1
  go_wp2_with fail
  refine (Pbkdf2_no none none 0 0 0 0 1001 1 _ (by omega)).mono ?_
  rintro e w3 ⟨rfl, hb⟩
  have Q3 := hid (Q2.out.trans (hb.mono Q2.out.size))
  have B3 := hid (B2.out.on hb)
  clear hb Q2 B2
  go_wp2_with fail
  refine (Pbkdf2_no none none 0 0 0 0 1 1025 _ (by omega)).mono ?_
  rintro e w4 ⟨rfl, hb⟩
  have Q4 := hid (Q3.out.trans (hb.mono Q3.out.size))
  have B4 := hid (B3.out.on hb)
  clear hb Q3 B3
  go_wp2_with fail
  refine (Pbkdf2_no none none 0 0 0 0 1 (-1) _ (by omega)).mono ?_
  rintro e w5 ⟨rfl, hb⟩
  have Q5 := hid (Q4.out.trans (hb.mono Q4.out.size))
  have B5 := hid (B4.out.on hb)
  clear hb Q4 B4
  obtain ⟨i1, i2, ib⟩ := two_isBB w5 [112] [115] (1, 2) (1, 2) (by decide) (by decide)
  have I1 := hid i1
  have I2 := hid i2
  have Q6 := hid (Q5.out.trans (ib.mono Q5.out.size))
  have B6 := hid (B5.out.on ib)
  clear i1 i2 ib Q5 B5
  go_wp2_with fail
  refine (pbk_3_1024 _ _ [112] [115] _ _ _ _ _ I1.out I2.out).mono ?_
  rintro e w7 ⟨g7, rfl, hN⟩
  have Q7 := hid (Q6.out.trans (hN.bel.mono Q6.out.size))
  have B7 := hid (B6.out.on hN.bel)
  have C7 := hid hN.isBB
  clear hN I1 I2 Q6 B6
  obtain ⟨i1, i2, ib⟩ := two_isBB w7 [112] [115] (1, 2) (1, 2) (by decide) (by decide)
  have I1 := hid i1
  have I2 := hid i2
  have Q8 := hid (Q7.out.trans (ib.mono Q7.out.size))
  have B8 := hid (B7.out.on ib)
  have C8 := hid (C7.out.on ib)
  clear i1 i2 ib Q7 B7 C7
  go_wp2_with fail
  refine (ref_3_1024 _ _ [112] [115] _ _ _ _ _ I1.out I2.out (by show 1 ≤ 1000000; omega) (by show 1 ≤ 1000000; omega)).mono ?_
  rintro e w9 ⟨A9, c9, rfl, hI, hb⟩
  have Q9 := hid (Q8.out.trans (hb.mono Q8.out.size))
  have B9 := hid (B8.out.on hb)
  have C9 := hid (C8.out.on hb)
  have D9 := hid hI
  clear hI hb I1 I2 Q8 B8 C8
  go_wp2_with fail
  refine (pbk_1000_0 none none [] [] 0 0 0 0 _ (isBB_nil _ _) (isBB_nil _ _)).mono ?_
  rintro e w10 ⟨g10, rfl, hN⟩
  have Q10 := hid (Q9.out.trans (hN.bel.mono Q9.out.size))
  have B10 := hid (B9.out.on hN.bel)
  have C10 := hid (C9.out.on hN.bel)
  have D10 := hid (D9.out.on hN.bel)
  clear hN Q9 B9 C9 D9
  go_wp2_with fail
  refine (hex_any _ (pbk passB saltB 2 32) _ _ _ B10.out (by omega)).mono ?_
  rintro e w11 ⟨rfl, hb⟩
  rw [show hexL (pbk passB saltB 2 32) = _ from HQ.out]
  have Q11 := hid (Q10.out.trans (hb.mono Q10.out.size))
  have C11 := hid (C10.out.on hb)
  have D11 := hid (D10.out.on hb)
  clear hb Q10 B10 C10 D10
  go_wp2_with fail
  refine (SameBytes_true _ _ _ _ _ _ _ C11.out.toIsB D11.out.toIsB).mono ?_
  rintro e w12 ⟨rfl, k8, rfl⟩
  have b8 := below_drewN (Below.refl w11.heap.size w11) k8
  generalize w11.drewN k8 = w12 at b8 ⊢
  have Q12 := hid (Q11.out.trans (b8.mono Q11.out.size))
  clear b8 C11 D11 Q11
  go_wp2_with fail
  refine (awake_any _).mono ?_
  rintro e w13 ⟨rfl, hb⟩
  have Q13 := hid (Q12.out.trans (hb.mono Q12.out.size))
  clear hb Q12
  go_wp2_with fail
  go_ret
  exact ⟨rfl, Q13.out⟩
end Go.Proofs.Ytnifhgcdpgokhaa
