/-
  The chapter's examples; a number below k; an instruction compared to itself.
-/
import Derived.Test.YtlcihljpniejeaaGtd
namespace Go.Proofs.Ytlcihljpniejeaa
open Go.RowKit

theorem two_isB (W : World) (a b : UInt8) (x y : Int) (hx : x = (a.toNat : Int)) (hy : y = (b.toNat : Int)) : IsB (W.alloc (.cells #[.int .u8 x, .int .u8 y] 5)) (some ⟨W.heap.size, 0, none⟩) 2 2 [a, b] := by
  have hh : (W.alloc (.cells #[.int .u8 x, .int .u8 y] 5)).heap[W.heap.size]? = some (.cells #[.int .u8 x, .int .u8 y] 5 (0, 0)) := heap_alloc_new W _
  refine ⟨rfl, Nat.le_refl _, by unfold maxLen; omega, by omega, fun _ => ⟨_, rfl, fun j hj => ?_⟩⟩
  match j, hj with
  | 0, _ => rw [Addr.add_lit, Nat.zero_add, row_cell hh 0, hx]; rfl
  | 1, _ => rw [Addr.add_lit, Nat.zero_add, row_cell hh 1, hy]; rfl
theorem two_isBB (W : World) (a b : UInt8) (x y : Int) (hx : x = (a.toNat : Int)) (hy : y = (b.toNat : Int)) : IsBB (W.alloc (.cells #[.int .u8 x, .int .u8 y] 5)) (W.alloc (.cells #[.int .u8 x, .int .u8 y] 5)).heap.size (some ⟨W.heap.size, 0, none⟩) 2 2 [a, b] :=
  ⟨two_isB W a b x y hx hy, fun _ ad e => by cases e; simp⟩
theorem one_isBB (W : World) (a : UInt8) (x : Int) (hx : x = (a.toNat : Int)) : IsBB (W.alloc (.cells #[.int .u8 x] 5)) (W.alloc (.cells #[.int .u8 x] 5)).heap.size (some ⟨W.heap.size, 0, none⟩) 1 1 [a] :=
  ⟨one_isB W a x hx, fun _ ad e => by cases e; simp⟩
/-- A list that was told, in a later world. -/
structure Lst (w W : World) (A : Option Addr) (c : Nat) (X : List UInt8) : Prop where
  is : IsBB W W.heap.size A X.length c X
  bel : Below w.heap.size w W
theorem Lst.below {w W W' : World} {A : Option Addr} {c : Nat} {X : List UInt8} (h : Lst w W A c X) (b : Below W.heap.size W W') : Lst w W' A c X := ⟨h.is.on b, bel_on h.bel b⟩
theorem OwnB.lst {w W : World} {v : Value} {X : List UInt8} (h : OwnB w W v X) (hs : X.length ≤ 1000000) : ∃ A c, v = .slice A X.length c ∧ Lst w W A c X := by
  obtain ⟨A, c, e, hi⟩ := h.isBB hs
  exact ⟨A, c, e, hi, h.bel⟩
set_option maxRecDepth 10000 in
theorem p1 : putE 1 1 0 0 0 = 0 ∧ putL 1 1 0 0 0 = [9, 0] := by decide
set_option maxRecDepth 10000 in
theorem p2 : putE 8 0 7 5 0 = 0 ∧ putL 8 0 7 5 0 = [71, 5] := by decide
set_option maxRecDepth 10000 in
theorem p3 : putE 29 0 0 0 4 = 0 ∧ putL 29 0 0 0 4 = [232, 250] := by decide
set_option maxRecDepth 10000 in
theorem p4 : getR [232, 250] 0 = noG 110 := by
  have h : (getR [232, 250] 0).o = 0 ∧ (getR [232, 250] 0).d = 0 ∧ (getR [232, 250] 0).s = 0 ∧ (getR [232, 250] 0).n = 0 ∧ (getR [232, 250] 0).e = 0 ∧ (getR [232, 250] 0).err = 110 := by decide
  obtain ⟨h1, h2, h3, h4, h5, h6⟩ := h
  cases hg : getR [232, 250] 0
  simp_all [noG]
set_option maxRecDepth 10000 in
theorem p5 : getR [9] 0 = noG 12 := by
  have h : (getR [9] 0).o = 0 ∧ (getR [9] 0).d = 0 ∧ (getR [9] 0).s = 0 ∧ (getR [9] 0).n = 0 ∧ (getR [9] 0).e = 0 ∧ (getR [9] 0).err = 12 := by decide
  obtain ⟨h1, h2, h3, h4, h5, h6⟩ := h
  cases hg : getR [9] 0
  simp_all [noG]
set_option maxRecDepth 10000 in
theorem p6 : rightE 0 1 0 0 = 110 := by decide
set_option maxRecDepth 10000 in
set_option maxHeartbeats 4000000 in
theorem awake_any (w : World) : Calls Try.prog 10 #[] w fun e w' => e = .returned (.bool true) ∧ Below w.heap.size w w' := by
  have HP := hid (fun o d s n k w => Put_any o d s n k w)
  have HG := hid (fun A n c l w h k => Get_any A n c l w h k)
  have HR := hid (fun o d s n w => Right_any o d s n w)
  unfold vI at HP HR
  go_enter Try.func10, Try.ntmps10
  go_wp2_with fail
  refine (HP.out 1 1 0 0 0 _).mono ?_
  rw [p1.1, p1.2]
  rintro r w1 ⟨v1, rfl, o1⟩
  obtain ⟨A1, c1, rfl, l1⟩ := o1.lst (by decide)
  have L1 := hid l1
  clear o1 l1
  try dsimp only
  go_wp2_with fail
  refine (HP.out 8 0 7 5 0 _).mono ?_
  rw [p2.1, p2.2]
  rintro r w2 ⟨v2, rfl, o2⟩
  obtain ⟨A2, c2, rfl, l2⟩ := o2.lst (by decide)
  have L1 := hid (L1.out.below l2.bel)
  have L2 := hid l2
  clear o2 l2
  try dsimp only
  go_wp2_with fail
  refine (HP.out 29 0 0 0 4 _).mono ?_
  rw [p3.1, p3.2]
  rintro r w3 ⟨v3, rfl, o3⟩
  obtain ⟨A3, c3, rfl, l3⟩ := o3.lst (by decide)
  have L1 := hid (L1.out.below l3.bel)
  have L2 := hid (L2.out.below l3.bel)
  have L3 := hid l3
  clear o3 l3
  have I4 := hid (two_isBB w3 232 250 232 250 rfl rfl)
  have B4 := hid ((Below.refl _ w3).alloc (Nat.le_refl _) (.cells #[.int .u8 232, .int .u8 250] 5))
  try dsimp only
  go_wp2_with fail
  refine (HG.out _ 2 2 _ _ I4.out 0).mono ?_
  rw [p4]
  rintro r w4 ⟨rfl, b4⟩
  have L1 := hid (L1.out.below (bel_on B4.out b4))
  have L2 := hid (L2.out.below (bel_on B4.out b4))
  have L3 := hid (L3.out.below (bel_on B4.out b4))
  clear b4 I4 B4
  unfold vG vI noG
  try dsimp only
  go_wp2_with fail
  have I5 := hid (one_isBB (w4.alloc (.cells #[.int .u8 0, .int .i64 0, .int .i64 0, .int .i64 0] 24)) 9 9 rfl)
  have B5 := hid (((Below.refl _ w4).alloc (Nat.le_refl _) (.cells #[.int .u8 0, .int .i64 0, .int .i64 0, .int .i64 0] 24)).alloc (by simp) (.cells #[.int .u8 9] 5))
  rw [show (w4.alloc (.cells #[.int .u8 0, .int .i64 0, .int .i64 0, .int .i64 0] 24)).heap.size = w4.heap.size + 1 from by simp] at I5
  refine (HG.out _ 1 1 _ _ I5.out 0).mono ?_
  rw [p5]
  rintro r w5 ⟨rfl, b5⟩
  have b5' := bel_on B5.out b5
  have L1 := hid ((L1.out.below b5').below ((Below.refl _ w5).alloc (Nat.le_refl _) (.cells #[.int .u8 0, .int .i64 0, .int .i64 0, .int .i64 0] 24)))
  have L2 := hid ((L2.out.below b5').below ((Below.refl _ w5).alloc (Nat.le_refl _) (.cells #[.int .u8 0, .int .i64 0, .int .i64 0, .int .i64 0] 24)))
  have L3 := hid ((L3.out.below b5').below ((Below.refl _ w5).alloc (Nat.le_refl _) (.cells #[.int .u8 0, .int .i64 0, .int .i64 0, .int .i64 0] 24)))
  clear b5 b5' I5 B5
  have HS := hid (fun A B l n c d w h1 h2 => SameBytes_true A B l n c d w h1 h2)
  unfold vG vI noG
  have J6 := hid (two_isB (w5.alloc (.cells #[.int .u8 0, .int .i64 0, .int .i64 0, .int .i64 0] 24)) 9 0 9 0 rfl rfl)
  have B6 := hid ((Below.refl _ (w5.alloc (.cells #[.int .u8 0, .int .i64 0, .int .i64 0, .int .i64 0] 24))).alloc (Nat.le_refl _) (.cells #[.int .u8 9, .int .u8 0] 5))
  rw [show ((w5.alloc (.cells #[.int .u8 0, .int .i64 0, .int .i64 0, .int .i64 0] 24))).heap.size = w5.heap.size + 1 from by simp] at J6
  have S6 := hid (HS.out _ _ [9, 0] 2 _ 2 _ (L1.out.below B6.out).is.toIsB J6.out)
  try dsimp only
  go_wp2_with fail
  refine S6.out.mono ?_
  rintro r w6 ⟨rfl, q, hq⟩
  have d6 : Below ((w5.alloc (.cells #[.int .u8 0, .int .i64 0, .int .i64 0, .int .i64 0] 24))).heap.size ((w5.alloc (.cells #[.int .u8 0, .int .i64 0, .int .i64 0, .int .i64 0] 24))) w6 := by rw [hq]; exact B6.out.trans (Below.drewN _ _ _)
  have L1 := hid (L1.out.below d6)
  have L2 := hid (L2.out.below d6)
  have L3 := hid (L3.out.below d6)
  clear hq d6 J6 B6 S6
  have J7 := hid (two_isB w6 71 5 71 5 rfl rfl)
  have B7 := hid ((Below.refl _ w6).alloc (Nat.le_refl _) (.cells #[.int .u8 71, .int .u8 5] 5))
  skip
  have S7 := hid (HS.out _ _ [71, 5] 2 _ 2 _ (L2.out.below B7.out).is.toIsB J7.out)
  try dsimp only
  go_wp2_with fail
  refine S7.out.mono ?_
  rintro r w7 ⟨rfl, q, hq⟩
  have d7 : Below (w6).heap.size (w6) w7 := by rw [hq]; exact B7.out.trans (Below.drewN _ _ _)
  have L1 := hid (L1.out.below d7)
  have L2 := hid (L2.out.below d7)
  have L3 := hid (L3.out.below d7)
  clear hq d7 J7 B7 S7
  have J8 := hid (two_isB w7 232 250 232 250 rfl rfl)
  have B8 := hid ((Below.refl _ w7).alloc (Nat.le_refl _) (.cells #[.int .u8 232, .int .u8 250] 5))
  skip
  have S8 := hid (HS.out _ _ [232, 250] 2 _ 2 _ (L3.out.below B8.out).is.toIsB J8.out)
  try dsimp only
  go_wp2_with fail
  refine S8.out.mono ?_
  rintro r w8 ⟨rfl, q, hq⟩
  have d8 : Below (w7).heap.size (w7) w8 := by rw [hq]; exact B8.out.trans (Below.drewN _ _ _)
  have L1 := hid (L1.out.below d8)
  have L2 := hid (L2.out.below d8)
  have L3 := hid (L3.out.below d8)
  clear hq d8 J8 B8 S8
  try dsimp only
  go_wp2_with fail
  refine (HR.out 0 1 0 0 _).mono ?_
  rw [p6]
  rintro r w9 ⟨rfl, b9⟩
  have L1 := hid (L1.out.below b9)
  clear b9 L2 L3
  try dsimp only
  go_wp2_with fail
  go_ret
  exact ⟨rfl, L1.out.bel⟩
theorem pick_of (x : Int) (w : World) : ∃ p : Nat, p ≤ 1000 ∧ Calls Try.prog 4 #[.int .i64 x, .int .i64 1001] w fun r w' => r = .returned (.int .i64 (p : Nat)) ∧ w' = w := by
  have h1 := Int.tmod_lt_of_pos x (show (0 : Int) < 1001 by decide)
  have h2 := Int.lt_tmod_of_pos x (show (0 : Int) < 1001 by decide)
  by_cases hn : x.tmod 1001 < 0
  · refine ⟨(x.tmod 1001 + 1001).toNat, by omega, ?_⟩
    have e3 : wrap64 (x.tmod 1001 + 1001) = (((x.tmod 1001 + 1001).toNat : Nat) : Int) := by unfold wrap64; omega
    generalize (x.tmod 1001 + 1001).toNat = p at e3
    clear h1 h2
    go_enter Try.func4, Try.ntmps4
    go_wp2_with fail
    go_ret
    exact ⟨by rw [e3]; rfl, rfl⟩
  · refine ⟨(x.tmod 1001).toNat, by omega, ?_⟩
    have e3 : (((x.tmod 1001).toNat : Nat) : Int) = x.tmod 1001 := by omega
    have hn2 : 0 ≤ x.tmod 1001 := by omega
    generalize (x.tmod 1001).toNat = p at e3
    clear h1 h2 hn
    go_enter Try.func4, Try.ntmps4
    go_wp2_with fail
    go_ret
    exact ⟨by rw [e3]; rfl, rfl⟩
end Go.Proofs.Ytlcihljpniejeaa
