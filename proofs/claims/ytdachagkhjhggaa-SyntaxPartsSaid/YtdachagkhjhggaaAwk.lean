/-
  The chapter's examples: nested, awake.
-/
import Derived.Test.YtdachagkhjhggaaPur
import Derived.Test.YtdachagkhjhggaaTsp
import Derived.Deep.Cut
namespace Go.Proofs.Ytdachagkhjhggaa
open Go.RowKit
set_option linter.unusedVariables false
set_option linter.unusedSimpArgs false

/-- So many loops within one another. -/
def nest : Nat → Tr
  | 0 => .nil
  | k + 1 => .st ⟨3, 0, 0, 0, 0, false, 19, 0, 0, 0, 0⟩ (nest k) .nil .nil
/-- A list of one statement, made by a literal. -/
theorem one_made (W : World) (x : Sd) (b e : Tr) (Ab : Option Addr) (nb cb : Nat) (Ae : Option Addr) (ne ce : Nat) (hb : Sl W W.heap.size b Ab nb cb) (he : Sl W W.heap.size e Ae ne ce) :
    Sl (W.alloc (.cells #[.int .u8 x.k, .int .u8 x.o, .int .i64 x.d, .int .i64 x.s, .int .i64 x.n, .bool x.nt, .int .u8 x.co, .int .i64 x.cd, .int .i64 x.cs, .int .i64 x.cn, .slice Ab nb cb, .slice Ae ne ce, .int .i64 x.ln] 42)) (W.heap.size + 1) (.st x b e .nil) (some ⟨W.heap.size, 0, none⟩) 1 1 := by
  have hh := heap_alloc_new W (.cells #[.int .u8 x.k, .int .u8 x.o, .int .i64 x.d, .int .i64 x.s, .int .i64 x.n, .bool x.nt, .int .u8 x.co, .int .i64 x.cd, .int .i64 x.cs, .int .i64 x.cn, .slice Ab nb cb, .slice Ae ne ce, .int .i64 x.ln] 42)
  have hB : Below W.heap.size W (W.alloc (.cells #[.int .u8 x.k, .int .u8 x.o, .int .i64 x.d, .int .i64 x.s, .int .i64 x.n, .bool x.nt, .int .u8 x.co, .int .i64 x.cd, .int .i64 x.cs, .int .i64 x.cn, .slice Ab nb cb, .slice Ae ne ce, .int .i64 x.ln] 42)) := (Below.refl _ W).alloc (Nat.le_refl _) _
  refine ⟨rfl, Nat.le_refl _, by unfold maxLen; omega, by omega, fun _ => ⟨_, rfl, row_st.2 ⟨Nat.lt_succ_self _, ⟨Ab, nb, cb, Ae, ne, ce, ?_, (hb.below hB).up (Nat.le_succ _), (he.below hB).up (Nat.le_succ _)⟩, trivial⟩⟩⟩
  exact ⟨row_cell hh 0, row_cell hh 1, row_cell hh 2, row_cell hh 3, row_cell hh 4, row_cell hh 5, row_cell hh 6, row_cell hh 7, row_cell hh 8, row_cell hh 9, row_cell hh 10, row_cell hh 11, row_cell hh 12⟩
set_option maxRecDepth 10000 in
set_option maxHeartbeats 4000000 in
theorem nested_any (n : Nat) (hn : n ≤ 100) (w : World) : Calls Try.prog 18 #[.int .i64 n] w fun e w' => ∃ A k c, e = .returned (.slice A k c) ∧ Sl w' w'.heap.size (nest n) A k c ∧ Below w.heap.size w w' := by
  obtain ⟨N, hN⟩ : ∃ N : Int, (n : Int) = N := ⟨_, rfl⟩
  have hN1 : 0 ≤ N ∧ N ≤ 100 := by omega
  rw [hN]
  have HN := hid hN
  clear hN
  go_enter Try.func18, Try.ntmps18
  go_wp2_with fail
  go_loopw [3, 4] (fun v3 v4 wr => ∃ (i : Nat) (A : Option Addr) (k c : Nat), v4 = .int .i64 (i : Nat) ∧ v3 = .slice A k c ∧ i ≤ n ∧ Hid (Sl wr wr.heap.size (nest i) A k c) ∧ Hid (Below w.heap.size w wr)) (fun _ v4 _ => n - (intOf v4).toNat)
  case atStart => exact ⟨0, none, 0, 0, rfl, rfl, Nat.zero_le _, hid (sl_nil _ _), hid (Below.refl _ _)⟩
  case round =>
    obtain ⟨i, A, k, c, rfl, rfl, hi, HS, HW⟩ := hrel
    by_cases hlt : i < n
    · have hltz : (i : Int) < N := by have := HN.out; omega
      have hiz : (i : Int) ≤ 100 := by omega
      go_wp2_with fail
      go_roundw
      case rel => exact ⟨i + 1, _, 1, 1, by go_num, rfl, by omega, hid ((one_made wr ⟨3, 0, 0, 0, 0, false, 19, 0, 0, 0, 0⟩ (nest i) .nil A k c none 0 0 HS.out (sl_nil _ _)).up (by simp)), hid (HW.out.alloc HW.out.size _)⟩
      case measure => simp [intOf]; omega
    · have hltz : ¬ (i : Int) < N := by have := HN.out; omega
      obtain rfl : i = n := by omega
      go_wp2_with fail
      go_ret
      exact ⟨_, _, _, rfl, HS.out, HW.out⟩
set_option maxRecDepth 10000 in
set_option maxHeartbeats 4000000 in
/-- The closure of awake: a list of one statement. -/
theorem one_any (x : Sd) (b e : Tr) (Ab : Option Addr) (nb cb : Nat) (Ae : Option Addr) (ne ce : Nat) (post : Bool) (w : World) (hb : Sl w w.heap.size b Ab nb cb) (he : Sl w w.heap.size e Ae ne ce) :
    Calls Try.prog 17 #[vS x (.slice Ab nb cb) (.slice Ae ne ce), .bool post] w fun r w' => r = .returned (.bool ((Tr.st x b e .nil).right post)) ∧ Below w.heap.size w w' := by
  obtain ⟨W0, hW0⟩ : ∃ W0, w.alloc (.cells #[.int .u8 x.k, .int .u8 x.o, .int .i64 x.d, .int .i64 x.s, .int .i64 x.n, .bool x.nt, .int .u8 x.co, .int .i64 x.cd, .int .i64 x.cs, .int .i64 x.cn, .slice Ab nb cb, .slice Ae ne ce, .int .i64 x.ln] 42) = W0 := ⟨_, rfl⟩
  have hb0 : Below w.heap.size w W0 := by rw [← hW0]; exact (Below.refl _ w).alloc (Nat.le_refl _) _
  have hx0 : B13 W0 w.heap.size x (.slice Ab nb cb) (.slice Ae ne ce) := by rw [← hW0]; exact b13_made w x _ _
  have hm := (one_made W0 x b e Ab nb cb Ae ne ce (hb.later hb0) (he.later hb0)).up (Nat.le_refl _)
  have hC := right_any' (.st x b e .nil) (some ⟨W0.heap.size, 0, none⟩) 1 1 post (W0.alloc (.cells #[.int .u8 x.k, .int .u8 x.o, .int .i64 x.d, .int .i64 x.s, .int .i64 x.n, .bool x.nt, .int .u8 x.co, .int .i64 x.cd, .int .i64 x.cs, .int .i64 x.cn, .slice Ab nb cb, .slice Ae ne ce, .int .i64 x.ln] 42)) (hm.up (by simp))
  have HC := hid hC
  have HB := hid (hb0.alloc hb0.size (.cells #[.int .u8 x.k, .int .u8 x.o, .int .i64 x.d, .int .i64 x.s, .int .i64 x.n, .bool x.nt, .int .u8 x.co, .int .i64 x.cd, .int .i64 x.cs, .int .i64 x.cn, .slice Ab nb cb, .slice Ae ne ce, .int .i64 x.ln] 42))
  have HW := hid hW0
  obtain ⟨c0, c1, c2, c3, c4, c5, c6, c7, c8, c9, c10, c11, c12⟩ := hx0
  clear hb0 hm hC hb he hW0
  unfold vS
  go_enter Try.func17, Try.ntmps17
  go_upto_region 1 with fail
  rw [HW.out]
  go_wp2_with (go_at_call 8; (refine HC.out.mono ?_); rintro r w1 ⟨rfl, b1⟩; have HY := hid (HB.out.trans (b1.mono HB.out.size)); clear b1)
  go_ret
  exact ⟨rfl, HY.out⟩
def sInc : Sd := ⟨1, 3, 0, 0, 0, false, 0, 0, 0, 0, 0⟩
def sOut : Sd := ⟨1, 26, 0, 0, 0, false, 0, 0, 0, 0, 0⟩
def sJmp : Sd := ⟨1, 29, 0, 0, 0, false, 0, 0, 0, 0, 0⟩
def sHalt : Sd := ⟨4, 0, 0, 0, 0, false, 0, 0, 0, 0, 0⟩
theorem ex1 : (Tr.st sInc .nil .nil .nil).right false = true := by decide +kernel
theorem ex2 : (Tr.st sOut .nil .nil .nil).right false = false := by decide +kernel
theorem ex3 : (Tr.st sOut .nil .nil .nil).right true = true := by decide +kernel
theorem ex4 : (Tr.st sJmp .nil .nil .nil).right true = false := by decide +kernel
theorem ex5 : (Tr.st sHalt (.st sOut .nil .nil .nil) .nil .nil).right true = false := by decide +kernel
theorem ex6 : (nest 20).right false = true := by decide +kernel
theorem ex7 : (nest 21).right false = false := by decide +kernel
theorem ex8 : (nest 21).cnt 20 = 20 := by decide +kernel
theorem ex9 : (nest 21).sz ≤ 3000 := by decide +kernel
set_option maxRecDepth 10000 in
set_option maxHeartbeats 8000000 in
theorem awake_any (w : World) : Calls Try.prog 6 #[] w fun e w' => e = .returned (.bool true) ∧ Below w.heap.size w w' := by
  have C1 := hid (fun W => one_any sInc .nil .nil none 0 0 none 0 0 false W (sl_nil _ _) (sl_nil _ _))
  have C2 := hid (fun W => one_any sOut .nil .nil none 0 0 none 0 0 false W (sl_nil _ _) (sl_nil _ _))
  have C3 := hid (fun W => one_any sOut .nil .nil none 0 0 none 0 0 true W (sl_nil _ _) (sl_nil _ _))
  have C4 := hid (fun W => one_any sJmp .nil .nil none 0 0 none 0 0 true W (sl_nil _ _) (sl_nil _ _))
  have C5 := hid (fun W => one_any sHalt (.st sOut .nil .nil .nil) .nil (some ⟨W.heap.size, 0, none⟩) 1 1 none 0 0 true (W.alloc (.cells #[.int .u8 sOut.k, .int .u8 sOut.o, .int .i64 sOut.d, .int .i64 sOut.s, .int .i64 sOut.n, .bool sOut.nt, .int .u8 sOut.co, .int .i64 sOut.cd, .int .i64 sOut.cs, .int .i64 sOut.cn, .slice none 0 0, .slice none 0 0, .int .i64 sOut.ln] 42)) ((one_made W sOut .nil .nil none 0 0 none 0 0 (sl_nil _ _) (sl_nil _ _)).up (by simp)) (sl_nil _ _))
  rw [ex1] at C1
  rw [ex2] at C2
  rw [ex3] at C3
  rw [ex4] at C4
  rw [ex5] at C5
  have N1 := hid (fun W => nested_any 20 (by omega) W)
  have N2 := hid (fun W => nested_any 21 (by omega) W)
  have R1 := hid (fun W A k c h => right_any' (nest 20) A k c false W h)
  have R2 := hid (fun W A k c h => right_any' (nest 21) A k c false W h)
  have R3 := hid (fun W A k c h => count_any' (nest 21) ex9 A k c W h)
  rw [ex6] at R1
  rw [ex7] at R2
  rw [ex8] at R3
  rw [show ((20 : Nat) : Int) = 20 from rfl] at N1 R3
  rw [show ((21 : Nat) : Int) = 21 from rfl] at N2
  have HB0 := hid ((Below.refl w.heap.size w).alloc (Nat.le_refl _) (.cells #[.int .u8 sOut.k, .int .u8 sOut.o, .int .i64 sOut.d, .int .i64 sOut.s, .int .i64 sOut.n, .bool sOut.nt, .int .u8 sOut.co, .int .i64 sOut.cd, .int .i64 sOut.cs, .int .i64 sOut.cn, .slice none 0 0, .slice none 0 0, .int .i64 sOut.ln] 42))
  have KX := hid (fun w' b => (b13_made w sOut (.slice none 0 0) (.slice none 0 0)).below (w' := w') b)
  unfold vS at C1 C2 C3 C4 C5
  unfold sInc at C1
  unfold sOut at C2 C3 C5 HB0 KX
  unfold sJmp at C4
  unfold sHalt at C5
  dsimp only at *
  go_enter Try.func6, Try.ntmps6
  obtain ⟨W0, hW0⟩ : ∃ W0, w.alloc (.cells #[.int .u8 1, .int .u8 26, .int .i64 0, .int .i64 0, .int .i64 0, .bool false, .int .u8 0, .int .i64 0, .int .i64 0, .int .i64 0, .slice none 0 0, .slice none 0 0, .int .i64 0] 42) = W0 := ⟨_, rfl⟩
  rw [hW0] at HB0 KX
  have HW0 := hid hW0
  clear hW0
  have HA := hid (fun (W : World) (b : Below W0.heap.size W0 W) => Below.alloc b b.size (.cells #[.int .u8 1, .int .u8 26, .int .i64 0, .int .i64 0, .int .i64 0, .bool false, .int .u8 0, .int .i64 0, .int .i64 0, .int .i64 0, .slice none 0 0, .slice none 0 0, .int .i64 0] 42))
  obtain ⟨k0, k1, k2, k3, k4, k5, k6, k7, k8, k9, k10, k11, k12⟩ := KX.out _ (Below.refl _ _)
  go_upto_region 3 with fail
  rw [HW0.out]
  clear HW0
  go_wp2_with (first
    | (go_at_call 17; first
      | ((with_reducible refine (C1.out W0).mono ?_); rintro r w1 ⟨rfl, b⟩; have B1 := hid b; obtain ⟨k0, k1, k2, k3, k4, k5, k6, k7, k8, k9, k10, k11, k12⟩ := KX.out _ B1.out; clear b)
      | ((with_reducible refine (C2.out w1).mono ?_); rintro r w2 ⟨rfl, b⟩; have B2 := hid (B1.out.trans (b.mono B1.out.size)); obtain ⟨k0, k1, k2, k3, k4, k5, k6, k7, k8, k9, k10, k11, k12⟩ := KX.out _ B2.out; clear b)
      | ((with_reducible refine (C3.out w2).mono ?_); rintro r w3 ⟨rfl, b⟩; have B3 := hid (B2.out.trans (b.mono B2.out.size)); obtain ⟨k0, k1, k2, k3, k4, k5, k6, k7, k8, k9, k10, k11, k12⟩ := KX.out _ B3.out; clear b)
      | ((with_reducible refine (C4.out w3).mono ?_); rintro r w4 ⟨rfl, b⟩; have B4 := hid (B3.out.trans (b.mono B3.out.size)); obtain ⟨k0, k1, k2, k3, k4, k5, k6, k7, k8, k9, k10, k11, k12⟩ := KX.out _ B4.out; have B4a := hid (HA.out _ B4.out); clear b)
      | ((refine (C5.out w4).mono ?_); rintro r w5 ⟨rfl, b⟩; have B5 := hid (B4a.out.trans (b.mono B4a.out.size)); clear b))
    | (go_at_call 18; first
      | ((with_reducible refine (N1.out w5).mono ?_); rintro r w6 ⟨A6, n6, c6, rfl, s6, b⟩; have B6 := hid (B5.out.trans (b.mono B5.out.size)); have S6 := hid s6; clear b s6)
      | ((with_reducible refine (N2.out w7).mono ?_); rintro r w8 ⟨A8, n8, c8, rfl, s8, b⟩; have B8 := hid (B7.out.trans (b.mono B7.out.size)); have S8 := hid s8; clear b s8)
      | ((with_reducible refine (N2.out w9).mono ?_); rintro r wa ⟨Aa, na, ca, rfl, sa, b⟩; have Ba := hid (B9.out.trans (b.mono B9.out.size)); have Sa := hid sa; clear b sa))
    | (go_at_call 8; first
      | ((with_reducible refine (R1.out w6 _ _ _ S6.out).mono ?_); rintro r w7 ⟨rfl, b⟩; have B7 := hid (B6.out.trans (b.mono B6.out.size)); clear b)
      | ((with_reducible refine (R2.out w8 _ _ _ S8.out).mono ?_); rintro r w9 ⟨rfl, b⟩; have B9 := hid (B8.out.trans (b.mono B8.out.size)); clear b))
    | (go_at_call 10; (refine (R3.out wa _ _ _ Sa.out).mono ?_); rintro r wb ⟨rfl, b⟩; have Bb := hid (Ba.out.trans (b.mono Ba.out.size)); clear b))
  go_ret
  exact ⟨rfl, HB0.out.trans (Bb.out.mono HB0.out.size)⟩
end Go.Proofs.Ytdachagkhjhggaa
