/-
  The program's Right, Count: the closures that each tells.
-/
import Derived.Test.YtdachagkhjhggaaEac
import Derived.Deep.Cut
namespace Go.Proofs.Ytdachagkhjhggaa
open Go.RowKit
set_option linter.unusedVariables false
set_option linter.unusedSimpArgs false

/-- What the closure of Right makes of a statement: one more, and may it be? -/
def rStep (post : Bool) (m : Int) (x : Sd) (nb ne L : Nat) : Bool × Int := (decide (wrap64 (m + 1) ≤ 500) && (rgt post x nb ne && (decide (0 < L) || none2 nb ne)), wrap64 (m + 1))
def cStep (m : Int) (x : Sd) (nb ne L : Nat) : Bool × Int := (true, wrap64 (m + 1))
/-- The count in block g, the flag in block gp. -/
structure StR (g gp : Nat) (post : Bool) (m : Int) (w : World) : Prop where
  num : Num w g m
  flag : w.heap[gp]? = some (.cells #[.bool post] 4 (0, 0))
  ne : g ≠ gp
set_option maxRecDepth 10000 in
set_option maxHeartbeats 8000000 in
theorem tellR (g gp : Nat) (post : Bool) (m : Int) (w : World) (x : Sd) (Ab : Option Addr) (nb cb : Nat) (Ae : Option Addr) (ne ce L : Nat) (h : StR g gp post m w) :
    Calls Try.prog 20 (#[vS x (.slice Ab nb cb) (.slice Ae ne ce), .int .i64 (L : Int)] ++ #[.pointer (some ⟨g, 0, none⟩), .pointer (some ⟨gp, 0, none⟩)]) w fun e w' => e = .returned (.bool (rStep post m x nb ne L).1) ∧ StR g gp post (rStep post m x nb ne L).2 w' ∧ Bu g w w' := by
  have hgl := h.num.lt
  have hpl := lt_of_heap h.flag
  obtain ⟨W0, hW0⟩ : ∃ W0, w.alloc (.cells #[.int .u8 x.k, .int .u8 x.o, .int .i64 x.d, .int .i64 x.s, .int .i64 x.n, .bool x.nt, .int .u8 x.co, .int .i64 x.cd, .int .i64 x.cs, .int .i64 x.cn, .slice Ab nb cb, .slice Ae ne ce, .int .i64 x.ln] 42) = W0 := ⟨_, rfl⟩
  have hb0 : Below w.heap.size w W0 := by rw [← hW0]; exact (Below.refl _ w).alloc (Nat.le_refl _) _
  have hx0 : B13 W0 w.heap.size x (.slice Ab nb cb) (.slice Ae ne ce) := by rw [← hW0]; exact b13_made w x _ _
  have hn0 : Num W0 g m := h.num.below hb0 hgl
  have hf0 : W0.heap[gp]? = some (.cells #[.bool post] 4 (0, 0)) := (hb0.block gp hpl).trans h.flag
  obtain ⟨m1, hm1⟩ : ∃ m1, wrap64 (m + 1) = m1 := ⟨_, rfl⟩
  obtain ⟨W1, hW1⟩ : ∃ W1, W0.setCell ⟨g, 0, none⟩ (.int .i64 m1) = W1 := ⟨_, rfl⟩
  have hbu1 : Bu g W0 W1 := by rw [← hW1]; exact (Bu.refl g W0).set 0 _
  have hx1 := hid (hx0.bu hbu1 (by omega))
  have hn1 : Num W1 g m1 := by rw [← hW1]; exact hn0.set m1
  have hf1 : W1.heap[gp]? = some (.cells #[.bool post] 4 (0, 0)) := (hbu1.block gp (lt_of_heap hf0) (Ne.symm h.ne)).trans hf0
  have HB1 : Hid (Bu g w W1) := (Bu.of_below hb0).trans hbu1
  have HS1 : Hid (StR g gp post m1 W1) := ⟨hn1, hf1, h.ne⟩
  have n0c := hn0.cell
  have n0f := hn0.free
  have n1c := hn1.cell
  have f1c : W1.cell? ⟨gp, 0, none⟩ = some (.bool post) := row_cell hf1 0
  have HR := hid (fun w => right_any x post Ab nb cb Ae ne ce w)
  have HH := hid (fun w => holds_any x Ab nb cb Ae ne ce w)
  have KX := hid (fun (w' : World) (hb : Below W1.heap.size W1 w') => hx1.out.below hb)
  have KS : Hid (∀ w', Below W1.heap.size W1 w' → StR g gp post m1 w') := fun w' hb => ⟨(hb.block g hn1.lt).trans hn1, (hb.block gp (lt_of_heap hf1)).trans hf1, h.ne⟩
  obtain ⟨R, hR⟩ : ∃ R, rgt post x nb ne = R := ⟨_, rfl⟩
  obtain ⟨Hn, hH⟩ : ∃ Hn, none2 nb ne = Hn := ⟨_, rfl⟩
  obtain ⟨D, hD⟩ : ∃ D, decide (m1 ≤ 500) = D := ⟨_, rfl⟩
  obtain ⟨P, hP⟩ : ∃ P, decide (0 < L) = P := ⟨_, rfl⟩
  have e : rStep post m x nb ne L = (D && (R && (P || Hn)), m1) := by unfold rStep; rw [hm1, hR, hH, hD, hP]
  rw [e]
  rw [hR] at HR
  rw [hH] at HH
  unfold vS at HR HH ⊢
  have HW0 := hid hW0
  have HW1 := hid hW1
  have HM1 := hid hm1
  have HD := hid hD
  have HP := hid hP
  clear hgl hpl hb0 hx0 hn0 hf0 hW0 hW1 hbu1 hn1 hf1 hm1 hR hH hD hP e h
  dsimp only
  show Calls Try.prog 20 #[_, _, _, _] w _
  go_enter Try.func20, Try.ntmps20
  go_upto_region 1 with fail
  rw [HW0.out]
  go_upto_region 2 with fail
  rw [HM1.out, HW1.out]
  have HX0 := hx1
  obtain ⟨c0, c1, c2, c3, c4, c5, c6, c7, c8, c9, c10, c11, c12⟩ := hx1.out
  clear n0c n0f HW0 HM1 HW1
  cases D
  · have h5 : ¬ m1 ≤ 500 := of_decide_eq_false HD.out
    go_wp2_with fail
    go_ret
    exact ⟨rfl, HS1.out, HB1.out⟩
  have h5 : m1 ≤ 500 := of_decide_eq_true HD.out
  cases R
  · go_wp2_with (go_at_call 21; (with_reducible refine (HR.out _).mono ?_); rintro r w2 ⟨rfl, b2⟩; have HY := hid b2; clear b2)
    go_ret
    exact ⟨rfl, KS.out _ HY.out, HB1.out.trans (.of_below HY.out)⟩
  cases P
  · have hLz : ¬ (0 : Int) < (L : Int) := by have := of_decide_eq_false HP.out; omega
    go_wp2_with (first
      | (go_at_call 21; (with_reducible refine (HR.out _).mono ?_); rintro r w2 ⟨rfl, b2⟩; have HY := hid b2; obtain ⟨c0, c1, c2, c3, c4, c5, c6, c7, c8, c9, c10, c11, c12⟩ := KX.out _ b2; clear b2)
      | (go_at_call 22; (with_reducible refine (HH.out _).mono ?_); rintro r w3 ⟨rfl, b3⟩; have HY3 := hid (HY.out.trans (b3.mono HY.out.size)); clear b3))
    go_ret
    exact ⟨by simp, KS.out _ HY3.out, HB1.out.trans (.of_below HY3.out)⟩
  · have hLz : (0 : Int) < (L : Int) := by have := of_decide_eq_true HP.out; omega
    go_wp2_with (go_at_call 21; (with_reducible refine (HR.out _).mono ?_); rintro r w2 ⟨rfl, b2⟩; have HY := hid b2; clear b2)
    go_ret
    exact ⟨rfl, KS.out _ HY.out, HB1.out.trans (.of_below HY.out)⟩
theorem tel_r (g gp : Nat) (post : Bool) : Tel 20 g #[.pointer (some ⟨g, 0, none⟩), .pointer (some ⟨gp, 0, none⟩)] (StR g gp post) (rStep post) where
  later := fun s w w' h hb => ⟨(hb.block g h.num.lt).trans h.num, (hb.block gp (lt_of_heap h.flag)).trans h.flag, h.ne⟩
  lt := fun s w h => h.num.lt
  tell := fun s w x Ab nb cb Ae ne ce L h => tellR g gp post s w x Ab nb cb Ae ne ce L h
  enter := enters_of Try.func20 (by kernel_rfl) rfl
set_option maxRecDepth 10000 in
set_option maxHeartbeats 8000000 in
theorem tellC (g : Nat) (m : Int) (w : World) (x : Sd) (Ab : Option Addr) (nb cb : Nat) (Ae : Option Addr) (ne ce L : Nat) (h : Num w g m) :
    Calls Try.prog 25 (#[vS x (.slice Ab nb cb) (.slice Ae ne ce), .int .i64 (L : Int)] ++ #[.pointer (some ⟨g, 0, none⟩)]) w fun e w' => e = .returned (.bool (cStep m x nb ne L).1) ∧ Num w' g (cStep m x nb ne L).2 ∧ Bu g w w' := by
  have hgl := h.lt
  obtain ⟨W0, hW0⟩ : ∃ W0, w.alloc (.cells #[.int .u8 x.k, .int .u8 x.o, .int .i64 x.d, .int .i64 x.s, .int .i64 x.n, .bool x.nt, .int .u8 x.co, .int .i64 x.cd, .int .i64 x.cs, .int .i64 x.cn, .slice Ab nb cb, .slice Ae ne ce, .int .i64 x.ln] 42) = W0 := ⟨_, rfl⟩
  have hb0 : Below w.heap.size w W0 := by rw [← hW0]; exact (Below.refl _ w).alloc (Nat.le_refl _) _
  have hn0 : Num W0 g m := h.below hb0 hgl
  obtain ⟨m1, hm1⟩ : ∃ m1, wrap64 (m + 1) = m1 := ⟨_, rfl⟩
  have HF : Hid (Num (W0.setCell ⟨g, 0, none⟩ (.int .i64 m1)) g m1 ∧ Bu g w (W0.setCell ⟨g, 0, none⟩ (.int .i64 m1))) := ⟨hn0.set m1, ((Bu.of_below hb0).trans ((Bu.refl g W0).set 0 _))⟩
  have n0c := hn0.cell
  have n0f := hn0.free
  have e : cStep m x nb ne L = (true, m1) := by unfold cStep; rw [hm1]
  rw [e]
  unfold vS
  have HW0 := hid hW0
  have HM1 := hid hm1
  clear hgl hb0 hn0 hW0 hm1 e h
  dsimp only
  show Calls Try.prog 25 #[_, _, _] w _
  go_enter Try.func25, Try.ntmps25
  go_upto_region 1 with fail
  rw [HW0.out]
  go_upto_region 2 with fail
  rw [HM1.out]
  go_wp2_with fail
  go_ret
  exact ⟨rfl, HF.out.1, HF.out.2⟩
theorem tel_c (g : Nat) : Tel 25 g #[.pointer (some ⟨g, 0, none⟩)] (fun m w => Num w g m) cStep where
  later := fun s w w' h hb => (hb.block g h.lt).trans h
  lt := fun s w h => h.lt
  tell := fun s w x Ab nb cb Ae ne ce L h => tellC g s w x Ab nb cb Ae ne ce L h
  enter := enters_of Try.func25 (by kernel_rfl) rfl
set_option maxRecDepth 10000 in
set_option maxHeartbeats 8000000 in
/-- The program's Right. -/
theorem pRight_any (t : Tr) (A : Option Addr) (n c : Nat) (post : Bool) (w : World) (h : Sl w w.heap.size t A n c) :
    Calls Try.prog 8 #[.slice A n c, .bool post] w fun e w' => e = .returned (.bool (t.run (rStep post) 20 (0 : Int)).1) ∧ Below w.heap.size w w' := by
  obtain ⟨W, hW⟩ : ∃ W, (w.alloc (.cells #[.bool post] 4)).alloc (.cells #[.int .i64 0] 3) = W := ⟨_, rfl⟩
  have hb : Below w.heap.size w W := by rw [← hW]; exact ((Below.refl _ w).alloc (Nat.le_refl _) _).alloc (by simp) _
  have hf : W.heap[w.heap.size]? = some (.cells #[.bool post] 4 (0, 0)) := by
    rw [← hW]
    exact (Below.heap_alloc _ _ _ (by simp)).trans (heap_alloc_new w _)
  have hn : Num W (w.heap.size + 1) 0 := by
    rw [← hW]
    exact heap_alloc2_new w _ _
  have HC := hid (each_any (tel_r (w.heap.size + 1) w.heap.size post) (t.sz + 1) t (by omega) w.heap.size A n c 20 0 W (h.below hb) (by omega) ⟨hn, hf, by omega⟩ (by omega))
  have HB := hid hb
  have HW := hid hW
  have hwn : w.heap.size ≤ W.heap.size := hb.size
  have HWN := hid hwn
  clear hb hf hn hW hwn h
  go_enter Try.func8, Try.ntmps8
  go_upto_region 2 with fail
  rw [HW.out]
  go_wp2_with (go_at_call 19; (refine HC.out.mono ?_); rintro r w2 ⟨rfl, _, b2⟩; have HY := hid b2; clear b2)
  go_ret
  exact ⟨rfl, HB.out.trans (HY.out.below (by omega) HWN.out)⟩
set_option maxRecDepth 10000 in
set_option maxHeartbeats 8000000 in
/-- The program's Count. -/
theorem pCount_any (t : Tr) (A : Option Addr) (n c : Nat) (w : World) (h : Sl w w.heap.size t A n c) :
    Calls Try.prog 10 #[.slice A n c] w fun e w' => e = .returned (.int .i64 (t.run cStep 20 (0 : Int)).2) ∧ Below w.heap.size w w' := by
  obtain ⟨W, hW⟩ : ∃ W, w.alloc (.cells #[.int .i64 0] 3) = W := ⟨_, rfl⟩
  have hb : Below w.heap.size w W := by rw [← hW]; exact (Below.refl _ w).alloc (Nat.le_refl _) _
  have hn : Num W w.heap.size 0 := by
    rw [← hW]
    exact heap_alloc_new w _
  have HC := hid (each_any (tel_c w.heap.size) (t.sz + 1) t (by omega) w.heap.size A n c 20 0 W (h.below hb) (by omega) hn (by omega))
  have HB := hid hb
  have HW := hid hW
  have HWN := hid hb.size
  clear hb hn hW h
  go_enter Try.func10, Try.ntmps10
  go_upto_region 2 with fail
  rw [HW.out]
  go_wp2_with (go_at_call 19; (refine HC.out.mono ?_); rintro r w2 ⟨rfl, n2, b2⟩; have HY := hid b2; have n2c := n2.cell; clear b2 n2)
  go_ret
  exact ⟨rfl, HB.out.trans (HY.out.below (by omega) HWN.out)⟩
end Go.Proofs.Ytdachagkhjhggaa
