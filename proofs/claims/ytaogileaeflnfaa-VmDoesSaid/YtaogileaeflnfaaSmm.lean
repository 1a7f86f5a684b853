/-
  The contract of SameMachine where both are the same.
-/
import Derived.Test.YtaogileaeflnfaaApt
import Derived.Deep.MidRow
import Derived.ChangeKeysEq
import Derived.Laws.StructEq
set_option linter.unusedVariables false
set_option linter.unusedSimpArgs false
namespace Go.Proofs.Ytaogileaeflnfaa
open Go.RowKit

theorem cells25 : Try.prog.cellsOf 25 = 1 := by kernel_rfl
theorem part25 (X : Array Value) (i : Nat) (v : Value) (h : X[i]? = some v) (w : World) : (part 25 X i).run Try.prog w = .ok v w := by
  simp [part, isAgg, Sem.run_bind, run_underlying Try.underlying25, h]
theorem items25 (r : Nat → UInt32) (n : Nat) (w : World) : ∀ is : List Nat, (∀ i ∈ is, i < n) → (Op.eqItems 9999 25 1 ((List.range n).map (fun j => U.bv (r j))).toArray ((List.range n).map (fun j => U.bv (r j))).toArray is).run Try.prog w = .ok true w
  | [], _ => by simp [Op.eqItems]
  | i :: is, h => by
    have hi := h i (by simp)
    have hp := part25 ((List.range n).map (fun j => U.bv (r j))).toArray (i * 1) (U.bv (r i)) (by rw [Nat.mul_one, List.getElem?_toArray, List.getElem?_map, List.getElem?_range hi]; rfl) w
    have he : (Op.equalIn 9999 25 (U.bv (r i)) (U.bv (r i))).run Try.prog w = .ok true w := by
      have := run_equalIn_int w 9998 25 .u32 .u32 ((r i).toNat : Int) ((r i).toNat : Int) Try.underlying25
      refine this.trans ?_
      simp
    have ih := items25 r n w is (fun j hj => h j (by simp [hj]))
    simp only [Op.eqItems, Sem.run_bind, hp, he, Result.andThen_ok]
    simpa using ih
/-- The cells of the registers. -/
def rL (r : Nat → UInt32) : List Value := (List.range 256).map (fun j => U.bv (r j))
theorem eq26 (r : Nat → UInt32) (w : World) : (Op.equalIn 10000 26 (.agg (rL r).toArray) (.agg (rL r).toArray)).run Try.prog w = .ok true w := by
  obtain ⟨i, hi, h1, h2, h3⟩ : ∃ i, Try.prog.info? 25 = some i ∧ i.zero = some (.int .u32 0) ∧ i.size = 1 ∧ i.bytes = 4 := by
    obtain ⟨i, hi, hzz⟩ := Option.map_eq_some_iff.1 U.Try.info25
    simp only [Prod.mk.injEq] at hzz
    exact ⟨i, hi, hzz.1, hzz.2.1, hzz.2.2⟩
  have e := run_equalIn_array (P := Try.prog) (w := w) 9999 (rL r).toArray (rL r).toArray Try.underlying26 hi
  rw [cells25] at e
  exact e.trans (items25 r 256 w _ (fun i hi => List.mem_range.1 hi))
theorem mc_range (x : Mn) (sh sm : Value) {W : World} {b : Nat} (h : W.heap[b]? = some (.cells (mcL x sh sm).toArray 30 (0, 0))) : W.rangeAt b 5 (rL x.r) := by
  intro j v hv
  have hj : j < 256 := by have := (List.getElem?_eq_some_iff.1 hv).1; simpa [rL] using this
  rw [row_get h, mc_r _ _ _ j hj, ← hv]
  unfold rL
  rw [List.getElem?_map, List.getElem?_range hj]
  rfl
theorem size26 (r : Nat → UInt32) : (Try.prog.info? 26).map (·.size) = some (rL r).length := by
  rw [show (rL r).length = 256 by simp [rL]]
  kernel_rfl
theorem TwoM.start2 (w : World) (L L2 : List Value) : TwoM w ((w.alloc (.cells L.toArray 30)).alloc (.cells L2.toArray 30)) w.heap.size L L2 := by
  have hz : (w.alloc (.cells L.toArray 30)).heap.size = w.heap.size + 1 := by simp
  have h1 := heap_alloc_new w (.cells L.toArray 30)
  have h2 := heap_alloc_new (w.alloc (.cells L.toArray 30)) (.cells L2.toArray 30)
  rw [hz] at h2
  exact ⟨(heap_alloc_old _ _ (lt_of_heap h1)).trans h1, h2, Nat.le_refl _, ((Below.refl _ _).alloc (Nat.le_refl _) _).alloc (by rw [hz]; exact Nat.le_succ _) _⟩
set_option maxRecDepth 10000 in
set_option maxHeartbeats 8000000 in
theorem SameMachine_true (w : World) (x y : Mn) (he : y.a = x.a ∧ y.b = x.b ∧ y.c = x.c ∧ y.d = x.d ∧ y.f = x.f ∧ y.r = x.r) (AH AM BH BM : Option Addr) (nH cH nM cM dH dM : Nat) (l : List UInt32) (m : List UInt8)
    (h1 : U.IsBB w w.heap.size AH nH cH l) (h2 : U.IsBB w w.heap.size BH nH dH l) (m1 : IsBB w w.heap.size AM nM cM m) (m2 : IsBB w w.heap.size BM nM dM m) :
    Calls Try.prog 11 #[vM x (.slice AH nH cH) (.slice AM nM cM), vM y (.slice BH nH dH) (.slice BM nM dM)] w fun e w' => e = .returned (.bool true) ∧ Below w.heap.size w w' := by
  obtain ⟨ea, eb, ec, ed, ef, er⟩ := he
  have H0 := hid (TwoM.start2 w (mcL x (.slice AH nH cH) (.slice AM nM cM)) (mcL y (.slice BH nH dH) (.slice BM nM dM)))
  unfold vM
  have HR1 := hid (fun (W : World) h => mc_range x (.slice AH nH cH) (.slice AM nM cM) (W := W) (b := w.heap.size) h)
  have hR := hid (size26 x.r)
  have HR2 := hid (fun (W : World) h => mc_range y (.slice BH nH dH) (.slice BM nM dM) (W := W) (b := w.heap.size + 1) h)
  have HQ := eq26 x.r
  have HS := hid (fun W (b : Below w.heap.size w W) => U.SameBytes_true AH BH l nH cH dH W (h1.on b).toIsB (h2.on b).toIsB)
  have HT := hid (fun W (b : Below w.heap.size w W) => SameBytes_true AM BM m nM cM dM W (m1.on b).toIsB (m2.on b).toIsB)
  have g0 := mc_0 x (.slice AH nH cH) (.slice AM nM cM)
  have g1 := mc_1 x (.slice AH nH cH) (.slice AM nM cM)
  have g2 := mc_2 x (.slice AH nH cH) (.slice AM nM cM)
  have g3 := mc_3 x (.slice AH nH cH) (.slice AM nM cM)
  have g4 := mc_4 x (.slice AH nH cH) (.slice AM nM cM)
  have g6 := mc_h x (.slice AH nH cH) (.slice AM nM cM)
  have g7 := mc_m x (.slice AH nH cH) (.slice AM nM cM)
  have k0 := mc_0 y (.slice BH nH dH) (.slice BM nM dM)
  have k1 := mc_1 y (.slice BH nH dH) (.slice BM nM dM)
  have k2 := mc_2 y (.slice BH nH dH) (.slice BM nM dM)
  have k3 := mc_3 y (.slice BH nH dH) (.slice BM nM dM)
  have k4 := mc_4 y (.slice BH nH dH) (.slice BM nM dM)
  have k6 := mc_h y (.slice BH nH dH) (.slice BM nM dM)
  have k7 := mc_m y (.slice BH nH dH) (.slice BM nM dM)
  rw [ea] at k0
  rw [eb] at k1
  rw [ec] at k2
  rw [ed] at k3
  rw [ef] at k4
  rw [er] at HR2
  generalize mcL x (.slice AH nH cH) (.slice AM nM cM) = L at *
  generalize mcL y (.slice BH nH dH) (.slice BM nM dM) = K at *
  generalize rL x.r = R at *
  unfold U.bv at *
  go_enter Try.func11, Try.ntmps11
  go_upto_region 1 with fail
  generalize (w.alloc (.cells L.toArray 30)).alloc (.cells K.toArray 30) = W at *
  have r1 := hid (HR1.out W H0.out.one)
  have r2 := hid (HR2.out W H0.out.two)
  have c0 := (row_get H0.out.one 0).trans g0
  have c1 := (row_get H0.out.one 1).trans g1
  have c2 := (row_get H0.out.one 2).trans g2
  have c3 := (row_get H0.out.one 3).trans g3
  have c4 := (row_get H0.out.one 4).trans g4
  have c6 := (row_get H0.out.one 261).trans g6
  have c7 := (row_get H0.out.one 262).trans g7
  have d0 := (row_get H0.out.two 0).trans k0
  have d1 := (row_get H0.out.two 1).trans k1
  have d2 := (row_get H0.out.two 2).trans k2
  have d3 := (row_get H0.out.two 3).trans k3
  have d4 := (row_get H0.out.two 4).trans k4
  have d6 := (row_get H0.out.two 261).trans k6
  have d7 := (row_get H0.out.two 262).trans k7
  have HSW := hid (HS.out W H0.out.bel)
  have HTW := hid (fun k => HT.out (W.drewN k) (below_drewN H0.out.bel k))
  clear g0 g1 g2 g3 g4 g6 g7 k0 k1 k2 k3 k4 k6 k7 HR1 HR2 HS HT
  go_wp2_with (first
    | (refine BigFrame.wpList_want (o := ⟨some 40, .load 26 (.tmp 39), _, _, _, _⟩) (by rfl) (fun _ hK => wp_load_mid 26 (.tmp 39) rfl w.heap.size 5 rfl R _ r1.out Try.underlying26 rfl hR.out (hK _ _ ?_)))
    | (refine BigFrame.wpList_want (o := ⟨some 42, .load 26 (.tmp 41), _, _, _, _⟩) (by rfl) (fun _ hK => wp_load_mid 26 (.tmp 41) rfl (w.heap.size + 1) 5 rfl R _ r2.out Try.underlying26 rfl hR.out (hK _ _ ?_)))
    | (go_at_call 26; refine HSW.out.mono ?_; rintro r W2 ⟨rfl, k, rfl⟩)
    | (go_at_call 18; refine (HTW.out _).mono ?_; rintro r W2 ⟨rfl, k2, rfl⟩))
  go_ret
  exact ⟨rfl, below_drewN H0.out.bel _⟩
end Go.Proofs.Ytaogileaeflnfaa
