/-
  Merged: Nwm Nwg.
-/
import Derived.Test.YtaogileaeflnfaaApt
import Derived.Laws.MakeOwn
import Derived.BigRegion
import Derived.Deep.RegionHeld3
/-
  The contract of New.
-/
set_option linter.unusedVariables false
set_option linter.unusedSimpArgs false
namespace Go.Proofs.Ytaogileaeflnfaa
open Go.RowKit

theorem results_30_1 {fn : Func} {p u : Tmp} (h : fn.results = #[.cell p 30, .tmp u]) (tmps : Array Value) (w : World) (g : Nat) (L : List Value)
    (hp : tmps.getD p undef = .pointer (some ⟨g, 0, none⟩)) (hg : w.heap[g]? = some (.cells L.toArray 30 (0, 0))) (h4 : L.length = 263) : (results fn tmps).run Try.prog w = .ok (.tuple #[.agg L.toArray, tmps.getD u undef]) w := by
  have hp' : tmps[p]?.getD undef = .pointer (some ⟨g, 0, none⟩) := by simpa using hp
  have hl := run_loadVar_row w g 30 30 L.toArray (0, 0) _ hg Try.underlying30 rfl (size30 _ (by rw [List.size_toArray, h4]))
  simp [results, h, hp', asAddr, hl, Result.andThen]
theorem zo : zL.toArray.all (·.oneCell') = true := mc_one zM none none 0 0 0 0
set_option maxRecDepth 10000 in
set_option maxHeartbeats 8000000 in
theorem New_bad (h m : Int) (hb : ¬ (0 ≤ h ∧ h ≤ 8 ∧ 0 ≤ m ∧ m ≤ 12)) (w : World) : Calls Try.prog 8 #[.int .i64 h, .int .i64 m] w fun e w' => e = .returned (.tuple #[vM zM (.slice none 0 0) (.slice none 0 0), .int .i64 2]) ∧ Below w.heap.size w w' := by
  have zv := zero30
  have zl : zL.length = 263 := mc_len _ _ _
  have hsz := hid (size30 zL.toArray (by rw [List.size_toArray, zl]))
  have zo := hid zo
  have R0 := hid (heap_alloc_new w (.cells zL.toArray 30))
  have HB : Hid (Below w.heap.size w ((w.alloc (.cells zL.toArray 30)).setRow w.heap.size zL.toArray)) := hid (by
    refine ⟨rfl, rfl, rfl, by rw [size_setRow]; simp, fun i hi => ?_⟩
    rw [setRow_other _ _ _ _ (by omega)]
    exact heap_alloc_old _ _ hi)
  by_cases h1 : h < 0
  · have d1 : decide (h < 0) = true := decide_eq_true h1
    clear h1
    clear hb
    go_enter Try.func8, Try.ntmps8
    go_wp2_with (refine wpList_store_row (o := ⟨none, .store 30 (.tmp 4) (.tmp 20), _, _, _, _⟩) rfl 30 (.tmp 4) (.tmp 20) rfl w.heap.size zL.toArray rfl rfl 30 zL.toArray R0.out hsz.out rfl zo.out ?_)
    refine bodyPost_ret (results_30_1 (by kernel_rfl : Try.f8.results = #[.cell 4 30, .tmp 5]) _ _ w.heap.size zL rfl (setRow_heap _ _ _ _ _ _ R0.out) zl) rfl ?_
    exact ⟨rfl, HB.out⟩
  have d1 : decide (h < 0) = false := decide_eq_false h1
  by_cases h2 : 8 < h
  · have d2 : decide (h > 8) = true := decide_eq_true h2
    have d2' : decide (8 < h) = true := decide_eq_true h2
    clear h1 h2
    clear hb
    go_enter Try.func8, Try.ntmps8
    go_wp2_with (refine wpList_store_row (o := ⟨none, .store 30 (.tmp 4) (.tmp 20), _, _, _, _⟩) rfl 30 (.tmp 4) (.tmp 20) rfl w.heap.size zL.toArray rfl rfl 30 zL.toArray R0.out hsz.out rfl zo.out ?_)
    refine bodyPost_ret (results_30_1 (by kernel_rfl : Try.f8.results = #[.cell 4 30, .tmp 5]) _ _ w.heap.size zL rfl (setRow_heap _ _ _ _ _ _ R0.out) zl) rfl ?_
    exact ⟨rfl, HB.out⟩
  have d2 : decide (h > 8) = false := decide_eq_false h2
  have d2' : decide (8 < h) = false := decide_eq_false h2
  by_cases h3 : m < 0
  · have d3 : decide (m < 0) = true := decide_eq_true h3
    clear h1 h2 h3
    clear hb
    go_enter Try.func8, Try.ntmps8
    go_wp2_with (refine wpList_store_row (o := ⟨none, .store 30 (.tmp 4) (.tmp 20), _, _, _, _⟩) rfl 30 (.tmp 4) (.tmp 20) rfl w.heap.size zL.toArray rfl rfl 30 zL.toArray R0.out hsz.out rfl zo.out ?_)
    refine bodyPost_ret (results_30_1 (by kernel_rfl : Try.f8.results = #[.cell 4 30, .tmp 5]) _ _ w.heap.size zL rfl (setRow_heap _ _ _ _ _ _ R0.out) zl) rfl ?_
    exact ⟨rfl, HB.out⟩
  have d3 : decide (m < 0) = false := decide_eq_false h3
  have h4 : 12 < m := by omega
  have d4 : decide (m > 12) = true := decide_eq_true h4
  have d4' : decide (12 < m) = true := decide_eq_true h4
  clear h1 h2 h3 h4
  clear hb
  go_enter Try.func8, Try.ntmps8
  go_wp2_with (refine wpList_store_row (o := ⟨none, .store 30 (.tmp 4) (.tmp 20), _, _, _, _⟩) rfl 30 (.tmp 4) (.tmp 20) rfl w.heap.size zL.toArray rfl rfl 30 zL.toArray R0.out hsz.out rfl zo.out ?_)
  refine bodyPost_ret (results_30_1 (by kernel_rfl : Try.f8.results = #[.cell 4 30, .tmp 5]) _ _ w.heap.size zL rfl (setRow_heap _ _ _ _ _ _ R0.out) zl) rfl ?_
  exact ⟨rfl, HB.out⟩
theorem info_at {t : TypeId} {z : Value} {n b : Nat} (h : (Try.prog.info? t).map (fun i => (i.zero, i.size, i.bytes)) = some (some z, n, b)) : ∃ i, Try.prog.info? t = some i ∧ i.zero = some z ∧ i.size = n ∧ i.bytes = b := by
  obtain ⟨i, hi, hzz⟩ := Option.map_eq_some_iff.1 h
  simp only [Prod.mk.injEq] at hzz
  exact ⟨i, hi, hzz.1, hzz.2.1, hzz.2.2⟩
theorem make_h (n : Nat) (hn : n ≤ 5000) (w : World) : (Instr.makeSlice 27 (.int .i64 (n : Int)) (.int .i64 (n : Int))).run Try.prog w = .ok (.slice (some ⟨w.heap.size, 0, none⟩) n n) (w.alloc (.cells ((List.replicate n (0 : UInt32)).map U.bv).toArray 25)) := by
  obtain ⟨i, hi, h1, h2, h3⟩ := info_at U.Try.info25
  have hb' : (i.bytes : Int) * (n : Int) ≤ 281474976710656 := by rw [h3]; omega
  have hr := run_make (P := Try.prog) (w := w) 27 25 i _ Try.underlying27 hi h1 .i64 .i64 n n (by omega) (Int.le_refl _) hb' (by omega)
  simp only [Int.toNat_natCast, h2] at hr
  rw [hr]
  congr 3
  apply Array.ext'
  rw [U.made_cells n, List.map_replicate]
  rfl
theorem make_m (n : Nat) (hn : n ≤ 5000) (w : World) : (Instr.makeSlice 28 (.int .i64 (n : Int)) (.int .i64 (n : Int))).run Try.prog w = .ok (.slice (some ⟨w.heap.size, 0, none⟩) n n) (w.alloc (.cells ((List.replicate n (0 : UInt8)).map bv).toArray 5)) := by
  obtain ⟨i, hi, h1, h2, h3⟩ := info_at Try.info5
  have hb' : (i.bytes : Int) * (n : Int) ≤ 281474976710656 := by rw [h3]; omega
  have hr := run_make (P := Try.prog) (w := w) 28 5 i _ Try.underlying28 hi h1 .i64 .i64 n n (by omega) (Int.le_refl _) hb' (by omega)
  simp only [Int.toNat_natCast, h2] at hr
  rw [hr]
  congr 3
  apply Array.ext'
  rw [made_cells n, List.map_replicate]
  rfl
theorem sc30 (W : World) (b : Nat) (L : List Value) (hL : L.length = 263) (h1 : ∀ v ∈ L, v.oneCell' = true) (hg : W.heap[b]? = some (.cells zL.toArray 30 (0, 0))) :
    (storeCells ⟨b, 0, none⟩ L).run Try.prog W = .ok () (W.setRow b L.toArray) := by
  have := run_storeCells_at Try.prog b 0 30 L 0 zL.toArray W hg (by rw [hL, List.size_toArray]; exact Nat.le_of_eq (mc_len zM _ _).symm) h1
  simp only [Nat.add_zero, List.take_zero, List.nil_append, Nat.zero_add] at this
  rw [this]
  congr 2
  rw [List.drop_of_length_le (by rw [hL]; show zL.length ≤ 263; exact Nat.le_of_eq (mc_len zM _ _))]
  simp
theorem new_row (w : World) (o1 o2 : Obj) : (((w.alloc (Obj.cells zL.toArray 30)).alloc o1).alloc o2).drew.heap[w.heap.size]? = some (.cells zL.toArray 30 (0, 0)) := by
  have h := heap_alloc_new w (.cells zL.toArray 30)
  show (((w.alloc (Obj.cells zL.toArray 30)).alloc o1).alloc o2).heap[w.heap.size]? = _
  rw [heap_alloc_old _ _ (by simp; omega), heap_alloc_old _ _ (by simp)]
  exact h
theorem one30 (x : Mn) (A B : Option Addr) (n k c e : Nat) : ∀ v ∈ mcL x (.slice A n c) (.slice B k e), v.oneCell' = true := by
  have h := mc_one x A B n k c e
  rw [List.all_toArray, List.all_eq_true] at h
  exact h
theorem set30 (sh sm : Value) : (zL.set 261 sh).set 262 sm = mcL zM sh sm := by
  unfold zL
  rw [ms_h, ms_m]
/-- A new machine. -/
def nM (n k : Nat) : Mn := { zM with h := List.replicate n 0, m := List.replicate k 0 }
theorem new_end (w : World) (o1 o2 : Obj) (L : List Value) : ((((w.alloc (Obj.cells zL.toArray 30)).alloc o1).alloc o2).drew.setRow w.heap.size L.toArray).heap[w.heap.size]? = some (.cells L.toArray 30 (0, 0)) ∧
    ((((w.alloc (Obj.cells zL.toArray 30)).alloc o1).alloc o2).drew.setRow w.heap.size L.toArray).heap[w.heap.size + 1]? = some o1 ∧ ((((w.alloc (Obj.cells zL.toArray 30)).alloc o1).alloc o2).drew.setRow w.heap.size L.toArray).heap[w.heap.size + 1 + 1]? = some o2 ∧
    Below w.heap.size w ((((w.alloc (Obj.cells zL.toArray 30)).alloc o1).alloc o2).drew.setRow w.heap.size L.toArray) := by
  have hz : (w.alloc (Obj.cells zL.toArray 30)).heap.size = w.heap.size + 1 := by simp
  have hz2 : ((w.alloc (Obj.cells zL.toArray 30)).alloc o1).heap.size = w.heap.size + 1 + 1 := by simp
  have h1 := heap_alloc_new (w.alloc (Obj.cells zL.toArray 30)) o1
  have h2 := heap_alloc_new ((w.alloc (Obj.cells zL.toArray 30)).alloc o1) o2
  rw [hz] at h1
  rw [hz2] at h2
  refine ⟨setRow_heap _ _ _ _ _ _ (new_row w o1 o2), ?_, ?_, ?_⟩
  · rw [setRow_other _ _ _ _ (by omega)]
    exact (heap_alloc_old _ _ (by rw [hz2]; omega)).trans h1
  · rw [setRow_other _ _ _ _ (by omega)]
    exact h2
  · refine ⟨rfl, rfl, rfl, by rw [size_setRow]; show w.heap.size ≤ (((w.alloc (Obj.cells zL.toArray 30)).alloc o1).alloc o2).heap.size; simp; omega, fun i hi => ?_⟩
    rw [setRow_other _ _ _ _ (by omega)]
    show (((w.alloc (Obj.cells zL.toArray 30)).alloc o1).alloc o2).heap[i]? = _
    rw [heap_alloc_old _ _ (by rw [hz2]; omega), heap_alloc_old _ _ (by rw [hz]; omega), heap_alloc_old _ _ hi]
theorem own_rep25 {W : World} {g B A : Nat} (h : W.heap[g]? = some (.cells (Array.replicate A (U.bv 0)) 25 (0, 0))) (hB : B ≤ g) (hA : A ≤ 5000) : W.ownsRow B 25 1 (.slice (some ⟨g, 0, none⟩) A A) A ((List.replicate A (0 : UInt32)).map U.bv) :=
  ⟨by simp, .inr ⟨g, A, _, rfl, hB, h, Nat.le_refl _, by unfold maxLen; omega, by simp, by simp⟩⟩
theorem own_rep5 {W : World} {g B A : Nat} (h : W.heap[g]? = some (.cells (Array.replicate A (bv 0)) 5 (0, 0))) (hB : B ≤ g) (hA : A ≤ 5000) : W.ownsRow B 5 1 (.slice (some ⟨g, 0, none⟩) A A) A ((List.replicate A (0 : UInt8)).map bv) :=
  ⟨by simp, .inr ⟨g, A, _, rfl, hB, h, Nat.le_refl _, by unfold maxLen; omega, by simp, by simp⟩⟩
/-- Where New's machine lies: its numbers' block, its bytes' block. -/
def NewAt (w : World) (A B : Nat) (e : Ending) (w' : World) : Prop := ∃ g k, e = .returned (.tuple #[vM (nM A B) (.slice (some ⟨g, 0, none⟩) A A) (.slice (some ⟨k, 0, none⟩) B B), .int .i64 0]) ∧
    w'.ownsRow w.heap.size 25 1 (.slice (some ⟨g, 0, none⟩) A A) A ((nM A B).h.map U.bv) ∧ w'.ownsRow w.heap.size 5 1 (.slice (some ⟨k, 0, none⟩) B B) B ((nM A B).m.map bv) ∧ Below w.heap.size w w'
theorem new_at1 (w : World) (A B : Nat) (hA : A ≤ 5000) (hB : B ≤ 5000) (L : List Value) (hL : L = mcL zM (.slice (some ⟨w.heap.size + 1, 0, none⟩) A A) (.slice (some ⟨w.heap.size + 1 + 1, 0, none⟩) B B)) :
    ((((w.alloc (Obj.cells zL.toArray 30)).alloc (Obj.cells (Array.replicate A (U.bv 0)) 25)).alloc (Obj.cells (Array.replicate B (bv 0)) 5)).drew.setRow w.heap.size L.toArray).heap[w.heap.size]? = some (.cells L.toArray 30 (0, 0)) ∧ L.length = 263 ∧
    NewAt w A B (.returned (.tuple #[.agg L.toArray, .int .i64 0])) ((((w.alloc (Obj.cells zL.toArray 30)).alloc (Obj.cells (Array.replicate A (U.bv 0)) 25)).alloc (Obj.cells (Array.replicate B (bv 0)) 5)).drew.setRow w.heap.size L.toArray) := by
  obtain ⟨h1, h2, h3, h4⟩ := new_end w (Obj.cells (Array.replicate A (U.bv 0)) 25) (Obj.cells (Array.replicate B (bv 0)) 5) L
  refine ⟨h1, by rw [hL, mc_len], w.heap.size + 1, w.heap.size + 1 + 1, by rw [hL]; rfl, own_rep25 h2 (by omega) hA, own_rep5 h3 (by omega) hB, h4⟩
theorem new_at2 (w : World) (A B : Nat) (hA : A ≤ 5000) (hB : B ≤ 5000) (L : List Value) (hL : L = mcL zM (.slice (some ⟨w.heap.size + 1 + 1, 0, none⟩) A A) (.slice (some ⟨w.heap.size + 1, 0, none⟩) B B)) :
    ((((w.alloc (Obj.cells zL.toArray 30)).alloc (Obj.cells (Array.replicate B (bv 0)) 5)).alloc (Obj.cells (Array.replicate A (U.bv 0)) 25)).drew.setRow w.heap.size L.toArray).heap[w.heap.size]? = some (.cells L.toArray 30 (0, 0)) ∧ L.length = 263 ∧
    NewAt w A B (.returned (.tuple #[.agg L.toArray, .int .i64 0])) ((((w.alloc (Obj.cells zL.toArray 30)).alloc (Obj.cells (Array.replicate B (bv 0)) 5)).alloc (Obj.cells (Array.replicate A (U.bv 0)) 25)).drew.setRow w.heap.size L.toArray) := by
  obtain ⟨h1, h2, h3, h4⟩ := new_end w (Obj.cells (Array.replicate B (bv 0)) 5) (Obj.cells (Array.replicate A (U.bv 0)) 25) L
  refine ⟨h1, by rw [hL, mc_len], w.heap.size + 1 + 1, w.heap.size + 1, by rw [hL]; rfl, own_rep25 h3 (by omega) hA, own_rep5 h2 (by omega) hB, h4⟩
end Go.Proofs.Ytaogileaeflnfaa
/-
  The contract of New, where the numbers are right.
-/
set_option linter.unusedVariables false
set_option linter.unusedSimpArgs false
namespace Go.Proofs.Ytaogileaeflnfaa
open Go.RowKit

theorem i64n (n : Nat) (h : n ≤ 5000) : IntKind.i64.wrap (n : Int) = n ∧ wrap64 (n : Int) = n := ⟨IntWalk.i64_in _ (by omega), by unfold wrap64; omega⟩
set_option maxRecDepth 10000 in
set_option maxHeartbeats 8000000 in
theorem New_good (h m : Nat) (hh : h ≤ 8) (hm : m ≤ 12) (w : World) : Calls Try.prog 8 #[.int .i64 (h : Int), .int .i64 (m : Int)] w (NewAt w (2 ^ h) (2 ^ m)) := by
  have zv := zero30
  have zl : zL.length = 263 := mc_len _ _ _
  have q1 : 2 ^ h ≤ 5000 := Nat.le_trans (Nat.pow_le_pow_right (n := 2) (by omega) hh) (by decide)
  have q2 : 2 ^ m ≤ 5000 := Nat.le_trans (Nat.pow_le_pow_right (n := 2) (by omega) hm) (by decide)
  have p1 : (2 : Int) ^ h = ((2 ^ h : Nat) : Int) := (Int.natCast_pow 2 h).symm
  have p2 : (2 : Int) ^ m = ((2 ^ m : Nat) : Int) := (Int.natCast_pow 2 m).symm
  generalize 2 ^ h = A at q1 p1 ⊢
  generalize 2 ^ m = B at q2 p2 ⊢
  have e1 : wrap64 (2 ^ h) = (A : Int) := by rw [p1]; exact (i64n A q1).2
  have e2 : wrap64 (2 ^ m) = (B : Int) := by rw [p2]; exact (i64n B q2).2
  have e1' : IntKind.i64.wrap (2 ^ h) = (A : Int) := by rw [p1]; exact (i64n A q1).1
  have e2' : IntKind.i64.wrap (2 ^ m) = (B : Int) := by rw [p2]; exact (i64n B q2).1
  clear p1 p2
  have m1 := make_h A q1
  have m2 := make_m B q2
  have hz1 : (h : Int) ≤ 8 := Int.ofNat_le.2 hh
  have hz2 : (m : Int) ≤ 12 := Int.ofNat_le.2 hm
  have d1 : decide ((8 : Int) < (h : Int)) = false := decide_eq_false (Int.not_lt.2 hz1)
  have d2 : decide ((12 : Int) < (m : Int)) = false := decide_eq_false (Int.not_lt.2 hz2)
  have X1 : ∀ o1 o2, (storeCells ⟨w.heap.size, 0, none⟩ ((zL.set 261 (Value.slice (some ⟨w.heap.size + 1, 0, none⟩) A A)).set 262 (Value.slice (some ⟨w.heap.size + 1 + 1, 0, none⟩) B B))).run Try.prog (((w.alloc (Obj.cells zL.toArray 30)).alloc o1).alloc o2).drew = .ok () ((((w.alloc (Obj.cells zL.toArray 30)).alloc o1).alloc o2).drew.setRow w.heap.size (mcL zM (Value.slice (some ⟨w.heap.size + 1, 0, none⟩) A A) (Value.slice (some ⟨w.heap.size + 1 + 1, 0, none⟩) B B)).toArray) := fun o1 o2 => by
    rw [set30]
    exact sc30 _ _ _ (mc_len _ _ _) (one30 _ _ _ _ _ _ _) (new_row w o1 o2)
  have X2 : ∀ o1 o2, (storeCells ⟨w.heap.size, 0, none⟩ ((zL.set 261 (Value.slice (some ⟨w.heap.size + 1 + 1, 0, none⟩) A A)).set 262 (Value.slice (some ⟨w.heap.size + 1, 0, none⟩) B B))).run Try.prog (((w.alloc (Obj.cells zL.toArray 30)).alloc o1).alloc o2).drew = .ok () ((((w.alloc (Obj.cells zL.toArray 30)).alloc o1).alloc o2).drew.setRow w.heap.size (mcL zM (Value.slice (some ⟨w.heap.size + 1 + 1, 0, none⟩) A A) (Value.slice (some ⟨w.heap.size + 1, 0, none⟩) B B)).toArray) := fun o1 o2 => by
    rw [set30]
    exact sc30 _ _ _ (mc_len _ _ _) (one30 _ _ _ _ _ _ _) (new_row w o1 o2)
  have Y1 := hid (new_at1 w A B q1 q2 _ rfl)
  have Y2 := hid (new_at2 w A B q1 q2 _ rfl)
  generalize mcL zM (Value.slice (some ⟨w.heap.size + 1, 0, none⟩) A A) (Value.slice (some ⟨w.heap.size + 1 + 1, 0, none⟩) B B) = L1 at *
  generalize mcL zM (Value.slice (some ⟨w.heap.size + 1 + 1, 0, none⟩) A A) (Value.slice (some ⟨w.heap.size + 1, 0, none⟩) B B) = L2 at *
  generalize zL = Z at *
  go_enter Try.func8, Try.ntmps8
  go_upto_region 3 with fail
  go_region
  · go_wp2_with fail
    refine bodyPost_ret (results_30_1 (by kernel_rfl : Try.f8.results = #[.cell 4 30, .tmp 5]) _ _ w.heap.size L1 rfl Y1.out.1 Y1.out.2.1) rfl ?_
    exact Y1.out.2.2
  · go_wp2_with fail
    refine bodyPost_ret (results_30_1 (by kernel_rfl : Try.f8.results = #[.cell 4 30, .tmp 5]) _ _ w.heap.size L2 rfl Y2.out.1 Y2.out.2.1) rfl ?_
    exact Y2.out.2.2
end Go.Proofs.Ytaogileaeflnfaa
