/-
  Merged: Vdc Vdk Vdl.
-/
import Derived.Test.YtaogileaeflnfaaMn
import Derived.Test.YtaogileaeflnfaaMd
import Derived.Test.YtaogileaeflnfaaDwx
import Derived.Test.YtaogileaeflnfaaSmm
import Derived.Test.YtaogileaeflnfaaMg
import Derived.Test.YtaogileaeflnfaaMw
import Derived.Deep.RegionHeld
import Derived.Deep.MidRow
/-
  The document's New.
-/
set_option linter.unusedVariables false
set_option linter.unusedSimpArgs false
namespace Go.Proofs.Ytaogileaeflnfaa
open Go.RowKit

theorem two_step {i k p m : Nat} (hp : p = 2 ^ i) (hi : i < k) (hk : k ≤ m) : p * 2 = 2 ^ (i + 1) ∧ p * 2 ≤ 2 ^ m ∧ p ≤ 2 ^ m := by
  subst hp
  have h1 : 2 ^ i * 2 = 2 ^ (i + 1) := (Nat.pow_succ 2 i).symm
  exact ⟨h1, by rw [h1]; exact Nat.pow_le_pow_right (n := 2) (by omega) (by omega), Nat.pow_le_pow_right (n := 2) (by omega) (by omega)⟩
set_option maxRecDepth 10000 in
set_option maxHeartbeats 8000000 in
theorem RNew_good (h m : Nat) (hh : h ≤ 8) (hm : m ≤ 12) (w : World) : Calls Try.prog 9 #[.int .i64 (h : Int), .int .i64 (m : Int)] w (NewAt w (2 ^ h) (2 ^ m)) := by
  have zv := zero30
  have zl : zL.length = 263 := mc_len _ _ _
  have q1 : 2 ^ h ≤ 5000 := Nat.le_trans (Nat.pow_le_pow_right (n := 2) (by omega) hh) (by decide)
  have q2 : 2 ^ m ≤ 5000 := Nat.le_trans (Nat.pow_le_pow_right (n := 2) (by omega) hm) (by decide)
  have HH : Hid (∀ i p, p = 2 ^ i → i < h → p * 2 = 2 ^ (i + 1) ∧ p * 2 ≤ 256 ∧ p ≤ 256) := fun i p a b => two_step a b hh
  have HM : Hid (∀ i p, p = 2 ^ i → i < m → p * 2 = 2 ^ (i + 1) ∧ p * 2 ≤ 4096 ∧ p ≤ 4096) := fun i p a b => two_step a b hm
  obtain ⟨A, hA⟩ : ∃ A, 2 ^ h = A := ⟨_, rfl⟩
  obtain ⟨B, hB⟩ : ∃ B, 2 ^ m = B := ⟨_, rfl⟩
  rw [hA] at q1 ⊢
  rw [hB] at q2 ⊢
  replace hA := hid hA
  replace hB := hid hB
  have m1 := make_h A q1
  have m2 := make_m B q2
  have hz1 : (h : Int) ≤ 8 := Int.ofNat_le.2 hh
  have hz2 : (m : Int) ≤ 12 := Int.ofNat_le.2 hm
  have d1 : decide ((8 : Int) < (h : Int)) = false := decide_eq_false (Int.not_lt.2 hz1)
  have d2 : decide ((12 : Int) < (m : Int)) = false := decide_eq_false (Int.not_lt.2 hz2)
  have X1 : ∀ o1 o2, (storeCells ⟨w.heap.size, 0, none⟩ ((zL.set 261 (Value.slice (some ⟨w.heap.size + 1, 0, none⟩) A A)).set 262 (Value.slice (some ⟨w.heap.size + 1 + 1, 0, none⟩) B B))).run Try.prog (((w.alloc (Obj.cells zL.toArray 30)).alloc o1).alloc o2).drew = .ok () ((((w.alloc (Obj.cells zL.toArray 30)).alloc o1).alloc o2).drew.setRow w.heap.size (mcL zM (Value.slice (some ⟨w.heap.size + 1, 0, none⟩) A A) (Value.slice (some ⟨w.heap.size + 1 + 1, 0, none⟩) B B)).toArray) := fun o1 o2 => by
    rw [set30]
    exact sc30 _ _ _ (mc_len _ _ _) (one30 _ _ _ _ _ _ _) (new_row w o1 o2)
  have X2 : ∀ o1 o2, (storeCells ⟨w.heap.size, 0, none⟩ ((zL.set 261 (Value.slice (some ⟨w.heap.size + 1 + 1, 0, none⟩) A A)).set 262 (Value.slice (some ⟨w.heap.size + 1, 0, none⟩) B B))).run Try.prog (((w.alloc (Obj.cells zL.toArray 30)).alloc o1).alloc o2).drew = .ok () ((((w.alloc (Obj.cells zL.toArray 30)).alloc o1).alloc o2).drew.setRow w.heap.size (mcL zM (Value.slice (some ⟨w.heap.size + 1 + 1, 0, none⟩) A A) (Value.slice (some ⟨w.heap.size + 1, 0, none⟩) B B)).toArray) := fun o1 o2 => by
    rw [set30]
    exact sc30 _ _ _ (mc_len _ _ _) (one30 _ _ _ _ _ _ _) (new_row w o1 o2)
  have Y1 := hid (new_at1 w A B q1 q2 _ rfl)
  have Y2 := hid (new_at2 w A B q1 q2 _ rfl)
  generalize mcL zM (Value.slice (some ⟨w.heap.size + 1, 0, none⟩) A A) (Value.slice (some ⟨w.heap.size + 1 + 1, 0, none⟩) B B) = L1 at *
  generalize mcL zM (Value.slice (some ⟨w.heap.size + 1 + 1, 0, none⟩) A A) (Value.slice (some ⟨w.heap.size + 1, 0, none⟩) B B) = L2 at *
  generalize zL = Z at *
  go_enter Try.func9, Try.ntmps9
  go_upto_region 5 with fail
  go_loopw [6, 8] (fun vp vi wr => ∃ i p : Nat, i ≤ h ∧ p ≤ 256 ∧ Hid (p = 2 ^ i) ∧ vp = .int .i64 (p : Int) ∧ vi = .int .i64 (i : Int) ∧ wr = w.alloc (Obj.cells Z.toArray 30)) (fun _ vi _ => 14 - (intOf vi).toNat)
  case atStart => exact ⟨0, 1, by omega, by omega, rfl, rfl, rfl, rfl⟩
  case round =>
    obtain ⟨i, p, hi, hp, HP, rfl, rfl, rfl⟩ := hrel
    by_cases hlt : i < h
    · have hz : (i : Int) < (h : Int) := by omega
      obtain ⟨g1, g2, g3⟩ := HH.out i p HP.out hlt
      replace g1 := hid g1
      go_wp2_with fail
      go_roundw
      case rel => exact ⟨i + 1, p * 2, by omega, g2, g1, by go_num, by go_num, trivial⟩
      case measure => simp [intOf]; omega
    · obtain rfl : i = h := by omega
      obtain rfl : p = A := by rw [HP.out]; exact hA.out
      clear HP
      go_upto_region 9 with fail
      go_loopw [7, 9] (fun vp vi wr => ∃ i p : Nat, i ≤ m ∧ p ≤ 4096 ∧ Hid (p = 2 ^ i) ∧ vp = .int .i64 (p : Int) ∧ vi = .int .i64 (i : Int) ∧ wr = w.alloc (Obj.cells Z.toArray 30)) (fun _ vi _ => 14 - (intOf vi).toNat)
      case atStart => exact ⟨0, 1, by omega, by omega, rfl, rfl, rfl, rfl⟩
      case round =>
        obtain ⟨j, q, hj, hq, HQ, rfl, rfl, rfl⟩ := hrel
        by_cases hlt : j < m
        · have hz : (j : Int) < (m : Int) := by omega
          obtain ⟨g1, g2, g3⟩ := HM.out j q HQ.out hlt
          replace g1 := hid g1
          go_wp2_with fail
          go_roundw
          case rel => exact ⟨j + 1, q * 2, by omega, g2, g1, by go_num, by go_num, trivial⟩
          case measure => simp [intOf]; omega
        · obtain rfl : j = m := by omega
          obtain rfl : q = B := by rw [HQ.out]; exact hB.out
          clear HQ
          go_upto_region 12 with fail
          go_region
          · go_wp2_with fail
            refine bodyPost_ret (results_30_1 (by kernel_rfl : Try.f9.results = #[.cell 4 30, .tmp 5]) _ _ w.heap.size L1 rfl Y1.out.1 Y1.out.2.1) rfl ?_
            exact Y1.out.2.2
          · go_wp2_with fail
            refine bodyPost_ret (results_30_1 (by kernel_rfl : Try.f9.results = #[.cell 4 30, .tmp 5]) _ _ w.heap.size L2 rfl Y2.out.1 Y2.out.2.1) rfl ?_
            exact Y2.out.2.2
set_option maxRecDepth 10000 in
set_option maxHeartbeats 8000000 in
theorem RNew_bad (h m : Int) (hb : ¬ (0 ≤ h ∧ h ≤ 8 ∧ 0 ≤ m ∧ m ≤ 12)) (w : World) : Calls Try.prog 9 #[.int .i64 h, .int .i64 m] w fun e w' => e = .returned (.tuple #[vM zM (.slice none 0 0) (.slice none 0 0), .int .i64 2]) ∧ Below w.heap.size w w' := by
  have zv := zero30
  have zl : zL.length = 263 := mc_len _ _ _
  have hsz := hid (size30 zL.toArray (by rw [List.size_toArray, zl]))
  have zo := hid zo
  have R0 := hid (heap_alloc_new w (.cells zL.toArray 30))
  have HB : Hid (Below w.heap.size w ((w.alloc (.cells zL.toArray 30)).setRow w.heap.size zL.toArray)) := hid (by
    refine ⟨rfl, rfl, rfl, by rw [size_setRow]; simp, fun i hi => ?_⟩
    rw [setRow_other _ _ _ _ (by omega)]
    exact heap_alloc_old _ _ hi)
  by_cases h1 : h < 0
  · have d1 : decide (h < 0) = true := decide_eq_true h1
    clear h1
    clear hb
    go_enter Try.func9, Try.ntmps9
    go_wp2_with (refine wpList_store_row (o := ⟨none, .store 30 (.tmp 4) (.tmp 24), _, _, _, _⟩) rfl 30 (.tmp 4) (.tmp 24) rfl w.heap.size zL.toArray rfl rfl 30 zL.toArray R0.out hsz.out rfl zo.out ?_)
    refine bodyPost_ret (results_30_1 (by kernel_rfl : Try.f9.results = #[.cell 4 30, .tmp 5]) _ _ w.heap.size zL rfl (setRow_heap _ _ _ _ _ _ R0.out) zl) rfl ?_
    exact ⟨rfl, HB.out⟩
  have d1 : decide (h < 0) = false := decide_eq_false h1
  by_cases h2 : 8 < h
  · have d2 : decide (h > 8) = true := decide_eq_true h2
    have d2' : decide (8 < h) = true := decide_eq_true h2
    clear h1 h2
    clear hb
    go_enter Try.func9, Try.ntmps9
    go_wp2_with (refine wpList_store_row (o := ⟨none, .store 30 (.tmp 4) (.tmp 24), _, _, _, _⟩) rfl 30 (.tmp 4) (.tmp 24) rfl w.heap.size zL.toArray rfl rfl 30 zL.toArray R0.out hsz.out rfl zo.out ?_)
    refine bodyPost_ret (results_30_1 (by kernel_rfl : Try.f9.results = #[.cell 4 30, .tmp 5]) _ _ w.heap.size zL rfl (setRow_heap _ _ _ _ _ _ R0.out) zl) rfl ?_
    exact ⟨rfl, HB.out⟩
  have d2 : decide (h > 8) = false := decide_eq_false h2
  have d2' : decide (8 < h) = false := decide_eq_false h2
  by_cases h3 : m < 0
  · have d3 : decide (m < 0) = true := decide_eq_true h3
    clear h1 h2 h3
    clear hb
    go_enter Try.func9, Try.ntmps9
    go_wp2_with (refine wpList_store_row (o := ⟨none, .store 30 (.tmp 4) (.tmp 24), _, _, _, _⟩) rfl 30 (.tmp 4) (.tmp 24) rfl w.heap.size zL.toArray rfl rfl 30 zL.toArray R0.out hsz.out rfl zo.out ?_)
    refine bodyPost_ret (results_30_1 (by kernel_rfl : Try.f9.results = #[.cell 4 30, .tmp 5]) _ _ w.heap.size zL rfl (setRow_heap _ _ _ _ _ _ R0.out) zl) rfl ?_
    exact ⟨rfl, HB.out⟩
  have d3 : decide (m < 0) = false := decide_eq_false h3
  have h4 : 12 < m := by omega
  have d4 : decide (m > 12) = true := decide_eq_true h4
  have d4' : decide (12 < m) = true := decide_eq_true h4
  clear h1 h2 h3 h4
  clear hb
  go_enter Try.func9, Try.ntmps9
  go_wp2_with (refine wpList_store_row (o := ⟨none, .store 30 (.tmp 4) (.tmp 24), _, _, _, _⟩) rfl 30 (.tmp 4) (.tmp 24) rfl w.heap.size zL.toArray rfl rfl 30 zL.toArray R0.out hsz.out rfl zo.out ?_)
  refine bodyPost_ret (results_30_1 (by kernel_rfl : Try.f9.results = #[.cell 4 30, .tmp 5]) _ _ w.heap.size zL rfl (setRow_heap _ _ _ _ _ _ R0.out) zl) rfl ?_
  exact ⟨rfl, HB.out⟩
end Go.Proofs.Ytaogileaeflnfaa
/-
  VmDoes: what lies in memory; New of both sides, Do, SameMachine in one form.
-/
set_option linter.unusedVariables false
set_option linter.unusedSimpArgs false
namespace Go.Proofs.Ytaogileaeflnfaa
open Go.RowKit

/-- A machine in block g with lists of its own (which may be nil). -/
structure OM (V : World) (B g : Nat) (x : Mn) (AH : Option Addr) (nH cH : Nat) (AM : Option Addr) (nM cM : Nat) : Prop where
  row : V.heap[g]? = some (.cells (mcL x (.slice AH nH cH) (.slice AM nM cM)).toArray 30 (0, 0))
  h : V.ownsRow B 25 1 (.slice AH nH cH) nH (x.h.map U.bv)
  m : V.ownsRow B 5 1 (.slice AM nM cM) nM (x.m.map bv)
section
variable {V W : World} {B g : Nat} {x : Mn} {AH AM : Option Addr} {nH cH nM cM : Nat}
theorem OM.below (h : OM V B g x AH nH cH AM nM cM) (b : Below V.heap.size V W) : OM W B g x AH nH cH AM nM cM := ⟨(b.block _ (lt_of_heap h.row)).trans h.row, own_below h.h b, own_below h.m b⟩
theorem OM.start (h : V.ownsRow B 25 1 (.slice AH nH cH) nH (x.h.map U.bv)) (m : V.ownsRow B 5 1 (.slice AM nM cM) nM (x.m.map bv)) : OM (Stw V (mcL x (.slice AH nH cH) (.slice AM nM cM))) B V.heap.size x AH nH cH AM nM cM :=
  ⟨setRow_heap _ _ _ _ _ _ (heap_alloc_new V _), own_below h (Stw.bel V _), own_below m (Stw.bel V _)⟩
theorem OM.isH (h : OM V B g x AH nH cH AM nM cM) (hs : nH ≤ 1000000) : U.IsBB V V.heap.size AH nH cH x.h := U.own_isB2 h.h (by omega)
theorem OM.isM (h : OM V B g x AH nH cH AM nM cM) (hs : nM ≤ 1000000) : IsBB V V.heap.size AM nM cM x.m := own_isB2 h.m (by omega)
end
/-- The law's boxes: an instruction, a machine, two numbers. -/
structure V3 (w V : World) (L : List Value) (o d s n a0 a1 : Int) : Prop where
  b0 : V.heap[w.heap.size]? = some (.cells #[.int .u8 o, .int .i64 d, .int .i64 s, .int .i64 n] 24 (0, 0))
  b1 : V.heap[w.heap.size + 1]? = some (.cells L.toArray 30 (0, 0))
  b2 : V.heap[w.heap.size + 2]? = some (.cells #[.int .i64 a0, .int .i64 a1] 31 (0, 0))
  bel : Below w.heap.size w V
section
variable {w V W : World} {L : List Value} {o d s n a0 a1 : Int}
theorem V3.start (w : World) (L : List Value) (o d s n a0 a1 : Int) : V3 w (((w.alloc (.cells #[.int .u8 o, .int .i64 d, .int .i64 s, .int .i64 n] 24)).alloc (.cells L.toArray 30)).alloc (.cells #[.int .i64 a0, .int .i64 a1] 31)) L o d s n a0 a1 := by
  obtain ⟨W1, e1⟩ : ∃ W1, w.alloc (.cells #[.int .u8 o, .int .i64 d, .int .i64 s, .int .i64 n] 24) = W1 := ⟨_, rfl⟩
  have h1 := heap_alloc_new w (.cells #[.int .u8 o, .int .i64 d, .int .i64 s, .int .i64 n] 24)
  have z1 : W1.heap.size = w.heap.size + 1 := by rw [← e1]; simp
  rw [e1] at h1 ⊢
  obtain ⟨W2, e2⟩ : ∃ W2, W1.alloc (.cells L.toArray 30) = W2 := ⟨_, rfl⟩
  have h2 := heap_alloc_new W1 (.cells L.toArray 30)
  have z2 : W2.heap.size = w.heap.size + 2 := by rw [← e2]; simp [z1]
  have k2 := (heap_alloc_old W1 (.cells L.toArray 30) (lt_of_heap h1)).trans h1
  rw [e2] at k2
  rw [e2] at h2 ⊢
  rw [z1] at h2
  have h3 := heap_alloc_new W2 (.cells #[.int .i64 a0, .int .i64 a1] 31)
  rw [z2] at h3
  refine ⟨(heap_alloc_old _ _ (lt_of_heap k2)).trans k2, (heap_alloc_old _ _ (lt_of_heap h2)).trans h2, h3, ?_⟩
  rw [← e2, ← e1]
  exact (((Below.refl _ w).alloc (Nat.le_refl _) _).alloc (by simp) _).alloc (by simp; omega) _
theorem V3.below (h : V3 w V L o d s n a0 a1) (b : Below V.heap.size V W) : V3 w W L o d s n a0 a1 :=
  ⟨(b.block _ (lt_of_heap h.b0)).trans h.b0, (b.block _ (lt_of_heap h.b1)).trans h.b1, (b.block _ (lt_of_heap h.b2)).trans h.b2, bel_trans h.bel b⟩
theorem V3.cells (h : V3 w V L o d s n a0 a1) : V.cell? ⟨w.heap.size, 0, none⟩ = some (.int .u8 o) ∧ V.cell? ⟨w.heap.size, 1, none⟩ = some (.int .i64 d) ∧ V.cell? ⟨w.heap.size, 2, none⟩ = some (.int .i64 s) ∧ V.cell? ⟨w.heap.size, 3, none⟩ = some (.int .i64 n) :=
  ⟨row_cell h.b0 0, row_cell h.b0 1, row_cell h.b0 2, row_cell h.b0 3⟩
theorem V3.nums (h : V3 w V L o d s n a0 a1) : V.cell? ⟨w.heap.size + 2, 0, none⟩ = some (.int .i64 a0) ∧ V.cell? ⟨w.heap.size + 2, 1, none⟩ = some (.int .i64 a1) := ⟨row_cell h.b2 0, row_cell h.b2 1⟩
end
/-- What both News tell. -/
def NewPost (w : World) (y : Mn) (A B : Nat) (er : Int) (e : Ending) (w' : World) : Prop := ∃ AH cH AM cM, e = .returned (.tuple #[vM y (.slice AH A cH) (.slice AM B cM), .int .i64 er]) ∧
  w'.ownsRow w.heap.size 25 1 (.slice AH A cH) A (y.h.map U.bv) ∧ w'.ownsRow w.heap.size 5 1 (.slice AM B cM) B (y.m.map bv) ∧ Below w.heap.size w w'
theorem new_post (a b : Int) : ∃ (y : Mn) (A B : Nat) (er : Int), A ≤ 5000 ∧ B ≤ 5000 ∧ (∀ w, Calls Try.prog 8 #[.int .i64 a, .int .i64 b] w (NewPost w y A B er)) ∧ (∀ w, Calls Try.prog 9 #[.int .i64 a, .int .i64 b] w (NewPost w y A B er)) := by
  by_cases h : 0 ≤ a ∧ a ≤ 8 ∧ 0 ≤ b ∧ b ≤ 12
  · obtain ⟨i, rfl⟩ : ∃ i : Nat, a = i := ⟨a.toNat, by omega⟩
    obtain ⟨j, rfl⟩ : ∃ j : Nat, b = j := ⟨b.toNat, by omega⟩
    have hi : i ≤ 8 := by omega
    have hj : j ≤ 12 := by omega
    refine ⟨nM (2 ^ i) (2 ^ j), 2 ^ i, 2 ^ j, 0, Nat.le_trans (Nat.pow_le_pow_right (n := 2) (by omega) hi) (by decide), Nat.le_trans (Nat.pow_le_pow_right (n := 2) (by omega) hj) (by decide), fun w => ?_, fun w => ?_⟩
    · exact (New_good i j hi hj w).mono fun e w' ⟨g, k, e1, o1, o2, b⟩ => ⟨_, _, _, _, e1, o1, o2, b⟩
    · exact (RNew_good i j hi hj w).mono fun e w' ⟨g, k, e1, o1, o2, b⟩ => ⟨_, _, _, _, e1, o1, o2, b⟩
  · refine ⟨zM, 0, 0, 2, by omega, by omega, fun w => ?_, fun w => ?_⟩
    · exact (New_bad a b h w).mono fun e w' ⟨e1, b⟩ => ⟨none, 0, none, 0, e1, World.ownsRow_nil _ _ _ _, World.ownsRow_nil _ _ _ _, b⟩
    · exact (RNew_bad a b h w).mono fun e w' ⟨e1, b⟩ => ⟨none, 0, none, 0, e1, World.ownsRow_nil _ _ _ _, World.ownsRow_nil _ _ _ _, b⟩
/-- All that region 7 reads. -/
structure VS (w V : World) (B : Nat) (L : List Value) (o d s n a0 a1 : Int) (x y z : Mn) (g7 : Nat) (A7 : Option Addr) (n7 c7 : Nat) (M7 : Option Addr) (m7 k7 : Nat) (g8 : Nat) (A8 : Option Addr) (n8 c8 : Nat) (M8 : Option Addr) (m8 k8 : Nat) (g9 : Nat) (A9 : Option Addr) (c9 : Nat) (M9 : Option Addr) (k9 : Nat)
    (C : Nat) (ga : Nat) (Aa : Option Addr) (ca : Nat) (Ma : Option Addr) (ka : Nat) : Prop where
  v : V3 w V L o d s n a0 a1
  i : OM V B g7 x A7 n7 c7 M7 m7 k7
  e : OM V B g8 y A8 n8 c8 M8 m8 k8
  f : OM V B g9 y A9 n8 c9 M9 m8 k9
  a : OM V C ga z Aa n7 ca Ma m7 ka
section
variable {w V W : World} {B : Nat} {L : List Value} {o d s n a0 a1 : Int} {x y z : Mn} {g7 : Nat} {A7 : Option Addr} {n7 c7 : Nat} {M7 : Option Addr} {m7 k7 : Nat} {g8 : Nat} {A8 : Option Addr} {n8 c8 : Nat} {M8 : Option Addr} {m8 k8 : Nat} {g9 : Nat} {A9 : Option Addr} {c9 : Nat} {M9 : Option Addr} {k9 : Nat}
    {C : Nat} {ga : Nat} {Aa : Option Addr} {ca : Nat} {Ma : Option Addr} {ka : Nat}
theorem VS.below (h : VS w V B L o d s n a0 a1 x y z g7 A7 n7 c7 M7 m7 k7 g8 A8 n8 c8 M8 m8 k8 g9 A9 c9 M9 k9 C ga Aa ca Ma ka) (b : Below V.heap.size V W) : VS w W B L o d s n a0 a1 x y z g7 A7 n7 c7 M7 m7 k7 g8 A8 n8 c8 M8 m8 k8 g9 A9 c9 M9 k9 C ga Aa ca Ma ka :=
  ⟨h.v.below b, h.i.below b, h.e.below b, h.f.below b, h.a.below b⟩
end
theorem row_range {V : World} {g : Nat} {L : List Value} {t : TypeId} (h : V.heap[g]? = some (.cells L.toArray t (0, 0))) : V.rangeAt g 0 L := by
  intro j v hv
  rw [row_get h, Nat.zero_add]
  exact hv
/-- The machine that Do made, while its lists are changed. -/
structure LA (W5 V : World) (g : Nat) (z : Mn) (Aa : Option Addr) (nH ca : Nat) (Ma : Option Addr) (nM ka : Nat) : Prop where
  a : OM V W5.heap.size g z Aa nH ca Ma nM ka
  bel : Below W5.heap.size W5 V
theorem u8_inc (b : UInt8) : ((b + 1).toNat : Int) = ((b.toNat : Int) + 1) % 256 := by
  rw [UInt8.toNat_add, Int.natCast_emod]; rfl
section
variable {W5 V : World} {g : Nat} {z : Mn} {Aa Ma : Option Addr} {nH ca nM ka : Nat}
theorem own_heap {w : World} {B e n c : Nat} {g : Nat} {xs : List Value} (h : w.ownsRow B e 1 (.slice (some ⟨g, 0, none⟩) n c) n xs) : ∃ cs fz, w.heap[g]? = some (.cells cs e fz) := by
  rcases h.2 with ⟨h1, _⟩ | ⟨g', cap, cur, hv, _, hh, _⟩
  · cases h1
  · injection hv with e1
    injection e1 with e1
    injection e1 with e1
    subst e1
    exact ⟨_, _, hh⟩
theorem LA.m_facts (h : LA W5 V g z Aa nH ca Ma nM ka) (hs : nM ≤ 1000000) (k : Nat) (hk : k < nM) : ∃ (mb : Nat) (b : UInt8), Ma = some ⟨mb, 0, none⟩ ∧ V.cell? ⟨mb, k, none⟩ = some (.int .u8 (b.toNat : Nat)) ∧ V.frozen? ⟨mb, k, none⟩ = false ∧ Hid (LA W5 (V.setCell ⟨mb, k, none⟩ (bv (b + 1))) g { z with m := z.m.set k (b + 1) } Aa nH ca Ma nM ka) := by
  obtain ⟨mb, rfl⟩ := own_some h.a.m (by omega)
  obtain ⟨cs, fz, hh⟩ := own_heap h.a.m
  have hb : W5.heap.size ≤ mb := (h.a.m.lt mb rfl).1
  obtain ⟨p, e, c⟩ := (h.a.isM hs).toIsB.at k hk
  injection e with e
  subst e
  rw [Addr.add_lit, Nat.zero_add] at c
  refine ⟨mb, z.m.getD k 0, rfl, c, own_free h.a.m, ⟨?_, own_off h.a.h _ _ (own_ng h.a.h hh (by decide)), ?_⟩, below_set h.bel _ _ hb⟩
  · rw [Below.heap_setCell _ _ _ _ (show g ≠ mb from fun e => own_ng h.a.m h.a.row (by decide) (by rw [e]; rfl))]
    exact h.a.row
  · have := own_put h.a.m hk (bv (z.m.getD k 0 + 1))
    rw [map_set] at this
    exact this
theorem LA.h_facts (h : LA W5 V g z Aa nH ca Ma nM ka) (hs : nH ≤ 1000000) (k : Nat) (hk : k < nH) : ∃ (mb : Nat) (b : UInt32), Aa = some ⟨mb, 0, none⟩ ∧ V.cell? ⟨mb, k, none⟩ = some (.int .u32 (b.toNat : Nat)) ∧ V.frozen? ⟨mb, k, none⟩ = false ∧ Hid (LA W5 (V.setCell ⟨mb, k, none⟩ (U.bv (b + 1))) g { z with h := z.h.set k (b + 1) } Aa nH ca Ma nM ka) := by
  obtain ⟨mb, rfl⟩ := own_some h.a.h (by omega)
  obtain ⟨cs, fz, hh⟩ := own_heap h.a.h
  have hb : W5.heap.size ≤ mb := (h.a.h.lt mb rfl).1
  obtain ⟨p, e, c⟩ := (h.a.isH hs).toIsB.at k hk
  injection e with e
  subst e
  rw [Addr.add_lit, Nat.zero_add] at c
  refine ⟨mb, z.h.getD k 0, rfl, c, own_free h.a.h, ⟨?_, ?_, own_off h.a.m _ _ (own_ng h.a.m hh (by decide))⟩, below_set h.bel _ _ hb⟩
  · rw [Below.heap_setCell _ _ _ _ (show g ≠ mb from fun e => own_ng h.a.h h.a.row (by decide) (by rw [e]; rfl))]
    exact h.a.row
  · have := own_put h.a.h hk (U.bv (z.h.getD k 0 + 1))
    rw [map_set] at this
    exact this
theorem LA.cells (h : LA W5 V g z Aa nH ca Ma nM ka) : V.cell? ⟨g, 261, none⟩ = some (.slice Aa nH ca) ∧ V.cell? ⟨g, 262, none⟩ = some (.slice Ma nM ka) := ⟨(row_get h.a.row 261).trans (mc_h _ _ _), (row_get h.a.row 262).trans (mc_m _ _ _)⟩
end
end Go.Proofs.Ytaogileaeflnfaa
/-
  VmDoes: its walk (written by tools/stage17/gen_vdl.py).
-/
set_option linter.unusedVariables false
set_option linter.unusedSimpArgs false
namespace Go.Proofs.Ytaogileaeflnfaa
open Go.RowKit

set_option maxRecDepth 10000 in
set_option maxHeartbeats 16000000 in
theorem does_big (w : World) (x : Mn) (o d s n a0 a1 : Int) (AH AM : Option Addr) (nH cH nM cM : Nat) (h1 : nH ≤ 9223372036854775807) (h2 : nM ≤ 9223372036854775807) (hl : largeN nH nM = true) (HAw : Hid (∀ w, Calls Try.prog 6 #[] w fun e w' => e = .returned (.bool true) ∧ Below w.heap.size w w')) :
    Calls Try.prog 3 #[vI o d s n, vM x (.slice AH nH cH) (.slice AM nM cM), .agg #[.int .i64 a0, .int .i64 a1]] w fun e w' => e = .returned (.bool true) ∧ Below w.heap.size w w' := by
  have zv := zero30
  have hsz := hid (size30 _ (mc_size x (.slice AH nH cH) (.slice AM nM cM)))
  have HL := hid (fun w => large_any w x AH AM nH cH nM cM h1 h2)
  rw [hl] at HL
  have H0 := hid (V3.start w (mcL x (.slice AH nH cH) (.slice AM nM cM)) o d s n a0 a1)
  unfold vM at HL ⊢
  unfold vI
  generalize mcL x (.slice AH nH cH) (.slice AM nM cM) = L at *
  go_enter Try.func3, Try.ntmps3
  go_upto_region 1 with fail
  generalize (((w.alloc _).alloc (.cells L.toArray 30)).alloc _) = W0 at *
  have HL0 := hid (HL.out W0)
  go_wp2_with (first
    | (refine wpList_load_row rfl 30 (.tmp 4) rfl (w.heap.size + 1) rfl 30 L.toArray (0, 0) _ H0.out.b1 Try.underlying30 rfl hsz.out ?_)
    | (go_at_call 5; refine HL0.out.mono ?_; rintro r W1 ⟨rfl, b1⟩)
    | (go_at_call 6; refine (HAw.out _).mono ?_; rintro r W9 ⟨rfl, b9⟩))
  go_ret
  exact ⟨rfl, bel_trans (bel_trans H0.out.bel b1) b9⟩
set_option maxRecDepth 10000 in
set_option maxHeartbeats 32000000 in
theorem does_small (w : World) (x : Mn) (o d s n a0 a1 : Int) (ho : 0 ≤ o) (AH AM : Option Addr) (nH cH nM cM : Nat) (h : U.IsBB w w.heap.size AH nH cH x.h) (hm : IsBB w w.heap.size AM nM cM x.m) (h1 : nH ≤ 300) (h2 : nM ≤ 5000) (HAw : Hid (∀ w, Calls Try.prog 6 #[] w fun e w' => e = .returned (.bool true) ∧ Below w.heap.size w w')) :
    Calls Try.prog 3 #[vI o d s n, vM x (.slice AH nH cH) (.slice AM nM cM), .agg #[.int .i64 a0, .int .i64 a1]] w fun e w' => e = .returned (.bool true) ∧ Below w.heap.size w w' := by
  have zv := zero30
  have zl : zL.length = 263 := mc_len _ _ _
  have hzLt := hid (size30 _ (mc_size x (.slice AH nH cH) (.slice AM nM cM)))
  have HL := hid (fun w => large_any w x AH AM nH cH nM cM (by omega) (by omega))
  have hlg : largeN nH nM = false := by unfold largeN; rw [decide_eq_false (by omega), decide_eq_false (by omega)]; rfl
  rw [hlg] at HL
  clear hlg
  have H0 := hid (V3.start w (mcL x (.slice AH nH cH) (.slice AM nM cM)) o d s n a0 a1)
  have HCM := hid (fun W (b : Below w.heap.size w W) => CopyMachine_any W x AH AM nH cH nM cM (h.on b) (hm.on b) (by omega) (by omega))
  obtain ⟨y, A, B, er, hA, hB, hN8, hN9⟩ := new_post a0 a1
  replace hN8 := hid hN8
  replace hN9 := hid hN9
  have HD2 := hid (fun W (b : Below w.heap.size w W) => rdo_any W x o d s n ho AH AM nH cH nM cM (h.on b) (hm.on b) (by omega) h2)
  have HH2 := hid (fun W (b : Below w.heap.size w W) => rHolds_any W x o d s n ho AH AM nH cH nM cM (h.on b) (hm.on b) (by omega) h2)
  have HX := hid (fun W (b : Below w.heap.size w W) => And.intro (h.on b) (hm.on b))
  have h1z : nH ≤ 5000 := by omega
  clear h hm
  unfold vM at HL HCM HD2 HH2 ⊢
  unfold vI at HD2 HH2 ⊢
  generalize hL : mcL x (.slice AH nH cH) (.slice AM nM cM) = L at *
  replace hL := hid hL
  have hzL := hid (show (Try.prog.info? 30).map (·.size) = some L.length by rw [← List.size_toArray]; exact hzLt.out)
  go_enter Try.func3, Try.ntmps3
  go_upto_region 1 with fail
  generalize (((w.alloc _).alloc (.cells L.toArray 30)).alloc _) = W0 at *
  have HL0 := hid (HL.out W0)
  go_upto_region 3 with (first
    | (refine wpList_load_row rfl 30 (.tmp 4) rfl (w.heap.size + 1) rfl 30 L.toArray (0, 0) _ H0.out.b1 Try.underlying30 rfl hzLt.out ?_)
    | (go_at_call 5; refine HL0.out.mono ?_; rintro r W1 ⟨rfl, b1⟩))
  have H1 := hid (H0.out.below b1)
  have HC1 := hid (HCM.out W1 H1.out.bel)
  clear HL HL0 b1 H0 HCM
  go_upto_region 4 with (first
    | (refine wpList_load_row rfl 30 (.tmp 4) rfl (w.heap.size + 1) rfl 30 L.toArray (0, 0) _ H1.out.b1 Try.underlying30 rfl hzLt.out ?_)
    | (go_at_call 7; refine HC1.out.mono ?_; rintro r W2 ⟨A7, c7, M7, k7, rfl, o1, o2, b2⟩; have O1 := hid o1; have O2 := hid o2; have B2 := hid b2; clear o1 o2 b2; obtain ⟨L7, hL7⟩ : ∃ L7, mcL x (.slice A7 nH c7) (.slice M7 nM k7) = L7 := ⟨_, rfl⟩; have E7 := hid (show (Try.prog.info? 30).map (·.size) = some L7.toArray.size ∧ zL.toArray.size = L7.toArray.size ∧ L7.toArray.all (·.oneCell') = true by rw [← hL7]; exact ⟨size30 _ (mc_size _ _ _), by rw [mc_size]; exact mc_size _ _ _, mc_one _ _ _ _ _ _ _⟩); have hzL7 := hid (show (Try.prog.info? 30).map (·.size) = some L7.length by rw [← List.size_toArray]; exact E7.out.1); have hzL7t := hid E7.out.1; rw [hL7]; replace hL7 := hid hL7)
    | (refine wpList_store_row (o := ⟨none, .store 30 (.tmp 7) (.tmp 19), _, _, _, _⟩) rfl 30 (.tmp 7) (.tmp 19) rfl W2.heap.size L7.toArray rfl rfl 30 zL.toArray (heap_alloc_new W2 _) E7.out.1 E7.out.2.1 E7.out.2.2 ?_))
  change Code.wp _ _ _ _ (Stw W2 L7)
  obtain ⟨B0, hB0⟩ : ∃ B0, W1.heap.size = B0 := ⟨_, rfl⟩
  have I2 : Hid (OM (Stw W2 L7) B0 W2.heap.size x A7 nH c7 M7 nM k7) := hid (by rw [← hL7.out, ← hB0]; exact OM.start O1.out O2.out)
  have H2 := hid ((H1.out.below B2.out).below (Stw.bel W2 L7))
  have hBB : Hid (B0 ≤ (Stw W2 L7).heap.size) := hid (by rw [← hB0]; exact Nat.le_trans B2.out.size (Stw.bel W2 L7).size)
  clear O1 O2 B2 HC1 H1
  generalize Stw W2 L7 = W3 at *
  generalize W2.heap.size = g7 at *
  obtain ⟨n0, n1⟩ := H2.out.nums
  have HN8 := hid (hN8.out W3)
  unfold NewPost vM at HN8
  go_upto_region 5 with (first
    | (go_at_call 8; refine HN8.out.mono ?_; rintro r W4 ⟨A8, c8, M8, k8, rfl, o1, o2, b2⟩; have O1 := hid o1; have O2 := hid o2; have B2 := hid b2; clear o1 o2 b2; obtain ⟨L8, hL8⟩ : ∃ L8, mcL y (.slice A8 A c8) (.slice M8 B k8) = L8 := ⟨_, rfl⟩; have E8 := hid (show (Try.prog.info? 30).map (·.size) = some L8.toArray.size ∧ zL.toArray.size = L8.toArray.size ∧ L8.toArray.all (·.oneCell') = true by rw [← hL8]; exact ⟨size30 _ (mc_size _ _ _), by rw [mc_size]; exact mc_size _ _ _, mc_one _ _ _ _ _ _ _⟩); have hzL8 := hid (show (Try.prog.info? 30).map (·.size) = some L8.length by rw [← List.size_toArray]; exact E8.out.1); have hzL8t := hid E8.out.1; rw [hL8]; replace hL8 := hid hL8)
    | (refine wpList_store_row (o := ⟨none, .store 30 (.tmp 8) (.tmp 26), _, _, _, _⟩) rfl 30 (.tmp 8) (.tmp 26) rfl W4.heap.size L8.toArray rfl rfl 30 zL.toArray (heap_alloc_new W4 _) E8.out.1 E8.out.2.1 E8.out.2.2 ?_))
  change Code.wp _ _ _ _ (Stw W4 L8)
  have bb := hid ((Stw.bel W4 L8).mono B2.out.size)
  have b34 := hid (B2.out.trans bb.out)
  have J2 : Hid (OM (Stw W4 L8) B0 W4.heap.size y A8 A c8 M8 B k8) := hid (by rw [← hL8.out]; exact OM.start (own_up O1.out hBB.out) (own_up O2.out hBB.out))
  have I3 := hid (I2.out.below b34.out)
  have H3 := hid (H2.out.below b34.out)
  have hBB3 : Hid (B0 ≤ (Stw W4 L8).heap.size) := hid (Nat.le_trans hBB.out b34.out.size)
  clear O1 O2 B2 HN8 H2 I2 bb b34 n0 n1
  generalize Stw W4 L8 = W4' at *
  generalize W4.heap.size = g8 at *
  obtain ⟨n0, n1⟩ := H3.out.nums
  have HN9 := hid (hN9.out W4')
  unfold NewPost vM at HN9
  go_upto_region 6 with (first
    | (go_at_call 9; refine HN9.out.mono ?_; rintro r W6 ⟨A9, c9, M9, k9, rfl, o1, o2, b2⟩; have O1 := hid o1; have O2 := hid o2; have B2 := hid b2; clear o1 o2 b2; obtain ⟨L9, hL9⟩ : ∃ L9, mcL y (.slice A9 A c9) (.slice M9 B k9) = L9 := ⟨_, rfl⟩; have E9 := hid (show (Try.prog.info? 30).map (·.size) = some L9.toArray.size ∧ zL.toArray.size = L9.toArray.size ∧ L9.toArray.all (·.oneCell') = true by rw [← hL9]; exact ⟨size30 _ (mc_size _ _ _), by rw [mc_size]; exact mc_size _ _ _, mc_one _ _ _ _ _ _ _⟩); have hzL9 := hid (show (Try.prog.info? 30).map (·.size) = some L9.length by rw [← List.size_toArray]; exact E9.out.1); have hzL9t := hid E9.out.1; rw [hL9]; replace hL9 := hid hL9)
    | (refine wpList_store_row (o := ⟨none, .store 30 (.tmp 10) (.tmp 34), _, _, _, _⟩) rfl 30 (.tmp 10) (.tmp 34) rfl W6.heap.size L9.toArray rfl rfl 30 zL.toArray (heap_alloc_new W6 _) E9.out.1 E9.out.2.1 E9.out.2.2 ?_))
  change Code.wp _ _ _ _ (Stw W6 L9)
  have bb := hid ((Stw.bel W6 L9).mono B2.out.size)
  have b34 := hid (B2.out.trans bb.out)
  have K4 : Hid (OM (Stw W6 L9) B0 W6.heap.size y A9 A c9 M9 B k9) := hid (by rw [← hL9.out]; exact OM.start (own_up O1.out hBB3.out) (own_up O2.out hBB3.out))
  have J4 := hid (J2.out.below b34.out)
  have I4 := hid (I3.out.below b34.out)
  have H4 := hid (H3.out.below b34.out)
  clear O1 O2 B2 HN9 H3 I3 J2 bb b34 n0 n1 hBB hBB3 hN8 hN9
  generalize Stw W6 L9 = W5 at *
  generalize W6.heap.size = g9 at *
  obtain ⟨c0, c1, c2, c3⟩ := H4.out.cells
  have HDo := hid (Do_any W5 x o d s n A7 M7 nH c7 nM k7 (I4.out.isH (by omega)) (I4.out.isM (by omega)) h1z h2)
  unfold DoPost vI vM at HDo
  rw [hL7.out] at HDo
  have I4r := hid I4.out.row
  rw [hL7.out] at I4r
  obtain ⟨z, hz⟩ : ∃ z, doneM o d s n x = z := ⟨_, rfl⟩
  have HD3 : Hid (∀ V, Below W5.heap.size W5 V → Calls Try.prog 12 #[.agg #[.int .u8 o, .int .i64 d, .int .i64 s, .int .i64 n], .agg L.toArray] V (DoPost V z nH nM)) := hid (by rw [← hz]; exact fun V b => HD2.out V (bel_trans H4.out.bel b))
  rw [hz] at HDo
  clear hz HD2
  go_upto_region 7 with (first
    | (refine wpList_load_row rfl 30 (.tmp 7) rfl g7 rfl 30 L7.toArray (0, 0) _ I4r.out Try.underlying30 rfl hzL7t.out ?_)
    | (go_at_call 10; refine HDo.out.mono ?_; rintro r W6 ⟨Aa, ca, Ma, ka, rfl, o1, o2, b2⟩; have O1 := hid o1; have O2 := hid o2; have B2 := hid b2; clear o1 o2 b2; obtain ⟨La, hLa⟩ : ∃ La, mcL z (.slice Aa nH ca) (.slice Ma nM ka) = La := ⟨_, rfl⟩; have Ea := hid (show (Try.prog.info? 30).map (·.size) = some La.toArray.size ∧ zL.toArray.size = La.toArray.size ∧ La.toArray.all (·.oneCell') = true by rw [← hLa]; exact ⟨size30 _ (mc_size _ _ _), by rw [mc_size]; exact mc_size _ _ _, mc_one _ _ _ _ _ _ _⟩); have hzLa := hid (show (Try.prog.info? 30).map (·.size) = some La.length by rw [← List.size_toArray]; exact Ea.out.1); have hzLat := hid Ea.out.1; rw [hLa]; replace hLa := hid hLa)
    | (refine wpList_store_row (o := ⟨none, .store 30 (.tmp 12) (.tmp 38), _, _, _, _⟩) rfl 30 (.tmp 12) (.tmp 38) rfl W6.heap.size La.toArray rfl rfl 30 zL.toArray (heap_alloc_new W6 _) Ea.out.1 Ea.out.2.1 Ea.out.2.2 ?_))
  change Code.wp _ _ _ _ (Stw W6 La)
  have bb := hid ((Stw.bel W6 La).mono B2.out.size)
  have b56 := hid (B2.out.trans bb.out)
  have a6 : Hid (OM (Stw W6 La) W5.heap.size W6.heap.size z Aa nH ca Ma nM ka) := hid (by rw [← hLa.out]; exact OM.start O1.out O2.out)
  clear O1 O2 B2 bb HDo I4r c0 c1 c2 c3
  generalize Stw W6 La = V6 at *
  generalize W6.heap.size = ga at *
  have HV : Hid (VS w V6.drew B0 L o d s n a0 a1 x y z g7 A7 nH c7 M7 nM k7 g8 A8 A c8 M8 B k8 g9 A9 c9 M9 k9 W5.heap.size ga Aa ca Ma ka) := hid ((⟨H4.out.below b56.out, I4.out.below b56.out, J4.out.below b56.out, K4.out.below b56.out, a6.out⟩ : VS w V6 B0 L o d s n a0 a1 x y z g7 A7 nH c7 M7 nM k7 g8 A8 A c8 M8 B k8 g9 A9 c9 M9 k9 W5.heap.size ga Aa ca Ma ka).below (⟨rfl, rfl, rfl, Nat.le_refl _, fun _ _ => rfl⟩))
  unfold DoPost vM at HD3
  have HSM := hid (fun V (H : VS w V B0 L o d s n a0 a1 x y z g7 A7 nH c7 M7 nM k7 g8 A8 A c8 M8 B k8 g9 A9 c9 M9 k9 W5.heap.size ga Aa ca Ma ka) base A2 c2 M2 k2 (o1 : V.ownsRow base 25 1 (.slice A2 nH c2) nH (z.h.map U.bv)) (o2 : V.ownsRow base 5 1 (.slice M2 nM k2) nM (z.m.map bv)) => SameMachine_true V z z ⟨rfl, rfl, rfl, rfl, rfl, rfl⟩ Aa Ma A2 M2 nH ca nM ka c2 k2 z.h z.m (H.a.isH (by omega)) (U.own_isB2 o1 (by omega)) (H.a.isM (by omega)) (own_isB2 o2 (by omega)))
  have HH1 := hid (fun V (H : VS w V B0 L o d s n a0 a1 x y z g7 A7 nH c7 M7 nM k7 g8 A8 A c8 M8 B k8 g9 A9 c9 M9 k9 W5.heap.size ga Aa ca Ma ka) => Holds_any V x o d s n A7 M7 nH c7 nM k7 (H.i.isH (by omega)) (H.i.isM (by omega)) h1z h2)
  have HNN := hid (fun V (H : VS w V B0 L o d s n a0 a1 x y z g7 A7 nH c7 M7 nM k7 g8 A8 A c8 M8 B k8 g9 A9 c9 M9 k9 W5.heap.size ga Aa ca Ma ka) => SameMachine_true V y y ⟨rfl, rfl, rfl, rfl, rfl, rfl⟩ A8 M8 A9 M9 A c8 B k8 c9 k9 y.h y.m (H.e.isH (by omega)) (H.f.isH (by omega)) (H.e.isM (by omega)) (H.f.isM (by omega)))
  unfold vM at HSM HNN HH1
  unfold vI at HH1
  rw [hLa.out] at HSM
  rw [hL8.out, hL9.out] at HNN
  rw [hL7.out] at HH1
  obtain ⟨q, hq⟩ : ∃ q, holdsM o d s n x = q := ⟨_, rfl⟩
  rw [hq] at HH1 HH2
  clear hq
  refine wp_region_held_drew (S := (fun w' => VS w w' B0 L o d s n a0 a1 x y z g7 A7 nH c7 M7 nM k7 g8 A8 A c8 M8 B k8 g9 A9 c9 M9 k9 W5.heap.size ga Aa ca Ma ka)) (by kernel_rfl) HV.out (fun hH0 => ?_)
  refine wpAnyH_take (i := 0) (oi := ⟨some 39, _, _, _, _, _⟩) (v := .agg La.toArray) rfl (by kernel_rfl) (by kernel_rfl) (by kernel_rfl) (fun _ _ _ h => h) (yieldsIf_load_mid (by rfl) 30 (.tmp 12) rfl ga 0 rfl La _ (fun w hSw => row_range (by have := hSw.a.row; rw [hLa.out] at this; exact this)) Try.underlying30 rfl hzLa.out) hH0 ?_
  try simp only [Act.put, List.setIfInBounds_toArray, List.set_cons_zero, List.set_cons_succ]
  refine wpAnyH_take (i := 1) (oi := ⟨some 40, _, _, _, _, _⟩) (v := .agg #[.int .u8 o, .int .i64 d, .int .i64 s, .int .i64 n]) rfl (by kernel_rfl) (by kernel_rfl) (by kernel_rfl) (fun _ _ _ h => h) (Or.inl ⟨by rfl, by intro w hSw; (try dsimp only at hSw); obtain ⟨z0, z1, z2, z3⟩ := hSw.v.cells; go_simp⟩) hH0 ?_
  try simp only [Act.put, List.setIfInBounds_toArray, List.set_cons_zero, List.set_cons_succ]
  refine wpAnyH_take (i := 2) (oi := ⟨some 41, _, _, _, _, _⟩) (v := .agg L.toArray) rfl (by kernel_rfl) (by kernel_rfl) (by kernel_rfl) (fun _ _ _ h => h) (yieldsIf_load_mid (by rfl) 30 (.tmp 4) rfl (w.heap.size + 1) 0 rfl L _ (fun w hSw => row_range (hSw.v.b1)) Try.underlying30 rfl hzL.out) hH0 ?_
  try simp only [Act.put, List.setIfInBounds_toArray, List.set_cons_zero, List.set_cons_succ]
  refine wpAnyH_ready (rs := [3]) (by kernel_rfl) (by simp) (AllReadyH.cons rfl (fun K hK => ?_) AllReadyH.nil)
  go_simp
  refine (HD3.out _ b56.out.drew).mono ?_
  rintro e W7 ⟨BH2, dH2, BM2, dM2, rfl, o1, o2, b7⟩
  have HV7 := hid (hH0.below b7)
  have BW7 := hid (b56.out.drew.trans (b7.mono b56.out.drew.size))
  obtain ⟨Lb, hLb⟩ : ∃ Lb, mcL z (.slice BH2 nH dH2) (.slice BM2 nM dM2) = Lb := ⟨_, rfl⟩
  have HS7 := hid (HSM.out _ HV7.out _ _ _ _ _ o1 o2)
  rw [hLb] at HS7 ⊢
  clear o1 o2 b7 hLb
  refine hK.out _ _ HV7.out (fun hH1 => ?_)
  clear hK K
  try simp only [Act.put, List.setIfInBounds_toArray, List.set_cons_zero, List.set_cons_succ]
  refine wpAnyH_ready (rs := [4]) (by kernel_rfl) (by simp) (AllReadyH.cons rfl (fun K hK => ?_) AllReadyH.nil)
  go_simp
  refine (HS7.out).mono ?_
  rintro e W8 ⟨rfl, b8⟩
  have HV8 := hid (HV7.out.below b8)
  have BW8 := hid (BW7.out.trans (b8.mono BW7.out.size))
  refine hK.out _ _ HV8.out (fun hH2 => ?_)
  clear hK K
  try simp only [Act.put, List.setIfInBounds_toArray, List.set_cons_zero, List.set_cons_succ]
  refine wpAnyH_take (i := 5) (oi := ⟨some 44, _, _, _, _, _⟩) (v := .bool false) rfl (by kernel_rfl) (by kernel_rfl) (by kernel_rfl) (fun _ _ _ h => h) (Or.inl ⟨by rfl, by intro w hSw; (try dsimp only at hSw); obtain ⟨z0, z1, z2, z3⟩ := hSw.v.cells; go_simp⟩) hH2 ?_
  try simp only [Act.put, List.setIfInBounds_toArray, List.set_cons_zero, List.set_cons_succ]
  refine wpAnyH_take (i := 6) (oi := ⟨some 45, _, _, _, _, _⟩) (v := .bool false) rfl (by kernel_rfl) (by kernel_rfl) (by kernel_rfl) (fun _ _ _ h => h) (Or.inl ⟨by rfl, by intro w hSw; (try dsimp only at hSw); obtain ⟨z0, z1, z2, z3⟩ := hSw.v.cells; go_simp⟩) hH2 ?_
  try simp only [Act.put, List.setIfInBounds_toArray, List.set_cons_zero, List.set_cons_succ]
  refine wpAnyH_take (i := 7) (oi := ⟨some 46, _, _, _, _, _⟩) (v := .agg #[.int .u8 o, .int .i64 d, .int .i64 s, .int .i64 n]) rfl (by kernel_rfl) (by kernel_rfl) (by kernel_rfl) (fun _ _ _ h => h) (Or.inl ⟨by rfl, by intro w hSw; (try dsimp only at hSw); obtain ⟨z0, z1, z2, z3⟩ := hSw.v.cells; go_simp⟩) hH2 ?_
  try simp only [Act.put, List.setIfInBounds_toArray, List.set_cons_zero, List.set_cons_succ]
  refine wpAnyH_take (i := 8) (oi := ⟨some 47, _, _, _, _, _⟩) (v := .agg L7.toArray) rfl (by kernel_rfl) (by kernel_rfl) (by kernel_rfl) (fun _ _ _ h => h) (yieldsIf_load_mid (by rfl) 30 (.tmp 7) rfl g7 0 rfl L7 _ (fun w hSw => row_range (by have := hSw.i.row; rw [hL7.out] at this; exact this)) Try.underlying30 rfl hzL7.out) hH2 ?_
  try simp only [Act.put, List.setIfInBounds_toArray, List.set_cons_zero, List.set_cons_succ]
  refine wpAnyH_take (i := 10) (oi := ⟨some 49, _, _, _, _, _⟩) (v := .agg #[.int .u8 o, .int .i64 d, .int .i64 s, .int .i64 n]) rfl (by kernel_rfl) (by kernel_rfl) (by kernel_rfl) (fun _ _ _ h => h) (Or.inl ⟨by rfl, by intro w hSw; (try dsimp only at hSw); obtain ⟨z0, z1, z2, z3⟩ := hSw.v.cells; go_simp⟩) hH2 ?_
  try simp only [Act.put, List.setIfInBounds_toArray, List.set_cons_zero, List.set_cons_succ]
  refine wpAnyH_take (i := 11) (oi := ⟨some 50, _, _, _, _, _⟩) (v := .agg L.toArray) rfl (by kernel_rfl) (by kernel_rfl) (by kernel_rfl) (fun _ _ _ h => h) (yieldsIf_load_mid (by rfl) 30 (.tmp 4) rfl (w.heap.size + 1) 0 rfl L _ (fun w hSw => row_range (hSw.v.b1)) Try.underlying30 rfl hzL.out) hH2 ?_
  try simp only [Act.put, List.setIfInBounds_toArray, List.set_cons_zero, List.set_cons_succ]
  refine wpAnyH_ready (rs := [9]) (by kernel_rfl) (by simp) (AllReadyH.cons rfl (fun K hK => ?_) AllReadyH.nil)
  go_simp
  refine (HH1.out _ HV8.out).mono ?_
  rintro e W9 ⟨rfl, b9⟩
  have HV9 := hid (HV8.out.below b9)
  have BW9 := hid (BW8.out.trans (b9.mono BW8.out.size))
  refine hK.out _ _ HV9.out (fun hH3 => ?_)
  clear hK K
  try simp only [Act.put, List.setIfInBounds_toArray, List.set_cons_zero, List.set_cons_succ]
  refine wpAnyH_ready (rs := [12]) (by kernel_rfl) (by simp) (AllReadyH.cons rfl (fun K hK => ?_) AllReadyH.nil)
  go_simp
  refine (HH2.out _ HV9.out.v.bel).mono ?_
  rintro e W10 ⟨rfl, b10⟩
  have HV10 := hid (HV9.out.below b10)
  have BW10 := hid (BW9.out.trans (b10.mono BW9.out.size))
  refine hK.out _ _ HV10.out (fun hH4 => ?_)
  clear hK K
  try simp only [Act.put, List.setIfInBounds_toArray, List.set_cons_zero, List.set_cons_succ]
  refine wpAnyH_take (i := 13) (oi := ⟨some 52, _, _, _, _, _⟩) (v := .bool false) rfl (by kernel_rfl) (by kernel_rfl) (by kernel_rfl) (fun _ _ _ h => h) (Or.inl ⟨by rfl, by intro w hSw; (try dsimp only at hSw); obtain ⟨z0, z1, z2, z3⟩ := hSw.v.cells; go_simp⟩) hH4 ?_
  try simp only [Act.put, List.setIfInBounds_toArray, List.set_cons_zero, List.set_cons_succ]
  refine wpAnyH_take (i := 14) (oi := ⟨some 53, _, _, _, _, _⟩) (v := .bool false) rfl (by kernel_rfl) (by kernel_rfl) (by kernel_rfl) (fun _ _ _ h => h) (Or.inl ⟨by rfl, by intro w hSw; (try dsimp only at hSw); obtain ⟨z0, z1, z2, z3⟩ := hSw.v.cells; go_simp⟩) hH4 ?_
  try simp only [Act.put, List.setIfInBounds_toArray, List.set_cons_zero, List.set_cons_succ]
  refine wpAnyH_take (i := 15) (oi := ⟨some 54, _, _, _, _, _⟩) (v := .bool false) rfl (by kernel_rfl) (by kernel_rfl) (by kernel_rfl) (fun _ _ _ h => h) (Or.inl ⟨by rfl, by intro w hSw; (try dsimp only at hSw); obtain ⟨z0, z1, z2, z3⟩ := hSw.v.cells; go_simp⟩) hH4 ?_
  try simp only [Act.put, List.setIfInBounds_toArray, List.set_cons_zero, List.set_cons_succ]
  refine wpAnyH_take (i := 16) (oi := ⟨some 55, _, _, _, _, _⟩) (v := .int .i64 er) rfl (by kernel_rfl) (by kernel_rfl) (by kernel_rfl) (fun _ _ _ h => h) (Or.inl ⟨by rfl, by intro w hSw; (try dsimp only at hSw); obtain ⟨z0, z1, z2, z3⟩ := hSw.v.cells; go_simp⟩) hH4 ?_
  try simp only [Act.put, List.setIfInBounds_toArray, List.set_cons_zero, List.set_cons_succ]
  refine wpAnyH_take (i := 17) (oi := ⟨some 56, _, _, _, _, _⟩) (v := .int .i64 er) rfl (by kernel_rfl) (by kernel_rfl) (by kernel_rfl) (fun _ _ _ h => h) (Or.inl ⟨by rfl, by intro w hSw; (try dsimp only at hSw); obtain ⟨z0, z1, z2, z3⟩ := hSw.v.cells; go_simp⟩) hH4 ?_
  try simp only [Act.put, List.setIfInBounds_toArray, List.set_cons_zero, List.set_cons_succ]
  refine wpAnyH_take (i := 18) (oi := ⟨some 57, _, _, _, _, _⟩) (v := .bool false) rfl (by kernel_rfl) (by kernel_rfl) (by kernel_rfl) (fun _ _ _ h => h) (Or.inl ⟨by rfl, by intro w hSw; (try dsimp only at hSw); obtain ⟨z0, z1, z2, z3⟩ := hSw.v.cells; go_simp⟩) hH4 ?_
  try simp only [Act.put, List.setIfInBounds_toArray, List.set_cons_zero, List.set_cons_succ]
  refine wpAnyH_take (i := 19) (oi := ⟨some 58, _, _, _, _, _⟩) (v := .bool false) rfl (by kernel_rfl) (by kernel_rfl) (by kernel_rfl) (fun _ _ _ h => h) (Or.inl ⟨by rfl, by intro w hSw; (try dsimp only at hSw); obtain ⟨z0, z1, z2, z3⟩ := hSw.v.cells; go_simp⟩) hH4 ?_
  try simp only [Act.put, List.setIfInBounds_toArray, List.set_cons_zero, List.set_cons_succ]
  refine wpAnyH_take (i := 20) (oi := ⟨some 59, _, _, _, _, _⟩) (v := .bool false) rfl (by kernel_rfl) (by kernel_rfl) (by kernel_rfl) (fun _ _ _ h => h) (Or.inl ⟨by rfl, by intro w hSw; (try dsimp only at hSw); obtain ⟨z0, z1, z2, z3⟩ := hSw.v.cells; go_simp⟩) hH4 ?_
  try simp only [Act.put, List.setIfInBounds_toArray, List.set_cons_zero, List.set_cons_succ]
  refine wpAnyH_take (i := 21) (oi := ⟨some 60, _, _, _, _, _⟩) (v := .agg L8.toArray) rfl (by kernel_rfl) (by kernel_rfl) (by kernel_rfl) (fun _ _ _ h => h) (yieldsIf_load_mid (by rfl) 30 (.tmp 8) rfl g8 0 rfl L8 _ (fun w hSw => row_range (by have := hSw.e.row; rw [hL8.out] at this; exact this)) Try.underlying30 rfl hzL8.out) hH4 ?_
  try simp only [Act.put, List.setIfInBounds_toArray, List.set_cons_zero, List.set_cons_succ]
  refine wpAnyH_take (i := 22) (oi := ⟨some 61, _, _, _, _, _⟩) (v := .agg L9.toArray) rfl (by kernel_rfl) (by kernel_rfl) (by kernel_rfl) (fun _ _ _ h => h) (yieldsIf_load_mid (by rfl) 30 (.tmp 10) rfl g9 0 rfl L9 _ (fun w hSw => row_range (by have := hSw.f.row; rw [hL9.out] at this; exact this)) Try.underlying30 rfl hzL9.out) hH4 ?_
  try simp only [Act.put, List.setIfInBounds_toArray, List.set_cons_zero, List.set_cons_succ]
  refine wpAnyH_ready (rs := [23]) (by kernel_rfl) (by simp) (AllReadyH.cons rfl (fun K hK => ?_) AllReadyH.nil)
  go_simp
  refine (HNN.out _ HV10.out).mono ?_
  rintro e W11 ⟨rfl, b11⟩
  have HV11 := hid (HV10.out.below b11)
  have BW11 := hid (BW10.out.trans (b11.mono BW10.out.size))
  refine hK.out _ _ HV11.out (fun hH5 => ?_)
  clear hK K
  try simp only [Act.put, List.setIfInBounds_toArray, List.set_cons_zero, List.set_cons_succ]
  refine wpAnyH_take (i := 24) (oi := ⟨some 63, _, _, _, _, _⟩) (v := .bool false) rfl (by kernel_rfl) (by kernel_rfl) (by kernel_rfl) (fun _ _ _ h => h) (Or.inl ⟨by rfl, by intro w hSw; (try dsimp only at hSw); obtain ⟨z0, z1, z2, z3⟩ := hSw.v.cells; go_simp⟩) hH5 ?_
  try simp only [Act.put, List.setIfInBounds_toArray, List.set_cons_zero, List.set_cons_succ]
  refine wpAnyH_take (i := 25) (oi := ⟨some 64, _, _, _, _, _⟩) (v := .bool false) rfl (by kernel_rfl) (by kernel_rfl) (by kernel_rfl) (fun _ _ _ h => h) (Or.inl ⟨by rfl, by intro w hSw; (try dsimp only at hSw); obtain ⟨z0, z1, z2, z3⟩ := hSw.v.cells; go_simp⟩) hH5 ?_
  try simp only [Act.put, List.setIfInBounds_toArray, List.set_cons_zero, List.set_cons_succ]
  refine wpAnyH_done (by kernel_rfl) ?_ _
  have LA0 : Hid (LA W5 W11 ga z Aa nH ca Ma nM ka) := hid ⟨HV11.out.a, BW11.out⟩
  clear HV HV7 HV8 HV9 HV10 HV11 BW7 BW8 BW9 BW10 BW11 HSM HH1 HNN HH2 HD3 hH0 hH1 hH2 hH3 hH4 hH5 HS7 b8 b9 b10 b11
  obtain ⟨cA, cM'⟩ := LA0.out.cells
  have h2z : (nM : Int) ≤ 5000 := by omega
  have h1zz : (nH : Int) ≤ 5000 := by omega
  go_upto_region 10 with fail
  go_loopw [68] (fun v wr => ∃ k : Nat, k ≤ nM ∧ v = .int .i64 (k : Int) ∧ ∃ z', Hid (LA W5 wr ga z' Aa nH ca Ma nM ka)) (fun v _ => nM - (intOf v).toNat)
  case atStart => exact ⟨0, Nat.zero_le _, rfl, z, LA0⟩
  case round =>
    obtain ⟨k, hk, rfl, z', HS⟩ := hrel
    clear LA0 cA cM'
    obtain ⟨cA, cM'⟩ := HS.out.cells
    by_cases hlt : k < nM
    · have hkz : (k : Int) < (nM : Int) := by omega
      obtain ⟨mb, b, rfl, cb, fb, HQ⟩ := HS.out.m_facts (by omega) k hlt
      unfold bv at HQ
      rw [u8_inc] at HQ
      clear HS
      generalize (b.toNat : Int) = bb at *
      go_wp2_with fail
      go_roundw
      case rel => exact ⟨k + 1, by omega, by go_num, _, HQ⟩
      case measure => simp [intOf]; omega
    · obtain rfl : k = nM := by omega
      go_upto_region 15 with fail
      go_loopw [82] (fun v wr => ∃ j : Nat, j ≤ nH ∧ v = .int .i64 (j : Int) ∧ ∃ z', Hid (LA W5 wr ga z' Aa nH ca Ma k ka)) (fun v _ => nH - (intOf v).toNat)
      case atStart => exact ⟨0, Nat.zero_le _, rfl, z', HS⟩
      case round =>
        obtain ⟨j, hj, rfl, z'', HT⟩ := hrel
        clear HS cA cM'
        obtain ⟨cA, cM'⟩ := HT.out.cells
        by_cases hlt2 : j < nH
        · have hjz : (j : Int) < (nH : Int) := by omega
          obtain ⟨mb, b, rfl, cb, fb, HQ⟩ := HT.out.h_facts (by omega) j hlt2
          unfold U.bv at HQ
          rw [inc_eq] at HQ
          clear HT
          generalize (b.toNat : Int) = bb at *
          go_wp2_with fail
          go_roundw
          case rel => exact ⟨j + 1, by omega, by go_num, _, HQ⟩
          case measure => simp [intOf]; omega
        · obtain rfl : j = nH := by omega
          have H6 := hid (H4.out.below HT.out.bel)
          have I6 := hid (I4.out.below HT.out.bel)
          have HS6 := hid (SameMachine_true wr x x ⟨rfl, rfl, rfl, rfl, rfl, rfl⟩ A7 M7 AH AM j c7 k k7 cH cM x.h x.m (I6.out.isH (by omega)) (HX.out wr H6.out.bel).1 (I6.out.isM (by omega)) (HX.out wr H6.out.bel).2)
          unfold vM at HS6
          rw [hL7.out, hL.out] at HS6
          have I6r := hid I6.out.row
          rw [hL7.out] at I6r
          go_upto_region 19 with fail
          go_wp2_with (first
            | (refine BigFrame.wpList_want (o := ⟨some 93, .load 30 (.tmp 7), _, _, _, _⟩) (by rfl) (fun _ hK => wp_load_row 30 (.tmp 7) rfl g7 rfl 30 L7.toArray (0, 0) _ I6r.out Try.underlying30 rfl hzL7t.out (hK _ _ ?_)))
            | (refine BigFrame.wpList_want (o := ⟨some 94, .load 30 (.tmp 4), _, _, _, _⟩) (by rfl) (fun _ hK => wp_load_row 30 (.tmp 4) rfl (w.heap.size + 1) rfl 30 L.toArray (0, 0) _ H6.out.b1 Try.underlying30 rfl hzLt.out (hK _ _ ?_)))
            | (go_at_call 11; refine HS6.out.mono ?_; rintro r W12 ⟨rfl, b12⟩)
            | (go_at_call 6; refine (HAw.out _).mono ?_; rintro r W13 ⟨rfl, b13⟩))
          go_ret
          exact ⟨rfl, bel_trans (bel_trans H6.out.bel b12) b13⟩
end Go.Proofs.Ytaogileaeflnfaa
