/-
  VmEnds: what it is built of.
-/
import Derived.Test.YtaogileaeflnfaaRnx
import Derived.Test.YtaogileaeflnfaaNwg
import Derived.Test.YtaogileaeflnfaaAwk
import Derived.Deep.CutRange
import Derived.Deep.CutBlock
set_option linter.unusedVariables false
set_option linter.unusedSimpArgs false
namespace Go.Proofs.Ytaogileaeflnfaa
open Go.RowKit

/-- Pick. -/
def pkI (x n : Int) : Int := if x.tmod n < 0 then x.tmod n + n else x.tmod n
theorem pkI_in (x n : Int) (h : 1 ≤ n) : 0 ≤ pkI x n ∧ pkI x n < n := by
  have a1 := Int.tmod_lt_of_pos x (show 0 < n by omega)
  have a2 := Int.lt_tmod_of_pos x (show 0 < n by omega)
  unfold pkI
  split <;> omega
set_option maxRecDepth 10000 in
set_option maxHeartbeats 4000000 in
theorem Pick_any (x n : Int) (h1 : 1 ≤ n) (h2 : n ≤ 1000) (w : World) : Calls Try.prog 16 #[.int .i64 x, .int .i64 n] w fun e w' => e = .returned (.int .i64 (pkI x n)) ∧ w' = w := by
  have a1 := Int.tmod_lt_of_pos x (show 0 < n by omega)
  have a2 := Int.lt_tmod_of_pos x (show 0 < n by omega)
  have d1 : decide (n < 1) = false := decide_eq_false (by omega)
  have hz : (n == 0) = false := by simp only [beq_eq_false_iff_ne, ne_eq]; omega
  have HE : Hid (pkI x n = if x.tmod n < 0 then x.tmod n + n else x.tmod n) := rfl
  obtain ⟨q, hq⟩ : ∃ q, x.tmod n = q := ⟨_, rfl⟩
  rw [hq] at a1 a2 HE
  have hw : IntKind.i64.wrap q = q := IntWalk.i64_in _ (by omega)
  have hw2 : wrap64 q = q := by unfold wrap64; omega
  have hw3 : IntKind.i64.wrap (q + n) = q + n := IntWalk.i64_in _ (by omega)
  have hw4 : wrap64 (q + n) = q + n := by unfold wrap64; omega
  by_cases h0 : q < 0
  · have d2 : decide (q < 0) = true := decide_eq_true h0
    rw [HE.out, if_pos h0]
    clear a1 a2 h0 HE
    go_enter Try.func16, Try.ntmps16
    go_wp2_with fail
    go_ret
    exact ⟨rfl, rfl⟩
  · have d2 : decide (q < 0) = false := decide_eq_false h0
    rw [HE.out, if_neg h0]
    clear a1 a2 h0 HE
    go_enter Try.func16, Try.ntmps16
    go_wp2_with fail
    go_ret
    exact ⟨rfl, rfl⟩
theorem Pick_ex (n : Int) (h1 : 1 ≤ n) (h2 : n ≤ 1000) : ∃ g : Int → Int, Hid (∀ x, 0 ≤ g x ∧ g x < n) ∧ Hid (∀ x w, Calls Try.prog 16 #[.int .i64 x, .int .i64 n] w fun e w' => e = .returned (.int .i64 (g x)) ∧ w' = w) :=
  ⟨fun x => pkI x n, hid (fun x => pkI_in x n h1), hid (fun x w => Pick_any x n h1 h2 w)⟩
theorem min_ex (a b n : Int) (h1 : 0 ≤ a ∧ a < n) (h2 : 0 ≤ b ∧ b < n) : ∃ m M : Int, (if b < a then b else a) = m ∧ (if a < b then b else a) = M ∧ Hid (0 ≤ m ∧ m < n ∧ 0 ≤ M ∧ M < n ∧ m ≤ M) :=
  ⟨_, _, rfl, rfl, hid (by split <;> split <;> omega)⟩
/-- The blocks of VmEnds: the machine's, and the two pairs. -/
theorem own_zero25 (w : World) (n : Nat) (hn : n ≤ 5000) : (w.alloc (.cells ((List.replicate n (0 : UInt32)).map U.bv).toArray 25)).ownsRow w.heap.size 25 1 (.slice (some ⟨w.heap.size, 0, none⟩) n n) n ((List.replicate n (0 : UInt32)).map U.bv) :=
  ⟨by simp, .inr ⟨w.heap.size, n, _, rfl, Nat.le_refl _, heap_alloc_new w _, Nat.le_refl _, by unfold maxLen; omega, by simp, by rw [List.take_of_length_le (by simp)]⟩⟩
/-- The machine's block, and the two pairs. -/
structure E1 (w W : World) (L : List Value) (b7 b8 : Nat) (a0 a1 a2 a3 : Int) : Prop where
  row : W.heap[w.heap.size]? = some (.cells L.toArray 30 (0, 0))
  p0 : W.heap[b7]? = some (.cells #[.int .i64 a0, .int .i64 a1] 31 (0, 0))
  p1 : W.heap[b8]? = some (.cells #[.int .i64 a2, .int .i64 a3] 31 (0, 0))
  bel : Below w.heap.size w W
section
variable {w W V : World} {L : List Value} {b7 b8 : Nat} {a0 a1 a2 a3 : Int}
theorem E1.below (h : E1 w W L b7 b8 a0 a1 a2 a3) (b : Below W.heap.size W V) : E1 w V L b7 b8 a0 a1 a2 a3 := ⟨(b.block _ (lt_of_heap h.row)).trans h.row, (b.block _ (lt_of_heap h.p0)).trans h.p0, (b.block _ (lt_of_heap h.p1)).trans h.p1, bel_trans h.bel b⟩
theorem al4 (w : World) (o1 o2 o3 o4 : Obj) : ((((w.alloc o1).alloc o2).alloc o3).alloc o4).drew.heap[w.heap.size]? = some o1 ∧ ((((w.alloc o1).alloc o2).alloc o3).alloc o4).drew.heap[w.heap.size + 1 + 1]? = some o3 ∧ ((((w.alloc o1).alloc o2).alloc o3).alloc o4).drew.heap[w.heap.size + 1 + 1 + 1]? = some o4 ∧ Below w.heap.size w ((((w.alloc o1).alloc o2).alloc o3).alloc o4).drew := by
  have z1 : (w.alloc o1).heap.size = w.heap.size + 1 := by simp
  have z2 : ((w.alloc o1).alloc o2).heap.size = w.heap.size + 1 + 1 := by simp
  have z3 : (((w.alloc o1).alloc o2).alloc o3).heap.size = w.heap.size + 1 + 1 + 1 := by simp
  have h1 := heap_alloc_new w o1
  have h3 := heap_alloc_new ((w.alloc o1).alloc o2) o3
  have h4 := heap_alloc_new (((w.alloc o1).alloc o2).alloc o3) o4
  rw [z2] at h3
  rw [z3] at h4
  refine ⟨?_, ?_, h4, ((((Below.refl _ w).alloc (Nat.le_refl _) o1).alloc (by rw [z1]; omega) o2).alloc (by rw [z2]; omega) o3).alloc (by rw [z3]; omega) o4 |>.drew⟩
  · show ((((w.alloc o1).alloc o2).alloc o3).alloc o4).heap[w.heap.size]? = _
    rw [heap_alloc_old _ _ (by rw [z3]; omega), heap_alloc_old _ _ (by rw [z2]; omega), heap_alloc_old _ _ (by rw [z1]; omega)]
    exact h1
  · show ((((w.alloc o1).alloc o2).alloc o3).alloc o4).heap[w.heap.size + 1 + 1]? = _
    rw [heap_alloc_old _ _ (by rw [z3]; omega)]
    exact h3
theorem e1_a (w : World) (L : List Value) (o2 : Obj) (a0 a1 a2 a3 : Int) : E1 w ((((w.alloc (.cells L.toArray 30)).alloc o2).alloc (.cells #[.int .i64 a0, .int .i64 a1] 31)).alloc (.cells #[.int .i64 a2, .int .i64 a3] 31)).drew L (w.heap.size + 1 + 1) (w.heap.size + 1 + 1 + 1) a0 a1 a2 a3 := by
  obtain ⟨h1, h3, h4, b⟩ := al4 w (.cells L.toArray 30) o2 (.cells #[.int .i64 a0, .int .i64 a1] 31) (.cells #[.int .i64 a2, .int .i64 a3] 31)
  exact ⟨h1, h3, h4, b⟩
theorem e1_b (w : World) (L : List Value) (o2 : Obj) (a0 a1 a2 a3 : Int) : E1 w ((((w.alloc (.cells L.toArray 30)).alloc o2).alloc (.cells #[.int .i64 a2, .int .i64 a3] 31)).alloc (.cells #[.int .i64 a0, .int .i64 a1] 31)).drew L (w.heap.size + 1 + 1 + 1) (w.heap.size + 1 + 1) a0 a1 a2 a3 := by
  obtain ⟨h1, h3, h4, b⟩ := al4 w (.cells L.toArray 30) o2 (.cells #[.int .i64 a2, .int .i64 a3] 31) (.cells #[.int .i64 a0, .int .i64 a1] 31)
  exact ⟨h1, h4, h3, b⟩
end
/-- The machine with its own lists, the two pairs. -/
structure E2 (w W : World) (y : Mn) (hb mb b7 b8 : Nat) (a0 a1 a2 a3 : Int) (hl : List UInt32) (ml : List UInt8) : Prop where
  m : MO W w.heap.size w.heap.size hb mb 8 8 16 16 { y with h := hl, m := ml }
  p0 : W.heap[b7]? = some (.cells #[.int .i64 a0, .int .i64 a1] 31 (0, 0))
  p1 : W.heap[b8]? = some (.cells #[.int .i64 a2, .int .i64 a3] 31 (0, 0))
  bel : Below w.heap.size w W
def Z8 : Array Value := ((List.replicate 8 (0 : UInt32)).map U.bv).toArray
def Z16 : Array Value := ((List.replicate 16 (0 : UInt8)).map bv).toArray
theorem e2_of {w W W1 : World} {y : Mn} {L : List Value} {b7 b8 hb mb : Nat} {a0 a1 a2 a3 : Int} {sh sm : Value} (h : E1 w W1 L b7 b8 a0 a1 a2 a3) (hL : mcL y sh sm = L) (hr : W.heap[w.heap.size]? = some (.cells ((L.set 261 (.slice (some ⟨hb, 0, none⟩) 8 8)).set 262 (.slice (some ⟨mb, 0, none⟩) 16 16)).toArray 30 (0, 0)))
    (h1 : W.heap[hb]? = some (.cells Z8 25 (0, 0))) (h2 : W.heap[mb]? = some (.cells Z16 5 (0, 0))) (g1 : w.heap.size ≤ hb) (g2 : w.heap.size ≤ mb) (hk : ∀ i, i < W1.heap.size → i ≠ w.heap.size → W.heap[i]? = W1.heap[i]?) (hs : W1.heap.size ≤ W.heap.size) (ho : W.os = W1.os ∧ W.tape = W1.tape ∧ W.output = W1.output) :
    E2 w W y hb mb b7 b8 a0 a1 a2 a3 (List.replicate 8 0) (List.replicate 16 0) := by
  have t7 : b7 ≠ w.heap.size := by
    intro e; have a := h.p0; rw [e, h.row] at a; injection a with a; injection a with _ a; exact absurd a (by decide)
  have t8 : b8 ≠ w.heap.size := by
    intro e; have a := h.p1; rw [e, h.row] at a; injection a with a; injection a with _ a; exact absurd a (by decide)
  refine ⟨⟨?_, ?_, ?_, Nat.le_refl _, by omega⟩, (hk _ (lt_of_heap h.p0) t7).trans h.p0, (hk _ (lt_of_heap h.p1) t8).trans h.p1, ho.1.trans h.bel.os, ho.2.1.trans h.bel.tape, ho.2.2.trans h.bel.output, Nat.le_trans h.bel.size hs, fun i hi => (hk i (Nat.lt_of_lt_of_le hi h.bel.size) (by omega)).trans (h.bel.block i hi)⟩
  · rw [hr, ← hL, ms_h, ms_m]
    rfl
  · exact ⟨by simp, .inr ⟨hb, 8, _, rfl, g1, h1, Nat.le_refl _, by unfold maxLen; omega, by simp [Z8], by simp [Z8]⟩⟩
  · exact ⟨by simp, .inr ⟨mb, 16, _, rfl, g2, h2, Nat.le_refl _, by unfold maxLen; omega, by simp [Z16], by simp [Z16]⟩⟩
section
variable {w W1 : World} {y : Mn} {L : List Value} {b7 b8 : Nat} {a0 a1 a2 a3 : Int} {sh sm : Value}
theorem two_al (W1 : World) (o1 o2 : Obj) : ((W1.alloc o1).alloc o2).heap[W1.heap.size]? = some o1 ∧ ((W1.alloc o1).alloc o2).heap[W1.heap.size + 1]? = some o2 ∧ (∀ i, i < W1.heap.size → ((W1.alloc o1).alloc o2).heap[i]? = W1.heap[i]?) ∧ ((W1.alloc o1).alloc o2).heap.size = W1.heap.size + 2 := by
  have z1 : (W1.alloc o1).heap.size = W1.heap.size + 1 := by simp
  have h2 := heap_alloc_new (W1.alloc o1) o2
  rw [z1] at h2
  refine ⟨(heap_alloc_old _ _ (by rw [z1]; omega)).trans (heap_alloc_new W1 o1), h2, fun i hi => ?_, by simp⟩
  rw [heap_alloc_old _ _ (by rw [z1]; omega), heap_alloc_old _ _ hi]
theorem set_other (W : World) (b i : Nat) (u : Value) (k : Nat) (h : k ≠ b) : (W.setCell ⟨b, i, none⟩ u).heap[k]? = W.heap[k]? := Below.heap_setCell _ _ _ _ h
theorem e2_a (h : E1 w W1 L b7 b8 a0 a1 a2 a3) (hL : mcL y sh sm = L) : E2 w ((((W1.alloc (.cells Z8 25)).alloc (.cells Z16 5)).setCell ⟨w.heap.size, 261, none⟩ (.slice (some ⟨W1.heap.size, 0, none⟩) 8 8)).setCell ⟨w.heap.size, 262, none⟩ (.slice (some ⟨W1.heap.size + 1, 0, none⟩) 16 16)).drew y W1.heap.size (W1.heap.size + 1) b7 b8 a0 a1 a2 a3 (List.replicate 8 0) (List.replicate 16 0) := by
  obtain ⟨q1, q2, q3, q4⟩ := two_al W1 (.cells Z8 25) (.cells Z16 5)
  have hlt := lt_of_heap h.row
  have r0 := (q3 _ hlt).trans h.row
  refine e2_of h hL ?_ ?_ ?_ h.bel.size (by have := h.bel.size; omega) (fun i hi hn => ?_) ?_ ⟨rfl, rfl, rfl⟩
  · show (World.setCell _ _ _).heap[w.heap.size]? = _
    rw [row_set (row_set r0 261 _) 262, set_toArray, set_toArray]
  · show (World.setCell _ _ _).heap[W1.heap.size]? = _
    rw [set_other _ _ _ _ _ (by omega), set_other _ _ _ _ _ (by omega)]; exact q1
  · show (World.setCell _ _ _).heap[W1.heap.size + 1]? = _
    rw [set_other _ _ _ _ _ (by omega), set_other _ _ _ _ _ (by omega)]; exact q2
  · show (World.setCell _ _ _).heap[i]? = _
    rw [set_other _ _ _ _ _ hn, set_other _ _ _ _ _ hn]; exact q3 i hi
  · show W1.heap.size ≤ (World.setCell _ _ _).heap.size
    rw [World.size_setCell, World.size_setCell, q4]; omega
theorem e2_b (h : E1 w W1 L b7 b8 a0 a1 a2 a3) (hL : mcL y sh sm = L) : E2 w ((((W1.alloc (.cells Z16 5)).alloc (.cells Z8 25)).setCell ⟨w.heap.size, 261, none⟩ (.slice (some ⟨W1.heap.size + 1, 0, none⟩) 8 8)).setCell ⟨w.heap.size, 262, none⟩ (.slice (some ⟨W1.heap.size, 0, none⟩) 16 16)).drew y (W1.heap.size + 1) W1.heap.size b7 b8 a0 a1 a2 a3 (List.replicate 8 0) (List.replicate 16 0) := by
  obtain ⟨q1, q2, q3, q4⟩ := two_al W1 (.cells Z16 5) (.cells Z8 25)
  have hlt := lt_of_heap h.row
  have r0 := (q3 _ hlt).trans h.row
  refine e2_of h hL ?_ ?_ ?_ (by have := h.bel.size; omega) h.bel.size (fun i hi hn => ?_) ?_ ⟨rfl, rfl, rfl⟩
  · show (World.setCell _ _ _).heap[w.heap.size]? = _
    rw [row_set (row_set r0 261 _) 262, set_toArray, set_toArray]
  · show (World.setCell _ _ _).heap[W1.heap.size + 1]? = _
    rw [set_other _ _ _ _ _ (by omega), set_other _ _ _ _ _ (by omega)]; exact q2
  · show (World.setCell _ _ _).heap[W1.heap.size]? = _
    rw [set_other _ _ _ _ _ (by omega), set_other _ _ _ _ _ (by omega)]; exact q1
  · show (World.setCell _ _ _).heap[i]? = _
    rw [set_other _ _ _ _ _ hn, set_other _ _ _ _ _ hn]; exact q3 i hi
  · show W1.heap.size ≤ (World.setCell _ _ _).heap.size
    rw [World.size_setCell, World.size_setCell, q4]; omega
theorem e2_c (h : E1 w W1 L b7 b8 a0 a1 a2 a3) (hL : mcL y sh sm = L) : E2 w ((((W1.alloc (.cells Z8 25)).setCell ⟨w.heap.size, 261, none⟩ (.slice (some ⟨W1.heap.size, 0, none⟩) 8 8)).alloc (.cells Z16 5)).setCell ⟨w.heap.size, 262, none⟩ (.slice (some ⟨W1.heap.size + 1, 0, none⟩) 16 16)).drew y W1.heap.size (W1.heap.size + 1) b7 b8 a0 a1 a2 a3 (List.replicate 8 0) (List.replicate 16 0) := by
  have hlt := lt_of_heap h.row
  have z1 : ((W1.alloc (.cells Z8 25)).setCell ⟨w.heap.size, 261, none⟩ (.slice (some ⟨W1.heap.size, 0, none⟩) 8 8)).heap.size = W1.heap.size + 1 := by rw [World.size_setCell]; simp
  have n1 := heap_alloc_new W1 (.cells Z8 25)
  have n2 := heap_alloc_new ((W1.alloc (.cells Z8 25)).setCell ⟨w.heap.size, 261, none⟩ (.slice (some ⟨W1.heap.size, 0, none⟩) 8 8)) (.cells Z16 5)
  rw [z1] at n2
  have r0 := row_set ((heap_alloc_old W1 (.cells Z8 25) hlt).trans h.row) 261 (.slice (some ⟨W1.heap.size, 0, none⟩) 8 8)
  have r1 := (heap_alloc_old _ (.cells Z16 5) (by rw [z1]; omega)).trans r0
  refine e2_of h hL ?_ ?_ ?_ h.bel.size (by have := h.bel.size; omega) (fun i hi hn => ?_) ?_ ⟨rfl, rfl, rfl⟩
  · show (World.setCell _ _ _).heap[w.heap.size]? = _
    rw [row_set r1 262, set_toArray, set_toArray]
  · show (World.setCell _ _ _).heap[W1.heap.size]? = _
    rw [set_other _ _ _ _ _ (by omega), heap_alloc_old _ _ (by rw [z1]; omega), set_other _ _ _ _ _ (by omega)]; exact n1
  · show (World.setCell _ _ _).heap[W1.heap.size + 1]? = _
    rw [set_other _ _ _ _ _ (by omega)]; exact n2
  · show (World.setCell _ _ _).heap[i]? = _
    rw [set_other _ _ _ _ _ hn, heap_alloc_old _ _ (by rw [z1]; omega), set_other _ _ _ _ _ hn, heap_alloc_old _ _ hi]
  · show W1.heap.size ≤ (World.setCell _ _ _).heap.size
    rw [World.size_setCell]; simp; omega
end
theorem xor_8 (a : UInt8) (r : UInt32) : bits .xor .u8 (a.toNat : Int) ((r.toNat : Int) / 256 % 256) = ((a ^^^ UInt8.ofNat (r.toNat / 256 % 256)).toNat : Int) := by
  have h : r.toNat / 256 % 256 < 256 := Nat.mod_lt _ (by decide)
  rw [show (r.toNat : Int) / 256 % 256 = ((r.toNat / 256 % 256 : Nat) : Int) by omega, u8_xor_nat _ _ a.toNat_lt h, UInt8.toNat_xor, UInt8.toNat_ofNat', Nat.mod_eq_of_lt h]
theorem E2.put_h {w W : World} {y : Mn} {hb mb b7 b8 : Nat} {a0 a1 a2 a3 : Int} {hl : List UInt32} {ml : List UInt8} (h : E2 w W y hb mb b7 b8 a0 a1 a2 a3 hl ml) (j : Nat) (hj : j < 8) (v : UInt32) : E2 w (W.setCell ⟨hb, j, none⟩ (U.bv v)).drew y hb mb b7 b8 a0 a1 a2 a3 (hl.set j v) ml := by
  have m := (h.m.put_h j hj v).drew
  have hne : ∀ {k : Nat} {t : TypeId} {cs : Array Value}, W.heap[k]? = some (.cells cs t (0, 0)) → t ≠ 25 → k ≠ hb := fun {k t cs} hk ht e => own_ng h.m.h hk ht (by rw [e]; rfl)
  refine ⟨m, ?_, ?_, (below_set h.bel _ _ h.m.hlt.1).drew⟩
  · show (World.setCell _ _ _).heap[b7]? = _
    rw [set_other _ _ _ _ _ (hne h.p0 (by decide))]; exact h.p0
  · show (World.setCell _ _ _).heap[b8]? = _
    rw [set_other _ _ _ _ _ (hne h.p1 (by decide))]; exact h.p1
theorem E2.put_m {w W : World} {y : Mn} {hb mb b7 b8 : Nat} {a0 a1 a2 a3 : Int} {hl : List UInt32} {ml : List UInt8} (h : E2 w W y hb mb b7 b8 a0 a1 a2 a3 hl ml) (j : Nat) (hj : j < 16) (v : UInt8) : E2 w (W.setCell ⟨mb, j, none⟩ (bv v)).drew y hb mb b7 b8 a0 a1 a2 a3 hl (ml.set j v) := by
  have m := (h.m.put_m j hj v).drew
  have hne : ∀ {k : Nat} {t : TypeId} {cs : Array Value}, W.heap[k]? = some (.cells cs t (0, 0)) → t ≠ 5 → k ≠ mb := fun {k t cs} hk ht e => own_ng h.m.m hk ht (by rw [e]; rfl)
  refine ⟨m, ?_, ?_, (below_set h.bel _ _ h.m.mlt.1).drew⟩
  · show (World.setCell _ _ _).heap[b7]? = _
    rw [set_other _ _ _ _ _ (hne h.p0 (by decide))]; exact h.p0
  · show (World.setCell _ _ _).heap[b8]? = _
    rw [set_other _ _ _ _ _ (hne h.p1 (by decide))]; exact h.p1
theorem E2.facts {w W : World} {y : Mn} {hb mb b7 b8 : Nat} {a0 a1 a2 a3 : Int} {hl : List UInt32} {ml : List UInt8} (h : E2 w W y hb mb b7 b8 a0 a1 a2 a3 hl ml) (k : Nat) (hk : k < 256) (i : Nat) (hi : i < 8) (j : Nat) (hj : j < 16) :
    W.cell? ⟨w.heap.size, 261, none⟩ = some (.slice (some ⟨hb, 0, none⟩) 8 8) ∧ W.cell? ⟨w.heap.size, 262, none⟩ = some (.slice (some ⟨mb, 0, none⟩) 16 16) ∧ W.cell? ⟨w.heap.size, 5 + k, none⟩ = some (.int .u32 (y.r k).toNat) ∧
    W.cell? ⟨hb, i, none⟩ = some (.int .u32 (hl.getD i 0).toNat) ∧ W.frozen? ⟨hb, i, none⟩ = false ∧ W.cell? ⟨mb, j, none⟩ = some (.int .u8 (ml.getD j 0).toNat) ∧ W.frozen? ⟨mb, j, none⟩ = false := by
  have hr := h.m.mr
  obtain ⟨ad, e1, c1⟩ := hr.h.toIsB.at i hi
  obtain ⟨ad2, e2, c2⟩ := hr.m.toIsB.at j hj
  injection e1 with e1
  injection e2 with e2
  subst e1 e2
  rw [Addr.add_lit, Nat.zero_add] at c1 c2
  exact ⟨hr.ch, hr.cm, hr.cr k hk, c1, own_free h.m.h, c2, own_free h.m.m⟩
theorem E2.below {w W V : World} {y : Mn} {hb mb b7 b8 : Nat} {a0 a1 a2 a3 : Int} {hl : List UInt32} {ml : List UInt8} (h : E2 w W y hb mb b7 b8 a0 a1 a2 a3 hl ml) (b : Below W.heap.size W V) : E2 w V y hb mb b7 b8 a0 a1 a2 a3 hl ml :=
  ⟨h.m.below b, (b.block _ (lt_of_heap h.p0)).trans h.p0, (b.block _ (lt_of_heap h.p1)).trans h.p1, bel_trans h.bel b⟩
/-- What a run of VmEnds tells: how it ended, and where its lists lie. -/
inductive Res (V : World) (l : List UInt8) (most : Int) (x : Mn) (fuel : Int) (b : Nat) (L : List Value) (v : Value) (er : Int) : Prop where
  | halt (G : Nat) (y : Mn) (out : List UInt8) (hr : runF l most G 0 x fuel [] = some (.halt y out)) (he : er = 0) (BH : Option Addr) (dH : Nat) (BM : Option Addr) (dM : Nat) (A : Option Addr) (c : Nat) (hL : mcL y (.slice BH 8 dH) (.slice BM 16 dM) = L) (m : MR V b y BH 8 dH BM 16 dM) (hv : v = .slice A out.length c) (hB : IsBB V V.heap.size A out.length c out)
  | er (G : Nat) (hr : runF l most G 0 x fuel [] = some (.er er)) (he : er = 111 ∨ er = 112) (hL : L = zL) (hv : v = .slice none 0 0)
theorem er_run {w W : World} {y : Mn} {hb mb b7 b8 : Nat} {a0 a1 a2 a3 : Int} {hl : List UInt32} {ml : List UInt8} {l : List UInt8} {A : Option Addr} {n c : Nat} (h : E2 w W y hb mb b7 b8 a0 a1 a2 a3 hl ml) (hB : IsBB w w.heap.size A n c l) (hr : rightP l true) (fuel most : Int) (hm : 0 ≤ most ∧ most ≤ 200) (hf : fuel ≤ 150) (L : List Value) (hL : mcL { y with h := hl, m := ml } (.slice (some ⟨hb, 0, none⟩) 8 8) (.slice (some ⟨mb, 0, none⟩) 16 16) = L) :
    Calls Try.prog 17 #[.slice A n c, .bool true, .agg L.toArray, .int .i64 fuel, .int .i64 most] W fun e w' => ∃ L2 v er, e = .returned (.tuple #[.agg L2.toArray, v, .int .i64 er]) ∧ Hid (Lay L2) ∧ Hid (Below W.heap.size W (Sto w' L2)) ∧ Hid (Res (Sto w' L2) l most { y with h := hl, m := ml } fuel w'.heap.size L2 v er) := by
  subst hL
  have hmr := h.m.mr
  have ok : ({ y with h := hl, m := ml } : Mn).ok := by
    have n1 := h.m.nh
    have n2 := h.m.nm
    exact ⟨⟨3, by omega, by rw [n1]⟩, ⟨4, by omega, by rw [n2]⟩⟩
  refine (Run_any W _ l A n c true fuel most _ _ 8 8 16 16 (hB.on h.bel) hmr.h hmr.m (by omega) (by omega) (by omega) (by omega)).mono ?_
  intro e w' hp
  cases hp with
  | wrong er h h0 he b => exact absurd hr h
  | arg h hk he b => exact absurd ok hk
  | er h hk G er hrun he b =>
    exact ⟨zL, .slice none 0 0, er, he, lay_ok zL (mc_len _ _ _) zo, bel_trans b (sto_bel w' _), .er G hrun (runF_er G 0 _ fuel [] er hrun) rfl rfl⟩
  | halt h hk G y2 out hrun BH dH BM dM v he hl2 b =>
    obtain ⟨o1, o2, o3⟩ := hl2
    have hlen := runF_len (l := l) (most := most) 1000 (by omega) G 0 _ fuel [] y2 out (by simp) hrun
    have mm := mr_new o1 o2 (by omega) (by omega)
    obtain ⟨A2, c2, rfl, hb3⟩ := own_isBB o3 (by omega)
    exact ⟨_, _, 0, he, lay_ok _ (mc_len _ _ _) (mc_one _ _ _ _ _ _ _), bel_trans b (sto_bel w' _), .halt G y2 out hrun rfl BH dH BM dM A2 c2 rfl mm.1 rfl (hb3.on (sto_bel w' _))⟩
end Go.Proofs.Ytaogileaeflnfaa
set_option linter.unusedVariables false
set_option linter.unusedSimpArgs false
namespace Go.Proofs.Ytaogileaeflnfaa
open Go.RowKit

theorem Res.on {V V' : World} {l : List UInt8} {most : Int} {x : Mn} {fuel : Int} {b : Nat} {L : List Value} {v : Value} {er : Int} (h : Res V l most x fuel b L v er) (k : Below V.heap.size V V') : Res V' l most x fuel b L v er := by
  cases h with
  | halt G y out hr he BH dH BM dM A c hL m hv hB => exact .halt G y out hr he BH dH BM dM A c hL (m.on k) hv (hB.on k)
  | er G hr he hL hv => exact .er G hr he hL hv
theorem both {V : World} {l : List UInt8} {m1 m2 : Int} {x : Mn} {f1 f2 : Int} {b1 b2 : Nat} {L1 L2 : List Value} {v1 v2 : Value} {e1 e2 : Int} (h1 : Res V l m1 x f1 b1 L1 v1 e1) (h2 : Res V l m2 x f2 b2 L2 v2 e2) (hm : m1 ≤ m2) (hf : f1 ≤ f2) (h0 : 0 ≤ m1) :
    (e1 = 0 ∧ e2 = 0 ∧ ∃ (A : Option Addr) (n c : Nat) (A2 : Option Addr) (c2 : Nat) (BH : Option Addr) (dH : Nat) (BM : Option Addr) (dM : Nat), v1 = .slice A n c ∧ v2 = .slice A2 n c2 ∧ decide ((n : Int) ≤ m1) = true
      ∧ Hid (V.heap[b1]? = some (.cells L1.toArray 30 (0, 0))) ∧ Hid (V.heap[b2]? = some (.cells L2.toArray 30 (0, 0)))
      ∧ Hid ((Try.prog.info? 30).map (·.size) = some L1.toArray.size) ∧ Hid ((Try.prog.info? 30).map (·.size) = some L2.toArray.size)
      ∧ Hid (Calls Try.prog 11 #[.agg L1.toArray, .agg L2.toArray] V fun e w' => e = .returned (.bool true) ∧ Hid (Below V.heap.size V w'))
      ∧ Hid (∀ V', Below V.heap.size V V' → Calls Try.prog 18 #[.slice A n c, .slice A2 n c2] V' fun e w' => e = .returned (.bool true) ∧ Hid (Below V.heap.size V w') ∧ w'.cell? ⟨b1, 261, none⟩ = some (.slice BH 8 dH) ∧ w'.cell? ⟨b1, 262, none⟩ = some (.slice BM 16 dM)))
    ∨ (Hid (e1 = 111 ∨ e1 = 112) ∧ v1 = .slice none 0 0) := by
  cases h1 with
  | er G hr he hL hv => exact .inr ⟨hid he, hv⟩
  | halt G y out hr he BH dH BM dM A c hL m hv hB =>
    have hp := runF_plus hm G 0 x f1 f2 [] y out hf hr
    have hlen := runF_len m1 (Int.le_refl _) G 0 x f1 [] y out (by simpa using h0) hr
    cases h2 with
    | er G2 hr2 he2 hL2 hv2 => exact absurd (runF_same hp hr2) (by intro h; cases h)
    | halt G2 y2 out2 hr2 he2 BH2 dH2 BM2 dM2 A2 c2 hL2 m2' hv2 hB2 =>
      have es := runF_same hp hr2
      injection es with ey eo
      subst ey eo
      refine .inl ⟨he, he2, A, out.length, c, A2, c2, BH, dH, BM, dM, hv, hv2, decide_eq_true hlen, ?_⟩
      rw [← hL, ← hL2]
      refine ⟨hid m.row, hid m2'.row, hid (size30 _ (mc_size _ _ _)), hid (size30 _ (mc_size _ _ _)), hid ?_, hid ?_⟩
      · exact (SameMachine_true V y y ⟨rfl, rfl, rfl, rfl, rfl, rfl⟩ BH BM BH2 BM2 8 dH 16 dM dH2 dM2 y.h y.m m.h m2'.h m.m m2'.m).mono (fun e w' h => ⟨h.1, hid h.2⟩)
      · intro V' k
        refine (SameBytes_true A A2 out out.length c c2 V' (hB.on k).toIsB (hB2.on k).toIsB).mono ?_
        rintro e w' ⟨rfl, j, rfl⟩
        have mk := m.on (below_drewN k j)
        exact ⟨rfl, hid (below_drewN k j), mk.ch, mk.cm⟩
end Go.Proofs.Ytaogileaeflnfaa
