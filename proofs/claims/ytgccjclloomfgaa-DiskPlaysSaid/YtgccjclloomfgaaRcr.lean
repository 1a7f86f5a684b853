/-
  The document's disk: Crash.
-/
import Derived.Test.YtgccjclloomfgaaRre
import Derived.Test.YtgccjclloomfgaaSpl
namespace Go.Proofs.Ytgccjclloomfgaa
open Go.RowKit

/-- What a crash leaves of the document's disk. -/
def Dk.rcrash (d : Dk) (k : Int) (junk : List UInt8) : Dk := { d.crash k junk with err := 0 }
theorem rcrash_cells {d : Dk} {k : Int} {junk X : List UInt8} (hx : X = (d.crash k junk).now) (A : Option Addr) (c : Nat) (A9 : Option Addr) (k9 : Nat) :
    Ending.returned (.agg #[.int .i64 (d.most : Nat), .slice A X.length c, .slice A9 X.length k9, .int .i64 (X.length : Nat), .bool false, .int .i64 0, .int .i64 0, .int .i64 0]) = .returned (.agg #[.int .i64 ((d.rcrash k junk).most : Nat), .slice A X.length c, .slice A9 X.length k9, .int .i64 ((d.rcrash k junk).floor : Nat), .bool (d.rcrash k junk).down, .int .i64 ((d.rcrash k junk).armed : Nat), .int .i64 ((d.rcrash k junk).fails : Nat), .int .i64 ((d.rcrash k junk).err : Nat)]) := by
  subst hx
  rfl
theorem three_rows {w W1 : World} {A B C : Array Value} (b : Below (((w.alloc (.cells A 43)).alloc (.cells B 40)).alloc (.cells C 43)).heap.size (((w.alloc (.cells A 43)).alloc (.cells B 40)).alloc (.cells C 43)) W1) :
    W1.heap[w.heap.size]? = some (.cells A 43 (0, 0)) ∧ W1.heap[w.heap.size + 1]? = some (.cells B 40 (0, 0)) ∧ W1.heap[w.heap.size + 1 + 1]? = some (.cells C 43 (0, 0)) ∧ Below w.heap.size w W1 ∧ w.heap.size + 1 + 1 < W1.heap.size := by
  have hz : (((w.alloc (.cells A 43)).alloc (.cells B 40)).alloc (.cells C 43)).heap.size = w.heap.size + 3 := by simp
  have z1 : (w.alloc (.cells A 43)).heap.size = w.heap.size + 1 := by simp
  have h0 : (((w.alloc (.cells A 43)).alloc (.cells B 40)).alloc (.cells C 43)).heap[w.heap.size]? = some (.cells A 43 (0, 0)) := (heap_alloc_old _ _ (by simp; omega)).trans ((heap_alloc_old _ _ (by simp)).trans (heap_alloc_new w _))
  have h1 : (((w.alloc (.cells A 43)).alloc (.cells B 40)).alloc (.cells C 43)).heap[w.heap.size + 1]? = some (.cells B 40 (0, 0)) := (heap_alloc_old _ _ (by simp)).trans (heap_alloc2_new w _ _)
  have h2 : (((w.alloc (.cells A 43)).alloc (.cells B 40)).alloc (.cells C 43)).heap[w.heap.size + 1 + 1]? = some (.cells C 43 (0, 0)) := by
    have := heap_alloc2_new (w.alloc (.cells A 43)) (.cells B 40) (.cells C 43)
    rw [z1] at this
    exact this
  have hs := b.size
  rw [hz] at hs
  exact ⟨(b.block _ (by rw [hz]; omega)).trans h0, (b.block _ (by rw [hz]; omega)).trans h1, (b.block _ (by rw [hz]; omega)).trans h2, ((fr2 w _ _).alloc (by simp; omega) _).trans (b.mono (by rw [hz]; omega)), by omega⟩
theorem fr3 (w : World) (A B C : Obj) : Below w.heap.size w (((w.alloc A).alloc B).alloc C) := (fr2 w A B).alloc (by simp; omega) C
set_option maxRecDepth 10000 in
set_option maxHeartbeats 8000000 in
theorem RCrash_neg (d : Dk) (AN : Option Addr) (cN : Nat) (AO : Option Addr) (cO : Nat) (k : Int) (J : Option Addr) (jn jc : Nat) (junk : List UInt8) (w : World) (h : RfOk d) (hO : IsBB w w.heap.size AO d.old.length cO d.old) (hk : k < 0) :
    Calls Try.prog 30 #[.agg (rcells d (.slice AN d.now.length cN) (.slice AO d.old.length cO)), .agg #[.int .i64 k, .slice J jn jc]] w fun r w' => ∃ N' O', r = .returned (.agg (rcells (d.rcrash k junk) N' O')) ∧ w'.ownsRow w.heap.size 5 1 N' (d.rcrash k junk).now.length ((d.rcrash k junk).now.map bv) ∧ w'.ownsRow w.heap.size 5 1 O' (d.rcrash k junk).now.length ((d.rcrash k junk).now.map bv) ∧ Below w.heap.size w w' := by
  simp only [rcells]
  have hod := h.od
  have hmo := h.mo
  have HX : Hid (d.old = (d.crash k junk).now) := by show d.old = (if k < 0 then d.old else _); rw [if_pos hk]
  have HC1 := fun A B C => hid (copied_any AO d.old cO (((w.alloc A).alloc B).alloc C) (hO.on (fr3 w A B C)))
  clear h hO
  go_enter Try.func30, Try.ntmps30
  go_upto_region 15 with (go_at_call 50; refine (HC1 _ _ _).out.mono ?_; rintro r W1 ⟨v, rfl, o1, b1⟩; obtain ⟨A1, c1, rfl⟩ := own_sl o1; obtain ⟨r0, r1, r2, bT, sT⟩ := three_rows b1; have T0 := hid r0; have T2 := hid r2; have BT := hid bT; have HT := hid (own_base (b2 := w.heap.size) o1 (by simp; omega)); have k0 := row_cell r1 0; have k1 := row_cell r1 1; simp only [List.getElem?_toArray, List.getElem?_cons_zero, List.getElem?_cons_succ] at k0 k1; clear o1 b1 r0 r1 r2 bT)
  clear HC1

  have hI := own_isB2 HT.out (by omega)
  have HC := hid (copied_any A1 d.old c1 W1.drew hI.drew)
  clear hI
  refine wp_region_held_drew (S := fun w' => w'.heap[w.heap.size]? = some (.cells #[.int .i64 (d.most : Nat), .slice AN d.now.length cN, .slice AO d.old.length cO, .int .i64 (d.floor : Nat), .bool d.down, .int .i64 (d.armed : Nat), .int .i64 (d.fails : Nat), .int .i64 (d.err : Nat)] 43 (0, 0))) (by kernel_rfl) T0.out (fun hH => ?_)
  refine wpAnyH_take (i := 0) (oi := ⟨some 82, _, _, _, _, _⟩) (v := .pointer (some ⟨w.heap.size, 0, none⟩)) rfl (by kernel_rfl) (by kernel_rfl) (by kernel_rfl) (fun _ _ _ h => h) (Or.inl ⟨by rfl, by intro w hSw; go_simp⟩) hH ?_
  try simp only [Act.put, List.setIfInBounds_toArray, List.set_cons_zero, List.set_cons_succ]
  refine wpAnyH_take (i := 1) (oi := ⟨some 83, _, _, _, _, _⟩) (v := .int .i64 (d.most : Nat)) rfl (by kernel_rfl) (by kernel_rfl) (by kernel_rfl) (fun _ _ _ h => h) (Or.inl ⟨by rfl, by intro w hSw; obtain ⟨c0, c1, c2, c3, c4, c5, c6, c7⟩ := rcells_at hSw; go_simp⟩) hH ?_
  try simp only [Act.put, List.setIfInBounds_toArray, List.set_cons_zero, List.set_cons_succ]
  refine wpAnyH_take (i := 2) (oi := ⟨some 84, _, _, _, _, _⟩) (v := .slice A1 d.old.length c1) rfl (by kernel_rfl) (by kernel_rfl) (by kernel_rfl) (fun _ _ _ h => h) (Or.inl ⟨by rfl, by intro w hSw; go_simp⟩) hH ?_
  try simp only [Act.put, List.setIfInBounds_toArray, List.set_cons_zero, List.set_cons_succ]
  refine wpAnyH_take (i := 3) (oi := ⟨some 85, _, _, _, _, _⟩) (v := .slice A1 d.old.length c1) rfl (by kernel_rfl) (by kernel_rfl) (by kernel_rfl) (fun _ _ _ h => h) (Or.inl ⟨by rfl, by intro w hSw; go_simp⟩) hH ?_
  try simp only [Act.put, List.setIfInBounds_toArray, List.set_cons_zero, List.set_cons_succ]
  refine wpAnyH_take (i := 5) (oi := ⟨some 87, _, _, _, _, _⟩) (v := .slice A1 d.old.length c1) rfl (by kernel_rfl) (by kernel_rfl) (by kernel_rfl) (fun _ _ _ h => h) (Or.inl ⟨by rfl, by intro w hSw; go_simp⟩) hH ?_
  try simp only [Act.put, List.setIfInBounds_toArray, List.set_cons_zero, List.set_cons_succ]
  refine wpAnyH_take (i := 6) (oi := ⟨some 88, _, _, _, _, _⟩) (v := .int .i64 (d.old.length : Nat)) rfl (by kernel_rfl) (by kernel_rfl) (by kernel_rfl) (fun _ _ _ h => h) (Or.inl ⟨by rfl, by intro w hSw; go_simp⟩) hH ?_
  try simp only [Act.put, List.setIfInBounds_toArray, List.set_cons_zero, List.set_cons_succ]
  refine wpAnyH_ready (rs := [4]) (by kernel_rfl) (by simp) (AllReadyH.cons rfl (fun K hK => ?_) AllReadyH.nil)
  go_simp
  go_at_call 50
  refine HC.out.mono ?_
  rintro r W8 ⟨v9, rfl, o9, b9⟩
  obtain ⟨A9, k9, rfl⟩ := own_sl o9
  have b9' := below_at rfl b9
  have U0 := hid ((b9'.block w.heap.size (by omega)).trans T0.out)
  have U2 := hid ((b9'.block (w.heap.size + 1 + 1) (by omega)).trans T2.out)
  have U3 := hid (own_below HT.out b9')
  have B8 := hid (BT.out.trans (b9'.mono BT.out.size))
  have s8 : w.heap.size + 1 + 1 < W8.heap.size := Nat.lt_of_lt_of_le sT b9'.size
  have O9 := hid (own_base (b2 := w.heap.size) (own_at (k := W1.heap.size) rfl o9) (by omega))
  clear o9 b9 b9' HT
  try dsimp only
  refine hK.out _ _ U0.out (fun hH2 => ?_)
  clear hK K
  refine wpAnyH_take (i := 7) (oi := ⟨some 89, _, _, _, _, _⟩) (v := .agg #[.int .i64 (d.most : Nat), .slice A1 d.old.length c1, .slice A9 d.old.length k9, .int .i64 (d.old.length : Nat), .bool false, .int .i64 0, .int .i64 0, .int .i64 0]) rfl (by kernel_rfl) (by kernel_rfl) (by kernel_rfl) (fun _ _ _ h => h) (Or.inl ⟨by rfl, by intro w hSw; go_simp⟩) hH2 ?_
  try simp only [Act.put, List.setIfInBounds_toArray, List.set_cons_zero, List.set_cons_succ]
  refine wpAnyH_ready (rs := [8]) (by kernel_rfl) (by simp) (AllReadyH.cons rfl (fun K hK => ?_) AllReadyH.nil)
  refine wp_store_row (o := ⟨none, .store 43 (.tmp 4) (.tmp 89), _, _, _, _⟩) 43 (.tmp 4) (.tmp 89) rfl (w.heap.size + 1 + 1) #[.int .i64 (d.most : Nat), .slice A1 d.old.length c1, .slice A9 d.old.length k9, .int .i64 (d.old.length : Nat), .bool false, .int .i64 0, .int .i64 0, .int .i64 0] rfl rfl 43 _ U2.out (by kernel_rfl) rfl (all8 ..) ?_
  have q1 : Hid ((W8.setRow (w.heap.size + 1 + 1) #[.int .i64 (d.most : Nat), .slice A1 d.old.length c1, .slice A9 d.old.length k9, .int .i64 (d.old.length : Nat), .bool false, .int .i64 0, .int .i64 0, .int .i64 0]).heap[w.heap.size + 1 + 1]? = some (.cells #[.int .i64 (d.most : Nat), .slice A1 d.old.length c1, .slice A9 d.old.length k9, .int .i64 (d.old.length : Nat), .bool false, .int .i64 0, .int .i64 0, .int .i64 0] 43 (0, 0))) := setRow_heap W8 (w.heap.size + 1 + 1) _ _ 43 _ U2.out
  have bb : Hid (But (· = w.heap.size + 1 + 1) W8 (W8.setRow (w.heap.size + 1 + 1) #[.int .i64 (d.most : Nat), .slice A1 d.old.length c1, .slice A9 d.old.length k9, .int .i64 (d.old.length : Nat), .bool false, .int .i64 0, .int .i64 0, .int .i64 0])) := ⟨rfl, rfl, rfl, by simp [World.setRow], fun i _ hn => setRow_other W8 (w.heap.size + 1 + 1) i _ (fun e => hn e)⟩
  generalize W8.setRow (w.heap.size + 1 + 1) #[.int .i64 (d.most : Nat), .slice A1 d.old.length c1, .slice A9 d.old.length k9, .int .i64 (d.old.length : Nat), .bool false, .int .i64 0, .int .i64 0, .int .i64 0] = W9 at q1 bb ⊢
  try simp only [Act.put, List.setIfInBounds_toArray, List.set_cons_zero, List.set_cons_succ]
  refine hK.out _ _ ((bb.out.block w.heap.size (by omega) (fun e => absurd (show w.heap.size = w.heap.size + 1 + 1 from e) (by omega))).trans U0.out) (fun hH3 => ?_)
  clear hK K
  refine wpAnyH_done (by kernel_rfl) ?_ _
  clear hH hH2 hH3
  go_wp2_with fail
  refine bodyPost_ret (results_d0 (by kernel_rfl : Try.f30.results = #[.cell 4 43]) _ _ (w.heap.size + 1 + 1) _ _ _ rfl q1.out rfl) rfl ?_
  have e1 := own_gne U3.out U2.out (by decide)
  have e2 := own_gne O9.out U2.out (by decide)
  have hx := HX.out
  refine ⟨.slice A1 d.old.length c1, .slice A9 d.old.length k9, rcrash_cells hx .., ?_, ?_, B8.out.trans (bb.out.below (B := w.heap.size) (by rintro i rfl; omega) B8.out.size)⟩
  · show World.ownsRow _ _ _ _ _ (d.crash k junk).now.length ((d.crash k junk).now.map bv)
    rw [← hx]
    exact ownsRow_but U3.out bb.out e1
  · show World.ownsRow _ _ _ _ _ (d.crash k junk).now.length ((d.crash k junk).now.map bv)
    rw [← hx]
    exact ownsRow_but O9.out bb.out e2

end Go.Proofs.Ytgccjclloomfgaa
