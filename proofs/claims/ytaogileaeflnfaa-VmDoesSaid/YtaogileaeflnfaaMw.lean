/-
  Merged: Awn Awk.
-/
import Derived.Test.YtaogileaeflnfaaMr
import Derived.Test.YtaogileaeflnfaaDwx
import Derived.Test.YtaogileaeflnfaaHld
import Derived.Test.YtaogileaeflnfaaMn
/-
  The chapter's examples, as plain data.
-/
set_option linter.unusedVariables false
set_option linter.unusedSimpArgs false
namespace Go.Proofs.Ytaogileaeflnfaa
open Go.RowKit

def x1 : Mn := nM 2 2
theorem x1_ok : x1.ok := ⟨⟨1, by omega, rfl⟩, ⟨1, by omega, rfl⟩⟩
theorem x3_eq : doneM 2 0 0 5 x1 = { x1 with a := 5 } := by
  unfold doneM
  rw [if_pos ⟨by decide, by decide, x1_ok⟩]
  rfl
def x3 : Mn := { x1 with a := 5 }
theorem x3_ok : x3.ok := x1_ok
theorem x4_a : (doneM 24 0 0 0 x3).a = 399641 := by
  unfold doneM
  rw [if_pos ⟨by decide, by decide, x3_ok⟩]
  rfl
theorem x3_holds : holdsM 19 0 7 5 x3 = true := by
  unfold holdsM
  rw [if_pos ⟨by decide, by decide, x3_ok⟩]
  rfl
theorem g24_0 : getR [24, 0] ((0 : Nat) : Int) = ⟨3, 0, 0, 0, 1, 0⟩ := by kernel_rfl
theorem g24_1 : getR [24, 0] ((1 : Nat) : Int) = ⟨0, 0, 0, 0, 2, 0⟩ := by kernel_rfl
theorem g232 : getR [232, 254] ((0 : Nat) : Int) = ⟨29, 0, 0, 0, 2, 0⟩ := by kernel_rfl
theorem g208_0 : getR [208, 208, 0] ((0 : Nat) : Int) = ⟨26, 0, 0, 0, 1, 0⟩ := by kernel_rfl
theorem g208_1 : getR [208, 208, 0] ((1 : Nat) : Int) = ⟨26, 0, 0, 0, 2, 0⟩ := by kernel_rfl
theorem g208_2 : getR [208, 208, 0] ((2 : Nat) : Int) = ⟨0, 0, 0, 0, 3, 0⟩ := by kernel_rfl
theorem g0 : getR [0] ((0 : Nat) : Int) = ⟨0, 0, 0, 0, 1, 0⟩ := by kernel_rfl
theorem right24 : rightP [24, 0] false := by
  refine ⟨by decide, by decide, [0, 1], by decide, ?_⟩
  intro k hk
  simp only [List.mem_cons, List.not_mem_nil, or_false] at hk
  rcases hk with rfl | rfl
  · unfold okS nxt
    rw [g24_0]
    exact ⟨by decide, by decide, by decide⟩
  · unfold okS nxt
    rw [g24_1]
    exact ⟨by decide, by decide, by decide⟩
theorem right232 : rightP [232, 254] false := by
  refine ⟨by decide, by decide, [0], by decide, ?_⟩
  intro k hk
  simp only [List.mem_cons, List.not_mem_nil, or_false] at hk
  subst hk
  unfold okS nxt
  rw [g232]
  exact ⟨by decide, fun _ => ⟨0, by decide, rfl⟩, by decide⟩
theorem right208 : rightP [208, 208, 0] true := by
  refine ⟨by decide, by decide, [0, 1, 2], by decide, ?_⟩
  intro k hk
  simp only [List.mem_cons, List.not_mem_nil, or_false] at hk
  rcases hk with rfl | rfl | rfl
  · unfold okS nxt
    rw [g208_0]
    exact ⟨by decide, by decide, by decide⟩
  · unfold okS nxt
    rw [g208_1]
    exact ⟨by decide, by decide, by decide⟩
  · unfold okS nxt
    rw [g208_2]
    exact ⟨by decide, by decide, by decide⟩
theorem right0 : rightP [0] true := by
  refine ⟨by decide, by decide, [0], by decide, ?_⟩
  intro k hk
  simp only [List.mem_cons, List.not_mem_nil, or_false] at hk
  subst hk
  unfold okS nxt
  rw [g0]
  exact ⟨by decide, by decide, by decide⟩
theorem run24 (x : Mn) (f : Int) : runF [24, 0] f 2 0 x 0 [] = some (.halt { x with a := x.a + 1 } []) := by
  unfold runF
  rw [g24_0, show nxt [24, 0] 0 = 1 by decide]
  rw [if_neg (by decide), if_neg (by decide), if_pos (by decide)]
  unfold runF
  rw [g24_1]
  rw [if_pos (by decide)]
  rfl
theorem run232 (x : Mn) (m f : Int) : runF [232, 254] m 1 0 x f [] = some (.er 111) := by
  unfold runF
  rw [g232]
  rw [if_neg (by decide), if_neg (by decide), if_neg (by decide), if_pos (by cases x.f <;> rfl), if_pos (.inl rfl)]
theorem run208 (x : Mn) (f : Int) : runF [208, 208, 0] 1 2 0 x f [] = some (.er 112) := by
  unfold runF
  rw [g208_0, show nxt [208, 208, 0] 0 = 1 by decide]
  rw [if_neg (by decide), if_pos (by decide), if_neg (by decide)]
  unfold runF
  rw [g208_1]
  rw [if_neg (by decide), if_pos (by decide), if_pos (by show (1 : Int) ≤ 1; decide)]
/-- What an example's Run tells. -/
theorem awk_run24 {w w' : World} {x : Mn} {nH nM : Nat} {e : Ending} (hk : x.ok) (h : RunPost w [24, 0] false x 0 0 nH nM e w') : ∃ y BH dH BM dM v, e = .returned (.tuple #[vM y (.slice BH nH dH) (.slice BM nM dM), v, .int .i64 0]) ∧ y.a = x.a + 1 ∧ Below w.heap.size w w' := by
  cases h with
  | wrong er h h0 he b => exact absurd right24 h
  | arg h hk2 he b => exact absurd hk hk2
  | er h hk2 G er hr he b =>
    have := runF_same hr (run24 x 0)
    cases this
  | halt h hk2 G y out hr BH dH BM dM v he hl b =>
    have := runF_same hr (run24 x 0)
    injection this with e1 e2
    exact ⟨y, BH, dH, BM, dM, v, he, by rw [e1], b⟩
def zeroT (er : Int) : Ending := .returned (.tuple #[vM zM (.slice none 0 0) (.slice none 0 0), .slice none 0 0, .int .i64 er])
theorem awk_run232 {w w' : World} {x : Mn} {nH nM : Nat} {e : Ending} (hk : x.ok) (h : RunPost w [232, 254] false x 50 0 nH nM e w') : e = zeroT 111 ∧ Below w.heap.size w w' := by
  cases h with
  | wrong er h h0 he b => exact absurd right232 h
  | arg h hk2 he b => exact absurd hk hk2
  | er h hk2 G er hr he b =>
    have := runF_same hr (run232 x 0 50)
    cases this
    exact ⟨he, b⟩
  | halt h hk2 G y out hr BH dH BM dM v he hl b =>
    have := runF_same hr (run232 x 0 50)
    cases this
theorem awk_run208 {w w' : World} {x : Mn} {nH nM : Nat} {e : Ending} (hk : x.ok) (h : RunPost w [208, 208, 0] true x 0 1 nH nM e w') : e = zeroT 112 ∧ Below w.heap.size w w' := by
  cases h with
  | wrong er h h0 he b => exact absurd right208 h
  | arg h hk2 he b => exact absurd hk hk2
  | er h hk2 G er hr he b =>
    have := runF_same hr (run208 x 0)
    cases this
    exact ⟨he, b⟩
  | halt h hk2 G y out hr BH dH BM dM v he hl b =>
    have := runF_same hr (run208 x 0)
    cases this
theorem awk_run0 {w w' : World} {nH nM : Nat} {e : Ending} (h : RunPost w [0] true zM 0 1 nH nM e w') : e = zeroT 2 ∧ Below w.heap.size w w' := by
  have hk : ¬ zM.ok := by
    rintro ⟨h, _⟩
    exact absurd (pw_pos h) (by decide)
  cases h with
  | wrong er h h0 he b => exact absurd right0 h
  | arg h hk2 he b => exact ⟨he, b⟩
  | er h hk2 G er hr he b => exact absurd hk2 hk
  | halt h hk2 G y out hr BH dH BM dM v he hl b => exact absurd hk2 hk
/-- A machine that is stored in a new block. -/
theorem mr_new {w W : World} {y : Mn} {BH BM : Option Addr} {nH dH nM dM : Nat} (o1 : W.ownsRow w.heap.size 25 1 (.slice BH nH dH) nH (y.h.map U.bv)) (o2 : W.ownsRow w.heap.size 5 1 (.slice BM nM dM) nM (y.m.map bv)) (h1 : nH ≤ 5000) (h2 : nM ≤ 5000) :
    MR ((W.alloc (.cells zL.toArray 30)).setRow W.heap.size (mcL y (.slice BH nH dH) (.slice BM nM dM)).toArray) W.heap.size y BH nH dH BM nM dM ∧ Below W.heap.size W ((W.alloc (.cells zL.toArray 30)).setRow W.heap.size (mcL y (.slice BH nH dH) (.slice BM nM dM)).toArray) := by
  have b : Below W.heap.size W ((W.alloc (.cells zL.toArray 30)).setRow W.heap.size (mcL y (.slice BH nH dH) (.slice BM nM dM)).toArray) := by
    refine ⟨rfl, rfl, rfl, by rw [size_setRow]; simp, fun i hi => ?_⟩
    rw [setRow_other _ _ _ _ (by omega)]
    exact heap_alloc_old _ _ hi
  exact ⟨⟨setRow_heap _ _ _ _ _ _ (heap_alloc_new W _), (U.own_isB2 o1 (by omega)).on b, (own_isB2 o2 (by omega)).on b⟩, b⟩
/-- The cells of a stored machine. -/
theorem row_new (W : World) (L : List Value) : ((W.alloc (.cells zL.toArray 30)).setRow W.heap.size L.toArray).heap[W.heap.size]? = some (.cells L.toArray 30 (0, 0)) ∧ Below W.heap.size W ((W.alloc (.cells zL.toArray 30)).setRow W.heap.size L.toArray) := by
  refine ⟨setRow_heap _ _ _ _ _ _ (heap_alloc_new W _), rfl, rfl, rfl, by rw [size_setRow]; simp, fun i hi => ?_⟩
  rw [setRow_other _ _ _ _ (by omega)]
  exact heap_alloc_old _ _ hi
end Go.Proofs.Ytaogileaeflnfaa
/-
  The contract of awake (written by tools/stage17/gen_awk.py).
-/
set_option linter.unusedVariables false
set_option linter.unusedSimpArgs false
namespace Go.Proofs.Ytaogileaeflnfaa
open Go.RowKit

/-- A machine that stands in a block, its cells L. -/
structure Aw (w W : World) (b : Nat) (L : List Value) (x : Mn) (AH : Option Addr) (nH cH : Nat) (AM : Option Addr) (nM cM : Nat) : Prop where
  m : MR W b x AH nH cH AM nM cM
  hL : mcL x (.slice AH nH cH) (.slice AM nM cM) = L
  bel : Below w.heap.size w W
section
variable {w W V : World} {b : Nat} {L : List Value} {x : Mn} {AH AM : Option Addr} {nH cH nM cM : Nat}
theorem Aw.on (h : Aw w W b L x AH nH cH AM nM cM) (k : Below W.heap.size W V) : Aw w V b L x AH nH cH AM nM cM := ⟨h.m.on k, h.hL, bel_trans h.bel k⟩
theorem Aw.row (h : Aw w W b L x AH nH cH AM nM cM) : W.heap[b]? = some (.cells L.toArray 30 (0, 0)) := by rw [← h.hL]; exact h.m.row
theorem Aw.ca (h : Aw w W b L x AH nH cH AM nM cM) : W.cell? ⟨b, 0, none⟩ = some (.int .u32 (x.a.toNat : Nat)) := h.m.ca
theorem Aw.sz (h : Aw w W b L x AH nH cH AM nM cM) : (Try.prog.info? 30).map (·.size) = some L.toArray.size := by rw [← h.hL]; exact size30 _ (mc_size _ _ _)
/-- A list of cells that may be stored whole. -/
def Lay (L : List Value) : Prop := (Try.prog.info? 30).map (·.size) = some L.toArray.size ∧ zL.toArray.size = L.toArray.size ∧ L.toArray.all (·.oneCell') = true
/-- The world behind an alloc and a whole store. -/
def Sto (W : World) (L : List Value) : World := (W.alloc (.cells zL.toArray 30)).setRow W.heap.size L.toArray
theorem aw_new (w : World) : Calls Try.prog 8 #[.int .i64 1, .int .i64 1] w fun e w' => ∃ L g k, e = .returned (.tuple #[.agg L.toArray, .int .i64 0]) ∧ Hid (Lay L) ∧ Hid (Aw w (Sto w' L) w'.heap.size L x1 (some ⟨g, 0, none⟩) 2 2 (some ⟨k, 0, none⟩) 2 2) := by
  refine (New_good 1 1 (by omega) (by omega) w).mono ?_
  rintro e w' ⟨g, k, rfl, o1, o2, b⟩
  have m := mr_new (y := x1) (w := w) (W := w') (BH := some ⟨g, 0, none⟩) (BM := some ⟨k, 0, none⟩) (nH := 2) (dH := 2) (nM := 2) (dM := 2) o1 o2 (by omega) (by omega)
  exact ⟨_, g, k, rfl, lay_ok _ (mc_len _ _ _) (mc_one _ _ _ _ _ _ _), m.1, rfl, bel_trans b m.2⟩
theorem aw_do (h : Aw w W b L x AH nH cH AM nM cM) (h1 : nH ≤ 5000) (h2 : nM ≤ 5000) (o d s n : Int) : Calls Try.prog 10 #[.agg #[.int .u8 o, .int .i64 d, .int .i64 s, .int .i64 n], .agg L.toArray] W fun e w' => ∃ L2 BH dH BM dM, e = .returned (.agg L2.toArray) ∧ Hid (Lay L2) ∧ Hid (Aw w (Sto w' L2) w'.heap.size L2 (doneM o d s n x) BH nH dH BM nM dM) ∧ Hid (Below W.heap.size W (Sto w' L2)) := by
  rw [← h.hL]
  refine (Do_any W x o d s n AH AM nH cH nM cM h.m.h h.m.m h1 h2).mono ?_
  rintro e w' ⟨BH, dH, BM, dM, rfl, o1, o2, bb⟩
  have m := mr_new o1 o2 h1 h2
  exact ⟨_, BH, dH, BM, dM, rfl, lay_ok _ (mc_len _ _ _) (mc_one _ _ _ _ _ _ _), ⟨m.1, rfl, bel_trans h.bel (bel_trans bb m.2)⟩, bel_trans bb m.2⟩
theorem bytes_new {W : World} (l : List UInt8) (n : Nat) (hn : l.length = n) (h1 : n ≤ 100) : IsBB (W.alloc (.cells (l.map bv).toArray 5)) (W.alloc (.cells (l.map bv).toArray 5)).heap.size (some ⟨W.heap.size, 0, none⟩) n n l :=
  own_isB2 (base := W.heap.size) ⟨by simp [hn], .inr ⟨W.heap.size, n, _, rfl, Nat.le_refl _, heap_alloc_new W _, Nat.le_refl _, by unfold maxLen; omega, by simp [hn], List.take_of_length_le (by simp [hn])⟩⟩ (by omega)
/-- One call of Run within awake: the code is laid, the machine is loaded. -/
theorem aw_run (h : Aw w W b L x AH nH cH AM nM cM) (l : List UInt8) (n : Nat) (hn : l.length = n) (hs : n ≤ 100) (post : Bool) (fuel most : Int) (h1 : nH ≤ 5000) (h2 : nM ≤ 5000) (hm : most ≤ 1000) (hf : fuel ≤ 1000) :
    Calls Try.prog 17 #[.slice (some ⟨W.heap.size, 0, none⟩) n n, .bool post, .agg L.toArray, .int .i64 fuel, .int .i64 most] (W.alloc (.cells (l.map bv).toArray 5)) (RunPost (W.alloc (.cells (l.map bv).toArray 5)) l post x fuel most nH nM) := by
  have k : Below W.heap.size W (W.alloc (.cells (l.map bv).toArray 5)) := (Below.refl _ W).alloc (Nat.le_refl _) _
  rw [← h.hL]
  exact Run_any _ x l _ n n post fuel most AH AM nH cH nM cM (bytes_new l n hn hs) (h.m.h.on k) (h.m.m.on k) h1 h2 hm hf
theorem cell_on {p : Addr} {v : Value} (hc : W.cell? p = some v) (k : Below W.heap.size W V) : V.cell? p = some v := (World.cell?_of_block (k.block _ (lt_of_cell hc))).trans hc
theorem sto_bel (W : World) (L : List Value) : Below W.heap.size W (Sto W L) := (row_new W L).2
theorem alloc_bel (W : World) (o : Obj) : Below W.heap.size W (W.alloc o) := (Below.refl _ W).alloc (Nat.le_refl _) _
theorem aw_run24 (h : Aw w W b L x AH nH cH AM nM cM) (h1 : nH ≤ 5000) (h2 : nM ≤ 5000) (hk : x.ok) (ha : x.a = 0) :
    Calls Try.prog 17 #[.slice (some ⟨W.heap.size, 0, none⟩) 2 2, .bool false, .agg L.toArray, .int .i64 0, .int .i64 0] (W.alloc (.cells #[.int .u8 24, .int .u8 0] 5)) fun e w' => ∃ L2 v, e = .returned (.tuple #[.agg L2.toArray, v, .int .i64 0]) ∧ Hid (Lay L2) ∧ Hid (Below W.heap.size W (Sto w' L2)) ∧ Hid ((Sto w' L2).cell? ⟨w'.heap.size, 0, none⟩ = some (.int .u32 1)) := by
  refine (aw_run h [24, 0] 2 rfl (by omega) false 0 0 h1 h2 (by omega) (by omega)).mono ?_
  intro e w' hp
  obtain ⟨y, BH, dH, BM, dM, v, rfl, hy, bb⟩ := awk_run24 hk hp
  refine ⟨_, v, rfl, lay_ok _ (mc_len _ _ _) (mc_one _ _ _ _ _ _ _), bel_trans (bel_trans (alloc_bel W _) bb) (sto_bel w' _), ?_⟩
  unfold Sto
  show _ = _
  rw [row_get (row_new w' _).1, mc_0]
  unfold U.bv
  rw [hy, ha]
  rfl
theorem aw_run232 (h : Aw w W b L x AH nH cH AM nM cM) (h1 : nH ≤ 5000) (h2 : nM ≤ 5000) (hk : x.ok) :
    Calls Try.prog 17 #[.slice (some ⟨W.heap.size, 0, none⟩) 2 2, .bool false, .agg L.toArray, .int .i64 50, .int .i64 0] (W.alloc (.cells #[.int .u8 232, .int .u8 254] 5)) fun e w' => e = .returned (.tuple #[.agg zL.toArray, .slice none 0 0, .int .i64 111]) ∧ Hid (Below W.heap.size W (Sto w' zL)) := by
  refine (aw_run h [232, 254] 2 rfl (by omega) false 50 0 h1 h2 (by omega) (by omega)).mono ?_
  intro e w' hp
  obtain ⟨he, bb⟩ := awk_run232 hk hp
  exact ⟨he, bel_trans (bel_trans (alloc_bel W _) bb) (sto_bel w' _)⟩
theorem aw_run208 (h : Aw w W b L x AH nH cH AM nM cM) (h1 : nH ≤ 5000) (h2 : nM ≤ 5000) (hk : x.ok) :
    Calls Try.prog 17 #[.slice (some ⟨W.heap.size, 0, none⟩) 3 3, .bool true, .agg L.toArray, .int .i64 0, .int .i64 1] (W.alloc (.cells #[.int .u8 208, .int .u8 208, .int .u8 0] 5)) fun e w' => e = .returned (.tuple #[.agg zL.toArray, .slice none 0 0, .int .i64 112]) ∧ Hid (Below W.heap.size W (Sto w' zL)) := by
  refine (aw_run h [208, 208, 0] 3 rfl (by omega) true 0 1 h1 h2 (by omega) (by omega)).mono ?_
  intro e w' hp
  obtain ⟨he, bb⟩ := awk_run208 hk hp
  exact ⟨he, bel_trans (bel_trans (alloc_bel W _) bb) (sto_bel w' _)⟩
theorem aw_run0 (W : World) :
    Calls Try.prog 17 #[.slice (some ⟨W.heap.size, 0, none⟩) 1 1, .bool true, .agg zL.toArray, .int .i64 0, .int .i64 1] (W.alloc (.cells #[.int .u8 0] 5)) fun e w' => e = .returned (.tuple #[.agg zL.toArray, .slice none 0 0, .int .i64 2]) ∧ Hid (Below W.heap.size W (Sto w' zL)) := by
  refine (Run_any (W.alloc (.cells #[.int .u8 0] 5)) zM [0] (some ⟨W.heap.size, 0, none⟩) 1 1 true 0 1 none none 0 0 0 0 (bytes_new [0] 1 rfl (by omega)) (U.isBB_nil _ _) (isBB_nil _ _) (by omega) (by omega) (by omega) (by omega)).mono ?_
  intro e w' hp
  obtain ⟨he, bb⟩ := awk_run0 hp
  exact ⟨he, bel_trans (bel_trans (alloc_bel W _) bb) (sto_bel w' _)⟩
theorem aw_holds (h : Aw w W b L x AH nH cH AM nM cM) (h1 : nH ≤ 5000) (h2 : nM ≤ 5000) (o d s n : Int) : Calls Try.prog 13 #[.agg #[.int .u8 o, .int .i64 d, .int .i64 s, .int .i64 n], .agg L.toArray] W fun e w' => e = .returned (.bool (holdsM o d s n x)) ∧ Hid (Below W.heap.size W w') := by
  rw [← h.hL]
  exact Holds_any W x o d s n AH AM nH cH nM cM h.m.h h.m.m h1 h2
end
set_option maxRecDepth 10000 in
set_option maxHeartbeats 16000000 in
theorem awake_any (w : World) : Calls Try.prog 6 #[] w fun e w' => e = .returned (.bool true) ∧ Below w.heap.size w w' := by
  have zv := zero30
  have zl : zL.length = 263 := mc_len _ _ _
  have HZ1 := hid (lay_ok zL zl zo).1
  have HZ2 := hid zo
  have HN := hid (aw_new w)
  go_enter Try.func6, Try.ntmps6
  go_upto_region 2 with (first
    | (go_at_call 8; refine HN.out.mono ?_; rintro r W1 ⟨L1, g1, k1, rfl, E1, A1⟩)
    | (refine wpList_store_row (o := ⟨none, .store 30 (.tmp 1) (.tmp 19), _, _, _, _⟩) rfl 30 (.tmp 1) (.tmp 19) rfl W1.heap.size L1.toArray rfl rfl 30 zL.toArray (heap_alloc_new W1 _) E1.out.1 E1.out.2.1 E1.out.2.2 ?_))
  change Code.wp _ _ _ _ (Sto W1 L1)
  generalize Sto W1 L1 = V1 at *
  generalize W1.heap.size = b1 at *
  clear W1 HN E1
  have D3 := hid (aw_do A1.out (by omega) (by omega) 2 0 0 5)
  go_upto_region 5 with (first
    | (refine wpList_load_row rfl 30 (.tmp 1) rfl b1 rfl 30 L1.toArray (0, 0) _ A1.out.row Try.underlying30 rfl A1.out.sz ?_)
    | (go_at_call 10; refine D3.out.mono ?_; rintro r W2 ⟨L3, BH3, dH3, BM3, dM3, rfl, E3, A3, B3⟩)
    | (refine wpList_store_row (o := ⟨none, .store 30 (.tmp 3) (.tmp 25), _, _, _, _⟩) rfl 30 (.tmp 3) (.tmp 25) rfl W2.heap.size L3.toArray rfl rfl 30 zL.toArray (heap_alloc_new W2 _) E3.out.1 E3.out.2.1 E3.out.2.2 ?_))
  change Code.wp _ _ _ _ (Sto W2 L3)
  rw [x3_eq] at A3
  replace A1 := hid (A1.out.on B3.out)
  generalize Sto W2 L3 = V2 at *
  generalize W2.heap.size = b3 at *
  clear W2 D3 E3 B3
  have D4 := hid (aw_do A3.out (by omega) (by omega) 24 0 0 0)
  go_upto_region 6 with (first
    | (refine wpList_load_row rfl 30 (.tmp 3) rfl b3 rfl 30 L3.toArray (0, 0) _ A3.out.row Try.underlying30 rfl A3.out.sz ?_)
    | (go_at_call 10; refine D4.out.mono ?_; rintro r W3 ⟨L4, BH4, dH4, BM4, dM4, rfl, E4, A4, B4⟩)
    | (refine wpList_store_row (o := ⟨none, .store 30 (.tmp 4) (.tmp 28), _, _, _, _⟩) rfl 30 (.tmp 4) (.tmp 28) rfl W3.heap.size L4.toArray rfl rfl 30 zL.toArray (heap_alloc_new W3 _) E4.out.1 E4.out.2.1 E4.out.2.2 ?_))
  change Code.wp _ _ _ _ (Sto W3 L4)
  replace A1 := hid (A1.out.on B4.out)
  replace A3 := hid (A3.out.on B4.out)
  have C4 : Hid ((Sto W3 L4).cell? ⟨W3.heap.size, 0, none⟩ = some (.int .u32 399641)) := hid (by have := A4.out.ca; rw [show (doneM 24 0 0 0 { x1 with a := 5 }).a = 399641 from x4_a] at this; exact this)
  have L4t := hid (A4.out.m.lt)
  generalize Sto W3 L4 = V3 at *
  generalize W3.heap.size = b4 at *
  clear W3 D4 E4 B4 A4
  have D5 := hid (aw_run24 A1.out (by omega) (by omega) x1_ok rfl)
  go_upto_region 7 with (first
    | (refine wpList_load_row rfl 30 (.tmp 1) rfl b1 rfl 30 L1.toArray (0, 0) _ (show Hid (Aw w (V3.alloc (.cells #[.int .u8 24, .int .u8 0] 5)) b1 L1 x1 (some ⟨g1, 0, none⟩) 2 2 (some ⟨k1, 0, none⟩) 2 2) from A1.out.on (alloc_bel _ _)).out.row Try.underlying30 rfl (show Hid (Aw w (V3.alloc (.cells #[.int .u8 24, .int .u8 0] 5)) b1 L1 x1 (some ⟨g1, 0, none⟩) 2 2 (some ⟨k1, 0, none⟩) 2 2) from A1.out.on (alloc_bel _ _)).out.sz ?_)
    | (go_at_call 17; refine D5.out.mono ?_; rintro r W4 ⟨L5, v5, rfl, E5, B5, C5⟩)
    | (refine wpList_store_row (o := ⟨none, .store 30 (.tmp 5) (.tmp 33), _, _, _, _⟩) rfl 30 (.tmp 5) (.tmp 33) rfl W4.heap.size L5.toArray rfl rfl 30 zL.toArray (heap_alloc_new W4 _) E5.out.1 E5.out.2.1 E5.out.2.2 ?_))
  change Code.wp _ _ _ _ (Sto W4 L5)
  replace A1 := hid (A1.out.on B5.out)
  replace A3 := hid (A3.out.on B5.out)
  replace C4 := hid (cell_on C4.out B5.out)
  generalize Sto W4 L5 = V4 at *
  generalize W4.heap.size = b5 at *
  clear W4 D5 E5 B5 L4t
  have D6 := hid (aw_run232 A1.out (by omega) (by omega) x1_ok)
  go_upto_region 8 with (first
    | (refine wpList_load_row rfl 30 (.tmp 1) rfl b1 rfl 30 L1.toArray (0, 0) _ (show Hid (Aw w (V4.alloc (.cells #[.int .u8 232, .int .u8 254] 5)) b1 L1 x1 (some ⟨g1, 0, none⟩) 2 2 (some ⟨k1, 0, none⟩) 2 2) from A1.out.on (alloc_bel _ _)).out.row Try.underlying30 rfl (show Hid (Aw w (V4.alloc (.cells #[.int .u8 232, .int .u8 254] 5)) b1 L1 x1 (some ⟨g1, 0, none⟩) 2 2 (some ⟨k1, 0, none⟩) 2 2) from A1.out.on (alloc_bel _ _)).out.sz ?_)
    | (go_at_call 17; refine D6.out.mono ?_; rintro r W5 ⟨rfl, B6⟩)
    | (refine wpList_store_row (o := ⟨none, .store 30 (.tmp 8) (.tmp 40), _, _, _, _⟩) rfl 30 (.tmp 8) (.tmp 40) rfl W5.heap.size zL.toArray rfl rfl 30 zL.toArray (heap_alloc_new W5 _) HZ1.out rfl HZ2.out ?_))
  change Code.wp _ _ _ _ (Sto W5 zL)
  replace A1 := hid (A1.out.on B6.out)
  replace A3 := hid (A3.out.on B6.out)
  replace C4 := hid (cell_on C4.out B6.out)
  replace C5 := hid (cell_on C5.out B6.out)
  generalize Sto W5 zL = V5 at *
  generalize W5.heap.size = b8 at *
  clear W5 D6 B6
  have D7 := hid (aw_run208 A1.out (by omega) (by omega) x1_ok)
  go_upto_region 9 with (first
    | (refine wpList_load_row rfl 30 (.tmp 1) rfl b1 rfl 30 L1.toArray (0, 0) _ (show Hid (Aw w (V5.alloc (.cells #[.int .u8 208, .int .u8 208, .int .u8 0] 5)) b1 L1 x1 (some ⟨g1, 0, none⟩) 2 2 (some ⟨k1, 0, none⟩) 2 2) from A1.out.on (alloc_bel _ _)).out.row Try.underlying30 rfl (show Hid (Aw w (V5.alloc (.cells #[.int .u8 208, .int .u8 208, .int .u8 0] 5)) b1 L1 x1 (some ⟨g1, 0, none⟩) 2 2 (some ⟨k1, 0, none⟩) 2 2) from A1.out.on (alloc_bel _ _)).out.sz ?_)
    | (go_at_call 17; refine D7.out.mono ?_; rintro r W6 ⟨rfl, B7⟩)
    | (refine wpList_store_row (o := ⟨none, .store 30 (.tmp 11) (.tmp 47), _, _, _, _⟩) rfl 30 (.tmp 11) (.tmp 47) rfl W6.heap.size zL.toArray rfl rfl 30 zL.toArray (heap_alloc_new W6 _) HZ1.out rfl HZ2.out ?_))
  change Code.wp _ _ _ _ (Sto W6 zL)
  replace A1 := hid (A1.out.on B7.out)
  replace A3 := hid (A3.out.on B7.out)
  replace C4 := hid (cell_on C4.out B7.out)
  replace C5 := hid (cell_on C5.out B7.out)
  generalize Sto W6 zL = V6 at *
  generalize W6.heap.size = b11 at *
  clear W6 D7 B7
  have D8 := hid (aw_run0 V6)
  go_upto_region 10 with (first
    | (go_at_call 17; refine D8.out.mono ?_; rintro r W7 ⟨rfl, B8⟩)
    | (refine wpList_store_row (o := ⟨none, .store 30 (.tmp 14) (.tmp 54), _, _, _, _⟩) rfl 30 (.tmp 14) (.tmp 54) rfl W7.heap.size zL.toArray rfl rfl 30 zL.toArray (heap_alloc_new W7 _) HZ1.out rfl HZ2.out ?_))
  change Code.wp _ _ _ _ (Sto W7 zL)
  replace A1 := hid (A1.out.on B8.out)
  replace A3 := hid (A3.out.on B8.out)
  replace C4 := hid (cell_on C4.out B8.out)
  replace C5 := hid (cell_on C5.out B8.out)
  generalize Sto W7 zL = V7 at *
  generalize W7.heap.size = b14 at *
  clear W7 D8 B8
  have q1 : V7.cell? ⟨b1, 0, none⟩ = some (.int .u32 0) := A1.out.ca
  have q3 : V7.cell? ⟨b3, 0, none⟩ = some (.int .u32 5) := A3.out.ca
  have q4 := C4.out
  have q5 := C5.out
  have HH := aw_holds A3.out (by omega) (by omega) 19 0 7 5
  rw [show holdsM 19 0 7 5 { x1 with a := 5 } = true from x3_holds] at HH
  replace HH := hid HH
  clear C4 C5 HZ1 HZ2
  go_wp2_with (first
    | (refine BigFrame.wpList_want (o := ⟨some 93, .load 30 (.tmp 3), _, _, _, _⟩) (by rfl) (fun _ hK => wp_load_row 30 (.tmp 3) rfl b3 rfl 30 L3.toArray (0, 0) _ A3.out.row Try.underlying30 rfl A3.out.sz (hK _ _ ?_)))
    | (go_at_call 13; refine HH.out.mono ?_; rintro r W8 ⟨rfl, B9⟩))
  go_ret
  exact ⟨rfl, bel_trans A1.out.bel B9.out⟩
end Go.Proofs.Ytaogileaeflnfaa
