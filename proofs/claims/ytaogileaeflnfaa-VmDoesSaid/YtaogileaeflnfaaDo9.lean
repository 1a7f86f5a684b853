/-
  The contract of do (written by tools/stage17/gen_dox.py).
-/
import Derived.Test.YtaogileaeflnfaaDox
import Derived.Test.YtaogileaeflnfaaRof
import Derived.Deep.RegionHeld3
import Derived.Deep.RegionWith
import Derived.StillTailTactics
set_option linter.unusedVariables false
set_option linter.unusedSimpArgs false
namespace Go.Proofs.Ytaogileaeflnfaa
open Go.RowKit

set_option maxRecDepth 10000 in
set_option maxHeartbeats 16000000 in
theorem do_19 (w : World) (B g hb mb nH cH nM cM : Nat) (x : Mn) (d s n : Int) (h : MO w B g hb mb nH cH nM cM x) (hok : x.ok) :
    Calls Try.prog 25 #[vI 19 d s n, .pointer (some ⟨g, 0, none⟩)] w (DoneIn w B g hb mb nH cH nM cM (doM 19 d s n x)) := by
  have HM := hid h
  have HL : Hid (g < w.heap.size ∧ hb < w.heap.size ∧ mb < w.heap.size) := ⟨h.lt, h.hlt.2, h.mlt.2⟩
  have HN := hid (teller_any g n)
  have HY : Hid (doM 19 d s n x = { x with f := decide (x.a = atM x s n) }) := rfl
  unfold vI
  have b0 := hid ((Below.refl _ w).alloc (Nat.le_refl _) (.cells #[.int .u8 19, .int .i64 d, .int .i64 s, .int .i64 n] 24))
  have BX := hid (heap_alloc_new w (.cells #[.int .u8 19, .int .i64 d, .int .i64 s, .int .i64 n] 24))
  clear h
  go_enter Try.func25, Try.ntmps25
  go_upto_region 2 with (go_at_call 44; refine (HN.out _).mono ?_; rintro r W1 ⟨t, rfl, ht, hb1, hge⟩)
  have HD : Hid (Dob w W1 t B g hb mb nH cH nM cM x 19 d s n) := ⟨ht, (hb1.block _ (lt_of_heap BX.out)).trans BX.out, bel_trans b0.out hb1, HM.out.below (bel_trans b0.out hb1)⟩
  clear ht hb1 hge BX b0 HM HN
  have c0 : W1.cell? ⟨w.heap.size, 0, none⟩ = some (.int .u8 19) := row_cell HD.out.row 0
  have c1 : W1.cell? ⟨w.heap.size, 1, none⟩ = some (.int .i64 d) := row_cell HD.out.row 1
  have c2 : W1.cell? ⟨w.heap.size, 2, none⟩ = some (.int .i64 s) := row_cell HD.out.row 2
  have c3 : W1.cell? ⟨w.heap.size, 3, none⟩ = some (.int .i64 n) := row_cell HD.out.row 3
  have ca : W1.cell? ⟨g, 0, none⟩ = some (U.bv x.a) := HD.out.m.mr.ca
  have f4 : ∀ k, (W1.drewN k).frozen? ⟨g, 4, none⟩ = false := fun k => row_free HD.out.m.row 4
  have c4 : W1.cell? ⟨g, 4, none⟩ = some (.bool x.f) := HD.out.m.mr.cf
  have ks : ∀ k u, ((W1.drewN k).setCell ⟨g, 4, none⟩ u).cell? ⟨w.heap.size, 2, none⟩ = some (.int .i64 s) := fun k u => off_cell (W := W1.drewN k) c2 (by have := HL.out.1; show w.heap.size ≠ g; omega)
  have EQ : decide ((x.a.toNat : Int) = ((atM x s n).toNat : Int)) = decide (x.a = atM x s n) := by
    have e0 : (x.a = atM x s n) ↔ (x.a.toNat = (atM x s n).toNat) := UInt32.toNat_inj.symm
    by_cases e : x.a.toNat = (atM x s n).toNat
    · rw [decide_eq_true (e0.2 e), decide_eq_true (by omega)]
    · rw [decide_eq_false (fun h => e (e0.1 h)), decide_eq_false (by omega)]
  have HQ := hid (fun k => (HD.out.m.drewN k).put 4 (.bool (decide (x.a = atM x s n))) { x with f := decide (x.a = atM x s n) } (ms_4 _ _ _ _) rfl rfl)
  have ka : ∀ k v, ((W1.drewN k).setCell ⟨g, 4, none⟩ (.bool v)).cell? ⟨g, 0, none⟩ = some (U.bv x.a) := fun k v => (((HD.out.m.drewN k).put 4 (.bool v) { x with f := v } (ms_4 _ _ _ _) rfl rfl)).mr.ca
  unfold U.bv at ca ka
  obtain ⟨z, hz⟩ : ∃ z : Int, ((atM x s n).toNat : Int) = z := ⟨_, rfl⟩
  have HS := hid (HD.out.drew.tell hok s z hz)
  rw [hz] at EQ
  obtain ⟨q, hq⟩ : ∃ q : Bool, decide (x.a = atM x s n) = q := ⟨_, rfl⟩
  have HF : Hid ({ x with f := q } = doM 19 d s n x) := hid (by rw [HY.out, hq])
  rw [hq] at EQ HQ
  rw [HF.out] at HQ
  generalize (x.a.toNat : Int) = a at *
  have EB : (a == z) = q := EQ
  clear hz HY hq HF
  go_upto_region 21 with fail
  go_region_held3 (fun w' => w'.cell? ⟨w.heap.size, 2, none⟩ = some (.int .i64 s) ∧ w'.cell? ⟨g, 0, none⟩ = some (.int .u32 a)) (first | exact ⟨c2, ca⟩ | exact ⟨ks _ _, ka _ _⟩ | go_keep) (first
    | (go_at_call 57; with_reducible refine HS.out.mono ?_; rintro r W2 ⟨rfl, k, rfl⟩))
  all_goals
    go_end0
    exact ⟨rfl, HQ.out _, (But.of_below (below_drewN HD.out.b _)).set _ _ (.inl (.inl rfl))⟩
set_option maxRecDepth 10000 in
set_option maxHeartbeats 16000000 in
theorem do_20 (w : World) (B g hb mb nH cH nM cM : Nat) (x : Mn) (d s n : Int) (h : MO w B g hb mb nH cH nM cM x) (hok : x.ok) :
    Calls Try.prog 25 #[vI 20 d s n, .pointer (some ⟨g, 0, none⟩)] w (DoneIn w B g hb mb nH cH nM cM (doM 20 d s n x)) := by
  have HM := hid h
  have HL : Hid (g < w.heap.size ∧ hb < w.heap.size ∧ mb < w.heap.size) := ⟨h.lt, h.hlt.2, h.mlt.2⟩
  have HN := hid (teller_any g n)
  have HY : Hid (doM 20 d s n x = { x with f := decide (x.a < atM x s n) }) := rfl
  unfold vI
  have b0 := hid ((Below.refl _ w).alloc (Nat.le_refl _) (.cells #[.int .u8 20, .int .i64 d, .int .i64 s, .int .i64 n] 24))
  have BX := hid (heap_alloc_new w (.cells #[.int .u8 20, .int .i64 d, .int .i64 s, .int .i64 n] 24))
  clear h
  go_enter Try.func25, Try.ntmps25
  go_upto_region 2 with (go_at_call 44; refine (HN.out _).mono ?_; rintro r W1 ⟨t, rfl, ht, hb1, hge⟩)
  have HD : Hid (Dob w W1 t B g hb mb nH cH nM cM x 20 d s n) := ⟨ht, (hb1.block _ (lt_of_heap BX.out)).trans BX.out, bel_trans b0.out hb1, HM.out.below (bel_trans b0.out hb1)⟩
  clear ht hb1 hge BX b0 HM HN
  have c0 : W1.cell? ⟨w.heap.size, 0, none⟩ = some (.int .u8 20) := row_cell HD.out.row 0
  have c1 : W1.cell? ⟨w.heap.size, 1, none⟩ = some (.int .i64 d) := row_cell HD.out.row 1
  have c2 : W1.cell? ⟨w.heap.size, 2, none⟩ = some (.int .i64 s) := row_cell HD.out.row 2
  have c3 : W1.cell? ⟨w.heap.size, 3, none⟩ = some (.int .i64 n) := row_cell HD.out.row 3
  have ca : W1.cell? ⟨g, 0, none⟩ = some (U.bv x.a) := HD.out.m.mr.ca
  have f4 : ∀ k, (W1.drewN k).frozen? ⟨g, 4, none⟩ = false := fun k => row_free HD.out.m.row 4
  have c4 : W1.cell? ⟨g, 4, none⟩ = some (.bool x.f) := HD.out.m.mr.cf
  have ks : ∀ k u, ((W1.drewN k).setCell ⟨g, 4, none⟩ u).cell? ⟨w.heap.size, 2, none⟩ = some (.int .i64 s) := fun k u => off_cell (W := W1.drewN k) c2 (by have := HL.out.1; show w.heap.size ≠ g; omega)
  have EQ : decide ((x.a.toNat : Int) < ((atM x s n).toNat : Int)) = decide (x.a < atM x s n) := by
    have e0 : (x.a < atM x s n) ↔ (x.a.toNat < (atM x s n).toNat) := UInt32.lt_iff_toNat_lt
    by_cases e : x.a.toNat < (atM x s n).toNat
    · rw [decide_eq_true (e0.2 e), decide_eq_true (by omega)]
    · rw [decide_eq_false (fun h => e (e0.1 h)), decide_eq_false (by omega)]
  have HQ := hid (fun k => (HD.out.m.drewN k).put 4 (.bool (decide (x.a < atM x s n))) { x with f := decide (x.a < atM x s n) } (ms_4 _ _ _ _) rfl rfl)
  have ka : ∀ k v, ((W1.drewN k).setCell ⟨g, 4, none⟩ (.bool v)).cell? ⟨g, 0, none⟩ = some (U.bv x.a) := fun k v => (((HD.out.m.drewN k).put 4 (.bool v) { x with f := v } (ms_4 _ _ _ _) rfl rfl)).mr.ca
  unfold U.bv at ca ka
  obtain ⟨z, hz⟩ : ∃ z : Int, ((atM x s n).toNat : Int) = z := ⟨_, rfl⟩
  have HS := hid (HD.out.drew.tell hok s z hz)
  rw [hz] at EQ
  obtain ⟨q, hq⟩ : ∃ q : Bool, decide (x.a < atM x s n) = q := ⟨_, rfl⟩
  have HF : Hid ({ x with f := q } = doM 20 d s n x) := hid (by rw [HY.out, hq])
  rw [hq] at EQ HQ
  rw [HF.out] at HQ
  generalize (x.a.toNat : Int) = a at *
  have EB : decide (a < z) = q := EQ
  clear hz HY hq HF
  go_upto_region 23 with fail
  go_region_held3 (fun w' => w'.cell? ⟨w.heap.size, 2, none⟩ = some (.int .i64 s) ∧ w'.cell? ⟨g, 0, none⟩ = some (.int .u32 a)) (first | exact ⟨c2, ca⟩ | exact ⟨ks _ _, ka _ _⟩ | go_keep) (first
    | (go_at_call 57; with_reducible refine HS.out.mono ?_; rintro r W2 ⟨rfl, k, rfl⟩))
  all_goals
    go_end0
    exact ⟨rfl, HQ.out _, (But.of_below (below_drewN HD.out.b _)).set _ _ (.inl (.inl rfl))⟩
set_option maxRecDepth 10000 in
set_option maxHeartbeats 16000000 in
theorem do_21 (w : World) (B g hb mb nH cH nM cM : Nat) (x : Mn) (d s n : Int) (h : MO w B g hb mb nH cH nM cM x) (hok : x.ok) :
    Calls Try.prog 25 #[vI 21 d s n, .pointer (some ⟨g, 0, none⟩)] w (DoneIn w B g hb mb nH cH nM cM (doM 21 d s n x)) := by
  have HM := hid h
  have HL : Hid (g < w.heap.size ∧ hb < w.heap.size ∧ mb < w.heap.size) := ⟨h.lt, h.hlt.2, h.mlt.2⟩
  have HN := hid (teller_any g n)
  have HY : Hid (doM 21 d s n x = { x with f := decide (atM x s n < x.a) }) := rfl
  unfold vI
  have b0 := hid ((Below.refl _ w).alloc (Nat.le_refl _) (.cells #[.int .u8 21, .int .i64 d, .int .i64 s, .int .i64 n] 24))
  have BX := hid (heap_alloc_new w (.cells #[.int .u8 21, .int .i64 d, .int .i64 s, .int .i64 n] 24))
  clear h
  go_enter Try.func25, Try.ntmps25
  go_upto_region 2 with (go_at_call 44; refine (HN.out _).mono ?_; rintro r W1 ⟨t, rfl, ht, hb1, hge⟩)
  have HD : Hid (Dob w W1 t B g hb mb nH cH nM cM x 21 d s n) := ⟨ht, (hb1.block _ (lt_of_heap BX.out)).trans BX.out, bel_trans b0.out hb1, HM.out.below (bel_trans b0.out hb1)⟩
  clear ht hb1 hge BX b0 HM HN
  have c0 : W1.cell? ⟨w.heap.size, 0, none⟩ = some (.int .u8 21) := row_cell HD.out.row 0
  have c1 : W1.cell? ⟨w.heap.size, 1, none⟩ = some (.int .i64 d) := row_cell HD.out.row 1
  have c2 : W1.cell? ⟨w.heap.size, 2, none⟩ = some (.int .i64 s) := row_cell HD.out.row 2
  have c3 : W1.cell? ⟨w.heap.size, 3, none⟩ = some (.int .i64 n) := row_cell HD.out.row 3
  have ca : W1.cell? ⟨g, 0, none⟩ = some (U.bv x.a) := HD.out.m.mr.ca
  have f4 : ∀ k, (W1.drewN k).frozen? ⟨g, 4, none⟩ = false := fun k => row_free HD.out.m.row 4
  have c4 : W1.cell? ⟨g, 4, none⟩ = some (.bool x.f) := HD.out.m.mr.cf
  have ks : ∀ k u, ((W1.drewN k).setCell ⟨g, 4, none⟩ u).cell? ⟨w.heap.size, 2, none⟩ = some (.int .i64 s) := fun k u => off_cell (W := W1.drewN k) c2 (by have := HL.out.1; show w.heap.size ≠ g; omega)
  have EQ : decide (((atM x s n).toNat : Int) < (x.a.toNat : Int)) = decide (atM x s n < x.a) := by
    have e0 : (atM x s n < x.a) ↔ ((atM x s n).toNat < x.a.toNat) := UInt32.lt_iff_toNat_lt
    by_cases e : (atM x s n).toNat < x.a.toNat
    · rw [decide_eq_true (e0.2 e), decide_eq_true (by omega)]
    · rw [decide_eq_false (fun h => e (e0.1 h)), decide_eq_false (by omega)]
  have HQ := hid (fun k => (HD.out.m.drewN k).put 4 (.bool (decide (atM x s n < x.a))) { x with f := decide (atM x s n < x.a) } (ms_4 _ _ _ _) rfl rfl)
  have ka : ∀ k v, ((W1.drewN k).setCell ⟨g, 4, none⟩ (.bool v)).cell? ⟨g, 0, none⟩ = some (U.bv x.a) := fun k v => (((HD.out.m.drewN k).put 4 (.bool v) { x with f := v } (ms_4 _ _ _ _) rfl rfl)).mr.ca
  unfold U.bv at ca ka
  obtain ⟨z, hz⟩ : ∃ z : Int, ((atM x s n).toNat : Int) = z := ⟨_, rfl⟩
  have HS := hid (HD.out.drew.tell hok s z hz)
  rw [hz] at EQ
  obtain ⟨q, hq⟩ : ∃ q : Bool, decide (atM x s n < x.a) = q := ⟨_, rfl⟩
  have HF : Hid ({ x with f := q } = doM 21 d s n x) := hid (by rw [HY.out, hq])
  rw [hq] at EQ HQ
  rw [HF.out] at HQ
  generalize (x.a.toNat : Int) = a at *
  have EB : decide (a > z) = q := EQ
  clear hz HY hq HF
  go_upto_region 25 with fail
  go_region_held3 (fun w' => w'.cell? ⟨w.heap.size, 2, none⟩ = some (.int .i64 s) ∧ w'.cell? ⟨g, 0, none⟩ = some (.int .u32 a)) (first | exact ⟨c2, ca⟩ | exact ⟨ks _ _, ka _ _⟩ | go_keep) (first
    | (go_at_call 57; with_reducible refine HS.out.mono ?_; rintro r W2 ⟨rfl, k, rfl⟩))
  all_goals
    go_end0
    exact ⟨rfl, HQ.out _, (But.of_below (below_drewN HD.out.b _)).set _ _ (.inl (.inl rfl))⟩
end Go.Proofs.Ytaogileaeflnfaa
