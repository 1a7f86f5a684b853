/-
  Merged: Do22 Do24.
-/
import Derived.Test.YtaogileaeflnfaaDox
import Derived.Test.YtaogileaeflnfaaRof
import Derived.Deep.RegionHeld3
import Derived.Deep.RegionWith
import Derived.StillTailTactics
/-
  The contract of do (written by tools/stage17/gen_dox.py).
-/
set_option linter.unusedVariables false
set_option linter.unusedSimpArgs false
namespace Go.Proofs.Ytaogileaeflnfaa
open Go.RowKit

set_option maxRecDepth 10000 in
set_option maxHeartbeats 16000000 in
theorem do_22 (w : World) (B g hb mb nH cH nM cM : Nat) (x : Mn) (d s n : Int) (hn : 0 ≤ n ∧ n ≤ 255) (h : MO w B g hb mb nH cH nM cM x) (hok : x.ok) :
    Calls Try.prog 25 #[vI 22 d s n, .pointer (some ⟨g, 0, none⟩)] w (DoneIn w B g hb mb nH cH nM cM (doM 22 d s n x)) := by
  have HM := hid h
  have HL : Hid (g < w.heap.size ∧ hb < w.heap.size ∧ mb < w.heap.size) := ⟨h.lt, h.hlt.2, h.mlt.2⟩
  have HN := hid (teller_any g n)
  have HY : Hid (∀ z : Int, z = ((x.r n.toNat).toNat : Int) → ∀ W, But (Its g hb mb) w W → MO W B g hb mb nH cH nM cM x → Calls Try.prog 45 #[.pointer (some ⟨g, 0, none⟩), .int .i64 d, .int .u32 z] W fun e w' => e = .returned (.tuple #[]) ∧ DoneIn w B g hb mb nH cH nM cM (doM 22 d s n x) e w' ∧ ∀ p v, w.heap.size ≤ p.block → W.cell? p = some v → w'.cell? p = some v) :=
    fun z hz W b h => put_at z hz rfl b h HL.out hok
  generalize doM 22 d s n x = y at *
  obtain ⟨j, rfl⟩ : ∃ j : Nat, n = (j : Int) := ⟨n.toNat, by omega⟩
  rw [Int.toNat_natCast] at HY
  have hj : j < 256 := by omega
  have hjz : (j : Int) < 256 := by omega
  unfold vI
  have b0 := hid ((Below.refl _ w).alloc (Nat.le_refl _) (.cells #[.int .u8 22, .int .i64 d, .int .i64 s, .int .i64 (j : Int)] 24))
  have BX := hid (heap_alloc_new w (.cells #[.int .u8 22, .int .i64 d, .int .i64 s, .int .i64 (j : Int)] 24))
  clear h
  go_enter Try.func25, Try.ntmps25
  go_upto_region 2 with (go_at_call 44; refine (HN.out _).mono ?_; rintro r W1 ⟨t, rfl, ht, hb1, hge⟩)
  have HD : Hid (Dob w W1 t B g hb mb nH cH nM cM x 22 d s (j : Int)) := ⟨ht, (hb1.block _ (lt_of_heap BX.out)).trans BX.out, bel_trans b0.out hb1, HM.out.below (bel_trans b0.out hb1)⟩
  clear ht hb1 hge BX b0 HM HN
  have c0 : W1.cell? ⟨w.heap.size, 0, none⟩ = some (.int .u8 22) := row_cell HD.out.row 0
  have c1 : W1.cell? ⟨w.heap.size, 1, none⟩ = some (.int .i64 d) := row_cell HD.out.row 1
  have c2 : W1.cell? ⟨w.heap.size, 2, none⟩ = some (.int .i64 s) := row_cell HD.out.row 2
  have c3 : W1.cell? ⟨w.heap.size, 3, none⟩ = some (.int .i64 (j : Int)) := row_cell HD.out.row 3
  have cr : W1.cell? ⟨g, 5 + j, none⟩ = some (U.bv (x.r j)) := HD.out.m.mr.cr j hj
  unfold U.bv at cr
  have HYz := hid (HY.out _ rfl W1.drew (.of_below HD.out.b.drew) HD.out.m.drew)
  generalize ((x.r j).toNat : Int) = z at *
  clear HY hn
  go_upto_region 27 with fail
  go_still_tail 10, (by kernel_rfl)
  change wpList _ _ _ _ _ W1.drew
  go_wp2_with (go_at_call 45; refine HYz.out.mono ?_; rintro r W3 ⟨rfl, hd, hc⟩)
  go_end0
  exact hd
set_option maxRecDepth 10000 in
set_option maxHeartbeats 16000000 in
theorem do_23 (w : World) (B g hb mb nH cH nM cM : Nat) (x : Mn) (d s n : Int) (hn : 0 ≤ n ∧ n ≤ 255) (h : MO w B g hb mb nH cH nM cM x) (hok : x.ok) :
    Calls Try.prog 25 #[vI 23 d s n, .pointer (some ⟨g, 0, none⟩)] w (DoneIn w B g hb mb nH cH nM cM (doM 23 d s n x)) := by
  have HM := hid h
  have HL : Hid (g < w.heap.size ∧ hb < w.heap.size ∧ mb < w.heap.size) := ⟨h.lt, h.hlt.2, h.mlt.2⟩
  have HN := hid (teller_any g n)
  have HY : Hid (doM 23 d s n x = { x with r := upR x.r n.toNat x.a }) := rfl
  obtain ⟨j, rfl⟩ : ∃ j : Nat, n = (j : Int) := ⟨n.toNat, by omega⟩
  rw [Int.toNat_natCast] at HY
  have hj : j < 256 := by omega
  have hjz : (j : Int) < 256 := by omega
  unfold vI
  have b0 := hid ((Below.refl _ w).alloc (Nat.le_refl _) (.cells #[.int .u8 23, .int .i64 d, .int .i64 s, .int .i64 (j : Int)] 24))
  have BX := hid (heap_alloc_new w (.cells #[.int .u8 23, .int .i64 d, .int .i64 s, .int .i64 (j : Int)] 24))
  clear h
  go_enter Try.func25, Try.ntmps25
  go_upto_region 2 with (go_at_call 44; refine (HN.out _).mono ?_; rintro r W1 ⟨t, rfl, ht, hb1, hge⟩)
  have HD : Hid (Dob w W1 t B g hb mb nH cH nM cM x 23 d s (j : Int)) := ⟨ht, (hb1.block _ (lt_of_heap BX.out)).trans BX.out, bel_trans b0.out hb1, HM.out.below (bel_trans b0.out hb1)⟩
  clear ht hb1 hge BX b0 HM HN
  have c0 : W1.cell? ⟨w.heap.size, 0, none⟩ = some (.int .u8 23) := row_cell HD.out.row 0
  have c1 : W1.cell? ⟨w.heap.size, 1, none⟩ = some (.int .i64 d) := row_cell HD.out.row 1
  have c2 : W1.cell? ⟨w.heap.size, 2, none⟩ = some (.int .i64 s) := row_cell HD.out.row 2
  have c3 : W1.cell? ⟨w.heap.size, 3, none⟩ = some (.int .i64 (j : Int)) := row_cell HD.out.row 3
  have cr : W1.drew.cell? ⟨g, 5 + j, none⟩ = some (U.bv (x.r j)) := HD.out.m.mr.cr j hj
  have ca : W1.cell? ⟨g, 0, none⟩ = some (U.bv x.a) := HD.out.m.mr.ca
  have fr : W1.drew.frozen? ⟨g, 5 + j, none⟩ = false := row_free HD.out.m.row _
  have HQ := hid ((HD.out.m.put (5 + j) (U.bv x.a) { x with r := upR x.r j x.a } (ms_r _ _ _ j hj _) rfl rfl).drew)
  rw [← HY.out] at HQ
  unfold U.bv at cr ca HQ
  generalize (x.a.toNat : Int) = a at *
  generalize ((x.r j).toNat : Int) = z at *
  clear HY hn
  go_upto_region 29 with fail
  go_still_tail 10, (by kernel_rfl)
  change wpList _ _ _ _ _ W1.drew
  go_wp2_with fail
  go_end0
  exact ⟨rfl, HQ.out, ((But.of_below HD.out.b).set _ _ (.inl (.inl rfl))).drew⟩
end Go.Proofs.Ytaogileaeflnfaa
/-
  The contract of do (written by tools/stage17/gen_dox.py).
-/
set_option linter.unusedVariables false
set_option linter.unusedSimpArgs false
namespace Go.Proofs.Ytaogileaeflnfaa
open Go.RowKit

set_option maxRecDepth 10000 in
set_option maxHeartbeats 16000000 in
theorem do_24 (w : World) (B g hb mb nH cH nM cM : Nat) (x : Mn) (d s n : Int) (h : MO w B g hb mb nH cH nM cM x) (hok : x.ok) :
    Calls Try.prog 25 #[vI 24 d s n, .pointer (some ⟨g, 0, none⟩)] w (DoneIn w B g hb mb nH cH nM cM (doM 24 d s n x)) := by
  have HM := hid h
  have HL : Hid (g < w.heap.size ∧ hb < w.heap.size ∧ mb < w.heap.size) := ⟨h.lt, h.hlt.2, h.mlt.2⟩
  have HN := hid (teller_any g n)
  have HY : Hid (doM 24 d s n x = { x with a := hashM x.a (atM x 4 n) }) := rfl
  unfold vI
  have b0 := hid ((Below.refl _ w).alloc (Nat.le_refl _) (.cells #[.int .u8 24, .int .i64 d, .int .i64 s, .int .i64 n] 24))
  have BX := hid (heap_alloc_new w (.cells #[.int .u8 24, .int .i64 d, .int .i64 s, .int .i64 n] 24))
  clear h
  go_enter Try.func25, Try.ntmps25
  go_upto_region 2 with (go_at_call 44; refine (HN.out _).mono ?_; rintro r W1 ⟨t, rfl, ht, hb1, hge⟩)
  have HD : Hid (Dob w W1 t B g hb mb nH cH nM cM x 24 d s n) := ⟨ht, (hb1.block _ (lt_of_heap BX.out)).trans BX.out, bel_trans b0.out hb1, HM.out.below (bel_trans b0.out hb1)⟩
  clear ht hb1 hge BX b0 HM HN
  have c0 : W1.cell? ⟨w.heap.size, 0, none⟩ = some (.int .u8 24) := row_cell HD.out.row 0
  have c1 : W1.cell? ⟨w.heap.size, 1, none⟩ = some (.int .i64 d) := row_cell HD.out.row 1
  have c2 : W1.cell? ⟨w.heap.size, 2, none⟩ = some (.int .i64 s) := row_cell HD.out.row 2
  have c3 : W1.cell? ⟨w.heap.size, 3, none⟩ = some (.int .i64 n) := row_cell HD.out.row 3
  have HR := hid (fun w => hash_any x.a (atM x 4 n) w)
  have ca : W1.cell? ⟨g, 0, none⟩ = some (U.bv x.a) := HD.out.m.mr.ca
  have fa : ∀ k, (W1.drewN k).frozen? ⟨g, 0, none⟩ = false := fun k => row_free HD.out.m.row 0
  obtain ⟨z, hz⟩ : ∃ z : Int, ((atM x 4 n).toNat : Int) = z := ⟨_, rfl⟩
  have HS := hid (HD.out.drew.tell hok 4 z hz)
  have HQ := hid (fun k => (HD.out.m.drewN k).put 0 (U.bv (hashM x.a (atM x 4 n))) { x with a := hashM x.a (atM x 4 n) } (ms_0 _ _ _ _) rfl rfl)
  rw [HY.out]
  unfold U.bv at HR ca HQ
  rw [hz] at HR
  generalize ((hashM x.a (atM x 4 n)).toNat : Int) = r at *
  generalize (x.a.toNat : Int) = a at *
  clear hz HY
  go_upto_region 31 with fail
  go_region_with (first
    | (go_at_call 57; refine HS.out.mono ?_; rintro r W2 ⟨rfl, k, rfl⟩)
    | (go_at_call 46; refine (HR.out _).mono ?_; rintro r W3 ⟨rfl, rfl⟩))
  all_goals
    go_end0
    exact ⟨rfl, HQ.out _, (But.of_below (below_drewN HD.out.b _)).set _ _ (.inl (.inl rfl))⟩
set_option maxRecDepth 10000 in
set_option maxHeartbeats 16000000 in
theorem do_25 (w : World) (B g hb mb nH cH nM cM : Nat) (x : Mn) (d s n : Int) (h : MO w B g hb mb nH cH nM cM x) (hok : x.ok) :
    Calls Try.prog 25 #[vI 25 d s n, .pointer (some ⟨g, 0, none⟩)] w (DoneIn w B g hb mb nH cH nM cM (doM 25 d s n x)) := by
  have HM := hid h
  have HL : Hid (g < w.heap.size ∧ hb < w.heap.size ∧ mb < w.heap.size) := ⟨h.lt, h.hlt.2, h.mlt.2⟩
  have HN := hid (teller_any g n)
  have HY : Hid (∀ z : Int, z = ((hashM (atM x 6 n) x.a).toNat : Int) → ∀ W, But (Its g hb mb) w W → MO W B g hb mb nH cH nM cM x → Calls Try.prog 45 #[.pointer (some ⟨g, 0, none⟩), .int .i64 6, .int .u32 z] W fun e w' => e = .returned (.tuple #[]) ∧ DoneIn w B g hb mb nH cH nM cM (doM 25 d s n x) e w' ∧ ∀ p v, w.heap.size ≤ p.block → W.cell? p = some v → w'.cell? p = some v) :=
    fun z hz W b h => put_at z hz rfl b h HL.out hok
  generalize doM 25 d s n x = y at *
  unfold vI
  have b0 := hid ((Below.refl _ w).alloc (Nat.le_refl _) (.cells #[.int .u8 25, .int .i64 d, .int .i64 s, .int .i64 n] 24))
  have BX := hid (heap_alloc_new w (.cells #[.int .u8 25, .int .i64 d, .int .i64 s, .int .i64 n] 24))
  clear h
  go_enter Try.func25, Try.ntmps25
  go_upto_region 2 with (go_at_call 44; refine (HN.out _).mono ?_; rintro r W1 ⟨t, rfl, ht, hb1, hge⟩)
  have HD : Hid (Dob w W1 t B g hb mb nH cH nM cM x 25 d s n) := ⟨ht, (hb1.block _ (lt_of_heap BX.out)).trans BX.out, bel_trans b0.out hb1, HM.out.below (bel_trans b0.out hb1)⟩
  clear ht hb1 hge BX b0 HM HN
  have c0 : W1.cell? ⟨w.heap.size, 0, none⟩ = some (.int .u8 25) := row_cell HD.out.row 0
  have c1 : W1.cell? ⟨w.heap.size, 1, none⟩ = some (.int .i64 d) := row_cell HD.out.row 1
  have c2 : W1.cell? ⟨w.heap.size, 2, none⟩ = some (.int .i64 s) := row_cell HD.out.row 2
  have c3 : W1.cell? ⟨w.heap.size, 3, none⟩ = some (.int .i64 n) := row_cell HD.out.row 3
  have HR := hid (fun w => hash_any (atM x 6 n) x.a w)
  have ca : W1.cell? ⟨g, 0, none⟩ = some (U.bv x.a) := HD.out.m.mr.ca
  obtain ⟨z, hz⟩ : ∃ z : Int, ((atM x 6 n).toNat : Int) = z := ⟨_, rfl⟩
  have HS := hid (HD.out.drew.tell hok 6 z hz)
  have HYk := hid (fun k => HY.out _ rfl (W1.drewN k) (.of_below (below_drewN HD.out.b k)) (HD.out.m.drewN k))
  unfold U.bv at HR ca
  rw [hz] at HR
  generalize ((hashM (atM x 6 n) x.a).toNat : Int) = r at *
  generalize (x.a.toNat : Int) = a at *
  clear hz HY
  go_upto_region 33 with fail
  go_region_with (first
    | (go_at_call 57; refine HS.out.mono ?_; rintro r W2 ⟨rfl, k, rfl⟩)
    | (go_at_call 46; refine (HR.out _).mono ?_; rintro r W3 ⟨rfl, rfl⟩)
    | (go_at_call 45; refine (HYk.out _).mono ?_; rintro r W3 ⟨rfl, hd, hc⟩))
  all_goals
    go_end0
    exact hd
end Go.Proofs.Ytaogileaeflnfaa
