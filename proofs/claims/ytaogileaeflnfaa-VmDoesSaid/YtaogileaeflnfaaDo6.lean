/-
  The contract of do (written by tools/stage17/gen_dox.py).
-/
import Derived.Test.YtaogileaeflnfaaDox
import Derived.Test.YtaogileaeflnfaaRof
import Derived.Deep.RegionHeld3
import Derived.Deep.RegionWith
import Derived.StillTailTactics
set_option linter.unusedVariables false
set_option linter.unusedSimpArgs false
namespace Go.Proofs.Ytaogileaeflnfaa
open Go.RowKit

set_option maxRecDepth 10000 in
set_option maxHeartbeats 16000000 in
theorem do_6 (w : World) (B g hb mb nH cH nM cM : Nat) (x : Mn) (d s n : Int) (h : MO w B g hb mb nH cH nM cM x) (hok : x.ok) :
    Calls Try.prog 25 #[vI 6 d s n, .pointer (some ⟨g, 0, none⟩)] w (DoneIn w B g hb mb nH cH nM cM (doM 6 d s n x)) := by
  have HM := hid h
  have HL : Hid (g < w.heap.size ∧ hb < w.heap.size ∧ mb < w.heap.size) := ⟨h.lt, h.hlt.2, h.mlt.2⟩
  have HN := hid (teller_any g n)
  have HY : Hid (∀ z : Int, z = (((0 : UInt32)).toNat : Int) → ∀ W, But (Its g hb mb) w W → MO W B g hb mb nH cH nM cM x → Calls Try.prog 45 #[.pointer (some ⟨g, 0, none⟩), .int .i64 d, .int .u32 z] W fun e w' => e = .returned (.tuple #[]) ∧ DoneIn w B g hb mb nH cH nM cM (doM 6 d s n x) e w' ∧ ∀ p v, w.heap.size ≤ p.block → W.cell? p = some v → w'.cell? p = some v) :=
    fun z hz W b h => put_at z hz rfl b h HL.out hok
  generalize doM 6 d s n x = y at *
  unfold vI
  have b0 := hid ((Below.refl _ w).alloc (Nat.le_refl _) (.cells #[.int .u8 6, .int .i64 d, .int .i64 s, .int .i64 n] 24))
  have BX := hid (heap_alloc_new w (.cells #[.int .u8 6, .int .i64 d, .int .i64 s, .int .i64 n] 24))
  clear h
  go_enter Try.func25, Try.ntmps25
  go_upto_region 2 with (go_at_call 44; refine (HN.out _).mono ?_; rintro r W1 ⟨t, rfl, ht, hb1, hge⟩)
  have HD : Hid (Dob w W1 t B g hb mb nH cH nM cM x 6 d s n) := ⟨ht, (hb1.block _ (lt_of_heap BX.out)).trans BX.out, bel_trans b0.out hb1, HM.out.below (bel_trans b0.out hb1)⟩
  clear ht hb1 hge BX b0 HM HN
  have c0 : W1.cell? ⟨w.heap.size, 0, none⟩ = some (.int .u8 6) := row_cell HD.out.row 0
  have c1 : W1.cell? ⟨w.heap.size, 1, none⟩ = some (.int .i64 d) := row_cell HD.out.row 1
  have c2 : W1.cell? ⟨w.heap.size, 2, none⟩ = some (.int .i64 s) := row_cell HD.out.row 2
  have c3 : W1.cell? ⟨w.heap.size, 3, none⟩ = some (.int .i64 n) := row_cell HD.out.row 3
  have HYz := hid (HY.out 0 rfl W1 (.of_below HD.out.b) HD.out.m)
  clear HY
  go_wp2_with (go_at_call 45; refine HYz.out.mono ?_; rintro r W3 ⟨rfl, hd, hc⟩)
  go_end0
  exact hd
set_option maxRecDepth 10000 in
set_option maxHeartbeats 16000000 in
theorem do_7 (w : World) (B g hb mb nH cH nM cM : Nat) (x : Mn) (d s n : Int) (h : MO w B g hb mb nH cH nM cM x) (hok : x.ok) :
    Calls Try.prog 25 #[vI 7 d s n, .pointer (some ⟨g, 0, none⟩)] w (DoneIn w B g hb mb nH cH nM cM (doM 7 d s n x)) := by
  have HM := hid h
  have HL : Hid (g < w.heap.size ∧ hb < w.heap.size ∧ mb < w.heap.size) := ⟨h.lt, h.hlt.2, h.mlt.2⟩
  have HN := hid (teller_any g n)
  have HY : Hid (∀ z : Int, z = (x.a.toNat : Int) → ∀ W, But (Its g hb mb) w W → MO W B g hb mb nH cH nM cM { x with a := atM x d n } → Calls Try.prog 45 #[.pointer (some ⟨g, 0, none⟩), .int .i64 d, .int .u32 z] W fun e w' => e = .returned (.tuple #[]) ∧ DoneIn w B g hb mb nH cH nM cM (doM 7 d s n x) e w' ∧ ∀ p v, w.heap.size ≤ p.block → W.cell? p = some v → w'.cell? p = some v) :=
    fun z hz W b h => put_at (x := { x with a := atM x d n }) z hz rfl b h HL.out hok
  generalize doM 7 d s n x = y at *
  unfold vI
  have b0 := hid ((Below.refl _ w).alloc (Nat.le_refl _) (.cells #[.int .u8 7, .int .i64 d, .int .i64 s, .int .i64 n] 24))
  have BX := hid (heap_alloc_new w (.cells #[.int .u8 7, .int .i64 d, .int .i64 s, .int .i64 n] 24))
  clear h
  go_enter Try.func25, Try.ntmps25
  go_upto_region 2 with (go_at_call 44; refine (HN.out _).mono ?_; rintro r W1 ⟨t, rfl, ht, hb1, hge⟩)
  have HD : Hid (Dob w W1 t B g hb mb nH cH nM cM x 7 d s n) := ⟨ht, (hb1.block _ (lt_of_heap BX.out)).trans BX.out, bel_trans b0.out hb1, HM.out.below (bel_trans b0.out hb1)⟩
  clear ht hb1 hge BX b0 HM HN
  have c0 : W1.cell? ⟨w.heap.size, 0, none⟩ = some (.int .u8 7) := row_cell HD.out.row 0
  have c1 : W1.cell? ⟨w.heap.size, 1, none⟩ = some (.int .i64 d) := row_cell HD.out.row 1
  have c2 : W1.cell? ⟨w.heap.size, 2, none⟩ = some (.int .i64 s) := row_cell HD.out.row 2
  have c3 : W1.cell? ⟨w.heap.size, 3, none⟩ = some (.int .i64 n) := row_cell HD.out.row 3
  have ca : W1.cell? ⟨g, 0, none⟩ = some (U.bv x.a) := HD.out.m.mr.ca
  have fa : ∀ k, (W1.drewN k).frozen? ⟨g, 0, none⟩ = false := fun k => row_free HD.out.m.row 0
  have c1s : ∀ k u, ((W1.drewN k).setCell ⟨g, 0, none⟩ u).cell? ⟨w.heap.size, 1, none⟩ = some (.int .i64 d) := fun k u => off_cell (W := W1.drewN k) c1 (by have := HL.out.1; show w.heap.size ≠ g; omega)
  have HQ := hid (fun k => (HD.out.m.drewN k).put 0 (U.bv (atM x d n)) { x with a := atM x d n } (ms_0 _ _ _ _) rfl rfl)
  have HYk := hid (fun k => HY.out _ rfl _ ((But.of_below (below_drewN HD.out.b k)).set ⟨g, 0, none⟩ _ (.inl (.inl rfl))) (HQ.out k))
  unfold U.bv at ca HYk
  obtain ⟨z, hz⟩ : ∃ z : Int, ((atM x d n).toNat : Int) = z := ⟨_, rfl⟩
  have HS := hid (HD.out.tell hok d z hz)
  rw [hz] at HYk
  generalize (x.a.toNat : Int) = a at *
  clear HY hz HQ
  go_wp2_with (first
    | (go_at_call 57; refine HS.out.mono ?_; rintro r W2 ⟨rfl, k, rfl⟩)
    | (go_at_call 45; refine (HYk.out _).mono ?_; rintro r W3 ⟨rfl, hd, hc⟩))
  go_end0
  exact hd
end Go.Proofs.Ytaogileaeflnfaa
