/-
  The contract of do (written by tools/stage17/gen_dox.py).
-/
import Derived.Test.YtaogileaeflnfaaDox
import Derived.Test.YtaogileaeflnfaaRof
import Derived.Deep.RegionHeld3
import Derived.Deep.RegionWith
set_option linter.unusedVariables false
set_option linter.unusedSimpArgs false
namespace Go.Proofs.Ytaogileaeflnfaa
open Go.RowKit

set_option maxRecDepth 10000 in
set_option maxHeartbeats 16000000 in
theorem do_def (w : World) (B g hb mb nH cH nM cM : Nat) (x : Mn) (o d s n : Int) (ho : 8 ≤ o ∧ o ≤ 18) (h : MO w B g hb mb nH cH nM cM x) (hok : x.ok) :
    Calls Try.prog 25 #[vI o d s n, .pointer (some ⟨g, 0, none⟩)] w (DoneIn w B g hb mb nH cH nM cM (doM o d s n x)) := by
  have HM := hid h
  have HL : Hid (g < w.heap.size ∧ hb < w.heap.size ∧ mb < w.heap.size) := ⟨h.lt, h.hlt.2, h.mlt.2⟩
  have HN := hid (teller_any g n)
  have HY : Hid (doM o d s n x = { x with a := calcM o x.a (atM x s n) }) := by
    unfold Hid doM
    repeat rw [if_neg (by omega)]
  unfold vI
  have b0 := hid ((Below.refl _ w).alloc (Nat.le_refl _) (.cells #[.int .u8 o, .int .i64 d, .int .i64 s, .int .i64 n] 24))
  have BX := hid (heap_alloc_new w (.cells #[.int .u8 o, .int .i64 d, .int .i64 s, .int .i64 n] 24))
  clear h
  go_enter Try.func25, Try.ntmps25
  go_upto_region 2 with (go_at_call 44; refine (HN.out _).mono ?_; rintro r W1 ⟨t, rfl, ht, hb1, hge⟩)
  have HD : Hid (Dob w W1 t B g hb mb nH cH nM cM x o d s n) := ⟨ht, (hb1.block _ (lt_of_heap BX.out)).trans BX.out, bel_trans b0.out hb1, HM.out.below (bel_trans b0.out hb1)⟩
  clear ht hb1 hge BX b0 HM HN
  have c0 : W1.cell? ⟨w.heap.size, 0, none⟩ = some (.int .u8 o) := row_cell HD.out.row 0
  have c1 : W1.cell? ⟨w.heap.size, 1, none⟩ = some (.int .i64 d) := row_cell HD.out.row 1
  have c2 : W1.cell? ⟨w.heap.size, 2, none⟩ = some (.int .i64 s) := row_cell HD.out.row 2
  have c3 : W1.cell? ⟨w.heap.size, 3, none⟩ = some (.int .i64 n) := row_cell HD.out.row 3
  have HR := hid (fun w => reckon_any o ho x.a (atM x s n) w)
  have ca : W1.cell? ⟨g, 0, none⟩ = some (U.bv x.a) := HD.out.m.mr.ca
  have fa : ∀ k, (W1.drewN k).frozen? ⟨g, 0, none⟩ = false := fun k => row_free HD.out.m.row 0
  obtain ⟨z, hz⟩ : ∃ z : Int, ((atM x s n).toNat : Int) = z := ⟨_, rfl⟩
  have HS := hid (HD.out.drew.tell hok s z hz)
  have HQ := hid (fun k => (HD.out.m.drewN k).put 0 (U.bv (calcM o x.a (atM x s n))) { x with a := calcM o x.a (atM x s n) } (ms_0 _ _ _ _) rfl rfl)
  rw [← HY.out] at HQ
  unfold U.bv at *
  rw [hz] at HR
  generalize (calcM o x.a (atM x s n)).toNat = r at *
  generalize x.a.toNat = a at *
  clear hz HY
  have n1 : (o == 1) = false := by simp only [beq_eq_false_iff_ne, ne_eq]; omega
  have n2 : (o == 2) = false := by simp only [beq_eq_false_iff_ne, ne_eq]; omega
  have n3 : (o == 3) = false := by simp only [beq_eq_false_iff_ne, ne_eq]; omega
  have n4 : (o == 4) = false := by simp only [beq_eq_false_iff_ne, ne_eq]; omega
  have n5 : (o == 5) = false := by simp only [beq_eq_false_iff_ne, ne_eq]; omega
  have n6 : (o == 6) = false := by simp only [beq_eq_false_iff_ne, ne_eq]; omega
  have n7 : (o == 7) = false := by simp only [beq_eq_false_iff_ne, ne_eq]; omega
  have n19 : (o == 19) = false := by simp only [beq_eq_false_iff_ne, ne_eq]; omega
  have n20 : (o == 20) = false := by simp only [beq_eq_false_iff_ne, ne_eq]; omega
  have n21 : (o == 21) = false := by simp only [beq_eq_false_iff_ne, ne_eq]; omega
  have n22 : (o == 22) = false := by simp only [beq_eq_false_iff_ne, ne_eq]; omega
  have n23 : (o == 23) = false := by simp only [beq_eq_false_iff_ne, ne_eq]; omega
  have n24 : (o == 24) = false := by simp only [beq_eq_false_iff_ne, ne_eq]; omega
  have n25 : (o == 25) = false := by simp only [beq_eq_false_iff_ne, ne_eq]; omega
  go_upto_region 3 with fail
  go_region_with (first
    | (go_at_call 57; first | (refine HS.out.mono ?_; rintro r W2 ⟨rfl, k, rfl⟩) | skip)
    | (go_at_call 47; refine (HR.out _).mono ?_; rintro r W3 ⟨rfl, rfl⟩))
  all_goals
    go_end0
    exact ⟨rfl, HQ.out _, (But.of_below (below_drewN HD.out.b _)).set _ _ (.inl (.inl rfl))⟩
end Go.Proofs.Ytaogileaeflnfaa
