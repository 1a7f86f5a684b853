/-
  The contract of Do: the walk (written by tools/stage17/gen_dowx.py).
-/
import Derived.Test.YtaogileaeflnfaaDow
set_option linter.unusedVariables false
set_option linter.unusedSimpArgs false
namespace Go.Proofs.Ytaogileaeflnfaa
open Go.RowKit

set_option maxRecDepth 10000 in
set_option maxHeartbeats 16000000 in
theorem Do_any (w : World) (x : Mn) (o d s n : Int) (AH AM : Option Addr) (nH cH nM cM : Nat) (h : U.IsBB w w.heap.size AH nH cH x.h) (hm : IsBB w w.heap.size AM nM cM x.m) (h1 : nH ≤ 5000) (h2 : nM ≤ 5000) :
    Calls Try.prog 10 #[vI o d s n, vM x (.slice AH nH cH) (.slice AM nM cM)] w (DoPost w (doneM o d s n x) nH nM) := by
  have zv := zero30
  have zl : zL.length = 263 := mc_len _ _ _
  have H0 := hid (Do3.start w (mcL x (.slice AH nH cH) (.slice AM nM cM)) o d s n)
  have HA := hid (fun W (hw : Do3 w W (mcL x (.slice AH nH cH) (.slice AM nM cM)) o d s n) => apart_in hw h hm h1 h2)
  have HW := hid (works_any o)
  have HR := hid (Right_any o d s n)
  have HE : Hid (doneM o d s n x = if (1 ≤ o ∧ o ≤ 25) ∧ okI o d s n ∧ x.ok then doM o d s n x else x) := rfl
  have HZ := hid (mc_size x (.slice AH nH cH) (.slice AM nM cM))
  clear h hm
  unfold vM at HA ⊢
  unfold vI at HR ⊢
  generalize hL : mcL x (.slice AH nH cH) (.slice AM nM cM) = L at *
  replace hL := hid hL
  have hsz := hid (size30 L.toArray HZ.out)
  go_enter Try.func10, Try.ntmps10
  go_upto_region 1 with fail
  generalize (((w.alloc _).alloc (.cells L.toArray 30)).alloc (.cells zL.toArray 30)) = W0 at *
  have HA0 := hid (HA.out W0 H0.out)
  go_upto_region 2 with (first
    | (refine wpList_load_row rfl 30 (.tmp 3) rfl (w.heap.size + 1) rfl 30 L.toArray (0, 0) _ H0.out.two.one Try.underlying30 rfl hsz.out ?_)
    | (go_at_call 21; refine HA0.out.mono ?_; rintro r W1 ⟨BH, dH, BM, dM, rfl, H1, O1, O2⟩; have R1 := hid (row_in (L' := mcL x (.slice BH nH dH) (.slice BM nM dM)) H1.out O1.out O2.out); have E1 := hid (lay_of (mcL x (.slice BH nH dH) (.slice BM nM dM)) (mc_len _ _ _) (mc_one _ _ _ _ _ _ _)); have E0 := hid (show L.toArray.size = (mcL x (.slice BH nH dH) (.slice BM nM dM)).toArray.size by rw [HZ.out, mc_size]))
    | (refine wpList_store_row (o := ⟨none, .store 30 (.tmp 3) (.tmp 6), _, _, _, _⟩) rfl 30 (.tmp 3) (.tmp 6) rfl (w.heap.size + 1) (mcL x (.slice BH nH dH) (.slice BM nM dM)).toArray rfl rfl 30 L.toArray H1.out.two.one E1.out.2.1 E0.out E1.out.2.2.2 ?_))
  have R2 := R1.out
  generalize W1.setRow (w.heap.size + 1) (mcL x (.slice BH nH dH) (.slice BM nM dM)).toArray = W2 at R2 ⊢
  clear R1 H1 O1 O2 E1 E0 HA0 HA H0 hL hsz HZ
  obtain ⟨H2, O1, O2⟩ := R2
  replace H2 := hid H2
  replace O1 := hid O1
  replace O2 := hid O2
  obtain ⟨c0, c1, c2, c3⟩ := H2.out.cells
  have HM := hid (fun V (b : Below W2.heap.size W2 V) => right_any V (w.heap.size + 1) x BH BM nH dH nM dM (mr_in (H2.out.below b) (own_keep O1.out O2.out b).1 (own_keep O1.out O2.out b).2 h1 h2) h1 h2)
  by_cases hw : 1 ≤ o ∧ o ≤ 25
  case neg =>
    rw [decide_eq_false hw] at HW
    clear HR HM
    go_upto_region 4 with (go_at_call 22; refine (HW.out _).mono ?_; rintro r w2 ⟨rfl, rfl⟩)
    clear HW
    obtain ⟨L5, hL5⟩ : ∃ L5, mcL x (.slice BH nH dH) (.slice BM nM dM) = L5 := ⟨_, rfl⟩
    have T := hid (do_end H2.out O1.out O2.out L5 hL5)
    replace hL5 := hid hL5
    go_wp2_with (first
      | (refine wpList_load_row rfl 30 (.tmp 3) rfl (w.heap.size + 1) rfl 30 L5.toArray (0, 0) _ T.out.1 Try.underlying30 rfl T.out.2.1 ?_)
      | (refine wpList_store_row (o := ⟨none, .store 30 (.tmp 4) (.tmp 20), _, _, _, _⟩) rfl 30 (.tmp 4) (.tmp 20) rfl (w.heap.size + 1 + 1) L5.toArray rfl rfl 30 zL.toArray T.out.2.2.1 T.out.2.1 T.out.2.2.2.1 T.out.2.2.2.2.1 ?_))
    refine bodyPost_ret (results_cell_row (by kernel_rfl : Try.f10.results = #[.cell 4 30]) _ _ (w.heap.size + 1 + 1) 30 L5.toArray (0, 0) _ rfl T.out.2.2.2.2.2.1 Try.underlying30 rfl T.out.2.1) rfl ?_
    rw [HE.out, if_neg (fun h => hw h.1)]
    exact T.out.2.2.2.2.2.2
  rw [decide_eq_true hw] at HW
  by_cases hi : okI o d s n
  case neg =>
    rw [show rightE o d s n = 110 from if_neg hi] at HR
    clear HM
    go_upto_region 4 with (first
      | (go_at_call 22; refine (HW.out _).mono ?_; rintro r w2 ⟨rfl, rfl⟩)
      | (go_at_call 23; refine (HR.out _).mono ?_; rintro r W3 ⟨rfl, b3⟩; have B3 := hid b3; obtain ⟨c0, c1, c2, c3⟩ := (H2.out.below b3).cells; clear b3))
    clear HW HR
    obtain ⟨L5, hL5⟩ : ∃ L5, mcL x (.slice BH nH dH) (.slice BM nM dM) = L5 := ⟨_, rfl⟩
    have T := hid (do_end (H2.out.below B3.out) (own_keep O1.out O2.out B3.out).1 (own_keep O1.out O2.out B3.out).2 L5 hL5)
    replace hL5 := hid hL5
    go_wp2_with (first
      | (refine wpList_load_row rfl 30 (.tmp 3) rfl (w.heap.size + 1) rfl 30 L5.toArray (0, 0) _ T.out.1 Try.underlying30 rfl T.out.2.1 ?_)
      | (refine wpList_store_row (o := ⟨none, .store 30 (.tmp 4) (.tmp 20), _, _, _, _⟩) rfl 30 (.tmp 4) (.tmp 20) rfl (w.heap.size + 1 + 1) L5.toArray rfl rfl 30 zL.toArray T.out.2.2.1 T.out.2.1 T.out.2.2.2.1 T.out.2.2.2.2.1 ?_))
    refine bodyPost_ret (results_cell_row (by kernel_rfl : Try.f10.results = #[.cell 4 30]) _ _ (w.heap.size + 1 + 1) 30 L5.toArray (0, 0) _ rfl T.out.2.2.2.2.2.1 Try.underlying30 rfl T.out.2.1) rfl ?_
    rw [HE.out, if_neg (fun h => hi h.2.1)]
    exact T.out.2.2.2.2.2.2
  rw [show rightE o d s n = 0 from if_pos hi] at HR
  by_cases hk : x.ok
  case neg =>
    rw [decide_eq_false hk] at HM
    go_upto_region 4 with (first
      | (go_at_call 22; refine (HW.out _).mono ?_; rintro r w2 ⟨rfl, rfl⟩)
      | (go_at_call 23; refine (HR.out _).mono ?_; rintro r W3 ⟨rfl, b3⟩; have B3 := hid b3; obtain ⟨c0, c1, c2, c3⟩ := (H2.out.below b3).cells; clear b3)
      | (go_at_call 24; refine (HM.out _ B3.out).mono ?_; rintro r w2 ⟨rfl, rfl⟩))
    clear HW HR HM
    obtain ⟨L5, hL5⟩ : ∃ L5, mcL x (.slice BH nH dH) (.slice BM nM dM) = L5 := ⟨_, rfl⟩
    have T := hid (do_end (H2.out.below B3.out) (own_keep O1.out O2.out B3.out).1 (own_keep O1.out O2.out B3.out).2 L5 hL5)
    replace hL5 := hid hL5
    go_wp2_with (first
      | (refine wpList_load_row rfl 30 (.tmp 3) rfl (w.heap.size + 1) rfl 30 L5.toArray (0, 0) _ T.out.1 Try.underlying30 rfl T.out.2.1 ?_)
      | (refine wpList_store_row (o := ⟨none, .store 30 (.tmp 4) (.tmp 20), _, _, _, _⟩) rfl 30 (.tmp 4) (.tmp 20) rfl (w.heap.size + 1 + 1) L5.toArray rfl rfl 30 zL.toArray T.out.2.2.1 T.out.2.1 T.out.2.2.2.1 T.out.2.2.2.2.1 ?_))
    refine bodyPost_ret (results_cell_row (by kernel_rfl : Try.f10.results = #[.cell 4 30]) _ _ (w.heap.size + 1 + 1) 30 L5.toArray (0, 0) _ rfl T.out.2.2.2.2.2.1 Try.underlying30 rfl T.out.2.1) rfl ?_
    rw [HE.out, if_neg (fun h => hk h.2.2)]
    exact T.out.2.2.2.2.2.2
  rw [decide_eq_true hk] at HM
  have HD := hid (fun V (b : Below W2.heap.size W2 V) => do_in (H2.out.below b) (own_keep O1.out O2.out b).1 (own_keep O1.out O2.out b).2 h1 h2 hw hi hk)
  unfold vI at HD
  go_upto_region 4 with (first
    | (go_at_call 22; refine (HW.out _).mono ?_; rintro r w2 ⟨rfl, rfl⟩)
    | (go_at_call 23; refine (HR.out _).mono ?_; rintro r W3 ⟨rfl, b3⟩; have B3 := hid b3; obtain ⟨c0, c1, c2, c3⟩ := (H2.out.below b3).cells; clear b3)
    | (go_at_call 24; refine (HM.out _ B3.out).mono ?_; rintro r w2 ⟨rfl, rfl⟩)
    | (go_at_call 25; refine (HD.out _ B3.out).mono ?_; rintro r W4 ⟨rfl, H4, P1, P2⟩))
  clear HW HR HM HD
  obtain ⟨L5, hL5⟩ : ∃ L5, mcL (doM o d s n x) (.slice BH nH dH) (.slice BM nM dM) = L5 := ⟨_, rfl⟩
  have T := hid (do_end H4.out P1.out P2.out L5 hL5)
  replace hL5 := hid hL5
  go_wp2_with (first
    | (refine wpList_load_row rfl 30 (.tmp 3) rfl (w.heap.size + 1) rfl 30 L5.toArray (0, 0) _ T.out.1 Try.underlying30 rfl T.out.2.1 ?_)
    | (refine wpList_store_row (o := ⟨none, .store 30 (.tmp 4) (.tmp 20), _, _, _, _⟩) rfl 30 (.tmp 4) (.tmp 20) rfl (w.heap.size + 1 + 1) L5.toArray rfl rfl 30 zL.toArray T.out.2.2.1 T.out.2.1 T.out.2.2.2.1 T.out.2.2.2.2.1 ?_))
  refine bodyPost_ret (results_cell_row (by kernel_rfl : Try.f10.results = #[.cell 4 30]) _ _ (w.heap.size + 1 + 1) 30 L5.toArray (0, 0) _ rfl T.out.2.2.2.2.2.1 Try.underlying30 rfl T.out.2.1) rfl ?_
  rw [HE.out, if_pos ⟨hw, hi, hk⟩]
  exact T.out.2.2.2.2.2.2
end Go.Proofs.Ytaogileaeflnfaa
