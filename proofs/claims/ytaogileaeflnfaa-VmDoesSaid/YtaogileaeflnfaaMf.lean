/-
  Merged: Vh3 Vh5 Vh6 Vh4.
-/
import Derived.Test.YtaogileaeflnfaaMd
/-
  The document's Do, some of its classes (written by tools/stage17/gen_vdg.py).
-/
set_option linter.unusedVariables false
set_option linter.unusedSimpArgs false
namespace Go.Proofs.Ytaogileaeflnfaa
open Go.RowKit

set_option maxRecDepth 10000 in
set_option maxHeartbeats 32000000 in
theorem rdo_19 (w : World) (x : Mn) (o d s n : Int) (ho : 0 ≤ o) (AH AM : Option Addr) (nH cH nM cM : Nat) (h : U.IsBB w w.heap.size AH nH cH x.h) (hm : IsBB w w.heap.size AM nM cM x.m) (h1 : nH ≤ 5000) (h2 : nM ≤ 5000) (hk : x.ok) (hi : okI o d s n) (ho1 : o = 19) :
    Calls Try.prog 12 #[vI o d s n, vM x (.slice AH nH cH) (.slice AM nM cM)] w (DoPost w (doneM o d s n x) nH nM) := by
  replace ho1 := hid ho1
  have zv := zero30
  have zl : zL.length = 263 := mc_len _ _ _
  have H0 := hid (Do3.start w (mcL x (.slice AH nH cH) (.slice AM nM cM)) o d s n)
  have HCM := hid (fun W (hw : Do3 w W (mcL x (.slice AH nH cH) (.slice AM nM cM)) o d s n) => CopyMachine_any W x AH AM nH cH nM cM (h.on hw.two.bel) (hm.on hw.two.bel) (by omega) (by omega))
  have HR := hid (RefRight_any o d s n ho)
  have HE : Hid (doneM o d s n x = if (1 ≤ o ∧ o ≤ 25) ∧ okI o d s n ∧ x.ok then doM o d s n x else x) := rfl
  have HZ := hid (mc_size x (.slice AH nH cH) (.slice AM nM cM))
  clear h hm
  unfold vM at HCM ⊢
  unfold vI at HR ⊢
  generalize hL : mcL x (.slice AH nH cH) (.slice AM nM cM) = L at *
  replace hL := hid hL
  have hsz := hid (size30 L.toArray HZ.out)
  go_enter Try.func12, Try.ntmps12
  go_upto_region 1 with fail
  have HS0 : Hid ((((w.alloc (.cells #[.int .u8 o, .int .i64 d, .int .i64 s, .int .i64 n] 24)).alloc (.cells L.toArray 30)).alloc (.cells zL.toArray 30)).heap.size = w.heap.size + 3) := hid (by simp)
  generalize (((w.alloc _).alloc (.cells L.toArray 30)).alloc (.cells zL.toArray 30)) = W0 at *
  have HA0 := hid (HCM.out W0 H0.out)
  go_upto_region 2 with (first
    | (refine wpList_load_row rfl 30 (.tmp 3) rfl (w.heap.size + 1) rfl 30 L.toArray (0, 0) _ H0.out.two.one Try.underlying30 rfl hsz.out ?_)
    | (go_at_call 7; refine HA0.out.mono ?_; rintro r W1 ⟨BH, dH, BM, dM, rfl, o1, o2, b1⟩; have O1 := hid o1; have O2 := hid o2; have B1 := hid b1; clear o1 o2 b1; obtain ⟨L1, hL1⟩ : ∃ L1, mcL x (.slice BH nH dH) (.slice BM nM dM) = L1 := ⟨_, rfl⟩; have E1 := hid (show (Try.prog.info? 30).map (·.size) = some L1.toArray.size ∧ zL.toArray.size = L1.toArray.size ∧ L1.toArray.all (·.oneCell') = true by rw [← hL1]; exact ⟨size30 _ (mc_size _ _ _), by rw [mc_size]; exact mc_size _ _ _, mc_one _ _ _ _ _ _ _⟩); rw [hL1]; replace hL1 := hid hL1)
    | (refine wpList_store_row (o := ⟨none, .store 30 (.tmp 5) (.tmp 10), _, _, _, _⟩) rfl 30 (.tmp 5) (.tmp 10) rfl W1.heap.size L1.toArray rfl rfl 30 zL.toArray (heap_alloc_new W1 _) E1.out.1 E1.out.2.1 E1.out.2.2 ?_))
  change Code.wp _ _ _ _ (Stw W1 L1)
  have H2 := hid (RDo.start H0.out HS0.out B1.out L1)
  have O3 : Hid ((Stw W1 L1).ownsRow (w.heap.size + 3) 25 1 (.slice BH nH dH) nH (x.h.map U.bv)) := hid (by have := own_below O1.out (Stw.bel W1 L1); rw [HS0.out] at this; exact this)
  have O4 : Hid ((Stw W1 L1).ownsRow (w.heap.size + 3) 5 1 (.slice BM nM dM) nM (x.m.map bv)) := hid (by have := own_below O2.out (Stw.bel W1 L1); rw [HS0.out] at this; exact this)
  clear O1 O2 B1 HA0 HCM H0 HS0 hL hsz HZ
  generalize Stw W1 L1 = W2 at *
  generalize W1.heap.size = g at *
  have HM := hid (rd_right H2.out O3.out O4.out h1 h2)
  unfold vM at HM
  rw [hL1.out] at HM
  obtain ⟨c0, c1, c2, c3⟩ := H2.out.cells
  rw [decide_eq_true hk] at HM
  rw [show rightE o d s n = 0 from if_pos hi] at HR
  go_upto_region 4 with (first
    | (refine BigFrame.wpList_want (o := ⟨some 11, .load 30 (.tmp 5), _, _, _, _⟩) (by rfl) (fun _ hK => wp_load_row 30 (.tmp 5) rfl g rfl 30 L1.toArray (0, 0) _ H2.out.row Try.underlying30 rfl E1.out.1 (hK _ _ ?_)))
    | (go_at_call 27; refine HM.out.mono ?_; rintro r W3 ⟨rfl, H3, P1, P2⟩; obtain ⟨c0, c1, c2, c3⟩ := H3.out.cells)
    | (go_at_call 28; refine (HR.out _).mono ?_; rintro r W4 ⟨rfl, b4⟩; have B4 := hid b4; clear b4))
  have hrm := rm_of (x := x) (by have := H3.out.below B4.out; rw [← hL1.out] at this; exact this) (own_below P1.out B4.out) (own_below P2.out B4.out) hk h1 h2
  obtain ⟨hb, mb, rfl, rfl, hrm⟩ := hrm
  have H6 := hid hrm
  clear hrm HM HR H2 O3 O4 H3 P1 P2 B4
  have HRG := hid (fun W (H : RM w W g hb mb nH dH nM dM x o d s n) => H.range L1 hL1.out)
  have hszl := hid (show (Try.prog.info? 30).map (·.size) = some L1.length by rw [← hL1.out]; exact size30 _ (mc_size _ _ _))
  obtain ⟨zs, hzs⟩ : ∃ z : Int, ((atM x s n).toNat : Int) = z := ⟨_, rfl⟩
  obtain ⟨zd, hzd⟩ : ∃ z : Int, ((atM x d n).toNat : Int) = z := ⟨_, rfl⟩
  have HAT := hid (fun W (H : RM w W g hb mb nH dH nM dM x o d s n) p q => H.at hk p q)
  unfold vM at HAT
  rw [hL1.out] at HAT
  have HAs : Hid (∀ W, RM w W g hb mb nH dH nM dM x o d s n → Calls Try.prog 29 #[.agg L1.toArray, .int .i64 s, .int .i64 n] W fun e w' => e = .returned (.int .u32 zs) ∧ Hid (RM w w' g hb mb nH dH nM dM x o d s n)) := hid (by rw [← hzs]; exact fun W H => HAT.out W H s n)
  have HAd : Hid (∀ W, RM w W g hb mb nH dH nM dM x o d s n → Calls Try.prog 29 #[.agg L1.toArray, .int .i64 d, .int .i64 n] W fun e w' => e = .returned (.int .u32 zd) ∧ Hid (RM w w' g hb mb nH dH nM dM x o d s n)) := hid (by rw [← hzd]; exact fun W H => HAT.out W H d n)
  replace hzs := hid hzs
  replace hzd := hid hzd
  refine wp_region_held_drew (S := (fun w' => RM w w' g hb mb nH dH nM dM x o d s n)) (by kernel_rfl) H6.out.drew (fun hH0 => ?_)
  refine wpAnyH_take (i := 0) (oi := ⟨some 20, _, _, _, _, _⟩) (v := .agg L1.toArray) rfl (by kernel_rfl) (by kernel_rfl) (by kernel_rfl) (fun _ _ _ h => h) (yieldsIf_load_mid (by rfl) 30 (.tmp 5) rfl g 0 rfl L1 _ (fun w hSw => HRG.out _ hSw) Try.underlying30 rfl hszl.out) hH0 ?_
  try simp only [Act.put, List.setIfInBounds_toArray, List.set_cons_zero, List.set_cons_succ]
  refine wpAnyH_take (i := 1) (oi := ⟨some 21, _, _, _, _, _⟩) (v := .pointer (some ⟨w.heap.size, 2, none⟩)) rfl (by kernel_rfl) (by kernel_rfl) (by kernel_rfl) (fun _ _ _ h => h) (Or.inl ⟨by rfl, by intro w hSw; (try dsimp only at hSw); obtain ⟨z0, z1, z2, z3⟩ := hSw.d.cells; have za := hSw.m.mr.ca; unfold U.bv at za; go_simp⟩) hH0 ?_
  try simp only [Act.put, List.setIfInBounds_toArray, List.set_cons_zero, List.set_cons_succ]
  refine wpAnyH_take (i := 2) (oi := ⟨some 22, _, _, _, _, _⟩) (v := .int .i64 s) rfl (by kernel_rfl) (by kernel_rfl) (by kernel_rfl) (fun _ _ _ h => h) (Or.inl ⟨by rfl, by intro w hSw; (try dsimp only at hSw); obtain ⟨z0, z1, z2, z3⟩ := hSw.d.cells; have za := hSw.m.mr.ca; unfold U.bv at za; go_simp⟩) hH0 ?_
  try simp only [Act.put, List.setIfInBounds_toArray, List.set_cons_zero, List.set_cons_succ]
  refine wpAnyH_take (i := 3) (oi := ⟨some 23, _, _, _, _, _⟩) (v := .pointer (some ⟨w.heap.size, 3, none⟩)) rfl (by kernel_rfl) (by kernel_rfl) (by kernel_rfl) (fun _ _ _ h => h) (Or.inl ⟨by rfl, by intro w hSw; (try dsimp only at hSw); obtain ⟨z0, z1, z2, z3⟩ := hSw.d.cells; have za := hSw.m.mr.ca; unfold U.bv at za; go_simp⟩) hH0 ?_
  try simp only [Act.put, List.setIfInBounds_toArray, List.set_cons_zero, List.set_cons_succ]
  refine wpAnyH_take (i := 4) (oi := ⟨some 24, _, _, _, _, _⟩) (v := .int .i64 n) rfl (by kernel_rfl) (by kernel_rfl) (by kernel_rfl) (fun _ _ _ h => h) (Or.inl ⟨by rfl, by intro w hSw; (try dsimp only at hSw); obtain ⟨z0, z1, z2, z3⟩ := hSw.d.cells; have za := hSw.m.mr.ca; unfold U.bv at za; go_simp⟩) hH0 ?_
  try simp only [Act.put, List.setIfInBounds_toArray, List.set_cons_zero, List.set_cons_succ]
  refine wpAnyH_take (i := 6) (oi := ⟨some 26, _, _, _, _, _⟩) (v := .agg L1.toArray) rfl (by kernel_rfl) (by kernel_rfl) (by kernel_rfl) (fun _ _ _ h => h) (yieldsIf_load_mid (by rfl) 30 (.tmp 5) rfl g 0 rfl L1 _ (fun w hSw => HRG.out _ hSw) Try.underlying30 rfl hszl.out) hH0 ?_
  try simp only [Act.put, List.setIfInBounds_toArray, List.set_cons_zero, List.set_cons_succ]
  refine wpAnyH_take (i := 7) (oi := ⟨some 27, _, _, _, _, _⟩) (v := .pointer (some ⟨w.heap.size, 1, none⟩)) rfl (by kernel_rfl) (by kernel_rfl) (by kernel_rfl) (fun _ _ _ h => h) (Or.inl ⟨by rfl, by intro w hSw; (try dsimp only at hSw); obtain ⟨z0, z1, z2, z3⟩ := hSw.d.cells; have za := hSw.m.mr.ca; unfold U.bv at za; go_simp⟩) hH0 ?_
  try simp only [Act.put, List.setIfInBounds_toArray, List.set_cons_zero, List.set_cons_succ]
  refine wpAnyH_take (i := 8) (oi := ⟨some 28, _, _, _, _, _⟩) (v := .int .i64 d) rfl (by kernel_rfl) (by kernel_rfl) (by kernel_rfl) (fun _ _ _ h => h) (Or.inl ⟨by rfl, by intro w hSw; (try dsimp only at hSw); obtain ⟨z0, z1, z2, z3⟩ := hSw.d.cells; have za := hSw.m.mr.ca; unfold U.bv at za; go_simp⟩) hH0 ?_
  try simp only [Act.put, List.setIfInBounds_toArray, List.set_cons_zero, List.set_cons_succ]
  refine wpAnyH_take (i := 9) (oi := ⟨some 29, _, _, _, _, _⟩) (v := .pointer (some ⟨w.heap.size, 3, none⟩)) rfl (by kernel_rfl) (by kernel_rfl) (by kernel_rfl) (fun _ _ _ h => h) (Or.inl ⟨by rfl, by intro w hSw; (try dsimp only at hSw); obtain ⟨z0, z1, z2, z3⟩ := hSw.d.cells; have za := hSw.m.mr.ca; unfold U.bv at za; go_simp⟩) hH0 ?_
  try simp only [Act.put, List.setIfInBounds_toArray, List.set_cons_zero, List.set_cons_succ]
  refine wpAnyH_take (i := 10) (oi := ⟨some 30, _, _, _, _, _⟩) (v := .int .i64 n) rfl (by kernel_rfl) (by kernel_rfl) (by kernel_rfl) (fun _ _ _ h => h) (Or.inl ⟨by rfl, by intro w hSw; (try dsimp only at hSw); obtain ⟨z0, z1, z2, z3⟩ := hSw.d.cells; have za := hSw.m.mr.ca; unfold U.bv at za; go_simp⟩) hH0 ?_
  try simp only [Act.put, List.setIfInBounds_toArray, List.set_cons_zero, List.set_cons_succ]
  refine wpAnyH_ready (rs := [5]) (by kernel_rfl) (by simp) (AllReadyH.cons rfl (fun K hK => ?_) AllReadyH.nil)
  go_simp
  refine (HAs.out _ hH0).mono ?_
  rintro e W7 ⟨rfl, H7⟩
  refine hK.out _ _ H7.out (fun hH1 => ?_)
  clear hK K
  try simp only [Act.put, List.setIfInBounds_toArray, List.set_cons_zero, List.set_cons_succ]
  refine wpAnyH_ready (rs := [11]) (by kernel_rfl) (by simp) (AllReadyH.cons rfl (fun K hK => ?_) AllReadyH.nil)
  go_simp
  refine (HAd.out _ hH1).mono ?_
  rintro e W8 ⟨rfl, H8⟩
  refine hK.out _ _ H8.out (fun hH2 => ?_)
  clear hK K
  try simp only [Act.put, List.setIfInBounds_toArray, List.set_cons_zero, List.set_cons_succ]
  refine wpAnyH_take (i := 12) (oi := ⟨some 6, _, _, _, _, _⟩) (v := .int .u32 zs) rfl (by kernel_rfl) (by kernel_rfl) (by kernel_rfl) (fun _ _ _ h => h) (Or.inl ⟨by rfl, by intro w hSw; (try dsimp only at hSw); obtain ⟨z0, z1, z2, z3⟩ := hSw.d.cells; have za := hSw.m.mr.ca; unfold U.bv at za; go_simp⟩) hH2 ?_
  try simp only [Act.put, List.setIfInBounds_toArray, List.set_cons_zero, List.set_cons_succ]
  refine wpAnyH_take (i := 13) (oi := ⟨some 7, _, _, _, _, _⟩) (v := .int .u32 zd) rfl (by kernel_rfl) (by kernel_rfl) (by kernel_rfl) (fun _ _ _ h => h) (Or.inl ⟨by rfl, by intro w hSw; (try dsimp only at hSw); obtain ⟨z0, z1, z2, z3⟩ := hSw.d.cells; have za := hSw.m.mr.ca; unfold U.bv at za; go_simp⟩) hH2 ?_
  try simp only [Act.put, List.setIfInBounds_toArray, List.set_cons_zero, List.set_cons_succ]
  refine wpAnyH_done (by kernel_rfl) ?_ _
  clear HRG HAs HAd H6 H7 hH0 hH1 hH2
  obtain ⟨c0, c1, c2, c3⟩ := H8.out.d.cells
  replace ho1 := ho1.out
  subst ho1
  have f9 := H8.out.m.mr.free 4
  have HH := hid (H8.out.holds ho h1 h2)
  unfold vM vI at HH
  rw [hL1.out] at HH
  have HQ : Hid (holdsM 19 d s n x = decide (x.a = atM x s n)) := hid (by unfold holdsM; rw [if_pos ⟨by omega, hi, hk⟩]; rfl)
  rw [HQ.out] at HH
  clear HQ
  generalize hq : decide (x.a = atM x s n) = q at HH
  replace hq := hid hq
  have HRW := hid H8.out.d.row
  rw [hL1.out] at HRW
  have hszt := hid (show (Try.prog.info? 30).map (·.size) = some L1.toArray.size by rw [List.size_toArray]; exact hszl.out)
  go_upto_region 24 with fail
  go_upto_region 33 with (first
    | (refine wpList_load_row rfl 30 (.tmp 5) rfl g rfl 30 L1.toArray (0, 0) _ HRW.out Try.underlying30 rfl hszt.out ?_)
    | (go_at_call 14; refine HH.out.mono ?_; rintro r W9 ⟨rfl, H9⟩; have f9 := H9.out.m.mr.free 4; have c9 := H9.out.m.mr.cf))
  have H10 := hid (H9.out.set 4 (.bool q) { x with f := q } (ms_4 _ _ _ _) rfl rfl)
  change Code.wp _ _ _ _ (W9.setCell ⟨g, 4, none⟩ (.bool q))
  generalize W9.setCell ⟨g, 4, none⟩ (.bool q) = W10 at *
  clear f9 c9 H9 H8
  obtain ⟨L5, hL5⟩ : ∃ L5, mcL { x with f := q } (.slice (some ⟨hb, 0, none⟩) nH dH) (.slice (some ⟨mb, 0, none⟩) nM dM) = L5 := ⟨_, rfl⟩
  have T := hid (H10.out.fin L5 hL5)
  replace hL5 := hid hL5
  go_wp2_with (first
    | (refine wpList_load_row rfl 30 (.tmp 5) rfl g rfl 30 L5.toArray (0, 0) _ T.out.1 Try.underlying30 rfl T.out.2.1 ?_)
    | (refine wpList_store_row (o := ⟨none, .store 30 (.tmp 4) (.tmp 171), _, _, _, _⟩) rfl 30 (.tmp 4) (.tmp 171) rfl (w.heap.size + 1 + 1) L5.toArray rfl rfl 30 zL.toArray T.out.2.2.1 T.out.2.1 T.out.2.2.2.1 T.out.2.2.2.2.1 ?_))
  refine bodyPost_ret (results_cell_row (by kernel_rfl : Try.f12.results = #[.cell 4 30]) _ _ (w.heap.size + 1 + 1) 30 L5.toArray (0, 0) _ rfl T.out.2.2.2.2.2.1 Try.underlying30 rfl T.out.2.1) rfl ?_
  rw [HE.out, if_pos ⟨by omega, hi, hk⟩]
  rw [show doM 19 d s n x = { x with f := q } from by rw [← hq.out]; rfl]
  exact T.out.2.2.2.2.2.2
set_option maxRecDepth 10000 in
set_option maxHeartbeats 32000000 in
theorem rdo_23 (w : World) (x : Mn) (o d s n : Int) (ho : 0 ≤ o) (AH AM : Option Addr) (nH cH nM cM : Nat) (h : U.IsBB w w.heap.size AH nH cH x.h) (hm : IsBB w w.heap.size AM nM cM x.m) (h1 : nH ≤ 5000) (h2 : nM ≤ 5000) (hk : x.ok) (hi : okI o d s n) (ho1 : o = 23) :
    Calls Try.prog 12 #[vI o d s n, vM x (.slice AH nH cH) (.slice AM nM cM)] w (DoPost w (doneM o d s n x) nH nM) := by
  replace ho1 := hid ho1
  have zv := zero30
  have zl : zL.length = 263 := mc_len _ _ _
  have H0 := hid (Do3.start w (mcL x (.slice AH nH cH) (.slice AM nM cM)) o d s n)
  have HCM := hid (fun W (hw : Do3 w W (mcL x (.slice AH nH cH) (.slice AM nM cM)) o d s n) => CopyMachine_any W x AH AM nH cH nM cM (h.on hw.two.bel) (hm.on hw.two.bel) (by omega) (by omega))
  have HR := hid (RefRight_any o d s n ho)
  have HE : Hid (doneM o d s n x = if (1 ≤ o ∧ o ≤ 25) ∧ okI o d s n ∧ x.ok then doM o d s n x else x) := rfl
  have HZ := hid (mc_size x (.slice AH nH cH) (.slice AM nM cM))
  clear h hm
  unfold vM at HCM ⊢
  unfold vI at HR ⊢
  generalize hL : mcL x (.slice AH nH cH) (.slice AM nM cM) = L at *
  replace hL := hid hL
  have hsz := hid (size30 L.toArray HZ.out)
  go_enter Try.func12, Try.ntmps12
  go_upto_region 1 with fail
  have HS0 : Hid ((((w.alloc (.cells #[.int .u8 o, .int .i64 d, .int .i64 s, .int .i64 n] 24)).alloc (.cells L.toArray 30)).alloc (.cells zL.toArray 30)).heap.size = w.heap.size + 3) := hid (by simp)
  generalize (((w.alloc _).alloc (.cells L.toArray 30)).alloc (.cells zL.toArray 30)) = W0 at *
  have HA0 := hid (HCM.out W0 H0.out)
  go_upto_region 2 with (first
    | (refine wpList_load_row rfl 30 (.tmp 3) rfl (w.heap.size + 1) rfl 30 L.toArray (0, 0) _ H0.out.two.one Try.underlying30 rfl hsz.out ?_)
    | (go_at_call 7; refine HA0.out.mono ?_; rintro r W1 ⟨BH, dH, BM, dM, rfl, o1, o2, b1⟩; have O1 := hid o1; have O2 := hid o2; have B1 := hid b1; clear o1 o2 b1; obtain ⟨L1, hL1⟩ : ∃ L1, mcL x (.slice BH nH dH) (.slice BM nM dM) = L1 := ⟨_, rfl⟩; have E1 := hid (show (Try.prog.info? 30).map (·.size) = some L1.toArray.size ∧ zL.toArray.size = L1.toArray.size ∧ L1.toArray.all (·.oneCell') = true by rw [← hL1]; exact ⟨size30 _ (mc_size _ _ _), by rw [mc_size]; exact mc_size _ _ _, mc_one _ _ _ _ _ _ _⟩); rw [hL1]; replace hL1 := hid hL1)
    | (refine wpList_store_row (o := ⟨none, .store 30 (.tmp 5) (.tmp 10), _, _, _, _⟩) rfl 30 (.tmp 5) (.tmp 10) rfl W1.heap.size L1.toArray rfl rfl 30 zL.toArray (heap_alloc_new W1 _) E1.out.1 E1.out.2.1 E1.out.2.2 ?_))
  change Code.wp _ _ _ _ (Stw W1 L1)
  have H2 := hid (RDo.start H0.out HS0.out B1.out L1)
  have O3 : Hid ((Stw W1 L1).ownsRow (w.heap.size + 3) 25 1 (.slice BH nH dH) nH (x.h.map U.bv)) := hid (by have := own_below O1.out (Stw.bel W1 L1); rw [HS0.out] at this; exact this)
  have O4 : Hid ((Stw W1 L1).ownsRow (w.heap.size + 3) 5 1 (.slice BM nM dM) nM (x.m.map bv)) := hid (by have := own_below O2.out (Stw.bel W1 L1); rw [HS0.out] at this; exact this)
  clear O1 O2 B1 HA0 HCM H0 HS0 hL hsz HZ
  generalize Stw W1 L1 = W2 at *
  generalize W1.heap.size = g at *
  have HM := hid (rd_right H2.out O3.out O4.out h1 h2)
  unfold vM at HM
  rw [hL1.out] at HM
  obtain ⟨c0, c1, c2, c3⟩ := H2.out.cells
  rw [decide_eq_true hk] at HM
  rw [show rightE o d s n = 0 from if_pos hi] at HR
  go_upto_region 4 with (first
    | (refine BigFrame.wpList_want (o := ⟨some 11, .load 30 (.tmp 5), _, _, _, _⟩) (by rfl) (fun _ hK => wp_load_row 30 (.tmp 5) rfl g rfl 30 L1.toArray (0, 0) _ H2.out.row Try.underlying30 rfl E1.out.1 (hK _ _ ?_)))
    | (go_at_call 27; refine HM.out.mono ?_; rintro r W3 ⟨rfl, H3, P1, P2⟩; obtain ⟨c0, c1, c2, c3⟩ := H3.out.cells)
    | (go_at_call 28; refine (HR.out _).mono ?_; rintro r W4 ⟨rfl, b4⟩; have B4 := hid b4; clear b4))
  have hrm := rm_of (x := x) (by have := H3.out.below B4.out; rw [← hL1.out] at this; exact this) (own_below P1.out B4.out) (own_below P2.out B4.out) hk h1 h2
  obtain ⟨hb, mb, rfl, rfl, hrm⟩ := hrm
  have H6 := hid hrm
  clear hrm HM HR H2 O3 O4 H3 P1 P2 B4
  have HRG := hid (fun W (H : RM w W g hb mb nH dH nM dM x o d s n) => H.range L1 hL1.out)
  have hszl := hid (show (Try.prog.info? 30).map (·.size) = some L1.length by rw [← hL1.out]; exact size30 _ (mc_size _ _ _))
  obtain ⟨zs, hzs⟩ : ∃ z : Int, ((atM x s n).toNat : Int) = z := ⟨_, rfl⟩
  obtain ⟨zd, hzd⟩ : ∃ z : Int, ((atM x d n).toNat : Int) = z := ⟨_, rfl⟩
  have HAT := hid (fun W (H : RM w W g hb mb nH dH nM dM x o d s n) p q => H.at hk p q)
  unfold vM at HAT
  rw [hL1.out] at HAT
  have HAs : Hid (∀ W, RM w W g hb mb nH dH nM dM x o d s n → Calls Try.prog 29 #[.agg L1.toArray, .int .i64 s, .int .i64 n] W fun e w' => e = .returned (.int .u32 zs) ∧ Hid (RM w w' g hb mb nH dH nM dM x o d s n)) := hid (by rw [← hzs]; exact fun W H => HAT.out W H s n)
  have HAd : Hid (∀ W, RM w W g hb mb nH dH nM dM x o d s n → Calls Try.prog 29 #[.agg L1.toArray, .int .i64 d, .int .i64 n] W fun e w' => e = .returned (.int .u32 zd) ∧ Hid (RM w w' g hb mb nH dH nM dM x o d s n)) := hid (by rw [← hzd]; exact fun W H => HAT.out W H d n)
  replace hzs := hid hzs
  replace hzd := hid hzd
  refine wp_region_held_drew (S := (fun w' => RM w w' g hb mb nH dH nM dM x o d s n)) (by kernel_rfl) H6.out.drew (fun hH0 => ?_)
  refine wpAnyH_take (i := 0) (oi := ⟨some 20, _, _, _, _, _⟩) (v := .agg L1.toArray) rfl (by kernel_rfl) (by kernel_rfl) (by kernel_rfl) (fun _ _ _ h => h) (yieldsIf_load_mid (by rfl) 30 (.tmp 5) rfl g 0 rfl L1 _ (fun w hSw => HRG.out _ hSw) Try.underlying30 rfl hszl.out) hH0 ?_
  try simp only [Act.put, List.setIfInBounds_toArray, List.set_cons_zero, List.set_cons_succ]
  refine wpAnyH_take (i := 1) (oi := ⟨some 21, _, _, _, _, _⟩) (v := .pointer (some ⟨w.heap.size, 2, none⟩)) rfl (by kernel_rfl) (by kernel_rfl) (by kernel_rfl) (fun _ _ _ h => h) (Or.inl ⟨by rfl, by intro w hSw; (try dsimp only at hSw); obtain ⟨z0, z1, z2, z3⟩ := hSw.d.cells; have za := hSw.m.mr.ca; unfold U.bv at za; go_simp⟩) hH0 ?_
  try simp only [Act.put, List.setIfInBounds_toArray, List.set_cons_zero, List.set_cons_succ]
  refine wpAnyH_take (i := 2) (oi := ⟨some 22, _, _, _, _, _⟩) (v := .int .i64 s) rfl (by kernel_rfl) (by kernel_rfl) (by kernel_rfl) (fun _ _ _ h => h) (Or.inl ⟨by rfl, by intro w hSw; (try dsimp only at hSw); obtain ⟨z0, z1, z2, z3⟩ := hSw.d.cells; have za := hSw.m.mr.ca; unfold U.bv at za; go_simp⟩) hH0 ?_
  try simp only [Act.put, List.setIfInBounds_toArray, List.set_cons_zero, List.set_cons_succ]
  refine wpAnyH_take (i := 3) (oi := ⟨some 23, _, _, _, _, _⟩) (v := .pointer (some ⟨w.heap.size, 3, none⟩)) rfl (by kernel_rfl) (by kernel_rfl) (by kernel_rfl) (fun _ _ _ h => h) (Or.inl ⟨by rfl, by intro w hSw; (try dsimp only at hSw); obtain ⟨z0, z1, z2, z3⟩ := hSw.d.cells; have za := hSw.m.mr.ca; unfold U.bv at za; go_simp⟩) hH0 ?_
  try simp only [Act.put, List.setIfInBounds_toArray, List.set_cons_zero, List.set_cons_succ]
  refine wpAnyH_take (i := 4) (oi := ⟨some 24, _, _, _, _, _⟩) (v := .int .i64 n) rfl (by kernel_rfl) (by kernel_rfl) (by kernel_rfl) (fun _ _ _ h => h) (Or.inl ⟨by rfl, by intro w hSw; (try dsimp only at hSw); obtain ⟨z0, z1, z2, z3⟩ := hSw.d.cells; have za := hSw.m.mr.ca; unfold U.bv at za; go_simp⟩) hH0 ?_
  try simp only [Act.put, List.setIfInBounds_toArray, List.set_cons_zero, List.set_cons_succ]
  refine wpAnyH_take (i := 6) (oi := ⟨some 26, _, _, _, _, _⟩) (v := .agg L1.toArray) rfl (by kernel_rfl) (by kernel_rfl) (by kernel_rfl) (fun _ _ _ h => h) (yieldsIf_load_mid (by rfl) 30 (.tmp 5) rfl g 0 rfl L1 _ (fun w hSw => HRG.out _ hSw) Try.underlying30 rfl hszl.out) hH0 ?_
  try simp only [Act.put, List.setIfInBounds_toArray, List.set_cons_zero, List.set_cons_succ]
  refine wpAnyH_take (i := 7) (oi := ⟨some 27, _, _, _, _, _⟩) (v := .pointer (some ⟨w.heap.size, 1, none⟩)) rfl (by kernel_rfl) (by kernel_rfl) (by kernel_rfl) (fun _ _ _ h => h) (Or.inl ⟨by rfl, by intro w hSw; (try dsimp only at hSw); obtain ⟨z0, z1, z2, z3⟩ := hSw.d.cells; have za := hSw.m.mr.ca; unfold U.bv at za; go_simp⟩) hH0 ?_
  try simp only [Act.put, List.setIfInBounds_toArray, List.set_cons_zero, List.set_cons_succ]
  refine wpAnyH_take (i := 8) (oi := ⟨some 28, _, _, _, _, _⟩) (v := .int .i64 d) rfl (by kernel_rfl) (by kernel_rfl) (by kernel_rfl) (fun _ _ _ h => h) (Or.inl ⟨by rfl, by intro w hSw; (try dsimp only at hSw); obtain ⟨z0, z1, z2, z3⟩ := hSw.d.cells; have za := hSw.m.mr.ca; unfold U.bv at za; go_simp⟩) hH0 ?_
  try simp only [Act.put, List.setIfInBounds_toArray, List.set_cons_zero, List.set_cons_succ]
  refine wpAnyH_take (i := 9) (oi := ⟨some 29, _, _, _, _, _⟩) (v := .pointer (some ⟨w.heap.size, 3, none⟩)) rfl (by kernel_rfl) (by kernel_rfl) (by kernel_rfl) (fun _ _ _ h => h) (Or.inl ⟨by rfl, by intro w hSw; (try dsimp only at hSw); obtain ⟨z0, z1, z2, z3⟩ := hSw.d.cells; have za := hSw.m.mr.ca; unfold U.bv at za; go_simp⟩) hH0 ?_
  try simp only [Act.put, List.setIfInBounds_toArray, List.set_cons_zero, List.set_cons_succ]
  refine wpAnyH_take (i := 10) (oi := ⟨some 30, _, _, _, _, _⟩) (v := .int .i64 n) rfl (by kernel_rfl) (by kernel_rfl) (by kernel_rfl) (fun _ _ _ h => h) (Or.inl ⟨by rfl, by intro w hSw; (try dsimp only at hSw); obtain ⟨z0, z1, z2, z3⟩ := hSw.d.cells; have za := hSw.m.mr.ca; unfold U.bv at za; go_simp⟩) hH0 ?_
  try simp only [Act.put, List.setIfInBounds_toArray, List.set_cons_zero, List.set_cons_succ]
  refine wpAnyH_ready (rs := [5]) (by kernel_rfl) (by simp) (AllReadyH.cons rfl (fun K hK => ?_) AllReadyH.nil)
  go_simp
  refine (HAs.out _ hH0).mono ?_
  rintro e W7 ⟨rfl, H7⟩
  refine hK.out _ _ H7.out (fun hH1 => ?_)
  clear hK K
  try simp only [Act.put, List.setIfInBounds_toArray, List.set_cons_zero, List.set_cons_succ]
  refine wpAnyH_ready (rs := [11]) (by kernel_rfl) (by simp) (AllReadyH.cons rfl (fun K hK => ?_) AllReadyH.nil)
  go_simp
  refine (HAd.out _ hH1).mono ?_
  rintro e W8 ⟨rfl, H8⟩
  refine hK.out _ _ H8.out (fun hH2 => ?_)
  clear hK K
  try simp only [Act.put, List.setIfInBounds_toArray, List.set_cons_zero, List.set_cons_succ]
  refine wpAnyH_take (i := 12) (oi := ⟨some 6, _, _, _, _, _⟩) (v := .int .u32 zs) rfl (by kernel_rfl) (by kernel_rfl) (by kernel_rfl) (fun _ _ _ h => h) (Or.inl ⟨by rfl, by intro w hSw; (try dsimp only at hSw); obtain ⟨z0, z1, z2, z3⟩ := hSw.d.cells; have za := hSw.m.mr.ca; unfold U.bv at za; go_simp⟩) hH2 ?_
  try simp only [Act.put, List.setIfInBounds_toArray, List.set_cons_zero, List.set_cons_succ]
  refine wpAnyH_take (i := 13) (oi := ⟨some 7, _, _, _, _, _⟩) (v := .int .u32 zd) rfl (by kernel_rfl) (by kernel_rfl) (by kernel_rfl) (fun _ _ _ h => h) (Or.inl ⟨by rfl, by intro w hSw; (try dsimp only at hSw); obtain ⟨z0, z1, z2, z3⟩ := hSw.d.cells; have za := hSw.m.mr.ca; unfold U.bv at za; go_simp⟩) hH2 ?_
  try simp only [Act.put, List.setIfInBounds_toArray, List.set_cons_zero, List.set_cons_succ]
  refine wpAnyH_done (by kernel_rfl) ?_ _
  clear HRG HAs HAd H6 H7 hH0 hH1 hH2
  obtain ⟨c0, c1, c2, c3⟩ := H8.out.d.cells
  replace ho1 := ho1.out
  subst ho1
  obtain ⟨j, hj, rfl⟩ : ∃ j : Nat, j < 256 ∧ n = (j : Int) := by
    have h := hi.2.2.2
    have e : rN 23 s = 255 := rfl
    unfold inn at h
    rw [e] at h
    exact ⟨n.toNat, by omega, by omega⟩
  have hjz : (j : Int) < 256 := by omega
  have ca := H8.out.m.mr.ca
  have cr := H8.out.m.mr.cr j hj
  unfold U.bv at ca cr
  have f9 := H8.out.m.mr.free (5 + j)
  have H10 := hid (H8.out.set (5 + j) (U.bv x.a) { x with r := upR x.r j x.a } (ms_r _ _ _ j hj x.a) rfl rfl)
  unfold U.bv at H10
  go_upto_region 33 with fail
  change Code.wp _ _ _ _ (W8.setCell ⟨g, 5 + j, none⟩ (.int .u32 (x.a.toNat : Nat)))
  generalize W8.setCell ⟨g, 5 + j, none⟩ (.int .u32 (x.a.toNat : Nat)) = W10 at *
  clear f9 ca cr H8
  obtain ⟨L5, hL5⟩ : ∃ L5, mcL { x with r := upR x.r j x.a } (.slice (some ⟨hb, 0, none⟩) nH dH) (.slice (some ⟨mb, 0, none⟩) nM dM) = L5 := ⟨_, rfl⟩
  have T := hid (H10.out.fin L5 hL5)
  replace hL5 := hid hL5
  go_wp2_with (first
    | (refine wpList_load_row rfl 30 (.tmp 5) rfl g rfl 30 L5.toArray (0, 0) _ T.out.1 Try.underlying30 rfl T.out.2.1 ?_)
    | (refine wpList_store_row (o := ⟨none, .store 30 (.tmp 4) (.tmp 171), _, _, _, _⟩) rfl 30 (.tmp 4) (.tmp 171) rfl (w.heap.size + 1 + 1) L5.toArray rfl rfl 30 zL.toArray T.out.2.2.1 T.out.2.1 T.out.2.2.2.1 T.out.2.2.2.2.1 ?_))
  refine bodyPost_ret (results_cell_row (by kernel_rfl : Try.f12.results = #[.cell 4 30]) _ _ (w.heap.size + 1 + 1) 30 L5.toArray (0, 0) _ rfl T.out.2.2.2.2.2.1 Try.underlying30 rfl T.out.2.1) rfl ?_
  rw [HE.out, if_pos ⟨by omega, hi, hk⟩]
  exact T.out.2.2.2.2.2.2
end Go.Proofs.Ytaogileaeflnfaa
/-
  The document's Do, some of its classes (written by tools/stage17/gen_vdg.py).
-/
set_option linter.unusedVariables false
set_option linter.unusedSimpArgs false
namespace Go.Proofs.Ytaogileaeflnfaa
open Go.RowKit

set_option maxRecDepth 10000 in
set_option maxHeartbeats 32000000 in
theorem rdo_20 (w : World) (x : Mn) (o d s n : Int) (ho : 0 ≤ o) (AH AM : Option Addr) (nH cH nM cM : Nat) (h : U.IsBB w w.heap.size AH nH cH x.h) (hm : IsBB w w.heap.size AM nM cM x.m) (h1 : nH ≤ 5000) (h2 : nM ≤ 5000) (hk : x.ok) (hi : okI o d s n) (ho1 : o = 20) :
    Calls Try.prog 12 #[vI o d s n, vM x (.slice AH nH cH) (.slice AM nM cM)] w (DoPost w (doneM o d s n x) nH nM) := by
  replace ho1 := hid ho1
  have zv := zero30
  have zl : zL.length = 263 := mc_len _ _ _
  have H0 := hid (Do3.start w (mcL x (.slice AH nH cH) (.slice AM nM cM)) o d s n)
  have HCM := hid (fun W (hw : Do3 w W (mcL x (.slice AH nH cH) (.slice AM nM cM)) o d s n) => CopyMachine_any W x AH AM nH cH nM cM (h.on hw.two.bel) (hm.on hw.two.bel) (by omega) (by omega))
  have HR := hid (RefRight_any o d s n ho)
  have HE : Hid (doneM o d s n x = if (1 ≤ o ∧ o ≤ 25) ∧ okI o d s n ∧ x.ok then doM o d s n x else x) := rfl
  have HZ := hid (mc_size x (.slice AH nH cH) (.slice AM nM cM))
  clear h hm
  unfold vM at HCM ⊢
  unfold vI at HR ⊢
  generalize hL : mcL x (.slice AH nH cH) (.slice AM nM cM) = L at *
  replace hL := hid hL
  have hsz := hid (size30 L.toArray HZ.out)
  go_enter Try.func12, Try.ntmps12
  go_upto_region 1 with fail
  have HS0 : Hid ((((w.alloc (.cells #[.int .u8 o, .int .i64 d, .int .i64 s, .int .i64 n] 24)).alloc (.cells L.toArray 30)).alloc (.cells zL.toArray 30)).heap.size = w.heap.size + 3) := hid (by simp)
  generalize (((w.alloc _).alloc (.cells L.toArray 30)).alloc (.cells zL.toArray 30)) = W0 at *
  have HA0 := hid (HCM.out W0 H0.out)
  go_upto_region 2 with (first
    | (refine wpList_load_row rfl 30 (.tmp 3) rfl (w.heap.size + 1) rfl 30 L.toArray (0, 0) _ H0.out.two.one Try.underlying30 rfl hsz.out ?_)
    | (go_at_call 7; refine HA0.out.mono ?_; rintro r W1 ⟨BH, dH, BM, dM, rfl, o1, o2, b1⟩; have O1 := hid o1; have O2 := hid o2; have B1 := hid b1; clear o1 o2 b1; obtain ⟨L1, hL1⟩ : ∃ L1, mcL x (.slice BH nH dH) (.slice BM nM dM) = L1 := ⟨_, rfl⟩; have E1 := hid (show (Try.prog.info? 30).map (·.size) = some L1.toArray.size ∧ zL.toArray.size = L1.toArray.size ∧ L1.toArray.all (·.oneCell') = true by rw [← hL1]; exact ⟨size30 _ (mc_size _ _ _), by rw [mc_size]; exact mc_size _ _ _, mc_one _ _ _ _ _ _ _⟩); rw [hL1]; replace hL1 := hid hL1)
    | (refine wpList_store_row (o := ⟨none, .store 30 (.tmp 5) (.tmp 10), _, _, _, _⟩) rfl 30 (.tmp 5) (.tmp 10) rfl W1.heap.size L1.toArray rfl rfl 30 zL.toArray (heap_alloc_new W1 _) E1.out.1 E1.out.2.1 E1.out.2.2 ?_))
  change Code.wp _ _ _ _ (Stw W1 L1)
  have H2 := hid (RDo.start H0.out HS0.out B1.out L1)
  have O3 : Hid ((Stw W1 L1).ownsRow (w.heap.size + 3) 25 1 (.slice BH nH dH) nH (x.h.map U.bv)) := hid (by have := own_below O1.out (Stw.bel W1 L1); rw [HS0.out] at this; exact this)
  have O4 : Hid ((Stw W1 L1).ownsRow (w.heap.size + 3) 5 1 (.slice BM nM dM) nM (x.m.map bv)) := hid (by have := own_below O2.out (Stw.bel W1 L1); rw [HS0.out] at this; exact this)
  clear O1 O2 B1 HA0 HCM H0 HS0 hL hsz HZ
  generalize Stw W1 L1 = W2 at *
  generalize W1.heap.size = g at *
  have HM := hid (rd_right H2.out O3.out O4.out h1 h2)
  unfold vM at HM
  rw [hL1.out] at HM
  obtain ⟨c0, c1, c2, c3⟩ := H2.out.cells
  rw [decide_eq_true hk] at HM
  rw [show rightE o d s n = 0 from if_pos hi] at HR
  go_upto_region 4 with (first
    | (refine BigFrame.wpList_want (o := ⟨some 11, .load 30 (.tmp 5), _, _, _, _⟩) (by rfl) (fun _ hK => wp_load_row 30 (.tmp 5) rfl g rfl 30 L1.toArray (0, 0) _ H2.out.row Try.underlying30 rfl E1.out.1 (hK _ _ ?_)))
    | (go_at_call 27; refine HM.out.mono ?_; rintro r W3 ⟨rfl, H3, P1, P2⟩; obtain ⟨c0, c1, c2, c3⟩ := H3.out.cells)
    | (go_at_call 28; refine (HR.out _).mono ?_; rintro r W4 ⟨rfl, b4⟩; have B4 := hid b4; clear b4))
  have hrm := rm_of (x := x) (by have := H3.out.below B4.out; rw [← hL1.out] at this; exact this) (own_below P1.out B4.out) (own_below P2.out B4.out) hk h1 h2
  obtain ⟨hb, mb, rfl, rfl, hrm⟩ := hrm
  have H6 := hid hrm
  clear hrm HM HR H2 O3 O4 H3 P1 P2 B4
  have HRG := hid (fun W (H : RM w W g hb mb nH dH nM dM x o d s n) => H.range L1 hL1.out)
  have hszl := hid (show (Try.prog.info? 30).map (·.size) = some L1.length by rw [← hL1.out]; exact size30 _ (mc_size _ _ _))
  obtain ⟨zs, hzs⟩ : ∃ z : Int, ((atM x s n).toNat : Int) = z := ⟨_, rfl⟩
  obtain ⟨zd, hzd⟩ : ∃ z : Int, ((atM x d n).toNat : Int) = z := ⟨_, rfl⟩
  have HAT := hid (fun W (H : RM w W g hb mb nH dH nM dM x o d s n) p q => H.at hk p q)
  unfold vM at HAT
  rw [hL1.out] at HAT
  have HAs : Hid (∀ W, RM w W g hb mb nH dH nM dM x o d s n → Calls Try.prog 29 #[.agg L1.toArray, .int .i64 s, .int .i64 n] W fun e w' => e = .returned (.int .u32 zs) ∧ Hid (RM w w' g hb mb nH dH nM dM x o d s n)) := hid (by rw [← hzs]; exact fun W H => HAT.out W H s n)
  have HAd : Hid (∀ W, RM w W g hb mb nH dH nM dM x o d s n → Calls Try.prog 29 #[.agg L1.toArray, .int .i64 d, .int .i64 n] W fun e w' => e = .returned (.int .u32 zd) ∧ Hid (RM w w' g hb mb nH dH nM dM x o d s n)) := hid (by rw [← hzd]; exact fun W H => HAT.out W H d n)
  replace hzs := hid hzs
  replace hzd := hid hzd
  refine wp_region_held_drew (S := (fun w' => RM w w' g hb mb nH dH nM dM x o d s n)) (by kernel_rfl) H6.out.drew (fun hH0 => ?_)
  refine wpAnyH_take (i := 0) (oi := ⟨some 20, _, _, _, _, _⟩) (v := .agg L1.toArray) rfl (by kernel_rfl) (by kernel_rfl) (by kernel_rfl) (fun _ _ _ h => h) (yieldsIf_load_mid (by rfl) 30 (.tmp 5) rfl g 0 rfl L1 _ (fun w hSw => HRG.out _ hSw) Try.underlying30 rfl hszl.out) hH0 ?_
  try simp only [Act.put, List.setIfInBounds_toArray, List.set_cons_zero, List.set_cons_succ]
  refine wpAnyH_take (i := 1) (oi := ⟨some 21, _, _, _, _, _⟩) (v := .pointer (some ⟨w.heap.size, 2, none⟩)) rfl (by kernel_rfl) (by kernel_rfl) (by kernel_rfl) (fun _ _ _ h => h) (Or.inl ⟨by rfl, by intro w hSw; (try dsimp only at hSw); obtain ⟨z0, z1, z2, z3⟩ := hSw.d.cells; have za := hSw.m.mr.ca; unfold U.bv at za; go_simp⟩) hH0 ?_
  try simp only [Act.put, List.setIfInBounds_toArray, List.set_cons_zero, List.set_cons_succ]
  refine wpAnyH_take (i := 2) (oi := ⟨some 22, _, _, _, _, _⟩) (v := .int .i64 s) rfl (by kernel_rfl) (by kernel_rfl) (by kernel_rfl) (fun _ _ _ h => h) (Or.inl ⟨by rfl, by intro w hSw; (try dsimp only at hSw); obtain ⟨z0, z1, z2, z3⟩ := hSw.d.cells; have za := hSw.m.mr.ca; unfold U.bv at za; go_simp⟩) hH0 ?_
  try simp only [Act.put, List.setIfInBounds_toArray, List.set_cons_zero, List.set_cons_succ]
  refine wpAnyH_take (i := 3) (oi := ⟨some 23, _, _, _, _, _⟩) (v := .pointer (some ⟨w.heap.size, 3, none⟩)) rfl (by kernel_rfl) (by kernel_rfl) (by kernel_rfl) (fun _ _ _ h => h) (Or.inl ⟨by rfl, by intro w hSw; (try dsimp only at hSw); obtain ⟨z0, z1, z2, z3⟩ := hSw.d.cells; have za := hSw.m.mr.ca; unfold U.bv at za; go_simp⟩) hH0 ?_
  try simp only [Act.put, List.setIfInBounds_toArray, List.set_cons_zero, List.set_cons_succ]
  refine wpAnyH_take (i := 4) (oi := ⟨some 24, _, _, _, _, _⟩) (v := .int .i64 n) rfl (by kernel_rfl) (by kernel_rfl) (by kernel_rfl) (fun _ _ _ h => h) (Or.inl ⟨by rfl, by intro w hSw; (try dsimp only at hSw); obtain ⟨z0, z1, z2, z3⟩ := hSw.d.cells; have za := hSw.m.mr.ca; unfold U.bv at za; go_simp⟩) hH0 ?_
  try simp only [Act.put, List.setIfInBounds_toArray, List.set_cons_zero, List.set_cons_succ]
  refine wpAnyH_take (i := 6) (oi := ⟨some 26, _, _, _, _, _⟩) (v := .agg L1.toArray) rfl (by kernel_rfl) (by kernel_rfl) (by kernel_rfl) (fun _ _ _ h => h) (yieldsIf_load_mid (by rfl) 30 (.tmp 5) rfl g 0 rfl L1 _ (fun w hSw => HRG.out _ hSw) Try.underlying30 rfl hszl.out) hH0 ?_
  try simp only [Act.put, List.setIfInBounds_toArray, List.set_cons_zero, List.set_cons_succ]
  refine wpAnyH_take (i := 7) (oi := ⟨some 27, _, _, _, _, _⟩) (v := .pointer (some ⟨w.heap.size, 1, none⟩)) rfl (by kernel_rfl) (by kernel_rfl) (by kernel_rfl) (fun _ _ _ h => h) (Or.inl ⟨by rfl, by intro w hSw; (try dsimp only at hSw); obtain ⟨z0, z1, z2, z3⟩ := hSw.d.cells; have za := hSw.m.mr.ca; unfold U.bv at za; go_simp⟩) hH0 ?_
  try simp only [Act.put, List.setIfInBounds_toArray, List.set_cons_zero, List.set_cons_succ]
  refine wpAnyH_take (i := 8) (oi := ⟨some 28, _, _, _, _, _⟩) (v := .int .i64 d) rfl (by kernel_rfl) (by kernel_rfl) (by kernel_rfl) (fun _ _ _ h => h) (Or.inl ⟨by rfl, by intro w hSw; (try dsimp only at hSw); obtain ⟨z0, z1, z2, z3⟩ := hSw.d.cells; have za := hSw.m.mr.ca; unfold U.bv at za; go_simp⟩) hH0 ?_
  try simp only [Act.put, List.setIfInBounds_toArray, List.set_cons_zero, List.set_cons_succ]
  refine wpAnyH_take (i := 9) (oi := ⟨some 29, _, _, _, _, _⟩) (v := .pointer (some ⟨w.heap.size, 3, none⟩)) rfl (by kernel_rfl) (by kernel_rfl) (by kernel_rfl) (fun _ _ _ h => h) (Or.inl ⟨by rfl, by intro w hSw; (try dsimp only at hSw); obtain ⟨z0, z1, z2, z3⟩ := hSw.d.cells; have za := hSw.m.mr.ca; unfold U.bv at za; go_simp⟩) hH0 ?_
  try simp only [Act.put, List.setIfInBounds_toArray, List.set_cons_zero, List.set_cons_succ]
  refine wpAnyH_take (i := 10) (oi := ⟨some 30, _, _, _, _, _⟩) (v := .int .i64 n) rfl (by kernel_rfl) (by kernel_rfl) (by kernel_rfl) (fun _ _ _ h => h) (Or.inl ⟨by rfl, by intro w hSw; (try dsimp only at hSw); obtain ⟨z0, z1, z2, z3⟩ := hSw.d.cells; have za := hSw.m.mr.ca; unfold U.bv at za; go_simp⟩) hH0 ?_
  try simp only [Act.put, List.setIfInBounds_toArray, List.set_cons_zero, List.set_cons_succ]
  refine wpAnyH_ready (rs := [5]) (by kernel_rfl) (by simp) (AllReadyH.cons rfl (fun K hK => ?_) AllReadyH.nil)
  go_simp
  refine (HAs.out _ hH0).mono ?_
  rintro e W7 ⟨rfl, H7⟩
  refine hK.out _ _ H7.out (fun hH1 => ?_)
  clear hK K
  try simp only [Act.put, List.setIfInBounds_toArray, List.set_cons_zero, List.set_cons_succ]
  refine wpAnyH_ready (rs := [11]) (by kernel_rfl) (by simp) (AllReadyH.cons rfl (fun K hK => ?_) AllReadyH.nil)
  go_simp
  refine (HAd.out _ hH1).mono ?_
  rintro e W8 ⟨rfl, H8⟩
  refine hK.out _ _ H8.out (fun hH2 => ?_)
  clear hK K
  try simp only [Act.put, List.setIfInBounds_toArray, List.set_cons_zero, List.set_cons_succ]
  refine wpAnyH_take (i := 12) (oi := ⟨some 6, _, _, _, _, _⟩) (v := .int .u32 zs) rfl (by kernel_rfl) (by kernel_rfl) (by kernel_rfl) (fun _ _ _ h => h) (Or.inl ⟨by rfl, by intro w hSw; (try dsimp only at hSw); obtain ⟨z0, z1, z2, z3⟩ := hSw.d.cells; have za := hSw.m.mr.ca; unfold U.bv at za; go_simp⟩) hH2 ?_
  try simp only [Act.put, List.setIfInBounds_toArray, List.set_cons_zero, List.set_cons_succ]
  refine wpAnyH_take (i := 13) (oi := ⟨some 7, _, _, _, _, _⟩) (v := .int .u32 zd) rfl (by kernel_rfl) (by kernel_rfl) (by kernel_rfl) (fun _ _ _ h => h) (Or.inl ⟨by rfl, by intro w hSw; (try dsimp only at hSw); obtain ⟨z0, z1, z2, z3⟩ := hSw.d.cells; have za := hSw.m.mr.ca; unfold U.bv at za; go_simp⟩) hH2 ?_
  try simp only [Act.put, List.setIfInBounds_toArray, List.set_cons_zero, List.set_cons_succ]
  refine wpAnyH_done (by kernel_rfl) ?_ _
  clear HRG HAs HAd H6 H7 hH0 hH1 hH2
  obtain ⟨c0, c1, c2, c3⟩ := H8.out.d.cells
  replace ho1 := ho1.out
  subst ho1
  have f9 := H8.out.m.mr.free 4
  have HH := hid (H8.out.holds ho h1 h2)
  unfold vM vI at HH
  rw [hL1.out] at HH
  have HQ : Hid (holdsM 20 d s n x = decide (x.a < atM x s n)) := hid (by unfold holdsM; rw [if_pos ⟨by omega, hi, hk⟩]; rfl)
  rw [HQ.out] at HH
  clear HQ
  generalize hq : decide (x.a < atM x s n) = q at HH
  replace hq := hid hq
  have HRW := hid H8.out.d.row
  rw [hL1.out] at HRW
  have hszt := hid (show (Try.prog.info? 30).map (·.size) = some L1.toArray.size by rw [List.size_toArray]; exact hszl.out)
  go_upto_region 24 with fail
  go_upto_region 33 with (first
    | (refine wpList_load_row rfl 30 (.tmp 5) rfl g rfl 30 L1.toArray (0, 0) _ HRW.out Try.underlying30 rfl hszt.out ?_)
    | (go_at_call 14; refine HH.out.mono ?_; rintro r W9 ⟨rfl, H9⟩; have f9 := H9.out.m.mr.free 4; have c9 := H9.out.m.mr.cf))
  have H10 := hid (H9.out.set 4 (.bool q) { x with f := q } (ms_4 _ _ _ _) rfl rfl)
  change Code.wp _ _ _ _ (W9.setCell ⟨g, 4, none⟩ (.bool q))
  generalize W9.setCell ⟨g, 4, none⟩ (.bool q) = W10 at *
  clear f9 c9 H9 H8
  obtain ⟨L5, hL5⟩ : ∃ L5, mcL { x with f := q } (.slice (some ⟨hb, 0, none⟩) nH dH) (.slice (some ⟨mb, 0, none⟩) nM dM) = L5 := ⟨_, rfl⟩
  have T := hid (H10.out.fin L5 hL5)
  replace hL5 := hid hL5
  go_wp2_with (first
    | (refine wpList_load_row rfl 30 (.tmp 5) rfl g rfl 30 L5.toArray (0, 0) _ T.out.1 Try.underlying30 rfl T.out.2.1 ?_)
    | (refine wpList_store_row (o := ⟨none, .store 30 (.tmp 4) (.tmp 171), _, _, _, _⟩) rfl 30 (.tmp 4) (.tmp 171) rfl (w.heap.size + 1 + 1) L5.toArray rfl rfl 30 zL.toArray T.out.2.2.1 T.out.2.1 T.out.2.2.2.1 T.out.2.2.2.2.1 ?_))
  refine bodyPost_ret (results_cell_row (by kernel_rfl : Try.f12.results = #[.cell 4 30]) _ _ (w.heap.size + 1 + 1) 30 L5.toArray (0, 0) _ rfl T.out.2.2.2.2.2.1 Try.underlying30 rfl T.out.2.1) rfl ?_
  rw [HE.out, if_pos ⟨by omega, hi, hk⟩]
  rw [show doM 20 d s n x = { x with f := q } from by rw [← hq.out]; rfl]
  exact T.out.2.2.2.2.2.2
end Go.Proofs.Ytaogileaeflnfaa
/-
  The document's Do, some of its classes (written by tools/stage17/gen_vdg.py).
-/
set_option linter.unusedVariables false
set_option linter.unusedSimpArgs false
namespace Go.Proofs.Ytaogileaeflnfaa
open Go.RowKit

set_option maxRecDepth 10000 in
set_option maxHeartbeats 32000000 in
theorem rdo_21 (w : World) (x : Mn) (o d s n : Int) (ho : 0 ≤ o) (AH AM : Option Addr) (nH cH nM cM : Nat) (h : U.IsBB w w.heap.size AH nH cH x.h) (hm : IsBB w w.heap.size AM nM cM x.m) (h1 : nH ≤ 5000) (h2 : nM ≤ 5000) (hk : x.ok) (hi : okI o d s n) (ho1 : o = 21) :
    Calls Try.prog 12 #[vI o d s n, vM x (.slice AH nH cH) (.slice AM nM cM)] w (DoPost w (doneM o d s n x) nH nM) := by
  replace ho1 := hid ho1
  have zv := zero30
  have zl : zL.length = 263 := mc_len _ _ _
  have H0 := hid (Do3.start w (mcL x (.slice AH nH cH) (.slice AM nM cM)) o d s n)
  have HCM := hid (fun W (hw : Do3 w W (mcL x (.slice AH nH cH) (.slice AM nM cM)) o d s n) => CopyMachine_any W x AH AM nH cH nM cM (h.on hw.two.bel) (hm.on hw.two.bel) (by omega) (by omega))
  have HR := hid (RefRight_any o d s n ho)
  have HE : Hid (doneM o d s n x = if (1 ≤ o ∧ o ≤ 25) ∧ okI o d s n ∧ x.ok then doM o d s n x else x) := rfl
  have HZ := hid (mc_size x (.slice AH nH cH) (.slice AM nM cM))
  clear h hm
  unfold vM at HCM ⊢
  unfold vI at HR ⊢
  generalize hL : mcL x (.slice AH nH cH) (.slice AM nM cM) = L at *
  replace hL := hid hL
  have hsz := hid (size30 L.toArray HZ.out)
  go_enter Try.func12, Try.ntmps12
  go_upto_region 1 with fail
  have HS0 : Hid ((((w.alloc (.cells #[.int .u8 o, .int .i64 d, .int .i64 s, .int .i64 n] 24)).alloc (.cells L.toArray 30)).alloc (.cells zL.toArray 30)).heap.size = w.heap.size + 3) := hid (by simp)
  generalize (((w.alloc _).alloc (.cells L.toArray 30)).alloc (.cells zL.toArray 30)) = W0 at *
  have HA0 := hid (HCM.out W0 H0.out)
  go_upto_region 2 with (first
    | (refine wpList_load_row rfl 30 (.tmp 3) rfl (w.heap.size + 1) rfl 30 L.toArray (0, 0) _ H0.out.two.one Try.underlying30 rfl hsz.out ?_)
    | (go_at_call 7; refine HA0.out.mono ?_; rintro r W1 ⟨BH, dH, BM, dM, rfl, o1, o2, b1⟩; have O1 := hid o1; have O2 := hid o2; have B1 := hid b1; clear o1 o2 b1; obtain ⟨L1, hL1⟩ : ∃ L1, mcL x (.slice BH nH dH) (.slice BM nM dM) = L1 := ⟨_, rfl⟩; have E1 := hid (show (Try.prog.info? 30).map (·.size) = some L1.toArray.size ∧ zL.toArray.size = L1.toArray.size ∧ L1.toArray.all (·.oneCell') = true by rw [← hL1]; exact ⟨size30 _ (mc_size _ _ _), by rw [mc_size]; exact mc_size _ _ _, mc_one _ _ _ _ _ _ _⟩); rw [hL1]; replace hL1 := hid hL1)
    | (refine wpList_store_row (o := ⟨none, .store 30 (.tmp 5) (.tmp 10), _, _, _, _⟩) rfl 30 (.tmp 5) (.tmp 10) rfl W1.heap.size L1.toArray rfl rfl 30 zL.toArray (heap_alloc_new W1 _) E1.out.1 E1.out.2.1 E1.out.2.2 ?_))
  change Code.wp _ _ _ _ (Stw W1 L1)
  have H2 := hid (RDo.start H0.out HS0.out B1.out L1)
  have O3 : Hid ((Stw W1 L1).ownsRow (w.heap.size + 3) 25 1 (.slice BH nH dH) nH (x.h.map U.bv)) := hid (by have := own_below O1.out (Stw.bel W1 L1); rw [HS0.out] at this; exact this)
  have O4 : Hid ((Stw W1 L1).ownsRow (w.heap.size + 3) 5 1 (.slice BM nM dM) nM (x.m.map bv)) := hid (by have := own_below O2.out (Stw.bel W1 L1); rw [HS0.out] at this; exact this)
  clear O1 O2 B1 HA0 HCM H0 HS0 hL hsz HZ
  generalize Stw W1 L1 = W2 at *
  generalize W1.heap.size = g at *
  have HM := hid (rd_right H2.out O3.out O4.out h1 h2)
  unfold vM at HM
  rw [hL1.out] at HM
  obtain ⟨c0, c1, c2, c3⟩ := H2.out.cells
  rw [decide_eq_true hk] at HM
  rw [show rightE o d s n = 0 from if_pos hi] at HR
  go_upto_region 4 with (first
    | (refine BigFrame.wpList_want (o := ⟨some 11, .load 30 (.tmp 5), _, _, _, _⟩) (by rfl) (fun _ hK => wp_load_row 30 (.tmp 5) rfl g rfl 30 L1.toArray (0, 0) _ H2.out.row Try.underlying30 rfl E1.out.1 (hK _ _ ?_)))
    | (go_at_call 27; refine HM.out.mono ?_; rintro r W3 ⟨rfl, H3, P1, P2⟩; obtain ⟨c0, c1, c2, c3⟩ := H3.out.cells)
    | (go_at_call 28; refine (HR.out _).mono ?_; rintro r W4 ⟨rfl, b4⟩; have B4 := hid b4; clear b4))
  have hrm := rm_of (x := x) (by have := H3.out.below B4.out; rw [← hL1.out] at this; exact this) (own_below P1.out B4.out) (own_below P2.out B4.out) hk h1 h2
  obtain ⟨hb, mb, rfl, rfl, hrm⟩ := hrm
  have H6 := hid hrm
  clear hrm HM HR H2 O3 O4 H3 P1 P2 B4
  have HRG := hid (fun W (H : RM w W g hb mb nH dH nM dM x o d s n) => H.range L1 hL1.out)
  have hszl := hid (show (Try.prog.info? 30).map (·.size) = some L1.length by rw [← hL1.out]; exact size30 _ (mc_size _ _ _))
  obtain ⟨zs, hzs⟩ : ∃ z : Int, ((atM x s n).toNat : Int) = z := ⟨_, rfl⟩
  obtain ⟨zd, hzd⟩ : ∃ z : Int, ((atM x d n).toNat : Int) = z := ⟨_, rfl⟩
  have HAT := hid (fun W (H : RM w W g hb mb nH dH nM dM x o d s n) p q => H.at hk p q)
  unfold vM at HAT
  rw [hL1.out] at HAT
  have HAs : Hid (∀ W, RM w W g hb mb nH dH nM dM x o d s n → Calls Try.prog 29 #[.agg L1.toArray, .int .i64 s, .int .i64 n] W fun e w' => e = .returned (.int .u32 zs) ∧ Hid (RM w w' g hb mb nH dH nM dM x o d s n)) := hid (by rw [← hzs]; exact fun W H => HAT.out W H s n)
  have HAd : Hid (∀ W, RM w W g hb mb nH dH nM dM x o d s n → Calls Try.prog 29 #[.agg L1.toArray, .int .i64 d, .int .i64 n] W fun e w' => e = .returned (.int .u32 zd) ∧ Hid (RM w w' g hb mb nH dH nM dM x o d s n)) := hid (by rw [← hzd]; exact fun W H => HAT.out W H d n)
  replace hzs := hid hzs
  replace hzd := hid hzd
  refine wp_region_held_drew (S := (fun w' => RM w w' g hb mb nH dH nM dM x o d s n)) (by kernel_rfl) H6.out.drew (fun hH0 => ?_)
  refine wpAnyH_take (i := 0) (oi := ⟨some 20, _, _, _, _, _⟩) (v := .agg L1.toArray) rfl (by kernel_rfl) (by kernel_rfl) (by kernel_rfl) (fun _ _ _ h => h) (yieldsIf_load_mid (by rfl) 30 (.tmp 5) rfl g 0 rfl L1 _ (fun w hSw => HRG.out _ hSw) Try.underlying30 rfl hszl.out) hH0 ?_
  try simp only [Act.put, List.setIfInBounds_toArray, List.set_cons_zero, List.set_cons_succ]
  refine wpAnyH_take (i := 1) (oi := ⟨some 21, _, _, _, _, _⟩) (v := .pointer (some ⟨w.heap.size, 2, none⟩)) rfl (by kernel_rfl) (by kernel_rfl) (by kernel_rfl) (fun _ _ _ h => h) (Or.inl ⟨by rfl, by intro w hSw; (try dsimp only at hSw); obtain ⟨z0, z1, z2, z3⟩ := hSw.d.cells; have za := hSw.m.mr.ca; unfold U.bv at za; go_simp⟩) hH0 ?_
  try simp only [Act.put, List.setIfInBounds_toArray, List.set_cons_zero, List.set_cons_succ]
  refine wpAnyH_take (i := 2) (oi := ⟨some 22, _, _, _, _, _⟩) (v := .int .i64 s) rfl (by kernel_rfl) (by kernel_rfl) (by kernel_rfl) (fun _ _ _ h => h) (Or.inl ⟨by rfl, by intro w hSw; (try dsimp only at hSw); obtain ⟨z0, z1, z2, z3⟩ := hSw.d.cells; have za := hSw.m.mr.ca; unfold U.bv at za; go_simp⟩) hH0 ?_
  try simp only [Act.put, List.setIfInBounds_toArray, List.set_cons_zero, List.set_cons_succ]
  refine wpAnyH_take (i := 3) (oi := ⟨some 23, _, _, _, _, _⟩) (v := .pointer (some ⟨w.heap.size, 3, none⟩)) rfl (by kernel_rfl) (by kernel_rfl) (by kernel_rfl) (fun _ _ _ h => h) (Or.inl ⟨by rfl, by intro w hSw; (try dsimp only at hSw); obtain ⟨z0, z1, z2, z3⟩ := hSw.d.cells; have za := hSw.m.mr.ca; unfold U.bv at za; go_simp⟩) hH0 ?_
  try simp only [Act.put, List.setIfInBounds_toArray, List.set_cons_zero, List.set_cons_succ]
  refine wpAnyH_take (i := 4) (oi := ⟨some 24, _, _, _, _, _⟩) (v := .int .i64 n) rfl (by kernel_rfl) (by kernel_rfl) (by kernel_rfl) (fun _ _ _ h => h) (Or.inl ⟨by rfl, by intro w hSw; (try dsimp only at hSw); obtain ⟨z0, z1, z2, z3⟩ := hSw.d.cells; have za := hSw.m.mr.ca; unfold U.bv at za; go_simp⟩) hH0 ?_
  try simp only [Act.put, List.setIfInBounds_toArray, List.set_cons_zero, List.set_cons_succ]
  refine wpAnyH_take (i := 6) (oi := ⟨some 26, _, _, _, _, _⟩) (v := .agg L1.toArray) rfl (by kernel_rfl) (by kernel_rfl) (by kernel_rfl) (fun _ _ _ h => h) (yieldsIf_load_mid (by rfl) 30 (.tmp 5) rfl g 0 rfl L1 _ (fun w hSw => HRG.out _ hSw) Try.underlying30 rfl hszl.out) hH0 ?_
  try simp only [Act.put, List.setIfInBounds_toArray, List.set_cons_zero, List.set_cons_succ]
  refine wpAnyH_take (i := 7) (oi := ⟨some 27, _, _, _, _, _⟩) (v := .pointer (some ⟨w.heap.size, 1, none⟩)) rfl (by kernel_rfl) (by kernel_rfl) (by kernel_rfl) (fun _ _ _ h => h) (Or.inl ⟨by rfl, by intro w hSw; (try dsimp only at hSw); obtain ⟨z0, z1, z2, z3⟩ := hSw.d.cells; have za := hSw.m.mr.ca; unfold U.bv at za; go_simp⟩) hH0 ?_
  try simp only [Act.put, List.setIfInBounds_toArray, List.set_cons_zero, List.set_cons_succ]
  refine wpAnyH_take (i := 8) (oi := ⟨some 28, _, _, _, _, _⟩) (v := .int .i64 d) rfl (by kernel_rfl) (by kernel_rfl) (by kernel_rfl) (fun _ _ _ h => h) (Or.inl ⟨by rfl, by intro w hSw; (try dsimp only at hSw); obtain ⟨z0, z1, z2, z3⟩ := hSw.d.cells; have za := hSw.m.mr.ca; unfold U.bv at za; go_simp⟩) hH0 ?_
  try simp only [Act.put, List.setIfInBounds_toArray, List.set_cons_zero, List.set_cons_succ]
  refine wpAnyH_take (i := 9) (oi := ⟨some 29, _, _, _, _, _⟩) (v := .pointer (some ⟨w.heap.size, 3, none⟩)) rfl (by kernel_rfl) (by kernel_rfl) (by kernel_rfl) (fun _ _ _ h => h) (Or.inl ⟨by rfl, by intro w hSw; (try dsimp only at hSw); obtain ⟨z0, z1, z2, z3⟩ := hSw.d.cells; have za := hSw.m.mr.ca; unfold U.bv at za; go_simp⟩) hH0 ?_
  try simp only [Act.put, List.setIfInBounds_toArray, List.set_cons_zero, List.set_cons_succ]
  refine wpAnyH_take (i := 10) (oi := ⟨some 30, _, _, _, _, _⟩) (v := .int .i64 n) rfl (by kernel_rfl) (by kernel_rfl) (by kernel_rfl) (fun _ _ _ h => h) (Or.inl ⟨by rfl, by intro w hSw; (try dsimp only at hSw); obtain ⟨z0, z1, z2, z3⟩ := hSw.d.cells; have za := hSw.m.mr.ca; unfold U.bv at za; go_simp⟩) hH0 ?_
  try simp only [Act.put, List.setIfInBounds_toArray, List.set_cons_zero, List.set_cons_succ]
  refine wpAnyH_ready (rs := [5]) (by kernel_rfl) (by simp) (AllReadyH.cons rfl (fun K hK => ?_) AllReadyH.nil)
  go_simp
  refine (HAs.out _ hH0).mono ?_
  rintro e W7 ⟨rfl, H7⟩
  refine hK.out _ _ H7.out (fun hH1 => ?_)
  clear hK K
  try simp only [Act.put, List.setIfInBounds_toArray, List.set_cons_zero, List.set_cons_succ]
  refine wpAnyH_ready (rs := [11]) (by kernel_rfl) (by simp) (AllReadyH.cons rfl (fun K hK => ?_) AllReadyH.nil)
  go_simp
  refine (HAd.out _ hH1).mono ?_
  rintro e W8 ⟨rfl, H8⟩
  refine hK.out _ _ H8.out (fun hH2 => ?_)
  clear hK K
  try simp only [Act.put, List.setIfInBounds_toArray, List.set_cons_zero, List.set_cons_succ]
  refine wpAnyH_take (i := 12) (oi := ⟨some 6, _, _, _, _, _⟩) (v := .int .u32 zs) rfl (by kernel_rfl) (by kernel_rfl) (by kernel_rfl) (fun _ _ _ h => h) (Or.inl ⟨by rfl, by intro w hSw; (try dsimp only at hSw); obtain ⟨z0, z1, z2, z3⟩ := hSw.d.cells; have za := hSw.m.mr.ca; unfold U.bv at za; go_simp⟩) hH2 ?_
  try simp only [Act.put, List.setIfInBounds_toArray, List.set_cons_zero, List.set_cons_succ]
  refine wpAnyH_take (i := 13) (oi := ⟨some 7, _, _, _, _, _⟩) (v := .int .u32 zd) rfl (by kernel_rfl) (by kernel_rfl) (by kernel_rfl) (fun _ _ _ h => h) (Or.inl ⟨by rfl, by intro w hSw; (try dsimp only at hSw); obtain ⟨z0, z1, z2, z3⟩ := hSw.d.cells; have za := hSw.m.mr.ca; unfold U.bv at za; go_simp⟩) hH2 ?_
  try simp only [Act.put, List.setIfInBounds_toArray, List.set_cons_zero, List.set_cons_succ]
  refine wpAnyH_done (by kernel_rfl) ?_ _
  clear HRG HAs HAd H6 H7 hH0 hH1 hH2
  obtain ⟨c0, c1, c2, c3⟩ := H8.out.d.cells
  replace ho1 := ho1.out
  subst ho1
  have f9 := H8.out.m.mr.free 4
  have HH := hid (H8.out.holds ho h1 h2)
  unfold vM vI at HH
  rw [hL1.out] at HH
  have HQ : Hid (holdsM 21 d s n x = decide (atM x s n < x.a)) := hid (by unfold holdsM; rw [if_pos ⟨by omega, hi, hk⟩]; rfl)
  rw [HQ.out] at HH
  clear HQ
  generalize hq : decide (atM x s n < x.a) = q at HH
  replace hq := hid hq
  have HRW := hid H8.out.d.row
  rw [hL1.out] at HRW
  have hszt := hid (show (Try.prog.info? 30).map (·.size) = some L1.toArray.size by rw [List.size_toArray]; exact hszl.out)
  go_upto_region 24 with fail
  go_upto_region 33 with (first
    | (refine wpList_load_row rfl 30 (.tmp 5) rfl g rfl 30 L1.toArray (0, 0) _ HRW.out Try.underlying30 rfl hszt.out ?_)
    | (go_at_call 14; refine HH.out.mono ?_; rintro r W9 ⟨rfl, H9⟩; have f9 := H9.out.m.mr.free 4; have c9 := H9.out.m.mr.cf))
  have H10 := hid (H9.out.set 4 (.bool q) { x with f := q } (ms_4 _ _ _ _) rfl rfl)
  change Code.wp _ _ _ _ (W9.setCell ⟨g, 4, none⟩ (.bool q))
  generalize W9.setCell ⟨g, 4, none⟩ (.bool q) = W10 at *
  clear f9 c9 H9 H8
  obtain ⟨L5, hL5⟩ : ∃ L5, mcL { x with f := q } (.slice (some ⟨hb, 0, none⟩) nH dH) (.slice (some ⟨mb, 0, none⟩) nM dM) = L5 := ⟨_, rfl⟩
  have T := hid (H10.out.fin L5 hL5)
  replace hL5 := hid hL5
  go_wp2_with (first
    | (refine wpList_load_row rfl 30 (.tmp 5) rfl g rfl 30 L5.toArray (0, 0) _ T.out.1 Try.underlying30 rfl T.out.2.1 ?_)
    | (refine wpList_store_row (o := ⟨none, .store 30 (.tmp 4) (.tmp 171), _, _, _, _⟩) rfl 30 (.tmp 4) (.tmp 171) rfl (w.heap.size + 1 + 1) L5.toArray rfl rfl 30 zL.toArray T.out.2.2.1 T.out.2.1 T.out.2.2.2.1 T.out.2.2.2.2.1 ?_))
  refine bodyPost_ret (results_cell_row (by kernel_rfl : Try.f12.results = #[.cell 4 30]) _ _ (w.heap.size + 1 + 1) 30 L5.toArray (0, 0) _ rfl T.out.2.2.2.2.2.1 Try.underlying30 rfl T.out.2.1) rfl ?_
  rw [HE.out, if_pos ⟨by omega, hi, hk⟩]
  rw [show doM 21 d s n x = { x with f := q } from by rw [← hq.out]; rfl]
  exact T.out.2.2.2.2.2.2
end Go.Proofs.Ytaogileaeflnfaa
/-
  The document's Do, some of its classes (written by tools/stage17/gen_vdg.py).
-/
set_option linter.unusedVariables false
set_option linter.unusedSimpArgs false
namespace Go.Proofs.Ytaogileaeflnfaa
open Go.RowKit

set_option maxRecDepth 10000 in
set_option maxHeartbeats 32000000 in
theorem rdo_22 (w : World) (x : Mn) (o d s n : Int) (ho : 0 ≤ o) (AH AM : Option Addr) (nH cH nM cM : Nat) (h : U.IsBB w w.heap.size AH nH cH x.h) (hm : IsBB w w.heap.size AM nM cM x.m) (h1 : nH ≤ 5000) (h2 : nM ≤ 5000) (hk : x.ok) (hi : okI o d s n) (ho1 : o = 22) :
    Calls Try.prog 12 #[vI o d s n, vM x (.slice AH nH cH) (.slice AM nM cM)] w (DoPost w (doneM o d s n x) nH nM) := by
  replace ho1 := hid ho1
  have zv := zero30
  have zl : zL.length = 263 := mc_len _ _ _
  have H0 := hid (Do3.start w (mcL x (.slice AH nH cH) (.slice AM nM cM)) o d s n)
  have HCM := hid (fun W (hw : Do3 w W (mcL x (.slice AH nH cH) (.slice AM nM cM)) o d s n) => CopyMachine_any W x AH AM nH cH nM cM (h.on hw.two.bel) (hm.on hw.two.bel) (by omega) (by omega))
  have HR := hid (RefRight_any o d s n ho)
  have HE : Hid (doneM o d s n x = if (1 ≤ o ∧ o ≤ 25) ∧ okI o d s n ∧ x.ok then doM o d s n x else x) := rfl
  have HZ := hid (mc_size x (.slice AH nH cH) (.slice AM nM cM))
  clear h hm
  unfold vM at HCM ⊢
  unfold vI at HR ⊢
  generalize hL : mcL x (.slice AH nH cH) (.slice AM nM cM) = L at *
  replace hL := hid hL
  have hsz := hid (size30 L.toArray HZ.out)
  go_enter Try.func12, Try.ntmps12
  go_upto_region 1 with fail
  have HS0 : Hid ((((w.alloc (.cells #[.int .u8 o, .int .i64 d, .int .i64 s, .int .i64 n] 24)).alloc (.cells L.toArray 30)).alloc (.cells zL.toArray 30)).heap.size = w.heap.size + 3) := hid (by simp)
  generalize (((w.alloc _).alloc (.cells L.toArray 30)).alloc (.cells zL.toArray 30)) = W0 at *
  have HA0 := hid (HCM.out W0 H0.out)
  go_upto_region 2 with (first
    | (refine wpList_load_row rfl 30 (.tmp 3) rfl (w.heap.size + 1) rfl 30 L.toArray (0, 0) _ H0.out.two.one Try.underlying30 rfl hsz.out ?_)
    | (go_at_call 7; refine HA0.out.mono ?_; rintro r W1 ⟨BH, dH, BM, dM, rfl, o1, o2, b1⟩; have O1 := hid o1; have O2 := hid o2; have B1 := hid b1; clear o1 o2 b1; obtain ⟨L1, hL1⟩ : ∃ L1, mcL x (.slice BH nH dH) (.slice BM nM dM) = L1 := ⟨_, rfl⟩; have E1 := hid (show (Try.prog.info? 30).map (·.size) = some L1.toArray.size ∧ zL.toArray.size = L1.toArray.size ∧ L1.toArray.all (·.oneCell') = true by rw [← hL1]; exact ⟨size30 _ (mc_size _ _ _), by rw [mc_size]; exact mc_size _ _ _, mc_one _ _ _ _ _ _ _⟩); rw [hL1]; replace hL1 := hid hL1)
    | (refine wpList_store_row (o := ⟨none, .store 30 (.tmp 5) (.tmp 10), _, _, _, _⟩) rfl 30 (.tmp 5) (.tmp 10) rfl W1.heap.size L1.toArray rfl rfl 30 zL.toArray (heap_alloc_new W1 _) E1.out.1 E1.out.2.1 E1.out.2.2 ?_))
  change Code.wp _ _ _ _ (Stw W1 L1)
  have H2 := hid (RDo.start H0.out HS0.out B1.out L1)
  have O3 : Hid ((Stw W1 L1).ownsRow (w.heap.size + 3) 25 1 (.slice BH nH dH) nH (x.h.map U.bv)) := hid (by have := own_below O1.out (Stw.bel W1 L1); rw [HS0.out] at this; exact this)
  have O4 : Hid ((Stw W1 L1).ownsRow (w.heap.size + 3) 5 1 (.slice BM nM dM) nM (x.m.map bv)) := hid (by have := own_below O2.out (Stw.bel W1 L1); rw [HS0.out] at this; exact this)
  clear O1 O2 B1 HA0 HCM H0 HS0 hL hsz HZ
  generalize Stw W1 L1 = W2 at *
  generalize W1.heap.size = g at *
  have HM := hid (rd_right H2.out O3.out O4.out h1 h2)
  unfold vM at HM
  rw [hL1.out] at HM
  obtain ⟨c0, c1, c2, c3⟩ := H2.out.cells
  rw [decide_eq_true hk] at HM
  rw [show rightE o d s n = 0 from if_pos hi] at HR
  go_upto_region 4 with (first
    | (refine BigFrame.wpList_want (o := ⟨some 11, .load 30 (.tmp 5), _, _, _, _⟩) (by rfl) (fun _ hK => wp_load_row 30 (.tmp 5) rfl g rfl 30 L1.toArray (0, 0) _ H2.out.row Try.underlying30 rfl E1.out.1 (hK _ _ ?_)))
    | (go_at_call 27; refine HM.out.mono ?_; rintro r W3 ⟨rfl, H3, P1, P2⟩; obtain ⟨c0, c1, c2, c3⟩ := H3.out.cells)
    | (go_at_call 28; refine (HR.out _).mono ?_; rintro r W4 ⟨rfl, b4⟩; have B4 := hid b4; clear b4))
  have hrm := rm_of (x := x) (by have := H3.out.below B4.out; rw [← hL1.out] at this; exact this) (own_below P1.out B4.out) (own_below P2.out B4.out) hk h1 h2
  obtain ⟨hb, mb, rfl, rfl, hrm⟩ := hrm
  have H6 := hid hrm
  clear hrm HM HR H2 O3 O4 H3 P1 P2 B4
  have HRG := hid (fun W (H : RM w W g hb mb nH dH nM dM x o d s n) => H.range L1 hL1.out)
  have hszl := hid (show (Try.prog.info? 30).map (·.size) = some L1.length by rw [← hL1.out]; exact size30 _ (mc_size _ _ _))
  obtain ⟨zs, hzs⟩ : ∃ z : Int, ((atM x s n).toNat : Int) = z := ⟨_, rfl⟩
  obtain ⟨zd, hzd⟩ : ∃ z : Int, ((atM x d n).toNat : Int) = z := ⟨_, rfl⟩
  have HAT := hid (fun W (H : RM w W g hb mb nH dH nM dM x o d s n) p q => H.at hk p q)
  unfold vM at HAT
  rw [hL1.out] at HAT
  have HAs : Hid (∀ W, RM w W g hb mb nH dH nM dM x o d s n → Calls Try.prog 29 #[.agg L1.toArray, .int .i64 s, .int .i64 n] W fun e w' => e = .returned (.int .u32 zs) ∧ Hid (RM w w' g hb mb nH dH nM dM x o d s n)) := hid (by rw [← hzs]; exact fun W H => HAT.out W H s n)
  have HAd : Hid (∀ W, RM w W g hb mb nH dH nM dM x o d s n → Calls Try.prog 29 #[.agg L1.toArray, .int .i64 d, .int .i64 n] W fun e w' => e = .returned (.int .u32 zd) ∧ Hid (RM w w' g hb mb nH dH nM dM x o d s n)) := hid (by rw [← hzd]; exact fun W H => HAT.out W H d n)
  replace hzs := hid hzs
  replace hzd := hid hzd
  refine wp_region_held_drew (S := (fun w' => RM w w' g hb mb nH dH nM dM x o d s n)) (by kernel_rfl) H6.out.drew (fun hH0 => ?_)
  refine wpAnyH_take (i := 0) (oi := ⟨some 20, _, _, _, _, _⟩) (v := .agg L1.toArray) rfl (by kernel_rfl) (by kernel_rfl) (by kernel_rfl) (fun _ _ _ h => h) (yieldsIf_load_mid (by rfl) 30 (.tmp 5) rfl g 0 rfl L1 _ (fun w hSw => HRG.out _ hSw) Try.underlying30 rfl hszl.out) hH0 ?_
  try simp only [Act.put, List.setIfInBounds_toArray, List.set_cons_zero, List.set_cons_succ]
  refine wpAnyH_take (i := 1) (oi := ⟨some 21, _, _, _, _, _⟩) (v := .pointer (some ⟨w.heap.size, 2, none⟩)) rfl (by kernel_rfl) (by kernel_rfl) (by kernel_rfl) (fun _ _ _ h => h) (Or.inl ⟨by rfl, by intro w hSw; (try dsimp only at hSw); obtain ⟨z0, z1, z2, z3⟩ := hSw.d.cells; have za := hSw.m.mr.ca; unfold U.bv at za; go_simp⟩) hH0 ?_
  try simp only [Act.put, List.setIfInBounds_toArray, List.set_cons_zero, List.set_cons_succ]
  refine wpAnyH_take (i := 2) (oi := ⟨some 22, _, _, _, _, _⟩) (v := .int .i64 s) rfl (by kernel_rfl) (by kernel_rfl) (by kernel_rfl) (fun _ _ _ h => h) (Or.inl ⟨by rfl, by intro w hSw; (try dsimp only at hSw); obtain ⟨z0, z1, z2, z3⟩ := hSw.d.cells; have za := hSw.m.mr.ca; unfold U.bv at za; go_simp⟩) hH0 ?_
  try simp only [Act.put, List.setIfInBounds_toArray, List.set_cons_zero, List.set_cons_succ]
  refine wpAnyH_take (i := 3) (oi := ⟨some 23, _, _, _, _, _⟩) (v := .pointer (some ⟨w.heap.size, 3, none⟩)) rfl (by kernel_rfl) (by kernel_rfl) (by kernel_rfl) (fun _ _ _ h => h) (Or.inl ⟨by rfl, by intro w hSw; (try dsimp only at hSw); obtain ⟨z0, z1, z2, z3⟩ := hSw.d.cells; have za := hSw.m.mr.ca; unfold U.bv at za; go_simp⟩) hH0 ?_
  try simp only [Act.put, List.setIfInBounds_toArray, List.set_cons_zero, List.set_cons_succ]
  refine wpAnyH_take (i := 4) (oi := ⟨some 24, _, _, _, _, _⟩) (v := .int .i64 n) rfl (by kernel_rfl) (by kernel_rfl) (by kernel_rfl) (fun _ _ _ h => h) (Or.inl ⟨by rfl, by intro w hSw; (try dsimp only at hSw); obtain ⟨z0, z1, z2, z3⟩ := hSw.d.cells; have za := hSw.m.mr.ca; unfold U.bv at za; go_simp⟩) hH0 ?_
  try simp only [Act.put, List.setIfInBounds_toArray, List.set_cons_zero, List.set_cons_succ]
  refine wpAnyH_take (i := 6) (oi := ⟨some 26, _, _, _, _, _⟩) (v := .agg L1.toArray) rfl (by kernel_rfl) (by kernel_rfl) (by kernel_rfl) (fun _ _ _ h => h) (yieldsIf_load_mid (by rfl) 30 (.tmp 5) rfl g 0 rfl L1 _ (fun w hSw => HRG.out _ hSw) Try.underlying30 rfl hszl.out) hH0 ?_
  try simp only [Act.put, List.setIfInBounds_toArray, List.set_cons_zero, List.set_cons_succ]
  refine wpAnyH_take (i := 7) (oi := ⟨some 27, _, _, _, _, _⟩) (v := .pointer (some ⟨w.heap.size, 1, none⟩)) rfl (by kernel_rfl) (by kernel_rfl) (by kernel_rfl) (fun _ _ _ h => h) (Or.inl ⟨by rfl, by intro w hSw; (try dsimp only at hSw); obtain ⟨z0, z1, z2, z3⟩ := hSw.d.cells; have za := hSw.m.mr.ca; unfold U.bv at za; go_simp⟩) hH0 ?_
  try simp only [Act.put, List.setIfInBounds_toArray, List.set_cons_zero, List.set_cons_succ]
  refine wpAnyH_take (i := 8) (oi := ⟨some 28, _, _, _, _, _⟩) (v := .int .i64 d) rfl (by kernel_rfl) (by kernel_rfl) (by kernel_rfl) (fun _ _ _ h => h) (Or.inl ⟨by rfl, by intro w hSw; (try dsimp only at hSw); obtain ⟨z0, z1, z2, z3⟩ := hSw.d.cells; have za := hSw.m.mr.ca; unfold U.bv at za; go_simp⟩) hH0 ?_
  try simp only [Act.put, List.setIfInBounds_toArray, List.set_cons_zero, List.set_cons_succ]
  refine wpAnyH_take (i := 9) (oi := ⟨some 29, _, _, _, _, _⟩) (v := .pointer (some ⟨w.heap.size, 3, none⟩)) rfl (by kernel_rfl) (by kernel_rfl) (by kernel_rfl) (fun _ _ _ h => h) (Or.inl ⟨by rfl, by intro w hSw; (try dsimp only at hSw); obtain ⟨z0, z1, z2, z3⟩ := hSw.d.cells; have za := hSw.m.mr.ca; unfold U.bv at za; go_simp⟩) hH0 ?_
  try simp only [Act.put, List.setIfInBounds_toArray, List.set_cons_zero, List.set_cons_succ]
  refine wpAnyH_take (i := 10) (oi := ⟨some 30, _, _, _, _, _⟩) (v := .int .i64 n) rfl (by kernel_rfl) (by kernel_rfl) (by kernel_rfl) (fun _ _ _ h => h) (Or.inl ⟨by rfl, by intro w hSw; (try dsimp only at hSw); obtain ⟨z0, z1, z2, z3⟩ := hSw.d.cells; have za := hSw.m.mr.ca; unfold U.bv at za; go_simp⟩) hH0 ?_
  try simp only [Act.put, List.setIfInBounds_toArray, List.set_cons_zero, List.set_cons_succ]
  refine wpAnyH_ready (rs := [5]) (by kernel_rfl) (by simp) (AllReadyH.cons rfl (fun K hK => ?_) AllReadyH.nil)
  go_simp
  refine (HAs.out _ hH0).mono ?_
  rintro e W7 ⟨rfl, H7⟩
  refine hK.out _ _ H7.out (fun hH1 => ?_)
  clear hK K
  try simp only [Act.put, List.setIfInBounds_toArray, List.set_cons_zero, List.set_cons_succ]
  refine wpAnyH_ready (rs := [11]) (by kernel_rfl) (by simp) (AllReadyH.cons rfl (fun K hK => ?_) AllReadyH.nil)
  go_simp
  refine (HAd.out _ hH1).mono ?_
  rintro e W8 ⟨rfl, H8⟩
  refine hK.out _ _ H8.out (fun hH2 => ?_)
  clear hK K
  try simp only [Act.put, List.setIfInBounds_toArray, List.set_cons_zero, List.set_cons_succ]
  refine wpAnyH_take (i := 12) (oi := ⟨some 6, _, _, _, _, _⟩) (v := .int .u32 zs) rfl (by kernel_rfl) (by kernel_rfl) (by kernel_rfl) (fun _ _ _ h => h) (Or.inl ⟨by rfl, by intro w hSw; (try dsimp only at hSw); obtain ⟨z0, z1, z2, z3⟩ := hSw.d.cells; have za := hSw.m.mr.ca; unfold U.bv at za; go_simp⟩) hH2 ?_
  try simp only [Act.put, List.setIfInBounds_toArray, List.set_cons_zero, List.set_cons_succ]
  refine wpAnyH_take (i := 13) (oi := ⟨some 7, _, _, _, _, _⟩) (v := .int .u32 zd) rfl (by kernel_rfl) (by kernel_rfl) (by kernel_rfl) (fun _ _ _ h => h) (Or.inl ⟨by rfl, by intro w hSw; (try dsimp only at hSw); obtain ⟨z0, z1, z2, z3⟩ := hSw.d.cells; have za := hSw.m.mr.ca; unfold U.bv at za; go_simp⟩) hH2 ?_
  try simp only [Act.put, List.setIfInBounds_toArray, List.set_cons_zero, List.set_cons_succ]
  refine wpAnyH_done (by kernel_rfl) ?_ _
  clear HRG HAs HAd H6 H7 hH0 hH1 hH2
  obtain ⟨c0, c1, c2, c3⟩ := H8.out.d.cells
  replace ho1 := ho1.out
  subst ho1
  obtain ⟨j, hj, rfl⟩ : ∃ j : Nat, j < 256 ∧ n = (j : Int) := by
    have h := hi.2.2.2
    have e : rN 22 s = 255 := rfl
    unfold inn at h
    rw [e] at h
    exact ⟨n.toNat, by omega, by omega⟩
  have hjz : (j : Int) < 256 := by omega
  go_upto_region 26 with fail
  refine wp_region_held_drew (S := (fun w' => ∃ y, y.r = x.r ∧ RM w w' g hb mb nH dH nM dM y 22 d s (j : Int))) (by kernel_rfl) ⟨x, rfl, H8.out.drew⟩ (fun hH0 => ?_)
  refine wpAnyH_take (i := 0) (oi := ⟨some 129, _, _, _, _, _⟩) (v := .pointer (some ⟨w.heap.size, 1, none⟩)) rfl (by kernel_rfl) (by kernel_rfl) (by kernel_rfl) (fun _ _ _ h => h) (Or.inl ⟨by rfl, by intro w hSw; (try dsimp only at hSw); obtain ⟨y, hy, hSw⟩ := hSw; obtain ⟨z0, z1, z2, z3⟩ := hSw.d.cells; have zr := hSw.m.mr.cr j hj; rw [hy] at zr; unfold U.bv at zr; go_simp⟩) hH0 ?_
  try simp only [Act.put, List.setIfInBounds_toArray, List.set_cons_zero, List.set_cons_succ]
  refine wpAnyH_take (i := 1) (oi := ⟨some 130, _, _, _, _, _⟩) (v := .int .i64 d) rfl (by kernel_rfl) (by kernel_rfl) (by kernel_rfl) (fun _ _ _ h => h) (Or.inl ⟨by rfl, by intro w hSw; (try dsimp only at hSw); obtain ⟨y, hy, hSw⟩ := hSw; obtain ⟨z0, z1, z2, z3⟩ := hSw.d.cells; have zr := hSw.m.mr.cr j hj; rw [hy] at zr; unfold U.bv at zr; go_simp⟩) hH0 ?_
  try simp only [Act.put, List.setIfInBounds_toArray, List.set_cons_zero, List.set_cons_succ]
  refine wpAnyH_take (i := 2) (oi := ⟨some 131, _, _, _, _, _⟩) (v := .pointer (some ⟨w.heap.size, 3, none⟩)) rfl (by kernel_rfl) (by kernel_rfl) (by kernel_rfl) (fun _ _ _ h => h) (Or.inl ⟨by rfl, by intro w hSw; (try dsimp only at hSw); obtain ⟨y, hy, hSw⟩ := hSw; obtain ⟨z0, z1, z2, z3⟩ := hSw.d.cells; have zr := hSw.m.mr.cr j hj; rw [hy] at zr; unfold U.bv at zr; go_simp⟩) hH0 ?_
  try simp only [Act.put, List.setIfInBounds_toArray, List.set_cons_zero, List.set_cons_succ]
  refine wpAnyH_take (i := 3) (oi := ⟨some 132, _, _, _, _, _⟩) (v := .int .i64 (j : Int)) rfl (by kernel_rfl) (by kernel_rfl) (by kernel_rfl) (fun _ _ _ h => h) (Or.inl ⟨by rfl, by intro w hSw; (try dsimp only at hSw); obtain ⟨y, hy, hSw⟩ := hSw; obtain ⟨z0, z1, z2, z3⟩ := hSw.d.cells; have zr := hSw.m.mr.cr j hj; rw [hy] at zr; unfold U.bv at zr; go_simp⟩) hH0 ?_
  try simp only [Act.put, List.setIfInBounds_toArray, List.set_cons_zero, List.set_cons_succ]
  refine wpAnyH_take (i := 4) (oi := ⟨some 133, _, _, _, _, _⟩) (v := .pointer (some ⟨g, 5, none⟩)) rfl (by kernel_rfl) (by kernel_rfl) (by kernel_rfl) (fun _ _ _ h => h) (Or.inl ⟨by rfl, by intro w hSw; (try dsimp only at hSw); obtain ⟨y, hy, hSw⟩ := hSw; obtain ⟨z0, z1, z2, z3⟩ := hSw.d.cells; have zr := hSw.m.mr.cr j hj; rw [hy] at zr; unfold U.bv at zr; go_simp⟩) hH0 ?_
  try simp only [Act.put, List.setIfInBounds_toArray, List.set_cons_zero, List.set_cons_succ]
  refine wpAnyH_take (i := 5) (oi := ⟨some 134, _, _, _, _, _⟩) (v := .pointer (some ⟨g, 5 + j, none⟩)) rfl (by kernel_rfl) (by kernel_rfl) (by kernel_rfl) (fun _ _ _ h => h) (Or.inl ⟨by rfl, by intro w hSw; (try dsimp only at hSw); obtain ⟨y, hy, hSw⟩ := hSw; obtain ⟨z0, z1, z2, z3⟩ := hSw.d.cells; have zr := hSw.m.mr.cr j hj; rw [hy] at zr; unfold U.bv at zr; go_simp⟩) hH0 ?_
  try simp only [Act.put, List.setIfInBounds_toArray, List.set_cons_zero, List.set_cons_succ]
  refine wpAnyH_take (i := 6) (oi := ⟨some 135, _, _, _, _, _⟩) (v := .int .u32 ((x.r j).toNat : Nat)) rfl (by kernel_rfl) (by kernel_rfl) (by kernel_rfl) (fun _ _ _ h => h) (Or.inl ⟨by rfl, by intro w hSw; (try dsimp only at hSw); obtain ⟨y, hy, hSw⟩ := hSw; obtain ⟨z0, z1, z2, z3⟩ := hSw.d.cells; have zr := hSw.m.mr.cr j hj; rw [hy] at zr; unfold U.bv at zr; go_simp⟩) hH0 ?_
  try simp only [Act.put, List.setIfInBounds_toArray, List.set_cons_zero, List.set_cons_succ]
  refine wpAnyH_ready (rs := [7]) (by kernel_rfl) (by simp) (AllReadyH.cons rfl (fun K hK => ?_) AllReadyH.nil)
  go_simp
  refine (H8.out.drew.put hk d (x.r j) _ rfl).mono ?_
  rintro e W9 ⟨rfl, H9⟩
  refine hK.out _ _ ⟨_, putM_r x d (x.r j), H9.out⟩ (fun _ => ?_)
  clear hK K
  try simp only [Act.put, List.setIfInBounds_toArray, List.set_cons_zero, List.set_cons_succ]
  refine wpAnyH_done (by kernel_rfl) ?_ _
  clear H8 hH0
  obtain ⟨L5, hL5⟩ : ∃ L5, mcL (putM x d (x.r j)) (.slice (some ⟨hb, 0, none⟩) nH dH) (.slice (some ⟨mb, 0, none⟩) nM dM) = L5 := ⟨_, rfl⟩
  have T := hid (H9.out.fin L5 hL5)
  replace hL5 := hid hL5
  go_wp2_with (first
    | (refine wpList_load_row rfl 30 (.tmp 5) rfl g rfl 30 L5.toArray (0, 0) _ T.out.1 Try.underlying30 rfl T.out.2.1 ?_)
    | (refine wpList_store_row (o := ⟨none, .store 30 (.tmp 4) (.tmp 171), _, _, _, _⟩) rfl 30 (.tmp 4) (.tmp 171) rfl (w.heap.size + 1 + 1) L5.toArray rfl rfl 30 zL.toArray T.out.2.2.1 T.out.2.1 T.out.2.2.2.1 T.out.2.2.2.2.1 ?_))
  refine bodyPost_ret (results_cell_row (by kernel_rfl : Try.f12.results = #[.cell 4 30]) _ _ (w.heap.size + 1 + 1) 30 L5.toArray (0, 0) _ rfl T.out.2.2.2.2.2.1 Try.underlying30 rfl T.out.2.1) rfl ?_
  rw [HE.out, if_pos ⟨by omega, hi, hk⟩]
  exact T.out.2.2.2.2.2.2
end Go.Proofs.Ytaogileaeflnfaa
