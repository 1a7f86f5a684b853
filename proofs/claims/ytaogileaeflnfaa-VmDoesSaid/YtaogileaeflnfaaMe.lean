/-
  Merged: Vh1 Vh2.
-/
import Derived.Test.YtaogileaeflnfaaMd
/-
  The document's Do, some of its classes (written by tools/stage17/gen_vdg.py).
-/
set_option linter.unusedVariables false
set_option linter.unusedSimpArgs false
namespace Go.Proofs.Ytaogileaeflnfaa
open Go.RowKit

set_option maxRecDepth 10000 in
set_option maxHeartbeats 32000000 in
theorem rdo_1 (w : World) (x : Mn) (o d s n : Int) (ho : 0 ≤ o) (AH AM : Option Addr) (nH cH nM cM : Nat) (h : U.IsBB w w.heap.size AH nH cH x.h) (hm : IsBB w w.heap.size AM nM cM x.m) (h1 : nH ≤ 5000) (h2 : nM ≤ 5000) (hk : x.ok) (hi : okI o d s n) (ho1 : o = 1) :
    Calls Try.prog 12 #[vI o d s n, vM x (.slice AH nH cH) (.slice AM nM cM)] w (DoPost w (doneM o d s n x) nH nM) := by
  replace ho1 := hid ho1
  have zv := zero30
  have zl : zL.length = 263 := mc_len _ _ _
  have H0 := hid (Do3.start w (mcL x (.slice AH nH cH) (.slice AM nM cM)) o d s n)
  have HCM := hid (fun W (hw : Do3 w W (mcL x (.slice AH nH cH) (.slice AM nM cM)) o d s n) => CopyMachine_any W x AH AM nH cH nM cM (h.on hw.two.bel) (hm.on hw.two.bel) (by omega) (by omega))
  have HR := hid (RefRight_any o d s n ho)
  have HE : Hid (doneM o d s n x = if (1 ≤ o ∧ o ≤ 25) ∧ okI o d s n ∧ x.ok then doM o d s n x else x) := rfl
  have HZ := hid (mc_size x (.slice AH nH cH) (.slice AM nM cM))
  clear h hm
  unfold vM at HCM ⊢
  unfold vI at HR ⊢
  generalize hL : mcL x (.slice AH nH cH) (.slice AM nM cM) = L at *
  replace hL := hid hL
  have hsz := hid (size30 L.toArray HZ.out)
  go_enter Try.func12, Try.ntmps12
  go_upto_region 1 with fail
  have HS0 : Hid ((((w.alloc (.cells #[.int .u8 o, .int .i64 d, .int .i64 s, .int .i64 n] 24)).alloc (.cells L.toArray 30)).alloc (.cells zL.toArray 30)).heap.size = w.heap.size + 3) := hid (by simp)
  generalize (((w.alloc _).alloc (.cells L.toArray 30)).alloc (.cells zL.toArray 30)) = W0 at *
  have HA0 := hid (HCM.out W0 H0.out)
  go_upto_region 2 with (first
    | (refine wpList_load_row rfl 30 (.tmp 3) rfl (w.heap.size + 1) rfl 30 L.toArray (0, 0) _ H0.out.two.one Try.underlying30 rfl hsz.out ?_)
    | (go_at_call 7; refine HA0.out.mono ?_; rintro r W1 ⟨BH, dH, BM, dM, rfl, o1, o2, b1⟩; have O1 := hid o1; have O2 := hid o2; have B1 := hid b1; clear o1 o2 b1; obtain ⟨L1, hL1⟩ : ∃ L1, mcL x (.slice BH nH dH) (.slice BM nM dM) = L1 := ⟨_, rfl⟩; have E1 := hid (show (Try.prog.info? 30).map (·.size) = some L1.toArray.size ∧ zL.toArray.size = L1.toArray.size ∧ L1.toArray.all (·.oneCell') = true by rw [← hL1]; exact ⟨size30 _ (mc_size _ _ _), by rw [mc_size]; exact mc_size _ _ _, mc_one _ _ _ _ _ _ _⟩); rw [hL1]; replace hL1 := hid hL1)
    | (refine wpList_store_row (o := ⟨none, .store 30 (.tmp 5) (.tmp 10), _, _, _, _⟩) rfl 30 (.tmp 5) (.tmp 10) rfl W1.heap.size L1.toArray rfl rfl 30 zL.toArray (heap_alloc_new W1 _) E1.out.1 E1.out.2.1 E1.out.2.2 ?_))
  change Code.wp _ _ _ _ (Stw W1 L1)
  have H2 := hid (RDo.start H0.out HS0.out B1.out L1)
  have O3 : Hid ((Stw W1 L1).ownsRow (w.heap.size + 3) 25 1 (.slice BH nH dH) nH (x.h.map U.bv)) := hid (by have := own_below O1.out (Stw.bel W1 L1); rw [HS0.out] at this; exact this)
  have O4 : Hid ((Stw W1 L1).ownsRow (w.heap.size + 3) 5 1 (.slice BM nM dM) nM (x.m.map bv)) := hid (by have := own_below O2.out (Stw.bel W1 L1); rw [HS0.out] at this; exact this)
  clear O1 O2 B1 HA0 HCM H0 HS0 hL hsz HZ
  generalize Stw W1 L1 = W2 at *
  generalize W1.heap.size = g at *
  have HM := hid (rd_right H2.out O3.out O4.out h1 h2)
  unfold vM at HM
  rw [hL1.out] at HM
  obtain ⟨c0, c1, c2, c3⟩ := H2.out.cells
  rw [decide_eq_true hk] at HM
  rw [show rightE o d s n = 0 from if_pos hi] at HR
  go_upto_region 4 with (first
    | (refine BigFrame.wpList_want (o := ⟨some 11, .load 30 (.tmp 5), _, _, _, _⟩) (by rfl) (fun _ hK => wp_load_row 30 (.tmp 5) rfl g rfl 30 L1.toArray (0, 0) _ H2.out.row Try.underlying30 rfl E1.out.1 (hK _ _ ?_)))
    | (go_at_call 27; refine HM.out.mono ?_; rintro r W3 ⟨rfl, H3, P1, P2⟩; obtain ⟨c0, c1, c2, c3⟩ := H3.out.cells)
    | (go_at_call 28; refine (HR.out _).mono ?_; rintro r W4 ⟨rfl, b4⟩; have B4 := hid b4; clear b4))
  have hrm := rm_of (x := x) (by have := H3.out.below B4.out; rw [← hL1.out] at this; exact this) (own_below P1.out B4.out) (own_below P2.out B4.out) hk h1 h2
  obtain ⟨hb, mb, rfl, rfl, hrm⟩ := hrm
  have H6 := hid hrm
  clear hrm HM HR H2 O3 O4 H3 P1 P2 B4
  have HRG := hid (fun W (H : RM w W g hb mb nH dH nM dM x o d s n) => H.range L1 hL1.out)
  have hszl := hid (show (Try.prog.info? 30).map (·.size) = some L1.length by rw [← hL1.out]; exact size30 _ (mc_size _ _ _))
  obtain ⟨zs, hzs⟩ : ∃ z : Int, ((atM x s n).toNat : Int) = z := ⟨_, rfl⟩
  obtain ⟨zd, hzd⟩ : ∃ z : Int, ((atM x d n).toNat : Int) = z := ⟨_, rfl⟩
  have HAT := hid (fun W (H : RM w W g hb mb nH dH nM dM x o d s n) p q => H.at hk p q)
  unfold vM at HAT
  rw [hL1.out] at HAT
  have HAs : Hid (∀ W, RM w W g hb mb nH dH nM dM x o d s n → Calls Try.prog 29 #[.agg L1.toArray, .int .i64 s, .int .i64 n] W fun e w' => e = .returned (.int .u32 zs) ∧ Hid (RM w w' g hb mb nH dH nM dM x o d s n)) := hid (by rw [← hzs]; exact fun W H => HAT.out W H s n)
  have HAd : Hid (∀ W, RM w W g hb mb nH dH nM dM x o d s n → Calls Try.prog 29 #[.agg L1.toArray, .int .i64 d, .int .i64 n] W fun e w' => e = .returned (.int .u32 zd) ∧ Hid (RM w w' g hb mb nH dH nM dM x o d s n)) := hid (by rw [← hzd]; exact fun W H => HAT.out W H d n)
  replace hzs := hid hzs
  replace hzd := hid hzd
  refine wp_region_held_drew (S := (fun w' => RM w w' g hb mb nH dH nM dM x o d s n)) (by kernel_rfl) H6.out.drew (fun hH0 => ?_)
  refine wpAnyH_take (i := 0) (oi := ⟨some 20, _, _, _, _, _⟩) (v := .agg L1.toArray) rfl (by kernel_rfl) (by kernel_rfl) (by kernel_rfl) (fun _ _ _ h => h) (yieldsIf_load_mid (by rfl) 30 (.tmp 5) rfl g 0 rfl L1 _ (fun w hSw => HRG.out _ hSw) Try.underlying30 rfl hszl.out) hH0 ?_
  try simp only [Act.put, List.setIfInBounds_toArray, List.set_cons_zero, List.set_cons_succ]
  refine wpAnyH_take (i := 1) (oi := ⟨some 21, _, _, _, _, _⟩) (v := .pointer (some ⟨w.heap.size, 2, none⟩)) rfl (by kernel_rfl) (by kernel_rfl) (by kernel_rfl) (fun _ _ _ h => h) (Or.inl ⟨by rfl, by intro w hSw; (try dsimp only at hSw); obtain ⟨z0, z1, z2, z3⟩ := hSw.d.cells; have za := hSw.m.mr.ca; unfold U.bv at za; go_simp⟩) hH0 ?_
  try simp only [Act.put, List.setIfInBounds_toArray, List.set_cons_zero, List.set_cons_succ]
  refine wpAnyH_take (i := 2) (oi := ⟨some 22, _, _, _, _, _⟩) (v := .int .i64 s) rfl (by kernel_rfl) (by kernel_rfl) (by kernel_rfl) (fun _ _ _ h => h) (Or.inl ⟨by rfl, by intro w hSw; (try dsimp only at hSw); obtain ⟨z0, z1, z2, z3⟩ := hSw.d.cells; have za := hSw.m.mr.ca; unfold U.bv at za; go_simp⟩) hH0 ?_
  try simp only [Act.put, List.setIfInBounds_toArray, List.set_cons_zero, List.set_cons_succ]
  refine wpAnyH_take (i := 3) (oi := ⟨some 23, _, _, _, _, _⟩) (v := .pointer (some ⟨w.heap.size, 3, none⟩)) rfl (by kernel_rfl) (by kernel_rfl) (by kernel_rfl) (fun _ _ _ h => h) (Or.inl ⟨by rfl, by intro w hSw; (try dsimp only at hSw); obtain ⟨z0, z1, z2, z3⟩ := hSw.d.cells; have za := hSw.m.mr.ca; unfold U.bv at za; go_simp⟩) hH0 ?_
  try simp only [Act.put, List.setIfInBounds_toArray, List.set_cons_zero, List.set_cons_succ]
  refine wpAnyH_take (i := 4) (oi := ⟨some 24, _, _, _, _, _⟩) (v := .int .i64 n) rfl (by kernel_rfl) (by kernel_rfl) (by kernel_rfl) (fun _ _ _ h => h) (Or.inl ⟨by rfl, by intro w hSw; (try dsimp only at hSw); obtain ⟨z0, z1, z2, z3⟩ := hSw.d.cells; have za := hSw.m.mr.ca; unfold U.bv at za; go_simp⟩) hH0 ?_
  try simp only [Act.put, List.setIfInBounds_toArray, List.set_cons_zero, List.set_cons_succ]
  refine wpAnyH_take (i := 6) (oi := ⟨some 26, _, _, _, _, _⟩) (v := .agg L1.toArray) rfl (by kernel_rfl) (by kernel_rfl) (by kernel_rfl) (fun _ _ _ h => h) (yieldsIf_load_mid (by rfl) 30 (.tmp 5) rfl g 0 rfl L1 _ (fun w hSw => HRG.out _ hSw) Try.underlying30 rfl hszl.out) hH0 ?_
  try simp only [Act.put, List.setIfInBounds_toArray, List.set_cons_zero, List.set_cons_succ]
  refine wpAnyH_take (i := 7) (oi := ⟨some 27, _, _, _, _, _⟩) (v := .pointer (some ⟨w.heap.size, 1, none⟩)) rfl (by kernel_rfl) (by kernel_rfl) (by kernel_rfl) (fun _ _ _ h => h) (Or.inl ⟨by rfl, by intro w hSw; (try dsimp only at hSw); obtain ⟨z0, z1, z2, z3⟩ := hSw.d.cells; have za := hSw.m.mr.ca; unfold U.bv at za; go_simp⟩) hH0 ?_
  try simp only [Act.put, List.setIfInBounds_toArray, List.set_cons_zero, List.set_cons_succ]
  refine wpAnyH_take (i := 8) (oi := ⟨some 28, _, _, _, _, _⟩) (v := .int .i64 d) rfl (by kernel_rfl) (by kernel_rfl) (by kernel_rfl) (fun _ _ _ h => h) (Or.inl ⟨by rfl, by intro w hSw; (try dsimp only at hSw); obtain ⟨z0, z1, z2, z3⟩ := hSw.d.cells; have za := hSw.m.mr.ca; unfold U.bv at za; go_simp⟩) hH0 ?_
  try simp only [Act.put, List.setIfInBounds_toArray, List.set_cons_zero, List.set_cons_succ]
  refine wpAnyH_take (i := 9) (oi := ⟨some 29, _, _, _, _, _⟩) (v := .pointer (some ⟨w.heap.size, 3, none⟩)) rfl (by kernel_rfl) (by kernel_rfl) (by kernel_rfl) (fun _ _ _ h => h) (Or.inl ⟨by rfl, by intro w hSw; (try dsimp only at hSw); obtain ⟨z0, z1, z2, z3⟩ := hSw.d.cells; have za := hSw.m.mr.ca; unfold U.bv at za; go_simp⟩) hH0 ?_
  try simp only [Act.put, List.setIfInBounds_toArray, List.set_cons_zero, List.set_cons_succ]
  refine wpAnyH_take (i := 10) (oi := ⟨some 30, _, _, _, _, _⟩) (v := .int .i64 n) rfl (by kernel_rfl) (by kernel_rfl) (by kernel_rfl) (fun _ _ _ h => h) (Or.inl ⟨by rfl, by intro w hSw; (try dsimp only at hSw); obtain ⟨z0, z1, z2, z3⟩ := hSw.d.cells; have za := hSw.m.mr.ca; unfold U.bv at za; go_simp⟩) hH0 ?_
  try simp only [Act.put, List.setIfInBounds_toArray, List.set_cons_zero, List.set_cons_succ]
  refine wpAnyH_ready (rs := [5]) (by kernel_rfl) (by simp) (AllReadyH.cons rfl (fun K hK => ?_) AllReadyH.nil)
  go_simp
  refine (HAs.out _ hH0).mono ?_
  rintro e W7 ⟨rfl, H7⟩
  refine hK.out _ _ H7.out (fun hH1 => ?_)
  clear hK K
  try simp only [Act.put, List.setIfInBounds_toArray, List.set_cons_zero, List.set_cons_succ]
  refine wpAnyH_ready (rs := [11]) (by kernel_rfl) (by simp) (AllReadyH.cons rfl (fun K hK => ?_) AllReadyH.nil)
  go_simp
  refine (HAd.out _ hH1).mono ?_
  rintro e W8 ⟨rfl, H8⟩
  refine hK.out _ _ H8.out (fun hH2 => ?_)
  clear hK K
  try simp only [Act.put, List.setIfInBounds_toArray, List.set_cons_zero, List.set_cons_succ]
  refine wpAnyH_take (i := 12) (oi := ⟨some 6, _, _, _, _, _⟩) (v := .int .u32 zs) rfl (by kernel_rfl) (by kernel_rfl) (by kernel_rfl) (fun _ _ _ h => h) (Or.inl ⟨by rfl, by intro w hSw; (try dsimp only at hSw); obtain ⟨z0, z1, z2, z3⟩ := hSw.d.cells; have za := hSw.m.mr.ca; unfold U.bv at za; go_simp⟩) hH2 ?_
  try simp only [Act.put, List.setIfInBounds_toArray, List.set_cons_zero, List.set_cons_succ]
  refine wpAnyH_take (i := 13) (oi := ⟨some 7, _, _, _, _, _⟩) (v := .int .u32 zd) rfl (by kernel_rfl) (by kernel_rfl) (by kernel_rfl) (fun _ _ _ h => h) (Or.inl ⟨by rfl, by intro w hSw; (try dsimp only at hSw); obtain ⟨z0, z1, z2, z3⟩ := hSw.d.cells; have za := hSw.m.mr.ca; unfold U.bv at za; go_simp⟩) hH2 ?_
  try simp only [Act.put, List.setIfInBounds_toArray, List.set_cons_zero, List.set_cons_succ]
  refine wpAnyH_done (by kernel_rfl) ?_ _
  clear HRG HAs HAd H6 H7 hH0 hH1 hH2
  obtain ⟨c0, c1, c2, c3⟩ := H8.out.d.cells
  replace ho1 := ho1.out
  subst ho1
  have HP := hid (H8.out.put hk d (atM x s n) (zs) (hzs.out))
  go_upto_region 33 with (go_at_call 30; refine HP.out.mono ?_; rintro r W9 ⟨rfl, H9⟩)
  obtain ⟨L5, hL5⟩ : ∃ L5, mcL (putM x d (atM x s n)) (.slice (some ⟨hb, 0, none⟩) nH dH) (.slice (some ⟨mb, 0, none⟩) nM dM) = L5 := ⟨_, rfl⟩
  have T := hid (H9.out.fin L5 hL5)
  replace hL5 := hid hL5
  go_wp2_with (first
    | (refine wpList_load_row rfl 30 (.tmp 5) rfl g rfl 30 L5.toArray (0, 0) _ T.out.1 Try.underlying30 rfl T.out.2.1 ?_)
    | (refine wpList_store_row (o := ⟨none, .store 30 (.tmp 4) (.tmp 171), _, _, _, _⟩) rfl 30 (.tmp 4) (.tmp 171) rfl (w.heap.size + 1 + 1) L5.toArray rfl rfl 30 zL.toArray T.out.2.2.1 T.out.2.1 T.out.2.2.2.1 T.out.2.2.2.2.1 ?_))
  refine bodyPost_ret (results_cell_row (by kernel_rfl : Try.f12.results = #[.cell 4 30]) _ _ (w.heap.size + 1 + 1) 30 L5.toArray (0, 0) _ rfl T.out.2.2.2.2.2.1 Try.underlying30 rfl T.out.2.1) rfl ?_
  rw [HE.out, if_pos ⟨by omega, hi, hk⟩]
  exact T.out.2.2.2.2.2.2
set_option maxRecDepth 10000 in
set_option maxHeartbeats 32000000 in
theorem rdo_2 (w : World) (x : Mn) (o d s n : Int) (ho : 0 ≤ o) (AH AM : Option Addr) (nH cH nM cM : Nat) (h : U.IsBB w w.heap.size AH nH cH x.h) (hm : IsBB w w.heap.size AM nM cM x.m) (h1 : nH ≤ 5000) (h2 : nM ≤ 5000) (hk : x.ok) (hi : okI o d s n) (ho1 : o = 2) :
    Calls Try.prog 12 #[vI o d s n, vM x (.slice AH nH cH) (.slice AM nM cM)] w (DoPost w (doneM o d s n x) nH nM) := by
  replace ho1 := hid ho1
  have zv := zero30
  have zl : zL.length = 263 := mc_len _ _ _
  have H0 := hid (Do3.start w (mcL x (.slice AH nH cH) (.slice AM nM cM)) o d s n)
  have HCM := hid (fun W (hw : Do3 w W (mcL x (.slice AH nH cH) (.slice AM nM cM)) o d s n) => CopyMachine_any W x AH AM nH cH nM cM (h.on hw.two.bel) (hm.on hw.two.bel) (by omega) (by omega))
  have HR := hid (RefRight_any o d s n ho)
  have HE : Hid (doneM o d s n x = if (1 ≤ o ∧ o ≤ 25) ∧ okI o d s n ∧ x.ok then doM o d s n x else x) := rfl
  have HZ := hid (mc_size x (.slice AH nH cH) (.slice AM nM cM))
  clear h hm
  unfold vM at HCM ⊢
  unfold vI at HR ⊢
  generalize hL : mcL x (.slice AH nH cH) (.slice AM nM cM) = L at *
  replace hL := hid hL
  have hsz := hid (size30 L.toArray HZ.out)
  go_enter Try.func12, Try.ntmps12
  go_upto_region 1 with fail
  have HS0 : Hid ((((w.alloc (.cells #[.int .u8 o, .int .i64 d, .int .i64 s, .int .i64 n] 24)).alloc (.cells L.toArray 30)).alloc (.cells zL.toArray 30)).heap.size = w.heap.size + 3) := hid (by simp)
  generalize (((w.alloc _).alloc (.cells L.toArray 30)).alloc (.cells zL.toArray 30)) = W0 at *
  have HA0 := hid (HCM.out W0 H0.out)
  go_upto_region 2 with (first
    | (refine wpList_load_row rfl 30 (.tmp 3) rfl (w.heap.size + 1) rfl 30 L.toArray (0, 0) _ H0.out.two.one Try.underlying30 rfl hsz.out ?_)
    | (go_at_call 7; refine HA0.out.mono ?_; rintro r W1 ⟨BH, dH, BM, dM, rfl, o1, o2, b1⟩; have O1 := hid o1; have O2 := hid o2; have B1 := hid b1; clear o1 o2 b1; obtain ⟨L1, hL1⟩ : ∃ L1, mcL x (.slice BH nH dH) (.slice BM nM dM) = L1 := ⟨_, rfl⟩; have E1 := hid (show (Try.prog.info? 30).map (·.size) = some L1.toArray.size ∧ zL.toArray.size = L1.toArray.size ∧ L1.toArray.all (·.oneCell') = true by rw [← hL1]; exact ⟨size30 _ (mc_size _ _ _), by rw [mc_size]; exact mc_size _ _ _, mc_one _ _ _ _ _ _ _⟩); rw [hL1]; replace hL1 := hid hL1)
    | (refine wpList_store_row (o := ⟨none, .store 30 (.tmp 5) (.tmp 10), _, _, _, _⟩) rfl 30 (.tmp 5) (.tmp 10) rfl W1.heap.size L1.toArray rfl rfl 30 zL.toArray (heap_alloc_new W1 _) E1.out.1 E1.out.2.1 E1.out.2.2 ?_))
  change Code.wp _ _ _ _ (Stw W1 L1)
  have H2 := hid (RDo.start H0.out HS0.out B1.out L1)
  have O3 : Hid ((Stw W1 L1).ownsRow (w.heap.size + 3) 25 1 (.slice BH nH dH) nH (x.h.map U.bv)) := hid (by have := own_below O1.out (Stw.bel W1 L1); rw [HS0.out] at this; exact this)
  have O4 : Hid ((Stw W1 L1).ownsRow (w.heap.size + 3) 5 1 (.slice BM nM dM) nM (x.m.map bv)) := hid (by have := own_below O2.out (Stw.bel W1 L1); rw [HS0.out] at this; exact this)
  clear O1 O2 B1 HA0 HCM H0 HS0 hL hsz HZ
  generalize Stw W1 L1 = W2 at *
  generalize W1.heap.size = g at *
  have HM := hid (rd_right H2.out O3.out O4.out h1 h2)
  unfold vM at HM
  rw [hL1.out] at HM
  obtain ⟨c0, c1, c2, c3⟩ := H2.out.cells
  rw [decide_eq_true hk] at HM
  rw [show rightE o d s n = 0 from if_pos hi] at HR
  go_upto_region 4 with (first
    | (refine BigFrame.wpList_want (o := ⟨some 11, .load 30 (.tmp 5), _, _, _, _⟩) (by rfl) (fun _ hK => wp_load_row 30 (.tmp 5) rfl g rfl 30 L1.toArray (0, 0) _ H2.out.row Try.underlying30 rfl E1.out.1 (hK _ _ ?_)))
    | (go_at_call 27; refine HM.out.mono ?_; rintro r W3 ⟨rfl, H3, P1, P2⟩; obtain ⟨c0, c1, c2, c3⟩ := H3.out.cells)
    | (go_at_call 28; refine (HR.out _).mono ?_; rintro r W4 ⟨rfl, b4⟩; have B4 := hid b4; clear b4))
  have hrm := rm_of (x := x) (by have := H3.out.below B4.out; rw [← hL1.out] at this; exact this) (own_below P1.out B4.out) (own_below P2.out B4.out) hk h1 h2
  obtain ⟨hb, mb, rfl, rfl, hrm⟩ := hrm
  have H6 := hid hrm
  clear hrm HM HR H2 O3 O4 H3 P1 P2 B4
  have HRG := hid (fun W (H : RM w W g hb mb nH dH nM dM x o d s n) => H.range L1 hL1.out)
  have hszl := hid (show (Try.prog.info? 30).map (·.size) = some L1.length by rw [← hL1.out]; exact size30 _ (mc_size _ _ _))
  obtain ⟨zs, hzs⟩ : ∃ z : Int, ((atM x s n).toNat : Int) = z := ⟨_, rfl⟩
  obtain ⟨zd, hzd⟩ : ∃ z : Int, ((atM x d n).toNat : Int) = z := ⟨_, rfl⟩
  have HAT := hid (fun W (H : RM w W g hb mb nH dH nM dM x o d s n) p q => H.at hk p q)
  unfold vM at HAT
  rw [hL1.out] at HAT
  have HAs : Hid (∀ W, RM w W g hb mb nH dH nM dM x o d s n → Calls Try.prog 29 #[.agg L1.toArray, .int .i64 s, .int .i64 n] W fun e w' => e = .returned (.int .u32 zs) ∧ Hid (RM w w' g hb mb nH dH nM dM x o d s n)) := hid (by rw [← hzs]; exact fun W H => HAT.out W H s n)
  have HAd : Hid (∀ W, RM w W g hb mb nH dH nM dM x o d s n → Calls Try.prog 29 #[.agg L1.toArray, .int .i64 d, .int .i64 n] W fun e w' => e = .returned (.int .u32 zd) ∧ Hid (RM w w' g hb mb nH dH nM dM x o d s n)) := hid (by rw [← hzd]; exact fun W H => HAT.out W H d n)
  replace hzs := hid hzs
  replace hzd := hid hzd
  refine wp_region_held_drew (S := (fun w' => RM w w' g hb mb nH dH nM dM x o d s n)) (by kernel_rfl) H6.out.drew (fun hH0 => ?_)
  refine wpAnyH_take (i := 0) (oi := ⟨some 20, _, _, _, _, _⟩) (v := .agg L1.toArray) rfl (by kernel_rfl) (by kernel_rfl) (by kernel_rfl) (fun _ _ _ h => h) (yieldsIf_load_mid (by rfl) 30 (.tmp 5) rfl g 0 rfl L1 _ (fun w hSw => HRG.out _ hSw) Try.underlying30 rfl hszl.out) hH0 ?_
  try simp only [Act.put, List.setIfInBounds_toArray, List.set_cons_zero, List.set_cons_succ]
  refine wpAnyH_take (i := 1) (oi := ⟨some 21, _, _, _, _, _⟩) (v := .pointer (some ⟨w.heap.size, 2, none⟩)) rfl (by kernel_rfl) (by kernel_rfl) (by kernel_rfl) (fun _ _ _ h => h) (Or.inl ⟨by rfl, by intro w hSw; (try dsimp only at hSw); obtain ⟨z0, z1, z2, z3⟩ := hSw.d.cells; have za := hSw.m.mr.ca; unfold U.bv at za; go_simp⟩) hH0 ?_
  try simp only [Act.put, List.setIfInBounds_toArray, List.set_cons_zero, List.set_cons_succ]
  refine wpAnyH_take (i := 2) (oi := ⟨some 22, _, _, _, _, _⟩) (v := .int .i64 s) rfl (by kernel_rfl) (by kernel_rfl) (by kernel_rfl) (fun _ _ _ h => h) (Or.inl ⟨by rfl, by intro w hSw; (try dsimp only at hSw); obtain ⟨z0, z1, z2, z3⟩ := hSw.d.cells; have za := hSw.m.mr.ca; unfold U.bv at za; go_simp⟩) hH0 ?_
  try simp only [Act.put, List.setIfInBounds_toArray, List.set_cons_zero, List.set_cons_succ]
  refine wpAnyH_take (i := 3) (oi := ⟨some 23, _, _, _, _, _⟩) (v := .pointer (some ⟨w.heap.size, 3, none⟩)) rfl (by kernel_rfl) (by kernel_rfl) (by kernel_rfl) (fun _ _ _ h => h) (Or.inl ⟨by rfl, by intro w hSw; (try dsimp only at hSw); obtain ⟨z0, z1, z2, z3⟩ := hSw.d.cells; have za := hSw.m.mr.ca; unfold U.bv at za; go_simp⟩) hH0 ?_
  try simp only [Act.put, List.setIfInBounds_toArray, List.set_cons_zero, List.set_cons_succ]
  refine wpAnyH_take (i := 4) (oi := ⟨some 24, _, _, _, _, _⟩) (v := .int .i64 n) rfl (by kernel_rfl) (by kernel_rfl) (by kernel_rfl) (fun _ _ _ h => h) (Or.inl ⟨by rfl, by intro w hSw; (try dsimp only at hSw); obtain ⟨z0, z1, z2, z3⟩ := hSw.d.cells; have za := hSw.m.mr.ca; unfold U.bv at za; go_simp⟩) hH0 ?_
  try simp only [Act.put, List.setIfInBounds_toArray, List.set_cons_zero, List.set_cons_succ]
  refine wpAnyH_take (i := 6) (oi := ⟨some 26, _, _, _, _, _⟩) (v := .agg L1.toArray) rfl (by kernel_rfl) (by kernel_rfl) (by kernel_rfl) (fun _ _ _ h => h) (yieldsIf_load_mid (by rfl) 30 (.tmp 5) rfl g 0 rfl L1 _ (fun w hSw => HRG.out _ hSw) Try.underlying30 rfl hszl.out) hH0 ?_
  try simp only [Act.put, List.setIfInBounds_toArray, List.set_cons_zero, List.set_cons_succ]
  refine wpAnyH_take (i := 7) (oi := ⟨some 27, _, _, _, _, _⟩) (v := .pointer (some ⟨w.heap.size, 1, none⟩)) rfl (by kernel_rfl) (by kernel_rfl) (by kernel_rfl) (fun _ _ _ h => h) (Or.inl ⟨by rfl, by intro w hSw; (try dsimp only at hSw); obtain ⟨z0, z1, z2, z3⟩ := hSw.d.cells; have za := hSw.m.mr.ca; unfold U.bv at za; go_simp⟩) hH0 ?_
  try simp only [Act.put, List.setIfInBounds_toArray, List.set_cons_zero, List.set_cons_succ]
  refine wpAnyH_take (i := 8) (oi := ⟨some 28, _, _, _, _, _⟩) (v := .int .i64 d) rfl (by kernel_rfl) (by kernel_rfl) (by kernel_rfl) (fun _ _ _ h => h) (Or.inl ⟨by rfl, by intro w hSw; (try dsimp only at hSw); obtain ⟨z0, z1, z2, z3⟩ := hSw.d.cells; have za := hSw.m.mr.ca; unfold U.bv at za; go_simp⟩) hH0 ?_
  try simp only [Act.put, List.setIfInBounds_toArray, List.set_cons_zero, List.set_cons_succ]
  refine wpAnyH_take (i := 9) (oi := ⟨some 29, _, _, _, _, _⟩) (v := .pointer (some ⟨w.heap.size, 3, none⟩)) rfl (by kernel_rfl) (by kernel_rfl) (by kernel_rfl) (fun _ _ _ h => h) (Or.inl ⟨by rfl, by intro w hSw; (try dsimp only at hSw); obtain ⟨z0, z1, z2, z3⟩ := hSw.d.cells; have za := hSw.m.mr.ca; unfold U.bv at za; go_simp⟩) hH0 ?_
  try simp only [Act.put, List.setIfInBounds_toArray, List.set_cons_zero, List.set_cons_succ]
  refine wpAnyH_take (i := 10) (oi := ⟨some 30, _, _, _, _, _⟩) (v := .int .i64 n) rfl (by kernel_rfl) (by kernel_rfl) (by kernel_rfl) (fun _ _ _ h => h) (Or.inl ⟨by rfl, by intro w hSw; (try dsimp only at hSw); obtain ⟨z0, z1, z2, z3⟩ := hSw.d.cells; have za := hSw.m.mr.ca; unfold U.bv at za; go_simp⟩) hH0 ?_
  try simp only [Act.put, List.setIfInBounds_toArray, List.set_cons_zero, List.set_cons_succ]
  refine wpAnyH_ready (rs := [5]) (by kernel_rfl) (by simp) (AllReadyH.cons rfl (fun K hK => ?_) AllReadyH.nil)
  go_simp
  refine (HAs.out _ hH0).mono ?_
  rintro e W7 ⟨rfl, H7⟩
  refine hK.out _ _ H7.out (fun hH1 => ?_)
  clear hK K
  try simp only [Act.put, List.setIfInBounds_toArray, List.set_cons_zero, List.set_cons_succ]
  refine wpAnyH_ready (rs := [11]) (by kernel_rfl) (by simp) (AllReadyH.cons rfl (fun K hK => ?_) AllReadyH.nil)
  go_simp
  refine (HAd.out _ hH1).mono ?_
  rintro e W8 ⟨rfl, H8⟩
  refine hK.out _ _ H8.out (fun hH2 => ?_)
  clear hK K
  try simp only [Act.put, List.setIfInBounds_toArray, List.set_cons_zero, List.set_cons_succ]
  refine wpAnyH_take (i := 12) (oi := ⟨some 6, _, _, _, _, _⟩) (v := .int .u32 zs) rfl (by kernel_rfl) (by kernel_rfl) (by kernel_rfl) (fun _ _ _ h => h) (Or.inl ⟨by rfl, by intro w hSw; (try dsimp only at hSw); obtain ⟨z0, z1, z2, z3⟩ := hSw.d.cells; have za := hSw.m.mr.ca; unfold U.bv at za; go_simp⟩) hH2 ?_
  try simp only [Act.put, List.setIfInBounds_toArray, List.set_cons_zero, List.set_cons_succ]
  refine wpAnyH_take (i := 13) (oi := ⟨some 7, _, _, _, _, _⟩) (v := .int .u32 zd) rfl (by kernel_rfl) (by kernel_rfl) (by kernel_rfl) (fun _ _ _ h => h) (Or.inl ⟨by rfl, by intro w hSw; (try dsimp only at hSw); obtain ⟨z0, z1, z2, z3⟩ := hSw.d.cells; have za := hSw.m.mr.ca; unfold U.bv at za; go_simp⟩) hH2 ?_
  try simp only [Act.put, List.setIfInBounds_toArray, List.set_cons_zero, List.set_cons_succ]
  refine wpAnyH_done (by kernel_rfl) ?_ _
  clear HRG HAs HAd H6 H7 hH0 hH1 hH2
  obtain ⟨c0, c1, c2, c3⟩ := H8.out.d.cells
  replace ho1 := ho1.out
  subst ho1
  have HP := hid (H8.out.put hk d (u32 n) (n % 4294967296) (u32_nat n))
  go_upto_region 33 with (go_at_call 30; refine HP.out.mono ?_; rintro r W9 ⟨rfl, H9⟩)
  obtain ⟨L5, hL5⟩ : ∃ L5, mcL (putM x d (u32 n)) (.slice (some ⟨hb, 0, none⟩) nH dH) (.slice (some ⟨mb, 0, none⟩) nM dM) = L5 := ⟨_, rfl⟩
  have T := hid (H9.out.fin L5 hL5)
  replace hL5 := hid hL5
  go_wp2_with (first
    | (refine wpList_load_row rfl 30 (.tmp 5) rfl g rfl 30 L5.toArray (0, 0) _ T.out.1 Try.underlying30 rfl T.out.2.1 ?_)
    | (refine wpList_store_row (o := ⟨none, .store 30 (.tmp 4) (.tmp 171), _, _, _, _⟩) rfl 30 (.tmp 4) (.tmp 171) rfl (w.heap.size + 1 + 1) L5.toArray rfl rfl 30 zL.toArray T.out.2.2.1 T.out.2.1 T.out.2.2.2.1 T.out.2.2.2.2.1 ?_))
  refine bodyPost_ret (results_cell_row (by kernel_rfl : Try.f12.results = #[.cell 4 30]) _ _ (w.heap.size + 1 + 1) 30 L5.toArray (0, 0) _ rfl T.out.2.2.2.2.2.1 Try.underlying30 rfl T.out.2.1) rfl ?_
  rw [HE.out, if_pos ⟨by omega, hi, hk⟩]
  exact T.out.2.2.2.2.2.2
set_option maxRecDepth 10000 in
set_option maxHeartbeats 32000000 in
theorem rdo_3 (w : World) (x : Mn) (o d s n : Int) (ho : 0 ≤ o) (AH AM : Option Addr) (nH cH nM cM : Nat) (h : U.IsBB w w.heap.size AH nH cH x.h) (hm : IsBB w w.heap.size AM nM cM x.m) (h1 : nH ≤ 5000) (h2 : nM ≤ 5000) (hk : x.ok) (hi : okI o d s n) (ho1 : o = 3) :
    Calls Try.prog 12 #[vI o d s n, vM x (.slice AH nH cH) (.slice AM nM cM)] w (DoPost w (doneM o d s n x) nH nM) := by
  replace ho1 := hid ho1
  have zv := zero30
  have zl : zL.length = 263 := mc_len _ _ _
  have H0 := hid (Do3.start w (mcL x (.slice AH nH cH) (.slice AM nM cM)) o d s n)
  have HCM := hid (fun W (hw : Do3 w W (mcL x (.slice AH nH cH) (.slice AM nM cM)) o d s n) => CopyMachine_any W x AH AM nH cH nM cM (h.on hw.two.bel) (hm.on hw.two.bel) (by omega) (by omega))
  have HR := hid (RefRight_any o d s n ho)
  have HE : Hid (doneM o d s n x = if (1 ≤ o ∧ o ≤ 25) ∧ okI o d s n ∧ x.ok then doM o d s n x else x) := rfl
  have HZ := hid (mc_size x (.slice AH nH cH) (.slice AM nM cM))
  clear h hm
  unfold vM at HCM ⊢
  unfold vI at HR ⊢
  generalize hL : mcL x (.slice AH nH cH) (.slice AM nM cM) = L at *
  replace hL := hid hL
  have hsz := hid (size30 L.toArray HZ.out)
  go_enter Try.func12, Try.ntmps12
  go_upto_region 1 with fail
  have HS0 : Hid ((((w.alloc (.cells #[.int .u8 o, .int .i64 d, .int .i64 s, .int .i64 n] 24)).alloc (.cells L.toArray 30)).alloc (.cells zL.toArray 30)).heap.size = w.heap.size + 3) := hid (by simp)
  generalize (((w.alloc _).alloc (.cells L.toArray 30)).alloc (.cells zL.toArray 30)) = W0 at *
  have HA0 := hid (HCM.out W0 H0.out)
  go_upto_region 2 with (first
    | (refine wpList_load_row rfl 30 (.tmp 3) rfl (w.heap.size + 1) rfl 30 L.toArray (0, 0) _ H0.out.two.one Try.underlying30 rfl hsz.out ?_)
    | (go_at_call 7; refine HA0.out.mono ?_; rintro r W1 ⟨BH, dH, BM, dM, rfl, o1, o2, b1⟩; have O1 := hid o1; have O2 := hid o2; have B1 := hid b1; clear o1 o2 b1; obtain ⟨L1, hL1⟩ : ∃ L1, mcL x (.slice BH nH dH) (.slice BM nM dM) = L1 := ⟨_, rfl⟩; have E1 := hid (show (Try.prog.info? 30).map (·.size) = some L1.toArray.size ∧ zL.toArray.size = L1.toArray.size ∧ L1.toArray.all (·.oneCell') = true by rw [← hL1]; exact ⟨size30 _ (mc_size _ _ _), by rw [mc_size]; exact mc_size _ _ _, mc_one _ _ _ _ _ _ _⟩); rw [hL1]; replace hL1 := hid hL1)
    | (refine wpList_store_row (o := ⟨none, .store 30 (.tmp 5) (.tmp 10), _, _, _, _⟩) rfl 30 (.tmp 5) (.tmp 10) rfl W1.heap.size L1.toArray rfl rfl 30 zL.toArray (heap_alloc_new W1 _) E1.out.1 E1.out.2.1 E1.out.2.2 ?_))
  change Code.wp _ _ _ _ (Stw W1 L1)
  have H2 := hid (RDo.start H0.out HS0.out B1.out L1)
  have O3 : Hid ((Stw W1 L1).ownsRow (w.heap.size + 3) 25 1 (.slice BH nH dH) nH (x.h.map U.bv)) := hid (by have := own_below O1.out (Stw.bel W1 L1); rw [HS0.out] at this; exact this)
  have O4 : Hid ((Stw W1 L1).ownsRow (w.heap.size + 3) 5 1 (.slice BM nM dM) nM (x.m.map bv)) := hid (by have := own_below O2.out (Stw.bel W1 L1); rw [HS0.out] at this; exact this)
  clear O1 O2 B1 HA0 HCM H0 HS0 hL hsz HZ
  generalize Stw W1 L1 = W2 at *
  generalize W1.heap.size = g at *
  have HM := hid (rd_right H2.out O3.out O4.out h1 h2)
  unfold vM at HM
  rw [hL1.out] at HM
  obtain ⟨c0, c1, c2, c3⟩ := H2.out.cells
  rw [decide_eq_true hk] at HM
  rw [show rightE o d s n = 0 from if_pos hi] at HR
  go_upto_region 4 with (first
    | (refine BigFrame.wpList_want (o := ⟨some 11, .load 30 (.tmp 5), _, _, _, _⟩) (by rfl) (fun _ hK => wp_load_row 30 (.tmp 5) rfl g rfl 30 L1.toArray (0, 0) _ H2.out.row Try.underlying30 rfl E1.out.1 (hK _ _ ?_)))
    | (go_at_call 27; refine HM.out.mono ?_; rintro r W3 ⟨rfl, H3, P1, P2⟩; obtain ⟨c0, c1, c2, c3⟩ := H3.out.cells)
    | (go_at_call 28; refine (HR.out _).mono ?_; rintro r W4 ⟨rfl, b4⟩; have B4 := hid b4; clear b4))
  have hrm := rm_of (x := x) (by have := H3.out.below B4.out; rw [← hL1.out] at this; exact this) (own_below P1.out B4.out) (own_below P2.out B4.out) hk h1 h2
  obtain ⟨hb, mb, rfl, rfl, hrm⟩ := hrm
  have H6 := hid hrm
  clear hrm HM HR H2 O3 O4 H3 P1 P2 B4
  have HRG := hid (fun W (H : RM w W g hb mb nH dH nM dM x o d s n) => H.range L1 hL1.out)
  have hszl := hid (show (Try.prog.info? 30).map (·.size) = some L1.length by rw [← hL1.out]; exact size30 _ (mc_size _ _ _))
  obtain ⟨zs, hzs⟩ : ∃ z : Int, ((atM x s n).toNat : Int) = z := ⟨_, rfl⟩
  obtain ⟨zd, hzd⟩ : ∃ z : Int, ((atM x d n).toNat : Int) = z := ⟨_, rfl⟩
  have HAT := hid (fun W (H : RM w W g hb mb nH dH nM dM x o d s n) p q => H.at hk p q)
  unfold vM at HAT
  rw [hL1.out] at HAT
  have HAs : Hid (∀ W, RM w W g hb mb nH dH nM dM x o d s n → Calls Try.prog 29 #[.agg L1.toArray, .int .i64 s, .int .i64 n] W fun e w' => e = .returned (.int .u32 zs) ∧ Hid (RM w w' g hb mb nH dH nM dM x o d s n)) := hid (by rw [← hzs]; exact fun W H => HAT.out W H s n)
  have HAd : Hid (∀ W, RM w W g hb mb nH dH nM dM x o d s n → Calls Try.prog 29 #[.agg L1.toArray, .int .i64 d, .int .i64 n] W fun e w' => e = .returned (.int .u32 zd) ∧ Hid (RM w w' g hb mb nH dH nM dM x o d s n)) := hid (by rw [← hzd]; exact fun W H => HAT.out W H d n)
  replace hzs := hid hzs
  replace hzd := hid hzd
  refine wp_region_held_drew (S := (fun w' => RM w w' g hb mb nH dH nM dM x o d s n)) (by kernel_rfl) H6.out.drew (fun hH0 => ?_)
  refine wpAnyH_take (i := 0) (oi := ⟨some 20, _, _, _, _, _⟩) (v := .agg L1.toArray) rfl (by kernel_rfl) (by kernel_rfl) (by kernel_rfl) (fun _ _ _ h => h) (yieldsIf_load_mid (by rfl) 30 (.tmp 5) rfl g 0 rfl L1 _ (fun w hSw => HRG.out _ hSw) Try.underlying30 rfl hszl.out) hH0 ?_
  try simp only [Act.put, List.setIfInBounds_toArray, List.set_cons_zero, List.set_cons_succ]
  refine wpAnyH_take (i := 1) (oi := ⟨some 21, _, _, _, _, _⟩) (v := .pointer (some ⟨w.heap.size, 2, none⟩)) rfl (by kernel_rfl) (by kernel_rfl) (by kernel_rfl) (fun _ _ _ h => h) (Or.inl ⟨by rfl, by intro w hSw; (try dsimp only at hSw); obtain ⟨z0, z1, z2, z3⟩ := hSw.d.cells; have za := hSw.m.mr.ca; unfold U.bv at za; go_simp⟩) hH0 ?_
  try simp only [Act.put, List.setIfInBounds_toArray, List.set_cons_zero, List.set_cons_succ]
  refine wpAnyH_take (i := 2) (oi := ⟨some 22, _, _, _, _, _⟩) (v := .int .i64 s) rfl (by kernel_rfl) (by kernel_rfl) (by kernel_rfl) (fun _ _ _ h => h) (Or.inl ⟨by rfl, by intro w hSw; (try dsimp only at hSw); obtain ⟨z0, z1, z2, z3⟩ := hSw.d.cells; have za := hSw.m.mr.ca; unfold U.bv at za; go_simp⟩) hH0 ?_
  try simp only [Act.put, List.setIfInBounds_toArray, List.set_cons_zero, List.set_cons_succ]
  refine wpAnyH_take (i := 3) (oi := ⟨some 23, _, _, _, _, _⟩) (v := .pointer (some ⟨w.heap.size, 3, none⟩)) rfl (by kernel_rfl) (by kernel_rfl) (by kernel_rfl) (fun _ _ _ h => h) (Or.inl ⟨by rfl, by intro w hSw; (try dsimp only at hSw); obtain ⟨z0, z1, z2, z3⟩ := hSw.d.cells; have za := hSw.m.mr.ca; unfold U.bv at za; go_simp⟩) hH0 ?_
  try simp only [Act.put, List.setIfInBounds_toArray, List.set_cons_zero, List.set_cons_succ]
  refine wpAnyH_take (i := 4) (oi := ⟨some 24, _, _, _, _, _⟩) (v := .int .i64 n) rfl (by kernel_rfl) (by kernel_rfl) (by kernel_rfl) (fun _ _ _ h => h) (Or.inl ⟨by rfl, by intro w hSw; (try dsimp only at hSw); obtain ⟨z0, z1, z2, z3⟩ := hSw.d.cells; have za := hSw.m.mr.ca; unfold U.bv at za; go_simp⟩) hH0 ?_
  try simp only [Act.put, List.setIfInBounds_toArray, List.set_cons_zero, List.set_cons_succ]
  refine wpAnyH_take (i := 6) (oi := ⟨some 26, _, _, _, _, _⟩) (v := .agg L1.toArray) rfl (by kernel_rfl) (by kernel_rfl) (by kernel_rfl) (fun _ _ _ h => h) (yieldsIf_load_mid (by rfl) 30 (.tmp 5) rfl g 0 rfl L1 _ (fun w hSw => HRG.out _ hSw) Try.underlying30 rfl hszl.out) hH0 ?_
  try simp only [Act.put, List.setIfInBounds_toArray, List.set_cons_zero, List.set_cons_succ]
  refine wpAnyH_take (i := 7) (oi := ⟨some 27, _, _, _, _, _⟩) (v := .pointer (some ⟨w.heap.size, 1, none⟩)) rfl (by kernel_rfl) (by kernel_rfl) (by kernel_rfl) (fun _ _ _ h => h) (Or.inl ⟨by rfl, by intro w hSw; (try dsimp only at hSw); obtain ⟨z0, z1, z2, z3⟩ := hSw.d.cells; have za := hSw.m.mr.ca; unfold U.bv at za; go_simp⟩) hH0 ?_
  try simp only [Act.put, List.setIfInBounds_toArray, List.set_cons_zero, List.set_cons_succ]
  refine wpAnyH_take (i := 8) (oi := ⟨some 28, _, _, _, _, _⟩) (v := .int .i64 d) rfl (by kernel_rfl) (by kernel_rfl) (by kernel_rfl) (fun _ _ _ h => h) (Or.inl ⟨by rfl, by intro w hSw; (try dsimp only at hSw); obtain ⟨z0, z1, z2, z3⟩ := hSw.d.cells; have za := hSw.m.mr.ca; unfold U.bv at za; go_simp⟩) hH0 ?_
  try simp only [Act.put, List.setIfInBounds_toArray, List.set_cons_zero, List.set_cons_succ]
  refine wpAnyH_take (i := 9) (oi := ⟨some 29, _, _, _, _, _⟩) (v := .pointer (some ⟨w.heap.size, 3, none⟩)) rfl (by kernel_rfl) (by kernel_rfl) (by kernel_rfl) (fun _ _ _ h => h) (Or.inl ⟨by rfl, by intro w hSw; (try dsimp only at hSw); obtain ⟨z0, z1, z2, z3⟩ := hSw.d.cells; have za := hSw.m.mr.ca; unfold U.bv at za; go_simp⟩) hH0 ?_
  try simp only [Act.put, List.setIfInBounds_toArray, List.set_cons_zero, List.set_cons_succ]
  refine wpAnyH_take (i := 10) (oi := ⟨some 30, _, _, _, _, _⟩) (v := .int .i64 n) rfl (by kernel_rfl) (by kernel_rfl) (by kernel_rfl) (fun _ _ _ h => h) (Or.inl ⟨by rfl, by intro w hSw; (try dsimp only at hSw); obtain ⟨z0, z1, z2, z3⟩ := hSw.d.cells; have za := hSw.m.mr.ca; unfold U.bv at za; go_simp⟩) hH0 ?_
  try simp only [Act.put, List.setIfInBounds_toArray, List.set_cons_zero, List.set_cons_succ]
  refine wpAnyH_ready (rs := [5]) (by kernel_rfl) (by simp) (AllReadyH.cons rfl (fun K hK => ?_) AllReadyH.nil)
  go_simp
  refine (HAs.out _ hH0).mono ?_
  rintro e W7 ⟨rfl, H7⟩
  refine hK.out _ _ H7.out (fun hH1 => ?_)
  clear hK K
  try simp only [Act.put, List.setIfInBounds_toArray, List.set_cons_zero, List.set_cons_succ]
  refine wpAnyH_ready (rs := [11]) (by kernel_rfl) (by simp) (AllReadyH.cons rfl (fun K hK => ?_) AllReadyH.nil)
  go_simp
  refine (HAd.out _ hH1).mono ?_
  rintro e W8 ⟨rfl, H8⟩
  refine hK.out _ _ H8.out (fun hH2 => ?_)
  clear hK K
  try simp only [Act.put, List.setIfInBounds_toArray, List.set_cons_zero, List.set_cons_succ]
  refine wpAnyH_take (i := 12) (oi := ⟨some 6, _, _, _, _, _⟩) (v := .int .u32 zs) rfl (by kernel_rfl) (by kernel_rfl) (by kernel_rfl) (fun _ _ _ h => h) (Or.inl ⟨by rfl, by intro w hSw; (try dsimp only at hSw); obtain ⟨z0, z1, z2, z3⟩ := hSw.d.cells; have za := hSw.m.mr.ca; unfold U.bv at za; go_simp⟩) hH2 ?_
  try simp only [Act.put, List.setIfInBounds_toArray, List.set_cons_zero, List.set_cons_succ]
  refine wpAnyH_take (i := 13) (oi := ⟨some 7, _, _, _, _, _⟩) (v := .int .u32 zd) rfl (by kernel_rfl) (by kernel_rfl) (by kernel_rfl) (fun _ _ _ h => h) (Or.inl ⟨by rfl, by intro w hSw; (try dsimp only at hSw); obtain ⟨z0, z1, z2, z3⟩ := hSw.d.cells; have za := hSw.m.mr.ca; unfold U.bv at za; go_simp⟩) hH2 ?_
  try simp only [Act.put, List.setIfInBounds_toArray, List.set_cons_zero, List.set_cons_succ]
  refine wpAnyH_done (by kernel_rfl) ?_ _
  clear HRG HAs HAd H6 H7 hH0 hH1 hH2
  obtain ⟨c0, c1, c2, c3⟩ := H8.out.d.cells
  replace ho1 := ho1.out
  subst ho1
  have HP := hid (H8.out.put hk d (atM x d n + 1) ((zd + 1) % 4294967296) (by rw [← hzd.out]; exact inc_eq _))
  go_upto_region 33 with (go_at_call 30; refine HP.out.mono ?_; rintro r W9 ⟨rfl, H9⟩)
  obtain ⟨L5, hL5⟩ : ∃ L5, mcL (putM x d (atM x d n + 1)) (.slice (some ⟨hb, 0, none⟩) nH dH) (.slice (some ⟨mb, 0, none⟩) nM dM) = L5 := ⟨_, rfl⟩
  have T := hid (H9.out.fin L5 hL5)
  replace hL5 := hid hL5
  go_wp2_with (first
    | (refine wpList_load_row rfl 30 (.tmp 5) rfl g rfl 30 L5.toArray (0, 0) _ T.out.1 Try.underlying30 rfl T.out.2.1 ?_)
    | (refine wpList_store_row (o := ⟨none, .store 30 (.tmp 4) (.tmp 171), _, _, _, _⟩) rfl 30 (.tmp 4) (.tmp 171) rfl (w.heap.size + 1 + 1) L5.toArray rfl rfl 30 zL.toArray T.out.2.2.1 T.out.2.1 T.out.2.2.2.1 T.out.2.2.2.2.1 ?_))
  refine bodyPost_ret (results_cell_row (by kernel_rfl : Try.f12.results = #[.cell 4 30]) _ _ (w.heap.size + 1 + 1) 30 L5.toArray (0, 0) _ rfl T.out.2.2.2.2.2.1 Try.underlying30 rfl T.out.2.1) rfl ?_
  rw [HE.out, if_pos ⟨by omega, hi, hk⟩]
  exact T.out.2.2.2.2.2.2
set_option maxRecDepth 10000 in
set_option maxHeartbeats 32000000 in
theorem rdo_4 (w : World) (x : Mn) (o d s n : Int) (ho : 0 ≤ o) (AH AM : Option Addr) (nH cH nM cM : Nat) (h : U.IsBB w w.heap.size AH nH cH x.h) (hm : IsBB w w.heap.size AM nM cM x.m) (h1 : nH ≤ 5000) (h2 : nM ≤ 5000) (hk : x.ok) (hi : okI o d s n) (ho1 : o = 4) :
    Calls Try.prog 12 #[vI o d s n, vM x (.slice AH nH cH) (.slice AM nM cM)] w (DoPost w (doneM o d s n x) nH nM) := by
  replace ho1 := hid ho1
  have zv := zero30
  have zl : zL.length = 263 := mc_len _ _ _
  have H0 := hid (Do3.start w (mcL x (.slice AH nH cH) (.slice AM nM cM)) o d s n)
  have HCM := hid (fun W (hw : Do3 w W (mcL x (.slice AH nH cH) (.slice AM nM cM)) o d s n) => CopyMachine_any W x AH AM nH cH nM cM (h.on hw.two.bel) (hm.on hw.two.bel) (by omega) (by omega))
  have HR := hid (RefRight_any o d s n ho)
  have HE : Hid (doneM o d s n x = if (1 ≤ o ∧ o ≤ 25) ∧ okI o d s n ∧ x.ok then doM o d s n x else x) := rfl
  have HZ := hid (mc_size x (.slice AH nH cH) (.slice AM nM cM))
  clear h hm
  unfold vM at HCM ⊢
  unfold vI at HR ⊢
  generalize hL : mcL x (.slice AH nH cH) (.slice AM nM cM) = L at *
  replace hL := hid hL
  have hsz := hid (size30 L.toArray HZ.out)
  go_enter Try.func12, Try.ntmps12
  go_upto_region 1 with fail
  have HS0 : Hid ((((w.alloc (.cells #[.int .u8 o, .int .i64 d, .int .i64 s, .int .i64 n] 24)).alloc (.cells L.toArray 30)).alloc (.cells zL.toArray 30)).heap.size = w.heap.size + 3) := hid (by simp)
  generalize (((w.alloc _).alloc (.cells L.toArray 30)).alloc (.cells zL.toArray 30)) = W0 at *
  have HA0 := hid (HCM.out W0 H0.out)
  go_upto_region 2 with (first
    | (refine wpList_load_row rfl 30 (.tmp 3) rfl (w.heap.size + 1) rfl 30 L.toArray (0, 0) _ H0.out.two.one Try.underlying30 rfl hsz.out ?_)
    | (go_at_call 7; refine HA0.out.mono ?_; rintro r W1 ⟨BH, dH, BM, dM, rfl, o1, o2, b1⟩; have O1 := hid o1; have O2 := hid o2; have B1 := hid b1; clear o1 o2 b1; obtain ⟨L1, hL1⟩ : ∃ L1, mcL x (.slice BH nH dH) (.slice BM nM dM) = L1 := ⟨_, rfl⟩; have E1 := hid (show (Try.prog.info? 30).map (·.size) = some L1.toArray.size ∧ zL.toArray.size = L1.toArray.size ∧ L1.toArray.all (·.oneCell') = true by rw [← hL1]; exact ⟨size30 _ (mc_size _ _ _), by rw [mc_size]; exact mc_size _ _ _, mc_one _ _ _ _ _ _ _⟩); rw [hL1]; replace hL1 := hid hL1)
    | (refine wpList_store_row (o := ⟨none, .store 30 (.tmp 5) (.tmp 10), _, _, _, _⟩) rfl 30 (.tmp 5) (.tmp 10) rfl W1.heap.size L1.toArray rfl rfl 30 zL.toArray (heap_alloc_new W1 _) E1.out.1 E1.out.2.1 E1.out.2.2 ?_))
  change Code.wp _ _ _ _ (Stw W1 L1)
  have H2 := hid (RDo.start H0.out HS0.out B1.out L1)
  have O3 : Hid ((Stw W1 L1).ownsRow (w.heap.size + 3) 25 1 (.slice BH nH dH) nH (x.h.map U.bv)) := hid (by have := own_below O1.out (Stw.bel W1 L1); rw [HS0.out] at this; exact this)
  have O4 : Hid ((Stw W1 L1).ownsRow (w.heap.size + 3) 5 1 (.slice BM nM dM) nM (x.m.map bv)) := hid (by have := own_below O2.out (Stw.bel W1 L1); rw [HS0.out] at this; exact this)
  clear O1 O2 B1 HA0 HCM H0 HS0 hL hsz HZ
  generalize Stw W1 L1 = W2 at *
  generalize W1.heap.size = g at *
  have HM := hid (rd_right H2.out O3.out O4.out h1 h2)
  unfold vM at HM
  rw [hL1.out] at HM
  obtain ⟨c0, c1, c2, c3⟩ := H2.out.cells
  rw [decide_eq_true hk] at HM
  rw [show rightE o d s n = 0 from if_pos hi] at HR
  go_upto_region 4 with (first
    | (refine BigFrame.wpList_want (o := ⟨some 11, .load 30 (.tmp 5), _, _, _, _⟩) (by rfl) (fun _ hK => wp_load_row 30 (.tmp 5) rfl g rfl 30 L1.toArray (0, 0) _ H2.out.row Try.underlying30 rfl E1.out.1 (hK _ _ ?_)))
    | (go_at_call 27; refine HM.out.mono ?_; rintro r W3 ⟨rfl, H3, P1, P2⟩; obtain ⟨c0, c1, c2, c3⟩ := H3.out.cells)
    | (go_at_call 28; refine (HR.out _).mono ?_; rintro r W4 ⟨rfl, b4⟩; have B4 := hid b4; clear b4))
  have hrm := rm_of (x := x) (by have := H3.out.below B4.out; rw [← hL1.out] at this; exact this) (own_below P1.out B4.out) (own_below P2.out B4.out) hk h1 h2
  obtain ⟨hb, mb, rfl, rfl, hrm⟩ := hrm
  have H6 := hid hrm
  clear hrm HM HR H2 O3 O4 H3 P1 P2 B4
  have HRG := hid (fun W (H : RM w W g hb mb nH dH nM dM x o d s n) => H.range L1 hL1.out)
  have hszl := hid (show (Try.prog.info? 30).map (·.size) = some L1.length by rw [← hL1.out]; exact size30 _ (mc_size _ _ _))
  obtain ⟨zs, hzs⟩ : ∃ z : Int, ((atM x s n).toNat : Int) = z := ⟨_, rfl⟩
  obtain ⟨zd, hzd⟩ : ∃ z : Int, ((atM x d n).toNat : Int) = z := ⟨_, rfl⟩
  have HAT := hid (fun W (H : RM w W g hb mb nH dH nM dM x o d s n) p q => H.at hk p q)
  unfold vM at HAT
  rw [hL1.out] at HAT
  have HAs : Hid (∀ W, RM w W g hb mb nH dH nM dM x o d s n → Calls Try.prog 29 #[.agg L1.toArray, .int .i64 s, .int .i64 n] W fun e w' => e = .returned (.int .u32 zs) ∧ Hid (RM w w' g hb mb nH dH nM dM x o d s n)) := hid (by rw [← hzs]; exact fun W H => HAT.out W H s n)
  have HAd : Hid (∀ W, RM w W g hb mb nH dH nM dM x o d s n → Calls Try.prog 29 #[.agg L1.toArray, .int .i64 d, .int .i64 n] W fun e w' => e = .returned (.int .u32 zd) ∧ Hid (RM w w' g hb mb nH dH nM dM x o d s n)) := hid (by rw [← hzd]; exact fun W H => HAT.out W H d n)
  replace hzs := hid hzs
  replace hzd := hid hzd
  refine wp_region_held_drew (S := (fun w' => RM w w' g hb mb nH dH nM dM x o d s n)) (by kernel_rfl) H6.out.drew (fun hH0 => ?_)
  refine wpAnyH_take (i := 0) (oi := ⟨some 20, _, _, _, _, _⟩) (v := .agg L1.toArray) rfl (by kernel_rfl) (by kernel_rfl) (by kernel_rfl) (fun _ _ _ h => h) (yieldsIf_load_mid (by rfl) 30 (.tmp 5) rfl g 0 rfl L1 _ (fun w hSw => HRG.out _ hSw) Try.underlying30 rfl hszl.out) hH0 ?_
  try simp only [Act.put, List.setIfInBounds_toArray, List.set_cons_zero, List.set_cons_succ]
  refine wpAnyH_take (i := 1) (oi := ⟨some 21, _, _, _, _, _⟩) (v := .pointer (some ⟨w.heap.size, 2, none⟩)) rfl (by kernel_rfl) (by kernel_rfl) (by kernel_rfl) (fun _ _ _ h => h) (Or.inl ⟨by rfl, by intro w hSw; (try dsimp only at hSw); obtain ⟨z0, z1, z2, z3⟩ := hSw.d.cells; have za := hSw.m.mr.ca; unfold U.bv at za; go_simp⟩) hH0 ?_
  try simp only [Act.put, List.setIfInBounds_toArray, List.set_cons_zero, List.set_cons_succ]
  refine wpAnyH_take (i := 2) (oi := ⟨some 22, _, _, _, _, _⟩) (v := .int .i64 s) rfl (by kernel_rfl) (by kernel_rfl) (by kernel_rfl) (fun _ _ _ h => h) (Or.inl ⟨by rfl, by intro w hSw; (try dsimp only at hSw); obtain ⟨z0, z1, z2, z3⟩ := hSw.d.cells; have za := hSw.m.mr.ca; unfold U.bv at za; go_simp⟩) hH0 ?_
  try simp only [Act.put, List.setIfInBounds_toArray, List.set_cons_zero, List.set_cons_succ]
  refine wpAnyH_take (i := 3) (oi := ⟨some 23, _, _, _, _, _⟩) (v := .pointer (some ⟨w.heap.size, 3, none⟩)) rfl (by kernel_rfl) (by kernel_rfl) (by kernel_rfl) (fun _ _ _ h => h) (Or.inl ⟨by rfl, by intro w hSw; (try dsimp only at hSw); obtain ⟨z0, z1, z2, z3⟩ := hSw.d.cells; have za := hSw.m.mr.ca; unfold U.bv at za; go_simp⟩) hH0 ?_
  try simp only [Act.put, List.setIfInBounds_toArray, List.set_cons_zero, List.set_cons_succ]
  refine wpAnyH_take (i := 4) (oi := ⟨some 24, _, _, _, _, _⟩) (v := .int .i64 n) rfl (by kernel_rfl) (by kernel_rfl) (by kernel_rfl) (fun _ _ _ h => h) (Or.inl ⟨by rfl, by intro w hSw; (try dsimp only at hSw); obtain ⟨z0, z1, z2, z3⟩ := hSw.d.cells; have za := hSw.m.mr.ca; unfold U.bv at za; go_simp⟩) hH0 ?_
  try simp only [Act.put, List.setIfInBounds_toArray, List.set_cons_zero, List.set_cons_succ]
  refine wpAnyH_take (i := 6) (oi := ⟨some 26, _, _, _, _, _⟩) (v := .agg L1.toArray) rfl (by kernel_rfl) (by kernel_rfl) (by kernel_rfl) (fun _ _ _ h => h) (yieldsIf_load_mid (by rfl) 30 (.tmp 5) rfl g 0 rfl L1 _ (fun w hSw => HRG.out _ hSw) Try.underlying30 rfl hszl.out) hH0 ?_
  try simp only [Act.put, List.setIfInBounds_toArray, List.set_cons_zero, List.set_cons_succ]
  refine wpAnyH_take (i := 7) (oi := ⟨some 27, _, _, _, _, _⟩) (v := .pointer (some ⟨w.heap.size, 1, none⟩)) rfl (by kernel_rfl) (by kernel_rfl) (by kernel_rfl) (fun _ _ _ h => h) (Or.inl ⟨by rfl, by intro w hSw; (try dsimp only at hSw); obtain ⟨z0, z1, z2, z3⟩ := hSw.d.cells; have za := hSw.m.mr.ca; unfold U.bv at za; go_simp⟩) hH0 ?_
  try simp only [Act.put, List.setIfInBounds_toArray, List.set_cons_zero, List.set_cons_succ]
  refine wpAnyH_take (i := 8) (oi := ⟨some 28, _, _, _, _, _⟩) (v := .int .i64 d) rfl (by kernel_rfl) (by kernel_rfl) (by kernel_rfl) (fun _ _ _ h => h) (Or.inl ⟨by rfl, by intro w hSw; (try dsimp only at hSw); obtain ⟨z0, z1, z2, z3⟩ := hSw.d.cells; have za := hSw.m.mr.ca; unfold U.bv at za; go_simp⟩) hH0 ?_
  try simp only [Act.put, List.setIfInBounds_toArray, List.set_cons_zero, List.set_cons_succ]
  refine wpAnyH_take (i := 9) (oi := ⟨some 29, _, _, _, _, _⟩) (v := .pointer (some ⟨w.heap.size, 3, none⟩)) rfl (by kernel_rfl) (by kernel_rfl) (by kernel_rfl) (fun _ _ _ h => h) (Or.inl ⟨by rfl, by intro w hSw; (try dsimp only at hSw); obtain ⟨z0, z1, z2, z3⟩ := hSw.d.cells; have za := hSw.m.mr.ca; unfold U.bv at za; go_simp⟩) hH0 ?_
  try simp only [Act.put, List.setIfInBounds_toArray, List.set_cons_zero, List.set_cons_succ]
  refine wpAnyH_take (i := 10) (oi := ⟨some 30, _, _, _, _, _⟩) (v := .int .i64 n) rfl (by kernel_rfl) (by kernel_rfl) (by kernel_rfl) (fun _ _ _ h => h) (Or.inl ⟨by rfl, by intro w hSw; (try dsimp only at hSw); obtain ⟨z0, z1, z2, z3⟩ := hSw.d.cells; have za := hSw.m.mr.ca; unfold U.bv at za; go_simp⟩) hH0 ?_
  try simp only [Act.put, List.setIfInBounds_toArray, List.set_cons_zero, List.set_cons_succ]
  refine wpAnyH_ready (rs := [5]) (by kernel_rfl) (by simp) (AllReadyH.cons rfl (fun K hK => ?_) AllReadyH.nil)
  go_simp
  refine (HAs.out _ hH0).mono ?_
  rintro e W7 ⟨rfl, H7⟩
  refine hK.out _ _ H7.out (fun hH1 => ?_)
  clear hK K
  try simp only [Act.put, List.setIfInBounds_toArray, List.set_cons_zero, List.set_cons_succ]
  refine wpAnyH_ready (rs := [11]) (by kernel_rfl) (by simp) (AllReadyH.cons rfl (fun K hK => ?_) AllReadyH.nil)
  go_simp
  refine (HAd.out _ hH1).mono ?_
  rintro e W8 ⟨rfl, H8⟩
  refine hK.out _ _ H8.out (fun hH2 => ?_)
  clear hK K
  try simp only [Act.put, List.setIfInBounds_toArray, List.set_cons_zero, List.set_cons_succ]
  refine wpAnyH_take (i := 12) (oi := ⟨some 6, _, _, _, _, _⟩) (v := .int .u32 zs) rfl (by kernel_rfl) (by kernel_rfl) (by kernel_rfl) (fun _ _ _ h => h) (Or.inl ⟨by rfl, by intro w hSw; (try dsimp only at hSw); obtain ⟨z0, z1, z2, z3⟩ := hSw.d.cells; have za := hSw.m.mr.ca; unfold U.bv at za; go_simp⟩) hH2 ?_
  try simp only [Act.put, List.setIfInBounds_toArray, List.set_cons_zero, List.set_cons_succ]
  refine wpAnyH_take (i := 13) (oi := ⟨some 7, _, _, _, _, _⟩) (v := .int .u32 zd) rfl (by kernel_rfl) (by kernel_rfl) (by kernel_rfl) (fun _ _ _ h => h) (Or.inl ⟨by rfl, by intro w hSw; (try dsimp only at hSw); obtain ⟨z0, z1, z2, z3⟩ := hSw.d.cells; have za := hSw.m.mr.ca; unfold U.bv at za; go_simp⟩) hH2 ?_
  try simp only [Act.put, List.setIfInBounds_toArray, List.set_cons_zero, List.set_cons_succ]
  refine wpAnyH_done (by kernel_rfl) ?_ _
  clear HRG HAs HAd H6 H7 hH0 hH1 hH2
  obtain ⟨c0, c1, c2, c3⟩ := H8.out.d.cells
  replace ho1 := ho1.out
  subst ho1
  have HP := hid (H8.out.put hk d (atM x d n - 1) ((zd - 1) % 4294967296) (by rw [← hzd.out]; exact dec_eq _))
  go_upto_region 33 with (go_at_call 30; refine HP.out.mono ?_; rintro r W9 ⟨rfl, H9⟩)
  obtain ⟨L5, hL5⟩ : ∃ L5, mcL (putM x d (atM x d n - 1)) (.slice (some ⟨hb, 0, none⟩) nH dH) (.slice (some ⟨mb, 0, none⟩) nM dM) = L5 := ⟨_, rfl⟩
  have T := hid (H9.out.fin L5 hL5)
  replace hL5 := hid hL5
  go_wp2_with (first
    | (refine wpList_load_row rfl 30 (.tmp 5) rfl g rfl 30 L5.toArray (0, 0) _ T.out.1 Try.underlying30 rfl T.out.2.1 ?_)
    | (refine wpList_store_row (o := ⟨none, .store 30 (.tmp 4) (.tmp 171), _, _, _, _⟩) rfl 30 (.tmp 4) (.tmp 171) rfl (w.heap.size + 1 + 1) L5.toArray rfl rfl 30 zL.toArray T.out.2.2.1 T.out.2.1 T.out.2.2.2.1 T.out.2.2.2.2.1 ?_))
  refine bodyPost_ret (results_cell_row (by kernel_rfl : Try.f12.results = #[.cell 4 30]) _ _ (w.heap.size + 1 + 1) 30 L5.toArray (0, 0) _ rfl T.out.2.2.2.2.2.1 Try.underlying30 rfl T.out.2.1) rfl ?_
  rw [HE.out, if_pos ⟨by omega, hi, hk⟩]
  exact T.out.2.2.2.2.2.2
end Go.Proofs.Ytaogileaeflnfaa
/-
  The document's Do, some of its classes (written by tools/stage17/gen_vdg.py).
-/
set_option linter.unusedVariables false
set_option linter.unusedSimpArgs false
namespace Go.Proofs.Ytaogileaeflnfaa
open Go.RowKit

set_option maxRecDepth 10000 in
set_option maxHeartbeats 32000000 in
theorem rdo_5 (w : World) (x : Mn) (o d s n : Int) (ho : 0 ≤ o) (AH AM : Option Addr) (nH cH nM cM : Nat) (h : U.IsBB w w.heap.size AH nH cH x.h) (hm : IsBB w w.heap.size AM nM cM x.m) (h1 : nH ≤ 5000) (h2 : nM ≤ 5000) (hk : x.ok) (hi : okI o d s n) (ho1 : o = 5) :
    Calls Try.prog 12 #[vI o d s n, vM x (.slice AH nH cH) (.slice AM nM cM)] w (DoPost w (doneM o d s n x) nH nM) := by
  replace ho1 := hid ho1
  have zv := zero30
  have zl : zL.length = 263 := mc_len _ _ _
  have H0 := hid (Do3.start w (mcL x (.slice AH nH cH) (.slice AM nM cM)) o d s n)
  have HCM := hid (fun W (hw : Do3 w W (mcL x (.slice AH nH cH) (.slice AM nM cM)) o d s n) => CopyMachine_any W x AH AM nH cH nM cM (h.on hw.two.bel) (hm.on hw.two.bel) (by omega) (by omega))
  have HR := hid (RefRight_any o d s n ho)
  have HE : Hid (doneM o d s n x = if (1 ≤ o ∧ o ≤ 25) ∧ okI o d s n ∧ x.ok then doM o d s n x else x) := rfl
  have HZ := hid (mc_size x (.slice AH nH cH) (.slice AM nM cM))
  clear h hm
  unfold vM at HCM ⊢
  unfold vI at HR ⊢
  generalize hL : mcL x (.slice AH nH cH) (.slice AM nM cM) = L at *
  replace hL := hid hL
  have hsz := hid (size30 L.toArray HZ.out)
  go_enter Try.func12, Try.ntmps12
  go_upto_region 1 with fail
  have HS0 : Hid ((((w.alloc (.cells #[.int .u8 o, .int .i64 d, .int .i64 s, .int .i64 n] 24)).alloc (.cells L.toArray 30)).alloc (.cells zL.toArray 30)).heap.size = w.heap.size + 3) := hid (by simp)
  generalize (((w.alloc _).alloc (.cells L.toArray 30)).alloc (.cells zL.toArray 30)) = W0 at *
  have HA0 := hid (HCM.out W0 H0.out)
  go_upto_region 2 with (first
    | (refine wpList_load_row rfl 30 (.tmp 3) rfl (w.heap.size + 1) rfl 30 L.toArray (0, 0) _ H0.out.two.one Try.underlying30 rfl hsz.out ?_)
    | (go_at_call 7; refine HA0.out.mono ?_; rintro r W1 ⟨BH, dH, BM, dM, rfl, o1, o2, b1⟩; have O1 := hid o1; have O2 := hid o2; have B1 := hid b1; clear o1 o2 b1; obtain ⟨L1, hL1⟩ : ∃ L1, mcL x (.slice BH nH dH) (.slice BM nM dM) = L1 := ⟨_, rfl⟩; have E1 := hid (show (Try.prog.info? 30).map (·.size) = some L1.toArray.size ∧ zL.toArray.size = L1.toArray.size ∧ L1.toArray.all (·.oneCell') = true by rw [← hL1]; exact ⟨size30 _ (mc_size _ _ _), by rw [mc_size]; exact mc_size _ _ _, mc_one _ _ _ _ _ _ _⟩); rw [hL1]; replace hL1 := hid hL1)
    | (refine wpList_store_row (o := ⟨none, .store 30 (.tmp 5) (.tmp 10), _, _, _, _⟩) rfl 30 (.tmp 5) (.tmp 10) rfl W1.heap.size L1.toArray rfl rfl 30 zL.toArray (heap_alloc_new W1 _) E1.out.1 E1.out.2.1 E1.out.2.2 ?_))
  change Code.wp _ _ _ _ (Stw W1 L1)
  have H2 := hid (RDo.start H0.out HS0.out B1.out L1)
  have O3 : Hid ((Stw W1 L1).ownsRow (w.heap.size + 3) 25 1 (.slice BH nH dH) nH (x.h.map U.bv)) := hid (by have := own_below O1.out (Stw.bel W1 L1); rw [HS0.out] at this; exact this)
  have O4 : Hid ((Stw W1 L1).ownsRow (w.heap.size + 3) 5 1 (.slice BM nM dM) nM (x.m.map bv)) := hid (by have := own_below O2.out (Stw.bel W1 L1); rw [HS0.out] at this; exact this)
  clear O1 O2 B1 HA0 HCM H0 HS0 hL hsz HZ
  generalize Stw W1 L1 = W2 at *
  generalize W1.heap.size = g at *
  have HM := hid (rd_right H2.out O3.out O4.out h1 h2)
  unfold vM at HM
  rw [hL1.out] at HM
  obtain ⟨c0, c1, c2, c3⟩ := H2.out.cells
  rw [decide_eq_true hk] at HM
  rw [show rightE o d s n = 0 from if_pos hi] at HR
  go_upto_region 4 with (first
    | (refine BigFrame.wpList_want (o := ⟨some 11, .load 30 (.tmp 5), _, _, _, _⟩) (by rfl) (fun _ hK => wp_load_row 30 (.tmp 5) rfl g rfl 30 L1.toArray (0, 0) _ H2.out.row Try.underlying30 rfl E1.out.1 (hK _ _ ?_)))
    | (go_at_call 27; refine HM.out.mono ?_; rintro r W3 ⟨rfl, H3, P1, P2⟩; obtain ⟨c0, c1, c2, c3⟩ := H3.out.cells)
    | (go_at_call 28; refine (HR.out _).mono ?_; rintro r W4 ⟨rfl, b4⟩; have B4 := hid b4; clear b4))
  have hrm := rm_of (x := x) (by have := H3.out.below B4.out; rw [← hL1.out] at this; exact this) (own_below P1.out B4.out) (own_below P2.out B4.out) hk h1 h2
  obtain ⟨hb, mb, rfl, rfl, hrm⟩ := hrm
  have H6 := hid hrm
  clear hrm HM HR H2 O3 O4 H3 P1 P2 B4
  have HRG := hid (fun W (H : RM w W g hb mb nH dH nM dM x o d s n) => H.range L1 hL1.out)
  have hszl := hid (show (Try.prog.info? 30).map (·.size) = some L1.length by rw [← hL1.out]; exact size30 _ (mc_size _ _ _))
  obtain ⟨zs, hzs⟩ : ∃ z : Int, ((atM x s n).toNat : Int) = z := ⟨_, rfl⟩
  obtain ⟨zd, hzd⟩ : ∃ z : Int, ((atM x d n).toNat : Int) = z := ⟨_, rfl⟩
  have HAT := hid (fun W (H : RM w W g hb mb nH dH nM dM x o d s n) p q => H.at hk p q)
  unfold vM at HAT
  rw [hL1.out] at HAT
  have HAs : Hid (∀ W, RM w W g hb mb nH dH nM dM x o d s n → Calls Try.prog 29 #[.agg L1.toArray, .int .i64 s, .int .i64 n] W fun e w' => e = .returned (.int .u32 zs) ∧ Hid (RM w w' g hb mb nH dH nM dM x o d s n)) := hid (by rw [← hzs]; exact fun W H => HAT.out W H s n)
  have HAd : Hid (∀ W, RM w W g hb mb nH dH nM dM x o d s n → Calls Try.prog 29 #[.agg L1.toArray, .int .i64 d, .int .i64 n] W fun e w' => e = .returned (.int .u32 zd) ∧ Hid (RM w w' g hb mb nH dH nM dM x o d s n)) := hid (by rw [← hzd]; exact fun W H => HAT.out W H d n)
  replace hzs := hid hzs
  replace hzd := hid hzd
  refine wp_region_held_drew (S := (fun w' => RM w w' g hb mb nH dH nM dM x o d s n)) (by kernel_rfl) H6.out.drew (fun hH0 => ?_)
  refine wpAnyH_take (i := 0) (oi := ⟨some 20, _, _, _, _, _⟩) (v := .agg L1.toArray) rfl (by kernel_rfl) (by kernel_rfl) (by kernel_rfl) (fun _ _ _ h => h) (yieldsIf_load_mid (by rfl) 30 (.tmp 5) rfl g 0 rfl L1 _ (fun w hSw => HRG.out _ hSw) Try.underlying30 rfl hszl.out) hH0 ?_
  try simp only [Act.put, List.setIfInBounds_toArray, List.set_cons_zero, List.set_cons_succ]
  refine wpAnyH_take (i := 1) (oi := ⟨some 21, _, _, _, _, _⟩) (v := .pointer (some ⟨w.heap.size, 2, none⟩)) rfl (by kernel_rfl) (by kernel_rfl) (by kernel_rfl) (fun _ _ _ h => h) (Or.inl ⟨by rfl, by intro w hSw; (try dsimp only at hSw); obtain ⟨z0, z1, z2, z3⟩ := hSw.d.cells; have za := hSw.m.mr.ca; unfold U.bv at za; go_simp⟩) hH0 ?_
  try simp only [Act.put, List.setIfInBounds_toArray, List.set_cons_zero, List.set_cons_succ]
  refine wpAnyH_take (i := 2) (oi := ⟨some 22, _, _, _, _, _⟩) (v := .int .i64 s) rfl (by kernel_rfl) (by kernel_rfl) (by kernel_rfl) (fun _ _ _ h => h) (Or.inl ⟨by rfl, by intro w hSw; (try dsimp only at hSw); obtain ⟨z0, z1, z2, z3⟩ := hSw.d.cells; have za := hSw.m.mr.ca; unfold U.bv at za; go_simp⟩) hH0 ?_
  try simp only [Act.put, List.setIfInBounds_toArray, List.set_cons_zero, List.set_cons_succ]
  refine wpAnyH_take (i := 3) (oi := ⟨some 23, _, _, _, _, _⟩) (v := .pointer (some ⟨w.heap.size, 3, none⟩)) rfl (by kernel_rfl) (by kernel_rfl) (by kernel_rfl) (fun _ _ _ h => h) (Or.inl ⟨by rfl, by intro w hSw; (try dsimp only at hSw); obtain ⟨z0, z1, z2, z3⟩ := hSw.d.cells; have za := hSw.m.mr.ca; unfold U.bv at za; go_simp⟩) hH0 ?_
  try simp only [Act.put, List.setIfInBounds_toArray, List.set_cons_zero, List.set_cons_succ]
  refine wpAnyH_take (i := 4) (oi := ⟨some 24, _, _, _, _, _⟩) (v := .int .i64 n) rfl (by kernel_rfl) (by kernel_rfl) (by kernel_rfl) (fun _ _ _ h => h) (Or.inl ⟨by rfl, by intro w hSw; (try dsimp only at hSw); obtain ⟨z0, z1, z2, z3⟩ := hSw.d.cells; have za := hSw.m.mr.ca; unfold U.bv at za; go_simp⟩) hH0 ?_
  try simp only [Act.put, List.setIfInBounds_toArray, List.set_cons_zero, List.set_cons_succ]
  refine wpAnyH_take (i := 6) (oi := ⟨some 26, _, _, _, _, _⟩) (v := .agg L1.toArray) rfl (by kernel_rfl) (by kernel_rfl) (by kernel_rfl) (fun _ _ _ h => h) (yieldsIf_load_mid (by rfl) 30 (.tmp 5) rfl g 0 rfl L1 _ (fun w hSw => HRG.out _ hSw) Try.underlying30 rfl hszl.out) hH0 ?_
  try simp only [Act.put, List.setIfInBounds_toArray, List.set_cons_zero, List.set_cons_succ]
  refine wpAnyH_take (i := 7) (oi := ⟨some 27, _, _, _, _, _⟩) (v := .pointer (some ⟨w.heap.size, 1, none⟩)) rfl (by kernel_rfl) (by kernel_rfl) (by kernel_rfl) (fun _ _ _ h => h) (Or.inl ⟨by rfl, by intro w hSw; (try dsimp only at hSw); obtain ⟨z0, z1, z2, z3⟩ := hSw.d.cells; have za := hSw.m.mr.ca; unfold U.bv at za; go_simp⟩) hH0 ?_
  try simp only [Act.put, List.setIfInBounds_toArray, List.set_cons_zero, List.set_cons_succ]
  refine wpAnyH_take (i := 8) (oi := ⟨some 28, _, _, _, _, _⟩) (v := .int .i64 d) rfl (by kernel_rfl) (by kernel_rfl) (by kernel_rfl) (fun _ _ _ h => h) (Or.inl ⟨by rfl, by intro w hSw; (try dsimp only at hSw); obtain ⟨z0, z1, z2, z3⟩ := hSw.d.cells; have za := hSw.m.mr.ca; unfold U.bv at za; go_simp⟩) hH0 ?_
  try simp only [Act.put, List.setIfInBounds_toArray, List.set_cons_zero, List.set_cons_succ]
  refine wpAnyH_take (i := 9) (oi := ⟨some 29, _, _, _, _, _⟩) (v := .pointer (some ⟨w.heap.size, 3, none⟩)) rfl (by kernel_rfl) (by kernel_rfl) (by kernel_rfl) (fun _ _ _ h => h) (Or.inl ⟨by rfl, by intro w hSw; (try dsimp only at hSw); obtain ⟨z0, z1, z2, z3⟩ := hSw.d.cells; have za := hSw.m.mr.ca; unfold U.bv at za; go_simp⟩) hH0 ?_
  try simp only [Act.put, List.setIfInBounds_toArray, List.set_cons_zero, List.set_cons_succ]
  refine wpAnyH_take (i := 10) (oi := ⟨some 30, _, _, _, _, _⟩) (v := .int .i64 n) rfl (by kernel_rfl) (by kernel_rfl) (by kernel_rfl) (fun _ _ _ h => h) (Or.inl ⟨by rfl, by intro w hSw; (try dsimp only at hSw); obtain ⟨z0, z1, z2, z3⟩ := hSw.d.cells; have za := hSw.m.mr.ca; unfold U.bv at za; go_simp⟩) hH0 ?_
  try simp only [Act.put, List.setIfInBounds_toArray, List.set_cons_zero, List.set_cons_succ]
  refine wpAnyH_ready (rs := [5]) (by kernel_rfl) (by simp) (AllReadyH.cons rfl (fun K hK => ?_) AllReadyH.nil)
  go_simp
  refine (HAs.out _ hH0).mono ?_
  rintro e W7 ⟨rfl, H7⟩
  refine hK.out _ _ H7.out (fun hH1 => ?_)
  clear hK K
  try simp only [Act.put, List.setIfInBounds_toArray, List.set_cons_zero, List.set_cons_succ]
  refine wpAnyH_ready (rs := [11]) (by kernel_rfl) (by simp) (AllReadyH.cons rfl (fun K hK => ?_) AllReadyH.nil)
  go_simp
  refine (HAd.out _ hH1).mono ?_
  rintro e W8 ⟨rfl, H8⟩
  refine hK.out _ _ H8.out (fun hH2 => ?_)
  clear hK K
  try simp only [Act.put, List.setIfInBounds_toArray, List.set_cons_zero, List.set_cons_succ]
  refine wpAnyH_take (i := 12) (oi := ⟨some 6, _, _, _, _, _⟩) (v := .int .u32 zs) rfl (by kernel_rfl) (by kernel_rfl) (by kernel_rfl) (fun _ _ _ h => h) (Or.inl ⟨by rfl, by intro w hSw; (try dsimp only at hSw); obtain ⟨z0, z1, z2, z3⟩ := hSw.d.cells; have za := hSw.m.mr.ca; unfold U.bv at za; go_simp⟩) hH2 ?_
  try simp only [Act.put, List.setIfInBounds_toArray, List.set_cons_zero, List.set_cons_succ]
  refine wpAnyH_take (i := 13) (oi := ⟨some 7, _, _, _, _, _⟩) (v := .int .u32 zd) rfl (by kernel_rfl) (by kernel_rfl) (by kernel_rfl) (fun _ _ _ h => h) (Or.inl ⟨by rfl, by intro w hSw; (try dsimp only at hSw); obtain ⟨z0, z1, z2, z3⟩ := hSw.d.cells; have za := hSw.m.mr.ca; unfold U.bv at za; go_simp⟩) hH2 ?_
  try simp only [Act.put, List.setIfInBounds_toArray, List.set_cons_zero, List.set_cons_succ]
  refine wpAnyH_done (by kernel_rfl) ?_ _
  clear HRG HAs HAd H6 H7 hH0 hH1 hH2
  obtain ⟨c0, c1, c2, c3⟩ := H8.out.d.cells
  replace ho1 := ho1.out
  subst ho1
  have HP := hid (H8.out.put hk d (~~~ (atM x d n)) ((4294967295 - zd) % 4294967296) (by rw [← hzd.out]; exact not_eq _))
  go_upto_region 33 with (go_at_call 30; refine HP.out.mono ?_; rintro r W9 ⟨rfl, H9⟩)
  obtain ⟨L5, hL5⟩ : ∃ L5, mcL (putM x d (~~~ (atM x d n))) (.slice (some ⟨hb, 0, none⟩) nH dH) (.slice (some ⟨mb, 0, none⟩) nM dM) = L5 := ⟨_, rfl⟩
  have T := hid (H9.out.fin L5 hL5)
  replace hL5 := hid hL5
  go_wp2_with (first
    | (refine wpList_load_row rfl 30 (.tmp 5) rfl g rfl 30 L5.toArray (0, 0) _ T.out.1 Try.underlying30 rfl T.out.2.1 ?_)
    | (refine wpList_store_row (o := ⟨none, .store 30 (.tmp 4) (.tmp 171), _, _, _, _⟩) rfl 30 (.tmp 4) (.tmp 171) rfl (w.heap.size + 1 + 1) L5.toArray rfl rfl 30 zL.toArray T.out.2.2.1 T.out.2.1 T.out.2.2.2.1 T.out.2.2.2.2.1 ?_))
  refine bodyPost_ret (results_cell_row (by kernel_rfl : Try.f12.results = #[.cell 4 30]) _ _ (w.heap.size + 1 + 1) 30 L5.toArray (0, 0) _ rfl T.out.2.2.2.2.2.1 Try.underlying30 rfl T.out.2.1) rfl ?_
  rw [HE.out, if_pos ⟨by omega, hi, hk⟩]
  exact T.out.2.2.2.2.2.2
set_option maxRecDepth 10000 in
set_option maxHeartbeats 32000000 in
theorem rdo_6 (w : World) (x : Mn) (o d s n : Int) (ho : 0 ≤ o) (AH AM : Option Addr) (nH cH nM cM : Nat) (h : U.IsBB w w.heap.size AH nH cH x.h) (hm : IsBB w w.heap.size AM nM cM x.m) (h1 : nH ≤ 5000) (h2 : nM ≤ 5000) (hk : x.ok) (hi : okI o d s n) (ho1 : o = 6) :
    Calls Try.prog 12 #[vI o d s n, vM x (.slice AH nH cH) (.slice AM nM cM)] w (DoPost w (doneM o d s n x) nH nM) := by
  replace ho1 := hid ho1
  have zv := zero30
  have zl : zL.length = 263 := mc_len _ _ _
  have H0 := hid (Do3.start w (mcL x (.slice AH nH cH) (.slice AM nM cM)) o d s n)
  have HCM := hid (fun W (hw : Do3 w W (mcL x (.slice AH nH cH) (.slice AM nM cM)) o d s n) => CopyMachine_any W x AH AM nH cH nM cM (h.on hw.two.bel) (hm.on hw.two.bel) (by omega) (by omega))
  have HR := hid (RefRight_any o d s n ho)
  have HE : Hid (doneM o d s n x = if (1 ≤ o ∧ o ≤ 25) ∧ okI o d s n ∧ x.ok then doM o d s n x else x) := rfl
  have HZ := hid (mc_size x (.slice AH nH cH) (.slice AM nM cM))
  clear h hm
  unfold vM at HCM ⊢
  unfold vI at HR ⊢
  generalize hL : mcL x (.slice AH nH cH) (.slice AM nM cM) = L at *
  replace hL := hid hL
  have hsz := hid (size30 L.toArray HZ.out)
  go_enter Try.func12, Try.ntmps12
  go_upto_region 1 with fail
  have HS0 : Hid ((((w.alloc (.cells #[.int .u8 o, .int .i64 d, .int .i64 s, .int .i64 n] 24)).alloc (.cells L.toArray 30)).alloc (.cells zL.toArray 30)).heap.size = w.heap.size + 3) := hid (by simp)
  generalize (((w.alloc _).alloc (.cells L.toArray 30)).alloc (.cells zL.toArray 30)) = W0 at *
  have HA0 := hid (HCM.out W0 H0.out)
  go_upto_region 2 with (first
    | (refine wpList_load_row rfl 30 (.tmp 3) rfl (w.heap.size + 1) rfl 30 L.toArray (0, 0) _ H0.out.two.one Try.underlying30 rfl hsz.out ?_)
    | (go_at_call 7; refine HA0.out.mono ?_; rintro r W1 ⟨BH, dH, BM, dM, rfl, o1, o2, b1⟩; have O1 := hid o1; have O2 := hid o2; have B1 := hid b1; clear o1 o2 b1; obtain ⟨L1, hL1⟩ : ∃ L1, mcL x (.slice BH nH dH) (.slice BM nM dM) = L1 := ⟨_, rfl⟩; have E1 := hid (show (Try.prog.info? 30).map (·.size) = some L1.toArray.size ∧ zL.toArray.size = L1.toArray.size ∧ L1.toArray.all (·.oneCell') = true by rw [← hL1]; exact ⟨size30 _ (mc_size _ _ _), by rw [mc_size]; exact mc_size _ _ _, mc_one _ _ _ _ _ _ _⟩); rw [hL1]; replace hL1 := hid hL1)
    | (refine wpList_store_row (o := ⟨none, .store 30 (.tmp 5) (.tmp 10), _, _, _, _⟩) rfl 30 (.tmp 5) (.tmp 10) rfl W1.heap.size L1.toArray rfl rfl 30 zL.toArray (heap_alloc_new W1 _) E1.out.1 E1.out.2.1 E1.out.2.2 ?_))
  change Code.wp _ _ _ _ (Stw W1 L1)
  have H2 := hid (RDo.start H0.out HS0.out B1.out L1)
  have O3 : Hid ((Stw W1 L1).ownsRow (w.heap.size + 3) 25 1 (.slice BH nH dH) nH (x.h.map U.bv)) := hid (by have := own_below O1.out (Stw.bel W1 L1); rw [HS0.out] at this; exact this)
  have O4 : Hid ((Stw W1 L1).ownsRow (w.heap.size + 3) 5 1 (.slice BM nM dM) nM (x.m.map bv)) := hid (by have := own_below O2.out (Stw.bel W1 L1); rw [HS0.out] at this; exact this)
  clear O1 O2 B1 HA0 HCM H0 HS0 hL hsz HZ
  generalize Stw W1 L1 = W2 at *
  generalize W1.heap.size = g at *
  have HM := hid (rd_right H2.out O3.out O4.out h1 h2)
  unfold vM at HM
  rw [hL1.out] at HM
  obtain ⟨c0, c1, c2, c3⟩ := H2.out.cells
  rw [decide_eq_true hk] at HM
  rw [show rightE o d s n = 0 from if_pos hi] at HR
  go_upto_region 4 with (first
    | (refine BigFrame.wpList_want (o := ⟨some 11, .load 30 (.tmp 5), _, _, _, _⟩) (by rfl) (fun _ hK => wp_load_row 30 (.tmp 5) rfl g rfl 30 L1.toArray (0, 0) _ H2.out.row Try.underlying30 rfl E1.out.1 (hK _ _ ?_)))
    | (go_at_call 27; refine HM.out.mono ?_; rintro r W3 ⟨rfl, H3, P1, P2⟩; obtain ⟨c0, c1, c2, c3⟩ := H3.out.cells)
    | (go_at_call 28; refine (HR.out _).mono ?_; rintro r W4 ⟨rfl, b4⟩; have B4 := hid b4; clear b4))
  have hrm := rm_of (x := x) (by have := H3.out.below B4.out; rw [← hL1.out] at this; exact this) (own_below P1.out B4.out) (own_below P2.out B4.out) hk h1 h2
  obtain ⟨hb, mb, rfl, rfl, hrm⟩ := hrm
  have H6 := hid hrm
  clear hrm HM HR H2 O3 O4 H3 P1 P2 B4
  have HRG := hid (fun W (H : RM w W g hb mb nH dH nM dM x o d s n) => H.range L1 hL1.out)
  have hszl := hid (show (Try.prog.info? 30).map (·.size) = some L1.length by rw [← hL1.out]; exact size30 _ (mc_size _ _ _))
  obtain ⟨zs, hzs⟩ : ∃ z : Int, ((atM x s n).toNat : Int) = z := ⟨_, rfl⟩
  obtain ⟨zd, hzd⟩ : ∃ z : Int, ((atM x d n).toNat : Int) = z := ⟨_, rfl⟩
  have HAT := hid (fun W (H : RM w W g hb mb nH dH nM dM x o d s n) p q => H.at hk p q)
  unfold vM at HAT
  rw [hL1.out] at HAT
  have HAs : Hid (∀ W, RM w W g hb mb nH dH nM dM x o d s n → Calls Try.prog 29 #[.agg L1.toArray, .int .i64 s, .int .i64 n] W fun e w' => e = .returned (.int .u32 zs) ∧ Hid (RM w w' g hb mb nH dH nM dM x o d s n)) := hid (by rw [← hzs]; exact fun W H => HAT.out W H s n)
  have HAd : Hid (∀ W, RM w W g hb mb nH dH nM dM x o d s n → Calls Try.prog 29 #[.agg L1.toArray, .int .i64 d, .int .i64 n] W fun e w' => e = .returned (.int .u32 zd) ∧ Hid (RM w w' g hb mb nH dH nM dM x o d s n)) := hid (by rw [← hzd]; exact fun W H => HAT.out W H d n)
  replace hzs := hid hzs
  replace hzd := hid hzd
  refine wp_region_held_drew (S := (fun w' => RM w w' g hb mb nH dH nM dM x o d s n)) (by kernel_rfl) H6.out.drew (fun hH0 => ?_)
  refine wpAnyH_take (i := 0) (oi := ⟨some 20, _, _, _, _, _⟩) (v := .agg L1.toArray) rfl (by kernel_rfl) (by kernel_rfl) (by kernel_rfl) (fun _ _ _ h => h) (yieldsIf_load_mid (by rfl) 30 (.tmp 5) rfl g 0 rfl L1 _ (fun w hSw => HRG.out _ hSw) Try.underlying30 rfl hszl.out) hH0 ?_
  try simp only [Act.put, List.setIfInBounds_toArray, List.set_cons_zero, List.set_cons_succ]
  refine wpAnyH_take (i := 1) (oi := ⟨some 21, _, _, _, _, _⟩) (v := .pointer (some ⟨w.heap.size, 2, none⟩)) rfl (by kernel_rfl) (by kernel_rfl) (by kernel_rfl) (fun _ _ _ h => h) (Or.inl ⟨by rfl, by intro w hSw; (try dsimp only at hSw); obtain ⟨z0, z1, z2, z3⟩ := hSw.d.cells; have za := hSw.m.mr.ca; unfold U.bv at za; go_simp⟩) hH0 ?_
  try simp only [Act.put, List.setIfInBounds_toArray, List.set_cons_zero, List.set_cons_succ]
  refine wpAnyH_take (i := 2) (oi := ⟨some 22, _, _, _, _, _⟩) (v := .int .i64 s) rfl (by kernel_rfl) (by kernel_rfl) (by kernel_rfl) (fun _ _ _ h => h) (Or.inl ⟨by rfl, by intro w hSw; (try dsimp only at hSw); obtain ⟨z0, z1, z2, z3⟩ := hSw.d.cells; have za := hSw.m.mr.ca; unfold U.bv at za; go_simp⟩) hH0 ?_
  try simp only [Act.put, List.setIfInBounds_toArray, List.set_cons_zero, List.set_cons_succ]
  refine wpAnyH_take (i := 3) (oi := ⟨some 23, _, _, _, _, _⟩) (v := .pointer (some ⟨w.heap.size, 3, none⟩)) rfl (by kernel_rfl) (by kernel_rfl) (by kernel_rfl) (fun _ _ _ h => h) (Or.inl ⟨by rfl, by intro w hSw; (try dsimp only at hSw); obtain ⟨z0, z1, z2, z3⟩ := hSw.d.cells; have za := hSw.m.mr.ca; unfold U.bv at za; go_simp⟩) hH0 ?_
  try simp only [Act.put, List.setIfInBounds_toArray, List.set_cons_zero, List.set_cons_succ]
  refine wpAnyH_take (i := 4) (oi := ⟨some 24, _, _, _, _, _⟩) (v := .int .i64 n) rfl (by kernel_rfl) (by kernel_rfl) (by kernel_rfl) (fun _ _ _ h => h) (Or.inl ⟨by rfl, by intro w hSw; (try dsimp only at hSw); obtain ⟨z0, z1, z2, z3⟩ := hSw.d.cells; have za := hSw.m.mr.ca; unfold U.bv at za; go_simp⟩) hH0 ?_
  try simp only [Act.put, List.setIfInBounds_toArray, List.set_cons_zero, List.set_cons_succ]
  refine wpAnyH_take (i := 6) (oi := ⟨some 26, _, _, _, _, _⟩) (v := .agg L1.toArray) rfl (by kernel_rfl) (by kernel_rfl) (by kernel_rfl) (fun _ _ _ h => h) (yieldsIf_load_mid (by rfl) 30 (.tmp 5) rfl g 0 rfl L1 _ (fun w hSw => HRG.out _ hSw) Try.underlying30 rfl hszl.out) hH0 ?_
  try simp only [Act.put, List.setIfInBounds_toArray, List.set_cons_zero, List.set_cons_succ]
  refine wpAnyH_take (i := 7) (oi := ⟨some 27, _, _, _, _, _⟩) (v := .pointer (some ⟨w.heap.size, 1, none⟩)) rfl (by kernel_rfl) (by kernel_rfl) (by kernel_rfl) (fun _ _ _ h => h) (Or.inl ⟨by rfl, by intro w hSw; (try dsimp only at hSw); obtain ⟨z0, z1, z2, z3⟩ := hSw.d.cells; have za := hSw.m.mr.ca; unfold U.bv at za; go_simp⟩) hH0 ?_
  try simp only [Act.put, List.setIfInBounds_toArray, List.set_cons_zero, List.set_cons_succ]
  refine wpAnyH_take (i := 8) (oi := ⟨some 28, _, _, _, _, _⟩) (v := .int .i64 d) rfl (by kernel_rfl) (by kernel_rfl) (by kernel_rfl) (fun _ _ _ h => h) (Or.inl ⟨by rfl, by intro w hSw; (try dsimp only at hSw); obtain ⟨z0, z1, z2, z3⟩ := hSw.d.cells; have za := hSw.m.mr.ca; unfold U.bv at za; go_simp⟩) hH0 ?_
  try simp only [Act.put, List.setIfInBounds_toArray, List.set_cons_zero, List.set_cons_succ]
  refine wpAnyH_take (i := 9) (oi := ⟨some 29, _, _, _, _, _⟩) (v := .pointer (some ⟨w.heap.size, 3, none⟩)) rfl (by kernel_rfl) (by kernel_rfl) (by kernel_rfl) (fun _ _ _ h => h) (Or.inl ⟨by rfl, by intro w hSw; (try dsimp only at hSw); obtain ⟨z0, z1, z2, z3⟩ := hSw.d.cells; have za := hSw.m.mr.ca; unfold U.bv at za; go_simp⟩) hH0 ?_
  try simp only [Act.put, List.setIfInBounds_toArray, List.set_cons_zero, List.set_cons_succ]
  refine wpAnyH_take (i := 10) (oi := ⟨some 30, _, _, _, _, _⟩) (v := .int .i64 n) rfl (by kernel_rfl) (by kernel_rfl) (by kernel_rfl) (fun _ _ _ h => h) (Or.inl ⟨by rfl, by intro w hSw; (try dsimp only at hSw); obtain ⟨z0, z1, z2, z3⟩ := hSw.d.cells; have za := hSw.m.mr.ca; unfold U.bv at za; go_simp⟩) hH0 ?_
  try simp only [Act.put, List.setIfInBounds_toArray, List.set_cons_zero, List.set_cons_succ]
  refine wpAnyH_ready (rs := [5]) (by kernel_rfl) (by simp) (AllReadyH.cons rfl (fun K hK => ?_) AllReadyH.nil)
  go_simp
  refine (HAs.out _ hH0).mono ?_
  rintro e W7 ⟨rfl, H7⟩
  refine hK.out _ _ H7.out (fun hH1 => ?_)
  clear hK K
  try simp only [Act.put, List.setIfInBounds_toArray, List.set_cons_zero, List.set_cons_succ]
  refine wpAnyH_ready (rs := [11]) (by kernel_rfl) (by simp) (AllReadyH.cons rfl (fun K hK => ?_) AllReadyH.nil)
  go_simp
  refine (HAd.out _ hH1).mono ?_
  rintro e W8 ⟨rfl, H8⟩
  refine hK.out _ _ H8.out (fun hH2 => ?_)
  clear hK K
  try simp only [Act.put, List.setIfInBounds_toArray, List.set_cons_zero, List.set_cons_succ]
  refine wpAnyH_take (i := 12) (oi := ⟨some 6, _, _, _, _, _⟩) (v := .int .u32 zs) rfl (by kernel_rfl) (by kernel_rfl) (by kernel_rfl) (fun _ _ _ h => h) (Or.inl ⟨by rfl, by intro w hSw; (try dsimp only at hSw); obtain ⟨z0, z1, z2, z3⟩ := hSw.d.cells; have za := hSw.m.mr.ca; unfold U.bv at za; go_simp⟩) hH2 ?_
  try simp only [Act.put, List.setIfInBounds_toArray, List.set_cons_zero, List.set_cons_succ]
  refine wpAnyH_take (i := 13) (oi := ⟨some 7, _, _, _, _, _⟩) (v := .int .u32 zd) rfl (by kernel_rfl) (by kernel_rfl) (by kernel_rfl) (fun _ _ _ h => h) (Or.inl ⟨by rfl, by intro w hSw; (try dsimp only at hSw); obtain ⟨z0, z1, z2, z3⟩ := hSw.d.cells; have za := hSw.m.mr.ca; unfold U.bv at za; go_simp⟩) hH2 ?_
  try simp only [Act.put, List.setIfInBounds_toArray, List.set_cons_zero, List.set_cons_succ]
  refine wpAnyH_done (by kernel_rfl) ?_ _
  clear HRG HAs HAd H6 H7 hH0 hH1 hH2
  obtain ⟨c0, c1, c2, c3⟩ := H8.out.d.cells
  replace ho1 := ho1.out
  subst ho1
  have HP := hid (H8.out.put hk d (0) (0) (rfl))
  go_upto_region 33 with (go_at_call 30; refine HP.out.mono ?_; rintro r W9 ⟨rfl, H9⟩)
  obtain ⟨L5, hL5⟩ : ∃ L5, mcL (putM x d (0)) (.slice (some ⟨hb, 0, none⟩) nH dH) (.slice (some ⟨mb, 0, none⟩) nM dM) = L5 := ⟨_, rfl⟩
  have T := hid (H9.out.fin L5 hL5)
  replace hL5 := hid hL5
  go_wp2_with (first
    | (refine wpList_load_row rfl 30 (.tmp 5) rfl g rfl 30 L5.toArray (0, 0) _ T.out.1 Try.underlying30 rfl T.out.2.1 ?_)
    | (refine wpList_store_row (o := ⟨none, .store 30 (.tmp 4) (.tmp 171), _, _, _, _⟩) rfl 30 (.tmp 4) (.tmp 171) rfl (w.heap.size + 1 + 1) L5.toArray rfl rfl 30 zL.toArray T.out.2.2.1 T.out.2.1 T.out.2.2.2.1 T.out.2.2.2.2.1 ?_))
  refine bodyPost_ret (results_cell_row (by kernel_rfl : Try.f12.results = #[.cell 4 30]) _ _ (w.heap.size + 1 + 1) 30 L5.toArray (0, 0) _ rfl T.out.2.2.2.2.2.1 Try.underlying30 rfl T.out.2.1) rfl ?_
  rw [HE.out, if_pos ⟨by omega, hi, hk⟩]
  exact T.out.2.2.2.2.2.2
set_option maxRecDepth 10000 in
set_option maxHeartbeats 32000000 in
theorem rdo_7 (w : World) (x : Mn) (o d s n : Int) (ho : 0 ≤ o) (AH AM : Option Addr) (nH cH nM cM : Nat) (h : U.IsBB w w.heap.size AH nH cH x.h) (hm : IsBB w w.heap.size AM nM cM x.m) (h1 : nH ≤ 5000) (h2 : nM ≤ 5000) (hk : x.ok) (hi : okI o d s n) (ho1 : o = 7) :
    Calls Try.prog 12 #[vI o d s n, vM x (.slice AH nH cH) (.slice AM nM cM)] w (DoPost w (doneM o d s n x) nH nM) := by
  replace ho1 := hid ho1
  have zv := zero30
  have zl : zL.length = 263 := mc_len _ _ _
  have H0 := hid (Do3.start w (mcL x (.slice AH nH cH) (.slice AM nM cM)) o d s n)
  have HCM := hid (fun W (hw : Do3 w W (mcL x (.slice AH nH cH) (.slice AM nM cM)) o d s n) => CopyMachine_any W x AH AM nH cH nM cM (h.on hw.two.bel) (hm.on hw.two.bel) (by omega) (by omega))
  have HR := hid (RefRight_any o d s n ho)
  have HE : Hid (doneM o d s n x = if (1 ≤ o ∧ o ≤ 25) ∧ okI o d s n ∧ x.ok then doM o d s n x else x) := rfl
  have HZ := hid (mc_size x (.slice AH nH cH) (.slice AM nM cM))
  clear h hm
  unfold vM at HCM ⊢
  unfold vI at HR ⊢
  generalize hL : mcL x (.slice AH nH cH) (.slice AM nM cM) = L at *
  replace hL := hid hL
  have hsz := hid (size30 L.toArray HZ.out)
  go_enter Try.func12, Try.ntmps12
  go_upto_region 1 with fail
  have HS0 : Hid ((((w.alloc (.cells #[.int .u8 o, .int .i64 d, .int .i64 s, .int .i64 n] 24)).alloc (.cells L.toArray 30)).alloc (.cells zL.toArray 30)).heap.size = w.heap.size + 3) := hid (by simp)
  generalize (((w.alloc _).alloc (.cells L.toArray 30)).alloc (.cells zL.toArray 30)) = W0 at *
  have HA0 := hid (HCM.out W0 H0.out)
  go_upto_region 2 with (first
    | (refine wpList_load_row rfl 30 (.tmp 3) rfl (w.heap.size + 1) rfl 30 L.toArray (0, 0) _ H0.out.two.one Try.underlying30 rfl hsz.out ?_)
    | (go_at_call 7; refine HA0.out.mono ?_; rintro r W1 ⟨BH, dH, BM, dM, rfl, o1, o2, b1⟩; have O1 := hid o1; have O2 := hid o2; have B1 := hid b1; clear o1 o2 b1; obtain ⟨L1, hL1⟩ : ∃ L1, mcL x (.slice BH nH dH) (.slice BM nM dM) = L1 := ⟨_, rfl⟩; have E1 := hid (show (Try.prog.info? 30).map (·.size) = some L1.toArray.size ∧ zL.toArray.size = L1.toArray.size ∧ L1.toArray.all (·.oneCell') = true by rw [← hL1]; exact ⟨size30 _ (mc_size _ _ _), by rw [mc_size]; exact mc_size _ _ _, mc_one _ _ _ _ _ _ _⟩); rw [hL1]; replace hL1 := hid hL1)
    | (refine wpList_store_row (o := ⟨none, .store 30 (.tmp 5) (.tmp 10), _, _, _, _⟩) rfl 30 (.tmp 5) (.tmp 10) rfl W1.heap.size L1.toArray rfl rfl 30 zL.toArray (heap_alloc_new W1 _) E1.out.1 E1.out.2.1 E1.out.2.2 ?_))
  change Code.wp _ _ _ _ (Stw W1 L1)
  have H2 := hid (RDo.start H0.out HS0.out B1.out L1)
  have O3 : Hid ((Stw W1 L1).ownsRow (w.heap.size + 3) 25 1 (.slice BH nH dH) nH (x.h.map U.bv)) := hid (by have := own_below O1.out (Stw.bel W1 L1); rw [HS0.out] at this; exact this)
  have O4 : Hid ((Stw W1 L1).ownsRow (w.heap.size + 3) 5 1 (.slice BM nM dM) nM (x.m.map bv)) := hid (by have := own_below O2.out (Stw.bel W1 L1); rw [HS0.out] at this; exact this)
  clear O1 O2 B1 HA0 HCM H0 HS0 hL hsz HZ
  generalize Stw W1 L1 = W2 at *
  generalize W1.heap.size = g at *
  have HM := hid (rd_right H2.out O3.out O4.out h1 h2)
  unfold vM at HM
  rw [hL1.out] at HM
  obtain ⟨c0, c1, c2, c3⟩ := H2.out.cells
  rw [decide_eq_true hk] at HM
  rw [show rightE o d s n = 0 from if_pos hi] at HR
  go_upto_region 4 with (first
    | (refine BigFrame.wpList_want (o := ⟨some 11, .load 30 (.tmp 5), _, _, _, _⟩) (by rfl) (fun _ hK => wp_load_row 30 (.tmp 5) rfl g rfl 30 L1.toArray (0, 0) _ H2.out.row Try.underlying30 rfl E1.out.1 (hK _ _ ?_)))
    | (go_at_call 27; refine HM.out.mono ?_; rintro r W3 ⟨rfl, H3, P1, P2⟩; obtain ⟨c0, c1, c2, c3⟩ := H3.out.cells)
    | (go_at_call 28; refine (HR.out _).mono ?_; rintro r W4 ⟨rfl, b4⟩; have B4 := hid b4; clear b4))
  have hrm := rm_of (x := x) (by have := H3.out.below B4.out; rw [← hL1.out] at this; exact this) (own_below P1.out B4.out) (own_below P2.out B4.out) hk h1 h2
  obtain ⟨hb, mb, rfl, rfl, hrm⟩ := hrm
  have H6 := hid hrm
  clear hrm HM HR H2 O3 O4 H3 P1 P2 B4
  have HRG := hid (fun W (H : RM w W g hb mb nH dH nM dM x o d s n) => H.range L1 hL1.out)
  have hszl := hid (show (Try.prog.info? 30).map (·.size) = some L1.length by rw [← hL1.out]; exact size30 _ (mc_size _ _ _))
  obtain ⟨zs, hzs⟩ : ∃ z : Int, ((atM x s n).toNat : Int) = z := ⟨_, rfl⟩
  obtain ⟨zd, hzd⟩ : ∃ z : Int, ((atM x d n).toNat : Int) = z := ⟨_, rfl⟩
  have HAT := hid (fun W (H : RM w W g hb mb nH dH nM dM x o d s n) p q => H.at hk p q)
  unfold vM at HAT
  rw [hL1.out] at HAT
  have HAs : Hid (∀ W, RM w W g hb mb nH dH nM dM x o d s n → Calls Try.prog 29 #[.agg L1.toArray, .int .i64 s, .int .i64 n] W fun e w' => e = .returned (.int .u32 zs) ∧ Hid (RM w w' g hb mb nH dH nM dM x o d s n)) := hid (by rw [← hzs]; exact fun W H => HAT.out W H s n)
  have HAd : Hid (∀ W, RM w W g hb mb nH dH nM dM x o d s n → Calls Try.prog 29 #[.agg L1.toArray, .int .i64 d, .int .i64 n] W fun e w' => e = .returned (.int .u32 zd) ∧ Hid (RM w w' g hb mb nH dH nM dM x o d s n)) := hid (by rw [← hzd]; exact fun W H => HAT.out W H d n)
  replace hzs := hid hzs
  replace hzd := hid hzd
  refine wp_region_held_drew (S := (fun w' => RM w w' g hb mb nH dH nM dM x o d s n)) (by kernel_rfl) H6.out.drew (fun hH0 => ?_)
  refine wpAnyH_take (i := 0) (oi := ⟨some 20, _, _, _, _, _⟩) (v := .agg L1.toArray) rfl (by kernel_rfl) (by kernel_rfl) (by kernel_rfl) (fun _ _ _ h => h) (yieldsIf_load_mid (by rfl) 30 (.tmp 5) rfl g 0 rfl L1 _ (fun w hSw => HRG.out _ hSw) Try.underlying30 rfl hszl.out) hH0 ?_
  try simp only [Act.put, List.setIfInBounds_toArray, List.set_cons_zero, List.set_cons_succ]
  refine wpAnyH_take (i := 1) (oi := ⟨some 21, _, _, _, _, _⟩) (v := .pointer (some ⟨w.heap.size, 2, none⟩)) rfl (by kernel_rfl) (by kernel_rfl) (by kernel_rfl) (fun _ _ _ h => h) (Or.inl ⟨by rfl, by intro w hSw; (try dsimp only at hSw); obtain ⟨z0, z1, z2, z3⟩ := hSw.d.cells; have za := hSw.m.mr.ca; unfold U.bv at za; go_simp⟩) hH0 ?_
  try simp only [Act.put, List.setIfInBounds_toArray, List.set_cons_zero, List.set_cons_succ]
  refine wpAnyH_take (i := 2) (oi := ⟨some 22, _, _, _, _, _⟩) (v := .int .i64 s) rfl (by kernel_rfl) (by kernel_rfl) (by kernel_rfl) (fun _ _ _ h => h) (Or.inl ⟨by rfl, by intro w hSw; (try dsimp only at hSw); obtain ⟨z0, z1, z2, z3⟩ := hSw.d.cells; have za := hSw.m.mr.ca; unfold U.bv at za; go_simp⟩) hH0 ?_
  try simp only [Act.put, List.setIfInBounds_toArray, List.set_cons_zero, List.set_cons_succ]
  refine wpAnyH_take (i := 3) (oi := ⟨some 23, _, _, _, _, _⟩) (v := .pointer (some ⟨w.heap.size, 3, none⟩)) rfl (by kernel_rfl) (by kernel_rfl) (by kernel_rfl) (fun _ _ _ h => h) (Or.inl ⟨by rfl, by intro w hSw; (try dsimp only at hSw); obtain ⟨z0, z1, z2, z3⟩ := hSw.d.cells; have za := hSw.m.mr.ca; unfold U.bv at za; go_simp⟩) hH0 ?_
  try simp only [Act.put, List.setIfInBounds_toArray, List.set_cons_zero, List.set_cons_succ]
  refine wpAnyH_take (i := 4) (oi := ⟨some 24, _, _, _, _, _⟩) (v := .int .i64 n) rfl (by kernel_rfl) (by kernel_rfl) (by kernel_rfl) (fun _ _ _ h => h) (Or.inl ⟨by rfl, by intro w hSw; (try dsimp only at hSw); obtain ⟨z0, z1, z2, z3⟩ := hSw.d.cells; have za := hSw.m.mr.ca; unfold U.bv at za; go_simp⟩) hH0 ?_
  try simp only [Act.put, List.setIfInBounds_toArray, List.set_cons_zero, List.set_cons_succ]
  refine wpAnyH_take (i := 6) (oi := ⟨some 26, _, _, _, _, _⟩) (v := .agg L1.toArray) rfl (by kernel_rfl) (by kernel_rfl) (by kernel_rfl) (fun _ _ _ h => h) (yieldsIf_load_mid (by rfl) 30 (.tmp 5) rfl g 0 rfl L1 _ (fun w hSw => HRG.out _ hSw) Try.underlying30 rfl hszl.out) hH0 ?_
  try simp only [Act.put, List.setIfInBounds_toArray, List.set_cons_zero, List.set_cons_succ]
  refine wpAnyH_take (i := 7) (oi := ⟨some 27, _, _, _, _, _⟩) (v := .pointer (some ⟨w.heap.size, 1, none⟩)) rfl (by kernel_rfl) (by kernel_rfl) (by kernel_rfl) (fun _ _ _ h => h) (Or.inl ⟨by rfl, by intro w hSw; (try dsimp only at hSw); obtain ⟨z0, z1, z2, z3⟩ := hSw.d.cells; have za := hSw.m.mr.ca; unfold U.bv at za; go_simp⟩) hH0 ?_
  try simp only [Act.put, List.setIfInBounds_toArray, List.set_cons_zero, List.set_cons_succ]
  refine wpAnyH_take (i := 8) (oi := ⟨some 28, _, _, _, _, _⟩) (v := .int .i64 d) rfl (by kernel_rfl) (by kernel_rfl) (by kernel_rfl) (fun _ _ _ h => h) (Or.inl ⟨by rfl, by intro w hSw; (try dsimp only at hSw); obtain ⟨z0, z1, z2, z3⟩ := hSw.d.cells; have za := hSw.m.mr.ca; unfold U.bv at za; go_simp⟩) hH0 ?_
  try simp only [Act.put, List.setIfInBounds_toArray, List.set_cons_zero, List.set_cons_succ]
  refine wpAnyH_take (i := 9) (oi := ⟨some 29, _, _, _, _, _⟩) (v := .pointer (some ⟨w.heap.size, 3, none⟩)) rfl (by kernel_rfl) (by kernel_rfl) (by kernel_rfl) (fun _ _ _ h => h) (Or.inl ⟨by rfl, by intro w hSw; (try dsimp only at hSw); obtain ⟨z0, z1, z2, z3⟩ := hSw.d.cells; have za := hSw.m.mr.ca; unfold U.bv at za; go_simp⟩) hH0 ?_
  try simp only [Act.put, List.setIfInBounds_toArray, List.set_cons_zero, List.set_cons_succ]
  refine wpAnyH_take (i := 10) (oi := ⟨some 30, _, _, _, _, _⟩) (v := .int .i64 n) rfl (by kernel_rfl) (by kernel_rfl) (by kernel_rfl) (fun _ _ _ h => h) (Or.inl ⟨by rfl, by intro w hSw; (try dsimp only at hSw); obtain ⟨z0, z1, z2, z3⟩ := hSw.d.cells; have za := hSw.m.mr.ca; unfold U.bv at za; go_simp⟩) hH0 ?_
  try simp only [Act.put, List.setIfInBounds_toArray, List.set_cons_zero, List.set_cons_succ]
  refine wpAnyH_ready (rs := [5]) (by kernel_rfl) (by simp) (AllReadyH.cons rfl (fun K hK => ?_) AllReadyH.nil)
  go_simp
  refine (HAs.out _ hH0).mono ?_
  rintro e W7 ⟨rfl, H7⟩
  refine hK.out _ _ H7.out (fun hH1 => ?_)
  clear hK K
  try simp only [Act.put, List.setIfInBounds_toArray, List.set_cons_zero, List.set_cons_succ]
  refine wpAnyH_ready (rs := [11]) (by kernel_rfl) (by simp) (AllReadyH.cons rfl (fun K hK => ?_) AllReadyH.nil)
  go_simp
  refine (HAd.out _ hH1).mono ?_
  rintro e W8 ⟨rfl, H8⟩
  refine hK.out _ _ H8.out (fun hH2 => ?_)
  clear hK K
  try simp only [Act.put, List.setIfInBounds_toArray, List.set_cons_zero, List.set_cons_succ]
  refine wpAnyH_take (i := 12) (oi := ⟨some 6, _, _, _, _, _⟩) (v := .int .u32 zs) rfl (by kernel_rfl) (by kernel_rfl) (by kernel_rfl) (fun _ _ _ h => h) (Or.inl ⟨by rfl, by intro w hSw; (try dsimp only at hSw); obtain ⟨z0, z1, z2, z3⟩ := hSw.d.cells; have za := hSw.m.mr.ca; unfold U.bv at za; go_simp⟩) hH2 ?_
  try simp only [Act.put, List.setIfInBounds_toArray, List.set_cons_zero, List.set_cons_succ]
  refine wpAnyH_take (i := 13) (oi := ⟨some 7, _, _, _, _, _⟩) (v := .int .u32 zd) rfl (by kernel_rfl) (by kernel_rfl) (by kernel_rfl) (fun _ _ _ h => h) (Or.inl ⟨by rfl, by intro w hSw; (try dsimp only at hSw); obtain ⟨z0, z1, z2, z3⟩ := hSw.d.cells; have za := hSw.m.mr.ca; unfold U.bv at za; go_simp⟩) hH2 ?_
  try simp only [Act.put, List.setIfInBounds_toArray, List.set_cons_zero, List.set_cons_succ]
  refine wpAnyH_done (by kernel_rfl) ?_ _
  clear HRG HAs HAd H6 H7 hH0 hH1 hH2
  obtain ⟨c0, c1, c2, c3⟩ := H8.out.d.cells
  replace ho1 := ho1.out
  subst ho1
  have ca := H8.out.m.mr.ca
  unfold U.bv at ca
  have HP := hid (H8.out.put hk d x.a _ rfl)
  go_upto_region 33 with (go_at_call 30; refine HP.out.mono ?_; rintro r W9 ⟨rfl, H9⟩; have f9 := H9.out.m.mr.free 0; have c9 := H9.out.m.mr.ca)
  have H10 := hid (H9.out.set 0 (U.bv (atM x d n)) { putM x d x.a with a := atM x d n } (ms_0 _ _ _ _) rfl rfl)
  unfold U.bv at H10
  rw [hzd.out] at H10
  change Code.wp _ _ _ _ (W9.setCell ⟨g, 0, none⟩ (.int .u32 zd))
  generalize W9.setCell ⟨g, 0, none⟩ (.int .u32 zd) = W10 at *
  clear f9 c9 H9
  obtain ⟨L5, hL5⟩ : ∃ L5, mcL { putM x d x.a with a := atM x d n } (.slice (some ⟨hb, 0, none⟩) nH dH) (.slice (some ⟨mb, 0, none⟩) nM dM) = L5 := ⟨_, rfl⟩
  have T := hid (H10.out.fin L5 hL5)
  replace hL5 := hid hL5
  go_wp2_with (first
    | (refine wpList_load_row rfl 30 (.tmp 5) rfl g rfl 30 L5.toArray (0, 0) _ T.out.1 Try.underlying30 rfl T.out.2.1 ?_)
    | (refine wpList_store_row (o := ⟨none, .store 30 (.tmp 4) (.tmp 171), _, _, _, _⟩) rfl 30 (.tmp 4) (.tmp 171) rfl (w.heap.size + 1 + 1) L5.toArray rfl rfl 30 zL.toArray T.out.2.2.1 T.out.2.1 T.out.2.2.2.1 T.out.2.2.2.2.1 ?_))
  refine bodyPost_ret (results_cell_row (by kernel_rfl : Try.f12.results = #[.cell 4 30]) _ _ (w.heap.size + 1 + 1) 30 L5.toArray (0, 0) _ rfl T.out.2.2.2.2.2.1 Try.underlying30 rfl T.out.2.1) rfl ?_
  rw [HE.out, if_pos ⟨by omega, hi, hk⟩]
  rw [swap_eq]
  exact T.out.2.2.2.2.2.2
set_option maxRecDepth 10000 in
set_option maxHeartbeats 32000000 in
theorem rdo_8 (w : World) (x : Mn) (o d s n : Int) (ho : 0 ≤ o) (AH AM : Option Addr) (nH cH nM cM : Nat) (h : U.IsBB w w.heap.size AH nH cH x.h) (hm : IsBB w w.heap.size AM nM cM x.m) (h1 : nH ≤ 5000) (h2 : nM ≤ 5000) (hk : x.ok) (hi : okI o d s n) (ho1 : 8 ≤ o ∧ o ≤ 18) :
    Calls Try.prog 12 #[vI o d s n, vM x (.slice AH nH cH) (.slice AM nM cM)] w (DoPost w (doneM o d s n x) nH nM) := by
  replace ho1 := hid ho1
  have zv := zero30
  have zl : zL.length = 263 := mc_len _ _ _
  have H0 := hid (Do3.start w (mcL x (.slice AH nH cH) (.slice AM nM cM)) o d s n)
  have HCM := hid (fun W (hw : Do3 w W (mcL x (.slice AH nH cH) (.slice AM nM cM)) o d s n) => CopyMachine_any W x AH AM nH cH nM cM (h.on hw.two.bel) (hm.on hw.two.bel) (by omega) (by omega))
  have HR := hid (RefRight_any o d s n ho)
  have HE : Hid (doneM o d s n x = if (1 ≤ o ∧ o ≤ 25) ∧ okI o d s n ∧ x.ok then doM o d s n x else x) := rfl
  have HZ := hid (mc_size x (.slice AH nH cH) (.slice AM nM cM))
  clear h hm
  unfold vM at HCM ⊢
  unfold vI at HR ⊢
  generalize hL : mcL x (.slice AH nH cH) (.slice AM nM cM) = L at *
  replace hL := hid hL
  have hsz := hid (size30 L.toArray HZ.out)
  go_enter Try.func12, Try.ntmps12
  go_upto_region 1 with fail
  have HS0 : Hid ((((w.alloc (.cells #[.int .u8 o, .int .i64 d, .int .i64 s, .int .i64 n] 24)).alloc (.cells L.toArray 30)).alloc (.cells zL.toArray 30)).heap.size = w.heap.size + 3) := hid (by simp)
  generalize (((w.alloc _).alloc (.cells L.toArray 30)).alloc (.cells zL.toArray 30)) = W0 at *
  have HA0 := hid (HCM.out W0 H0.out)
  go_upto_region 2 with (first
    | (refine wpList_load_row rfl 30 (.tmp 3) rfl (w.heap.size + 1) rfl 30 L.toArray (0, 0) _ H0.out.two.one Try.underlying30 rfl hsz.out ?_)
    | (go_at_call 7; refine HA0.out.mono ?_; rintro r W1 ⟨BH, dH, BM, dM, rfl, o1, o2, b1⟩; have O1 := hid o1; have O2 := hid o2; have B1 := hid b1; clear o1 o2 b1; obtain ⟨L1, hL1⟩ : ∃ L1, mcL x (.slice BH nH dH) (.slice BM nM dM) = L1 := ⟨_, rfl⟩; have E1 := hid (show (Try.prog.info? 30).map (·.size) = some L1.toArray.size ∧ zL.toArray.size = L1.toArray.size ∧ L1.toArray.all (·.oneCell') = true by rw [← hL1]; exact ⟨size30 _ (mc_size _ _ _), by rw [mc_size]; exact mc_size _ _ _, mc_one _ _ _ _ _ _ _⟩); rw [hL1]; replace hL1 := hid hL1)
    | (refine wpList_store_row (o := ⟨none, .store 30 (.tmp 5) (.tmp 10), _, _, _, _⟩) rfl 30 (.tmp 5) (.tmp 10) rfl W1.heap.size L1.toArray rfl rfl 30 zL.toArray (heap_alloc_new W1 _) E1.out.1 E1.out.2.1 E1.out.2.2 ?_))
  change Code.wp _ _ _ _ (Stw W1 L1)
  have H2 := hid (RDo.start H0.out HS0.out B1.out L1)
  have O3 : Hid ((Stw W1 L1).ownsRow (w.heap.size + 3) 25 1 (.slice BH nH dH) nH (x.h.map U.bv)) := hid (by have := own_below O1.out (Stw.bel W1 L1); rw [HS0.out] at this; exact this)
  have O4 : Hid ((Stw W1 L1).ownsRow (w.heap.size + 3) 5 1 (.slice BM nM dM) nM (x.m.map bv)) := hid (by have := own_below O2.out (Stw.bel W1 L1); rw [HS0.out] at this; exact this)
  clear O1 O2 B1 HA0 HCM H0 HS0 hL hsz HZ
  generalize Stw W1 L1 = W2 at *
  generalize W1.heap.size = g at *
  have HM := hid (rd_right H2.out O3.out O4.out h1 h2)
  unfold vM at HM
  rw [hL1.out] at HM
  obtain ⟨c0, c1, c2, c3⟩ := H2.out.cells
  rw [decide_eq_true hk] at HM
  rw [show rightE o d s n = 0 from if_pos hi] at HR
  go_upto_region 4 with (first
    | (refine BigFrame.wpList_want (o := ⟨some 11, .load 30 (.tmp 5), _, _, _, _⟩) (by rfl) (fun _ hK => wp_load_row 30 (.tmp 5) rfl g rfl 30 L1.toArray (0, 0) _ H2.out.row Try.underlying30 rfl E1.out.1 (hK _ _ ?_)))
    | (go_at_call 27; refine HM.out.mono ?_; rintro r W3 ⟨rfl, H3, P1, P2⟩; obtain ⟨c0, c1, c2, c3⟩ := H3.out.cells)
    | (go_at_call 28; refine (HR.out _).mono ?_; rintro r W4 ⟨rfl, b4⟩; have B4 := hid b4; clear b4))
  have hrm := rm_of (x := x) (by have := H3.out.below B4.out; rw [← hL1.out] at this; exact this) (own_below P1.out B4.out) (own_below P2.out B4.out) hk h1 h2
  obtain ⟨hb, mb, rfl, rfl, hrm⟩ := hrm
  have H6 := hid hrm
  clear hrm HM HR H2 O3 O4 H3 P1 P2 B4
  have HRG := hid (fun W (H : RM w W g hb mb nH dH nM dM x o d s n) => H.range L1 hL1.out)
  have hszl := hid (show (Try.prog.info? 30).map (·.size) = some L1.length by rw [← hL1.out]; exact size30 _ (mc_size _ _ _))
  obtain ⟨zs, hzs⟩ : ∃ z : Int, ((atM x s n).toNat : Int) = z := ⟨_, rfl⟩
  obtain ⟨zd, hzd⟩ : ∃ z : Int, ((atM x d n).toNat : Int) = z := ⟨_, rfl⟩
  have HAT := hid (fun W (H : RM w W g hb mb nH dH nM dM x o d s n) p q => H.at hk p q)
  unfold vM at HAT
  rw [hL1.out] at HAT
  have HAs : Hid (∀ W, RM w W g hb mb nH dH nM dM x o d s n → Calls Try.prog 29 #[.agg L1.toArray, .int .i64 s, .int .i64 n] W fun e w' => e = .returned (.int .u32 zs) ∧ Hid (RM w w' g hb mb nH dH nM dM x o d s n)) := hid (by rw [← hzs]; exact fun W H => HAT.out W H s n)
  have HAd : Hid (∀ W, RM w W g hb mb nH dH nM dM x o d s n → Calls Try.prog 29 #[.agg L1.toArray, .int .i64 d, .int .i64 n] W fun e w' => e = .returned (.int .u32 zd) ∧ Hid (RM w w' g hb mb nH dH nM dM x o d s n)) := hid (by rw [← hzd]; exact fun W H => HAT.out W H d n)
  replace hzs := hid hzs
  replace hzd := hid hzd
  refine wp_region_held_drew (S := (fun w' => RM w w' g hb mb nH dH nM dM x o d s n)) (by kernel_rfl) H6.out.drew (fun hH0 => ?_)
  refine wpAnyH_take (i := 0) (oi := ⟨some 20, _, _, _, _, _⟩) (v := .agg L1.toArray) rfl (by kernel_rfl) (by kernel_rfl) (by kernel_rfl) (fun _ _ _ h => h) (yieldsIf_load_mid (by rfl) 30 (.tmp 5) rfl g 0 rfl L1 _ (fun w hSw => HRG.out _ hSw) Try.underlying30 rfl hszl.out) hH0 ?_
  try simp only [Act.put, List.setIfInBounds_toArray, List.set_cons_zero, List.set_cons_succ]
  refine wpAnyH_take (i := 1) (oi := ⟨some 21, _, _, _, _, _⟩) (v := .pointer (some ⟨w.heap.size, 2, none⟩)) rfl (by kernel_rfl) (by kernel_rfl) (by kernel_rfl) (fun _ _ _ h => h) (Or.inl ⟨by rfl, by intro w hSw; (try dsimp only at hSw); obtain ⟨z0, z1, z2, z3⟩ := hSw.d.cells; have za := hSw.m.mr.ca; unfold U.bv at za; go_simp⟩) hH0 ?_
  try simp only [Act.put, List.setIfInBounds_toArray, List.set_cons_zero, List.set_cons_succ]
  refine wpAnyH_take (i := 2) (oi := ⟨some 22, _, _, _, _, _⟩) (v := .int .i64 s) rfl (by kernel_rfl) (by kernel_rfl) (by kernel_rfl) (fun _ _ _ h => h) (Or.inl ⟨by rfl, by intro w hSw; (try dsimp only at hSw); obtain ⟨z0, z1, z2, z3⟩ := hSw.d.cells; have za := hSw.m.mr.ca; unfold U.bv at za; go_simp⟩) hH0 ?_
  try simp only [Act.put, List.setIfInBounds_toArray, List.set_cons_zero, List.set_cons_succ]
  refine wpAnyH_take (i := 3) (oi := ⟨some 23, _, _, _, _, _⟩) (v := .pointer (some ⟨w.heap.size, 3, none⟩)) rfl (by kernel_rfl) (by kernel_rfl) (by kernel_rfl) (fun _ _ _ h => h) (Or.inl ⟨by rfl, by intro w hSw; (try dsimp only at hSw); obtain ⟨z0, z1, z2, z3⟩ := hSw.d.cells; have za := hSw.m.mr.ca; unfold U.bv at za; go_simp⟩) hH0 ?_
  try simp only [Act.put, List.setIfInBounds_toArray, List.set_cons_zero, List.set_cons_succ]
  refine wpAnyH_take (i := 4) (oi := ⟨some 24, _, _, _, _, _⟩) (v := .int .i64 n) rfl (by kernel_rfl) (by kernel_rfl) (by kernel_rfl) (fun _ _ _ h => h) (Or.inl ⟨by rfl, by intro w hSw; (try dsimp only at hSw); obtain ⟨z0, z1, z2, z3⟩ := hSw.d.cells; have za := hSw.m.mr.ca; unfold U.bv at za; go_simp⟩) hH0 ?_
  try simp only [Act.put, List.setIfInBounds_toArray, List.set_cons_zero, List.set_cons_succ]
  refine wpAnyH_take (i := 6) (oi := ⟨some 26, _, _, _, _, _⟩) (v := .agg L1.toArray) rfl (by kernel_rfl) (by kernel_rfl) (by kernel_rfl) (fun _ _ _ h => h) (yieldsIf_load_mid (by rfl) 30 (.tmp 5) rfl g 0 rfl L1 _ (fun w hSw => HRG.out _ hSw) Try.underlying30 rfl hszl.out) hH0 ?_
  try simp only [Act.put, List.setIfInBounds_toArray, List.set_cons_zero, List.set_cons_succ]
  refine wpAnyH_take (i := 7) (oi := ⟨some 27, _, _, _, _, _⟩) (v := .pointer (some ⟨w.heap.size, 1, none⟩)) rfl (by kernel_rfl) (by kernel_rfl) (by kernel_rfl) (fun _ _ _ h => h) (Or.inl ⟨by rfl, by intro w hSw; (try dsimp only at hSw); obtain ⟨z0, z1, z2, z3⟩ := hSw.d.cells; have za := hSw.m.mr.ca; unfold U.bv at za; go_simp⟩) hH0 ?_
  try simp only [Act.put, List.setIfInBounds_toArray, List.set_cons_zero, List.set_cons_succ]
  refine wpAnyH_take (i := 8) (oi := ⟨some 28, _, _, _, _, _⟩) (v := .int .i64 d) rfl (by kernel_rfl) (by kernel_rfl) (by kernel_rfl) (fun _ _ _ h => h) (Or.inl ⟨by rfl, by intro w hSw; (try dsimp only at hSw); obtain ⟨z0, z1, z2, z3⟩ := hSw.d.cells; have za := hSw.m.mr.ca; unfold U.bv at za; go_simp⟩) hH0 ?_
  try simp only [Act.put, List.setIfInBounds_toArray, List.set_cons_zero, List.set_cons_succ]
  refine wpAnyH_take (i := 9) (oi := ⟨some 29, _, _, _, _, _⟩) (v := .pointer (some ⟨w.heap.size, 3, none⟩)) rfl (by kernel_rfl) (by kernel_rfl) (by kernel_rfl) (fun _ _ _ h => h) (Or.inl ⟨by rfl, by intro w hSw; (try dsimp only at hSw); obtain ⟨z0, z1, z2, z3⟩ := hSw.d.cells; have za := hSw.m.mr.ca; unfold U.bv at za; go_simp⟩) hH0 ?_
  try simp only [Act.put, List.setIfInBounds_toArray, List.set_cons_zero, List.set_cons_succ]
  refine wpAnyH_take (i := 10) (oi := ⟨some 30, _, _, _, _, _⟩) (v := .int .i64 n) rfl (by kernel_rfl) (by kernel_rfl) (by kernel_rfl) (fun _ _ _ h => h) (Or.inl ⟨by rfl, by intro w hSw; (try dsimp only at hSw); obtain ⟨z0, z1, z2, z3⟩ := hSw.d.cells; have za := hSw.m.mr.ca; unfold U.bv at za; go_simp⟩) hH0 ?_
  try simp only [Act.put, List.setIfInBounds_toArray, List.set_cons_zero, List.set_cons_succ]
  refine wpAnyH_ready (rs := [5]) (by kernel_rfl) (by simp) (AllReadyH.cons rfl (fun K hK => ?_) AllReadyH.nil)
  go_simp
  refine (HAs.out _ hH0).mono ?_
  rintro e W7 ⟨rfl, H7⟩
  refine hK.out _ _ H7.out (fun hH1 => ?_)
  clear hK K
  try simp only [Act.put, List.setIfInBounds_toArray, List.set_cons_zero, List.set_cons_succ]
  refine wpAnyH_ready (rs := [11]) (by kernel_rfl) (by simp) (AllReadyH.cons rfl (fun K hK => ?_) AllReadyH.nil)
  go_simp
  refine (HAd.out _ hH1).mono ?_
  rintro e W8 ⟨rfl, H8⟩
  refine hK.out _ _ H8.out (fun hH2 => ?_)
  clear hK K
  try simp only [Act.put, List.setIfInBounds_toArray, List.set_cons_zero, List.set_cons_succ]
  refine wpAnyH_take (i := 12) (oi := ⟨some 6, _, _, _, _, _⟩) (v := .int .u32 zs) rfl (by kernel_rfl) (by kernel_rfl) (by kernel_rfl) (fun _ _ _ h => h) (Or.inl ⟨by rfl, by intro w hSw; (try dsimp only at hSw); obtain ⟨z0, z1, z2, z3⟩ := hSw.d.cells; have za := hSw.m.mr.ca; unfold U.bv at za; go_simp⟩) hH2 ?_
  try simp only [Act.put, List.setIfInBounds_toArray, List.set_cons_zero, List.set_cons_succ]
  refine wpAnyH_take (i := 13) (oi := ⟨some 7, _, _, _, _, _⟩) (v := .int .u32 zd) rfl (by kernel_rfl) (by kernel_rfl) (by kernel_rfl) (fun _ _ _ h => h) (Or.inl ⟨by rfl, by intro w hSw; (try dsimp only at hSw); obtain ⟨z0, z1, z2, z3⟩ := hSw.d.cells; have za := hSw.m.mr.ca; unfold U.bv at za; go_simp⟩) hH2 ?_
  try simp only [Act.put, List.setIfInBounds_toArray, List.set_cons_zero, List.set_cons_succ]
  refine wpAnyH_done (by kernel_rfl) ?_ _
  clear HRG HAs HAd H6 H7 hH0 hH1 hH2
  obtain ⟨c0, c1, c2, c3⟩ := H8.out.d.cells
  replace ho1 := ho1.out
  have g1 : decide ((8 : Int) ≤ o) = true := decide_eq_true ho1.1
  have g2 : decide (o ≤ (18 : Int)) = true := decide_eq_true ho1.2
  have n1 : (o == 1) = false := by simp only [beq_eq_false_iff_ne, ne_eq]; omega
  have n2 : (o == 2) = false := by simp only [beq_eq_false_iff_ne, ne_eq]; omega
  have n3 : (o == 3) = false := by simp only [beq_eq_false_iff_ne, ne_eq]; omega
  have n4 : (o == 4) = false := by simp only [beq_eq_false_iff_ne, ne_eq]; omega
  have n5 : (o == 5) = false := by simp only [beq_eq_false_iff_ne, ne_eq]; omega
  have n6 : (o == 6) = false := by simp only [beq_eq_false_iff_ne, ne_eq]; omega
  have n7 : (o == 7) = false := by simp only [beq_eq_false_iff_ne, ne_eq]; omega
  have ca := H8.out.m.mr.ca
  unfold U.bv at ca
  have f9 := H8.out.m.mr.free 0
  have HC := hid (rcalc_any o ho1 x.a (atM x s n))
  unfold U.bv at HC
  rw [hzs.out] at HC
  have HO := hid ho1
  clear ho1
  have H10 := hid (H8.out.set 0 (U.bv (calcM o x.a (atM x s n))) { x with a := calcM o x.a (atM x s n) } (ms_0 _ _ _ _) rfl rfl)
  unfold U.bv at H10
  go_upto_region 33 with (go_at_call 31; refine (HC.out _).mono ?_; rintro r w2 ⟨rfl, ej⟩; rw [ej]; clear ej w2)
  change Code.wp _ _ _ _ (W8.setCell ⟨g, 0, none⟩ (.int .u32 ((calcM o x.a (atM x s n)).toNat : Nat)))
  generalize W8.setCell ⟨g, 0, none⟩ (.int .u32 ((calcM o x.a (atM x s n)).toNat : Nat)) = W10 at *
  clear f9 ca H8 HC
  obtain ⟨L5, hL5⟩ : ∃ L5, mcL { x with a := calcM o x.a (atM x s n) } (.slice (some ⟨hb, 0, none⟩) nH dH) (.slice (some ⟨mb, 0, none⟩) nM dM) = L5 := ⟨_, rfl⟩
  have T := hid (H10.out.fin L5 hL5)
  replace hL5 := hid hL5
  go_wp2_with (first
    | (refine wpList_load_row rfl 30 (.tmp 5) rfl g rfl 30 L5.toArray (0, 0) _ T.out.1 Try.underlying30 rfl T.out.2.1 ?_)
    | (refine wpList_store_row (o := ⟨none, .store 30 (.tmp 4) (.tmp 171), _, _, _, _⟩) rfl 30 (.tmp 4) (.tmp 171) rfl (w.heap.size + 1 + 1) L5.toArray rfl rfl 30 zL.toArray T.out.2.2.1 T.out.2.1 T.out.2.2.2.1 T.out.2.2.2.2.1 ?_))
  refine bodyPost_ret (results_cell_row (by kernel_rfl : Try.f12.results = #[.cell 4 30]) _ _ (w.heap.size + 1 + 1) 30 L5.toArray (0, 0) _ rfl T.out.2.2.2.2.2.1 Try.underlying30 rfl T.out.2.1) rfl ?_
  rw [HE.out, if_pos ⟨by have := HO.out; omega, hi, hk⟩]
  rw [show doM o d s n x = { x with a := calcM o x.a (atM x s n) } from doM_calc HO.out]
  exact T.out.2.2.2.2.2.2
end Go.Proofs.Ytaogileaeflnfaa
