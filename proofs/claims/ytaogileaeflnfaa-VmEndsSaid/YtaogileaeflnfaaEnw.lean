/-
  VmEnds: its walk.
-/
import Derived.Test.YtaogileaeflnfaaEnx
set_option linter.unusedVariables false
set_option linter.unusedSimpArgs false
namespace Go.Proofs.Ytaogileaeflnfaa
open Go.RowKit

set_option maxRecDepth 10000 in
set_option maxHeartbeats 16000000 in
theorem ends_walk (w : World) (y : Mn) (a0 a1 a2 a3 : Int) (A : Option Addr) (n c : Nat) (l : List UInt8) (AH AM : Option Addr) (nH cH nM cM : Nat) (hb : IsBB w w.heap.size A n c l)
    (HAw : Hid (∀ w, Calls Try.prog 6 #[] w fun e w' => e = .returned (.bool true) ∧ Below w.heap.size w w')) (hn : n ≤ 3000) :
    Calls Try.prog 4 #[.slice A n c, vM y (.slice AH nH cH) (.slice AM nM cM), .agg #[.int .i64 a0, .int .i64 a1, .int .i64 a2, .int .i64 a3]] w fun e w' => e = .returned (.bool true) ∧ Below w.heap.size w w' := by
  have zv := zero30
  have hlen := hid hb.len
  have HB := hid hb
  have HC := hid (fun W (b : Below w.heap.size w W) => Check_any A n c l true W (hb.on b))
  have HS5 := hid (mc_size y (.slice AH nH cH) (.slice AM nM cM))
  have M1 := hid (fun u => ms_h y (.slice AH nH cH) (.slice AM nM cM) u)
  have ch := hid (mc_h y (.slice AH nH cH) (.slice AM nM cM))
  have cm := hid (mc_m y (.slice AH nH cH) (.slice AM nM cM))
  clear hb
  unfold vM
  generalize hL : mcL y (.slice AH nH cH) (.slice AM nM cM) = L at *
  replace hL := hid hL
  have hnz : (n : Int) ≤ 3000 := by omega
  go_enter Try.func4, Try.ntmps4
  go_upto_region 1 with fail
  have P1 := hid (e1_a w L (.cells #[.int .i64 a0, .int .i64 a1, .int .i64 a2, .int .i64 a3] 42) a0 a1 a2 a3)
  have P2 := hid (e1_b w L (.cells #[.int .i64 a0, .int .i64 a1, .int .i64 a2, .int .i64 a3] 42) a0 a1 a2 a3)
  go_cut [7, 8] from 20 to 23 (fun v7 v8 wx => ∃ b7 b8 : Nat, v7 = .pointer (some ⟨b7, 0, none⟩) ∧ v8 = .pointer (some ⟨b8, 0, none⟩) ∧ Hid (E1 w wx L b7 b8 a0 a1 a2 a3))
  case first =>
    go_region
    · go_wp2_with fail
      go_meet
      case rel => exact ⟨_, _, rfl, rfl, P1⟩
    · go_wp2_with fail
      go_meet
      case rel => exact ⟨_, _, rfl, rfl, P2⟩
  case rest =>
    obtain ⟨b7, b8, rfl, rfl, H1⟩ := hcut
    clear P1 P2
    have HC1 := hid (HC.out wc H1.out.bel)
    clear HC
    have d1 : decide ((3000 : Int) < (n : Int)) = false := decide_eq_false (by omega)
    go_upto_if 31 with (go_at_call 15; refine HC1.out.mono ?_; rintro r W1 ⟨S, rfl, b1, hS⟩)
    have H2 := hid (H1.out.below b1)
    have HCh := hid (chk_zero (post := true) hS)
    have HS2 := hid hS
    clear b1 hS HC1 H1
    obtain ⟨er, her⟩ : ∃ er, chkE l true S = er := ⟨_, rfl⟩
    rw [her] at HCh ⊢
    clear her
    by_cases h0 : er = 0
    case neg =>
      have n0 : (er != 0) = true := by simp [h0]
      rw [n0]
      clear HCh HS2
      go_wp2_with (go_at_call 6; refine (HAw.out _).mono ?_; rintro r W9 ⟨rfl, b9⟩)
      go_ret
      exact ⟨rfl, bel_trans H2.out.bel b9⟩
    subst h0
    rw [show ((0 : Int) != 0) = false from rfl]
    have hrp := hid (HCh.out.1 rfl)
    clear HCh HS2
    have R2 := hid (fun o1 o2 => (H2.out.below (((Below.refl _ W1).alloc (Nat.le_refl _) o1).alloc (by simp) o2)).row)
    have R1 := hid (fun o1 => (H2.out.below ((Below.refl _ W1).alloc (Nat.le_refl _) o1)).row)
    have c6 : ∀ o1 o2, ((W1.alloc o1).alloc o2).cell? ⟨w.heap.size, 261, none⟩ = some (.slice AH nH cH) := fun o1 o2 => (row_get (R2.out o1 o2) 261).trans ch.out
    have c7 : ∀ o1 o2, ((W1.alloc o1).alloc o2).cell? ⟨w.heap.size, 262, none⟩ = some (.slice AM nM cM) := fun o1 o2 => (row_get (R2.out o1 o2) 262).trans cm.out
    have f6 : ∀ o1 o2 i, ((W1.alloc o1).alloc o2).frozen? ⟨w.heap.size, i, none⟩ = false := fun o1 o2 i => row_free (R2.out o1 o2) i
    have c6' : ∀ o1, (W1.alloc o1).cell? ⟨w.heap.size, 261, none⟩ = some (.slice AH nH cH) := fun o1 => (row_get (R1.out o1) 261).trans ch.out
    have f6' : ∀ o1 i, (W1.alloc o1).frozen? ⟨w.heap.size, i, none⟩ = false := fun o1 i => row_free (R1.out o1) i
    have c7s : ∀ o1 o2 u, (((W1.alloc o1).alloc o2).setCell ⟨w.heap.size, 261, none⟩ u).cell? ⟨w.heap.size, 262, none⟩ = some (.slice AM nM cM) := fun o1 o2 u => by
      have := row_set (R2.out o1 o2) 261 u
      rw [set_toArray] at this
      rw [row_get this, List.getElem?_set_ne (by omega)]
      exact cm.out
    have f6s : ∀ o1 o2 u i, (((W1.alloc o1).alloc o2).setCell ⟨w.heap.size, 261, none⟩ u).frozen? ⟨w.heap.size, i, none⟩ = false := fun o1 o2 u i => row_free (row_set (R2.out o1 o2) 261 u) i
    have hlt := hid (lt_of_heap H2.out.row)
    have c7t : ∀ o1 o2 u, (((W1.alloc o1).setCell ⟨w.heap.size, 261, none⟩ u).alloc o2).cell? ⟨w.heap.size, 262, none⟩ = some (.slice AM nM cM) := fun o1 o2 u => by
      have h1 := row_set (R1.out o1) 261 u
      have := (heap_alloc_old ((W1.alloc o1).setCell ⟨w.heap.size, 261, none⟩ u) o2 (lt_of_heap h1)).trans h1
      rw [set_toArray] at this
      rw [row_get this, List.getElem?_set_ne (by omega)]
      exact cm.out
    have f6t : ∀ o1 o2 u i, (((W1.alloc o1).setCell ⟨w.heap.size, 261, none⟩ u).alloc o2).frozen? ⟨w.heap.size, i, none⟩ = false := fun o1 o2 u i => by
      have h1 := row_set (R1.out o1) 261 u
      exact row_free ((heap_alloc_old ((W1.alloc o1).setCell ⟨w.heap.size, 261, none⟩ u) o2 (lt_of_heap h1)).trans h1) i
    have m1 : ∀ w, (Instr.makeSlice 27 (.int .i64 8) (.int .i64 8)).run Try.prog w = .ok (.slice (some ⟨w.heap.size, 0, none⟩) 8 8) (w.alloc (.cells Z8 25)) := fun w => make_h 8 (by omega) w
    have m2 : ∀ w, (Instr.makeSlice 28 (.int .i64 16) (.int .i64 16)).run Try.prog w = .ok (.slice (some ⟨w.heap.size, 0, none⟩) 16 16) (w.alloc (.cells Z16 5)) := fun w => make_m 16 (by omega) w
    have QA := hid (e2_a H2.out hL.out)
    have QB := hid (e2_b H2.out hL.out)
    have QC := hid (e2_c H2.out hL.out)
    generalize Z8 = Z8 at *
    generalize Z16 = Z16 at *
    go_upto_region 4 with fail
    go_cut [] from 33 to 36 (fun wx => ∃ hb mb, Hid (E2 w wx y hb mb b7 b8 a0 a1 a2 a3 (List.replicate 8 0) (List.replicate 16 0)))
    case first =>
      go_region
      all_goals
        go_wp2_with fail
        go_meet
        first
          | exact ⟨_, _, QA⟩
          | exact ⟨_, _, QB⟩
          | exact ⟨_, _, QC⟩
    case rest =>
      obtain ⟨hb, mb, H3⟩ := hcut
      clear QA QB QC m1 m2 c7t f6t c7s f6s c6 c7 f6 c6' f6' R1 R2 H2 hlt
      go_wp2_with fail
      go_loopw [37] (fun v wr => ∃ (k : Nat) (hl : List UInt32) (ml : List UInt8), k ≤ 256 ∧ v = .int .i64 k ∧ Hid (E2 w wr y hb mb b7 b8 a0 a1 a2 a3 hl ml)) (fun v _ => 256 - (intOf v).toNat)
      case atStart => exact ⟨0, _, _, Nat.zero_le _, rfl, H3⟩
      case round =>
        obtain ⟨k, hl, ml, hk, rfl, HS⟩ := hrel
        clear H3
        by_cases hlt : k < 256
        · have hkz : (k : Int) < 256 := by omega
          obtain ⟨i, hi⟩ : ∃ i, k % 8 = i := ⟨_, rfl⟩
          obtain ⟨j, hj⟩ : ∃ j, k % 16 = j := ⟨_, rfl⟩
          have m1 : (k : Int) % 8 = (i : Int) := by omega
          have m3 : Int.tmod (k : Int) 8 = (i : Int) := by rw [Int.tmod_eq_emod_of_nonneg (by omega)]; omega
          have m2 : (k : Int) % 16 = (j : Int) := by omega
          have m4 : Int.tmod (k : Int) 16 = (j : Int) := by rw [Int.tmod_eq_emod_of_nonneg (by omega)]; omega
          have i8 : i < 8 := by omega
          have j16 : j < 16 := by omega
          have i8z : (i : Int) < 8 := by omega
          have j16z : (j : Int) < 16 := by omega
          obtain ⟨q1, q2, q3, q4, q5, q6, q7⟩ := HS.out.facts k hlt i i8 j j16
          have X1 := calc_16 (hl.getD i 0) (y.r k)
          have HP := hid (HS.out.put_h i i8 (calcM 16 (hl.getD i 0) (y.r k)))
          have HF := hid (HP.out.facts k hlt i i8 j j16)
          have X2 := xor_8 (ml.getD j 0) (y.r k)
          have HP2 := hid (HP.out.put_m j j16 (ml.getD j 0 ^^^ UInt8.ofNat ((y.r k).toNat / 256 % 256)))
          clear hi hj HS
          unfold U.bv at HP HF HP2
          unfold bv at HP2
          generalize ml.getD j 0 ^^^ UInt8.ofNat ((y.r k).toNat / 256 % 256) = mz at *
          generalize calcM 16 (hl.getD i 0) (y.r k) = hz at *
          generalize (y.r k).toNat = rk at *
          generalize (hl.getD i 0).toNat = hi0 at *
          generalize (ml.getD j 0).toNat = mj0 at *
          go_upto_region 8 with fail
          go_still_tail 12, (by kernel_rfl)
          change wpList _ _ _ _ _ wr.drew
          have q4' : wr.drew.cell? ⟨hb, i, none⟩ = some (.int .u32 (hi0 : Nat)) := q4
          have q5' : wr.drew.frozen? ⟨hb, i, none⟩ = false := q5
          go_upto_region 9 with fail
          change Code.wp _ _ _ _ (wr.setCell ⟨hb, i, none⟩ (.int .u32 (hz.toNat : Nat))).drew
          clear q1 q2 q3 q4 q5 q6 q7 q4' q5' X1 HP m1 m3 i8z
          generalize (wr.setCell ⟨hb, i, none⟩ (.int .u32 (hz.toNat : Nat))).drew = W2 at *
          obtain ⟨q1, q2, q3, q4, q5, q6, q7⟩ := HF.out
          clear HF q4 q5
          go_still_tail 14, (by kernel_rfl)
          change wpList _ _ _ _ _ W2.drew
          have q6' : W2.drew.cell? ⟨mb, j, none⟩ = some (.int .u8 (mj0 : Nat)) := q6
          have q7' : W2.drew.frozen? ⟨mb, j, none⟩ = false := q7
          go_wp2_with fail
          go_roundw
          case rel => exact ⟨k + 1, hl.set i hz, ml.set j mz, by omega, by go_num, HP2⟩
          case measure => simp [intOf]; omega
        · obtain rfl : k = 256 := by omega
          have p00 : wr.cell? ⟨b7, 0, none⟩ = some (.int .i64 a0) := row_cell HS.out.p0 0
          have p01 : wr.cell? ⟨b7, 1, none⟩ = some (.int .i64 a1) := row_cell HS.out.p0 1
          obtain ⟨g1, G1, PK1⟩ := Pick_ex 150 (by decide) (by decide)
          obtain ⟨g2, G2, PK2⟩ := Pick_ex 200 (by decide) (by decide)
          have r0 := hid (G1.out a0)
          have r1 := hid (G1.out a1)
          have r2 := hid (G2.out a2)
          have r3 := hid (G2.out a3)
          clear G1 G2
          go_upto_region 11 with fail
          go_quiet ((go_at_call 16; exact Calls.quiet_of_same (PK1.out _ _)))
          have HS1 := hid (show E2 w (wr.drewN nq) y hb mb b7 b8 a0 a1 a2 a3 hl ml from ⟨HS.out.m.drewN nq, HS.out.p0, HS.out.p1, below_drewN HS.out.bel nq⟩)
          clear HS p00 p01 PK1
          generalize wr.drewN nq = W3 at *
          have p10 : W3.cell? ⟨b8, 0, none⟩ = some (.int .i64 a2) := row_cell HS1.out.p1 0
          have p11 : W3.cell? ⟨b8, 1, none⟩ = some (.int .i64 a3) := row_cell HS1.out.p1 1
          go_upto_region 12 with fail
          go_quiet ((go_at_call 16; exact Calls.quiet_of_same (PK2.out _ _)))
          have HS2 := hid (show E2 w (W3.drewN nq) y hb mb b7 b8 a0 a1 a2 a3 hl ml from ⟨HS1.out.m.drewN nq, HS1.out.p0, HS1.out.p1, below_drewN HS1.out.bel nq⟩)
          clear HS1 p10 p11 PK2
          generalize g1 a0 = f0 at *
          generalize g1 a1 = f1 at *
          generalize g2 a2 = t0 at *
          generalize g2 a3 = t1 at *
          generalize W3.drewN nq = W4 at *
          obtain ⟨Lx, hLx⟩ : ∃ Lx, mcL { y with h := hl, m := ml } (.slice (some ⟨hb, 0, none⟩) 8 8) (.slice (some ⟨mb, 0, none⟩) 16 16) = Lx := ⟨_, rfl⟩
          have HX := hid (fun V (h : E2 w V y hb mb b7 b8 a0 a1 a2 a3 hl ml) fuel most hm hf => er_run h HB.out hrp.out fuel most hm hf Lx hLx)
          have HXr := hid (fun V (h : E2 w V y hb mb b7 b8 a0 a1 a2 a3 hl ml) => (show V.heap[w.heap.size]? = some (.cells Lx.toArray 30 (0, 0)) by rw [← hLx]; exact h.m.row))
          have HXs := hid (show (Try.prog.info? 30).map (·.size) = some Lx.toArray.size by rw [← hLx]; exact size30 _ (mc_size _ _ _))
          replace hLx := hid hLx
          have HR4 := hid (HXr.out W4 HS2.out)
          obtain ⟨fm, fM, ef1, ef2, hf⟩ := min_ex f0 f1 150 r0.out r1.out
          obtain ⟨tm, tM, et1, et2, ht⟩ := min_ex t0 t1 200 r2.out r3.out
          clear r0 r1 r2 r3
          have HC4 := hid (HX.out W4 HS2.out fm tm (by have := ht.out; omega) (by have := hf.out; omega))
          go_upto_region 14 with (first
            | (refine wpList_load_row rfl 30 (.tmp 4) rfl w.heap.size rfl 30 Lx.toArray (0, 0) _ HR4.out Try.underlying30 rfl HXs.out ?_)
            | (go_at_call 17; go_must (refine HC4.out.mono ?_; rintro r W5 ⟨L5, v5, e5, rfl, E5, B5, RS5⟩))
            | (refine wpList_store_row (o := ⟨none, .store 30 (.tmp 14) (.tmp 89), _, _, _, _⟩) rfl 30 (.tmp 14) (.tmp 89) rfl W5.heap.size L5.toArray rfl rfl 30 zL.toArray (heap_alloc_new W5 _) E5.out.1 E5.out.2.1 E5.out.2.2 ?_))
          change Code.wp _ _ _ _ (Sto W5 L5)
          have HS3 := hid (HS2.out.below B5.out)
          generalize Sto W5 L5 = V5 at *
          generalize W5.heap.size = b5 at *
          clear W5 HC4 HR4 E5 B5 HS2
          have HR5 := hid (HXr.out V5 HS3.out)
          have HC5 := hid (HX.out V5 HS3.out fM tM (by have := ht.out; omega) (by have := hf.out; omega))
          go_upto_region 15 with (first
            | (refine wpList_load_row rfl 30 (.tmp 4) rfl w.heap.size rfl 30 Lx.toArray (0, 0) _ HR5.out Try.underlying30 rfl HXs.out ?_)
            | (go_at_call 17; go_must (refine HC5.out.mono ?_; rintro r W6 ⟨L6, v6, e6, rfl, E6, B6, RS6⟩))
            | (refine wpList_store_row (o := ⟨none, .store 30 (.tmp 17) (.tmp 102), _, _, _, _⟩) rfl 30 (.tmp 17) (.tmp 102) rfl W6.heap.size L6.toArray rfl rfl 30 zL.toArray (heap_alloc_new W6 _) E6.out.1 E6.out.2.1 E6.out.2.2 ?_))
          change Code.wp _ _ _ _ (Sto W6 L6)
          have HS4 := hid (HS3.out.below B6.out)
          replace RS5 := hid (RS5.out.on B6.out)
          generalize Sto W6 L6 = V6 at *
          generalize W6.heap.size = b6 at *
          clear W6 HC5 HR5 E6 B6 HS3 HX HXr HXs
          rcases both RS5.out RS6.out (by have := ht.out; omega) (by have := hf.out; omega) (by have := ht.out; omega) with ⟨rfl, rfl, B1, nn, c1, B2, c2, BH, dH, BM, dM, rfl, rfl, dle, T1, T2, T3, T4, HM, HBs⟩ | ⟨he, rfl⟩
          · clear RS5 RS6
            go_wp2_with (first
              | (refine BigFrame.wpList_want (o := ⟨some 110, .load 30 (.tmp 14), _, _, _, _⟩) (by rfl) (fun _ hK => wp_load_row 30 (.tmp 14) rfl b5 rfl 30 L5.toArray (0, 0) _ T1.out Try.underlying30 rfl T3.out (hK _ _ ?_)))
              | (refine BigFrame.wpList_want (o := ⟨some 111, .load 30 (.tmp 17), _, _, _, _⟩) (by rfl) (fun _ hK => wp_load_row 30 (.tmp 17) rfl b6 rfl 30 L6.toArray (0, 0) _ T2.out Try.underlying30 rfl T4.out (hK _ _ ?_)))
              | (go_at_call 11; go_must (refine HM.out.mono ?_; rintro r V7 ⟨rfl, B7⟩))
              | (go_at_call 18; go_must (refine (HBs.out V7 B7.out).mono ?_; rintro r V8 ⟨rfl, B8, q1, q2⟩))
              | (go_at_call 6; go_must (refine (HAw.out _).mono ?_; rintro r V9 ⟨rfl, B9⟩)))
            go_ret
            exact ⟨rfl, bel_trans (bel_trans HS4.out.bel B8.out) B9⟩
          · clear RS5 RS6
            have dd : (e5 == 0) = false := by have := he.out; simp only [beq_eq_false_iff_ne, ne_eq]; omega
            by_cases h5 : e5 = 111
            · subst h5
              clear he dd
              go_wp2_with (first
                | (go_at_call 6; go_must (refine (HAw.out _).mono ?_; rintro r V9 ⟨rfl, B9⟩)))
              go_ret
              exact ⟨rfl, bel_trans HS4.out.bel B9⟩
            · obtain rfl : e5 = 112 := by have := he.out; omega
              clear he dd h5
              go_wp2_with (first
                | (go_at_call 6; go_must (refine (HAw.out _).mono ?_; rintro r V9 ⟨rfl, B9⟩)))
              go_ret
              exact ⟨rfl, bel_trans HS4.out.bel B9⟩
end Go.Proofs.Ytaogileaeflnfaa
