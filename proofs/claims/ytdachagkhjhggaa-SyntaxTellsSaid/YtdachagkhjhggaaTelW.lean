/-
  The walk of SyntaxTells.
-/
import Derived.Test.YtdachagkhjhggaaCfg
import Derived.Test.YtdachagkhjhggaaCps
import Derived.Test.YtdachagkhjhggaaSam
import Derived.Test.YtdachagkhjhggaaAwk
namespace Go.Proofs.Ytdachagkhjhggaa
open Go.RowKit
set_option linter.unusedVariables false
set_option linter.unusedSimpArgs false

set_option maxRecDepth 10000 in
set_option maxHeartbeats 8000000 in
theorem tells_any (tl tc tp : Tr) (A : Option Addr) (n c : Nat) (post : Bool) (h m ph pm : Int) (Aq : Option Addr) (nq cq : Nat) (Ac : Option Addr) (nc cc : Nat) (Ap : Option Addr) (np cp : Nat) (hp : Bool) (w : World)
    (hl : Sl w w.heap.size tl A n c) (hc : Sl w w.heap.size tc Ac nc cc) (hq : Sl w w.heap.size tp Ap np cp) (wl : tl.wf) (wc : tc.wf) (wq : tp.wf) :
    Calls Try.prog 3 #[.slice A n c, .bool post, vCf h m ph pm (.slice Aq nq cq) Ac nc cc Ap np cp hp] w fun e w' => e = .returned (.bool true) ∧ Below w.heap.size w w' := by
  have D1 := hid (fun w' (b : Below w.heap.size w w') => Deep_any tl A n c w' (hl.later b))
  have D2 := hid (fun w' (b : Below w.heap.size w w') => Deep_any tc Ac nc cc w' (hc.later b))
  have D3 := hid (fun w' (b : Below w.heap.size w w') => Deep_any tp Ap np cp w' (hq.later b))
  have HL := hid (fun w' (b : Below w.heap.size w w') => hl.later b)
  have HCf := hid (fun w' (b : Below w.heap.size w w') => And.intro (hc.later b) (hq.later b))
  have HWf := hid (And.intro wl (And.intro wc wq))
  have HA := hid (fun W => awake_any W)
  obtain ⟨W0, hW0⟩ : ∃ W0, w.alloc (.cells #[.int .i64 h, .int .i64 m, .int .i64 ph, .int .i64 pm, .slice Aq nq cq, .slice Ac nc cc, .slice Ap np cp, .bool hp] 25) = W0 := ⟨_, rfl⟩
  have hb0 : Below w.heap.size w W0 := by rw [← hW0]; exact (Below.refl _ w).alloc (Nat.le_refl _) _
  have hx0 : B8 W0 w.heap.size h m ph pm (.slice Aq nq cq) (.slice Ac nc cc) (.slice Ap np cp) hp := by rw [← hW0]; exact b8_row (heap_alloc_new w _)
  have HB0 := hid hb0
  have HX0 := hid hx0
  have HW0 := hid hW0
  obtain ⟨k0, k1, k2, k3, k4, k5, k6, k7⟩ := hx0
  clear hl hc hq wl wc wq hb0 hW0
  unfold vCf
  go_enter Try.func3, Try.ntmps3
  go_upto_region 1 with fail
  rw [HW0.out]
  clear HW0
  go_upto_region 4 with (first
    | (go_at_call 5; first
      | ((with_reducible refine (D1.out _ HB0.out).mono ?_); rintro r w1 ⟨r1, rfl, b, hs⟩; have B1 := hid (HB0.out.trans (b.mono HB0.out.size)); have X1 := hid (HX0.out.below b); obtain ⟨k0, k1, k2, k3, k4, k5, k6, k7⟩ := HX0.out.below b; have S1 := hid hs; clear b hs; rcases r1 with _ | _)
      | ((with_reducible refine (D2.out _ B1.out).mono ?_); rintro r w2 ⟨r2, rfl, b, hs⟩; have B2 := hid (B1.out.trans (b.mono B1.out.size)); have X2 := hid (X1.out.below b); obtain ⟨k0, k1, k2, k3, k4, k5, k6, k7⟩ := X1.out.below b; have S2 := hid hs; clear b hs; rcases r2 with _ | _)
      | ((with_reducible refine (D3.out _ B2.out).mono ?_); rintro r w3 ⟨r3, rfl, b, hs⟩; have B3 := hid (B2.out.trans (b.mono B2.out.size)); have X3 := hid (X2.out.below b); have S3 := hid hs; clear b hs; rcases r3 with _ | _))
    | (go_at_call 6; (with_reducible refine (HA.out _).mono ?_); rintro r wa ⟨rfl, b⟩; have Ba := hid b; clear b))
  · have hs1 : tl.sz ≤ 3000 := S1.out trivial
    have hs2 : tc.sz ≤ 3000 := S2.out trivial
    have hs3 : tp.sz ≤ 3000 := S3.out trivial
    have C := hid (copy_any (tl.sz + 1) tl (by omega) hs1 A n c w3 (HL.out _ B3.out))
    have HS := hid (And.intro hs1 (And.intro hs2 hs3))
    clear hs1 hs2 hs3 S1 S2 S3 D1 D2 D3 X1 X2
    refine C.out.mono ?_
    rintro r w4 ⟨A4, c4, rfl, s4, b4⟩
    have B4 := hid (B3.out.trans (b4.mono B3.out.size))
    have I4 : Hid (Sl w4 w4.heap.size tl A4 n c4) := s4.sl (fun i hi => hi.2)
    have X4 := hid (X3.out.below b4)
    clear s4 b4 C X3 B1 B2 B3 HB0 HX0
    dsimp only
    go_upto_region 4 with fail
    have Q0 := hid B4.out.drew
    have J0 : Hid (Sl w4.drew w4.drew.heap.size tl A4 n c4) := I4.out.later ((Below.refl _ w4).drew)
    have Y0 : Hid (B8 w4.drew w.heap.size h m ph pm (.slice Aq nq cq) (.slice Ac nc cc) (.slice Ap np cp) hp) := X4.out.below ((Below.refl _ w4).drew)
    have E8 := hid (fun W k => right_any' tl A4 n c4 post W k)
    have E9 := hid (fun W k => refRight_any tl HS.out.1 HWf.out.1 A n c post W k)
    have E10 := hid (fun W k => count_any' tl HS.out.1 A4 n c4 W k)
    have E11 := hid (fun W k => ((Count_any tl A n c W k HS.out.1).mono (fun e w' q => And.intro q.1 (q.2.elim (fun j ej => ej ▸ Below.drewN _ _ _))) : Calls Try.prog 11 #[.slice A n c] W fun e w' => e = .returned (.int .i64 (tl.cnt 20)) ∧ Below W.heap.size W w'))
    have E12 := hid (fun W k1 k2 => config_any h m ph pm (.slice Aq nq cq) Ac nc cc Ap np cp hp tc tp W k1 k2)
    have E13 := hid (fun W k1 k2 => refConfig_any h m ph pm (.slice Aq nq cq) Ac nc cc Ap np cp hp tc tp W k1 k2 HS.out.2.1 HS.out.2.2 HWf.out.2.1 HWf.out.2.2)
    have E14 := hid (fun W k1 k2 => same_any (tl.sz + 1) tl (by omega) A4 A n c4 c W k1 k2)
    obtain ⟨R, hR⟩ : ∃ R, tl.right post = R := ⟨_, rfl⟩
    obtain ⟨C, hC⟩ : ∃ C, tl.cnt 20 = C := ⟨_, rfl⟩
    obtain ⟨G, hG⟩ : ∃ G, cfg tc tp ph pm hp = G := ⟨_, rfl⟩
    rw [hR] at E8 E9
    rw [hC] at E10 E11
    rw [hG] at E12 E13
    unfold vCf at E12 E13
    have hRR : (R == R) = true := beq_self_eq_true R
    have hGG : (G == G) = true := beq_self_eq_true G
    clear hR hC hG B4 I4 X4 HS HWf k0 k1 k2 k3 k4 k5 k6 k7
    refine wp_region_held_drew (S := (fun W => B8 W w.heap.size h m ph pm (.slice Aq nq cq) (.slice Ac nc cc) (.slice Ap np cp) hp)) (by kernel_rfl) Y0.out (fun hH0 => ?_)
    refine wpAnyH_take (i := 0) (oi := ⟨some 23, _, _, _, _, _⟩) (v := .slice A4 n c4) rfl (by kernel_rfl) (by kernel_rfl) (by kernel_rfl) (fun _ _ _ h => h) (Or.inl ⟨by rfl, by intro w hSw; (try dsimp only at hSw); go_simp⟩) hH0 ?_
    try simp only [Act.put, List.setIfInBounds_toArray, List.set_cons_zero, List.set_cons_succ]
    refine wpAnyH_take (i := 1) (oi := ⟨some 24, _, _, _, _, _⟩) (v := .bool post) rfl (by kernel_rfl) (by kernel_rfl) (by kernel_rfl) (fun _ _ _ h => h) (Or.inl ⟨by rfl, by intro w hSw; (try dsimp only at hSw); go_simp⟩) hH0 ?_
    try simp only [Act.put, List.setIfInBounds_toArray, List.set_cons_zero, List.set_cons_succ]
    refine wpAnyH_take (i := 3) (oi := ⟨some 26, _, _, _, _, _⟩) (v := .slice A n c) rfl (by kernel_rfl) (by kernel_rfl) (by kernel_rfl) (fun _ _ _ h => h) (Or.inl ⟨by rfl, by intro w hSw; (try dsimp only at hSw); go_simp⟩) hH0 ?_
    try simp only [Act.put, List.setIfInBounds_toArray, List.set_cons_zero, List.set_cons_succ]
    refine wpAnyH_take (i := 4) (oi := ⟨some 27, _, _, _, _, _⟩) (v := .bool post) rfl (by kernel_rfl) (by kernel_rfl) (by kernel_rfl) (fun _ _ _ h => h) (Or.inl ⟨by rfl, by intro w hSw; (try dsimp only at hSw); go_simp⟩) hH0 ?_
    try simp only [Act.put, List.setIfInBounds_toArray, List.set_cons_zero, List.set_cons_succ]
    refine wpAnyH_ready (rs := [2]) (by kernel_rfl) (by simp) (AllReadyH.cons rfl (fun K hK => ?_) AllReadyH.nil)
    go_simp
    refine (E8.out _ J0.out).mono ?_
    rintro z v1 ⟨rfl, b⟩
    have Q1 := hid (Q0.out.trans (b.mono Q0.out.size))
    have J1 := hid (J0.out.later b)
    have Y1 := hid (Y0.out.below b)
    clear b
    refine hK.out _ _ Y1.out (fun hH1 => ?_)
    clear hK K
    try simp only [Act.put, List.setIfInBounds_toArray, List.set_cons_zero, List.set_cons_succ]
    refine wpAnyH_ready (rs := [5]) (by kernel_rfl) (by simp) (AllReadyH.cons rfl (fun K hK => ?_) AllReadyH.nil)
    go_simp
    refine (E9.out _ (HL.out _ Q1.out)).mono ?_
    rintro z v2 ⟨rfl, b⟩
    have Q2 := hid (Q1.out.trans (b.mono Q1.out.size))
    have J2 := hid (J1.out.later b)
    have Y2 := hid (Y1.out.below b)
    clear b
    refine hK.out _ _ Y2.out (fun hH2 => ?_)
    clear hK K
    try simp only [Act.put, List.setIfInBounds_toArray, List.set_cons_zero, List.set_cons_succ]
    refine wpAnyH_take (i := 6) (oi := ⟨some 29, _, _, _, _, _⟩) (v := .bool true) rfl (by kernel_rfl) (by kernel_rfl) (by kernel_rfl) (fun _ _ _ h => h) (Or.inl ⟨by rfl, by intro w hSw; (try dsimp only at hSw); go_simp⟩) hH2 ?_
    try simp only [Act.put, List.setIfInBounds_toArray, List.set_cons_zero, List.set_cons_succ]
    refine wpAnyH_take (i := 7) (oi := ⟨some 30, _, _, _, _, _⟩) (v := .bool true) rfl (by kernel_rfl) (by kernel_rfl) (by kernel_rfl) (fun _ _ _ h => h) (Or.inl ⟨by rfl, by intro w hSw; (try dsimp only at hSw); go_simp⟩) hH2 ?_
    try simp only [Act.put, List.setIfInBounds_toArray, List.set_cons_zero, List.set_cons_succ]
    refine wpAnyH_take (i := 8) (oi := ⟨some 31, _, _, _, _, _⟩) (v := .slice A4 n c4) rfl (by kernel_rfl) (by kernel_rfl) (by kernel_rfl) (fun _ _ _ h => h) (Or.inl ⟨by rfl, by intro w hSw; (try dsimp only at hSw); go_simp⟩) hH2 ?_
    try simp only [Act.put, List.setIfInBounds_toArray, List.set_cons_zero, List.set_cons_succ]
    refine wpAnyH_take (i := 10) (oi := ⟨some 33, _, _, _, _, _⟩) (v := .slice A n c) rfl (by kernel_rfl) (by kernel_rfl) (by kernel_rfl) (fun _ _ _ h => h) (Or.inl ⟨by rfl, by intro w hSw; (try dsimp only at hSw); go_simp⟩) hH2 ?_
    try simp only [Act.put, List.setIfInBounds_toArray, List.set_cons_zero, List.set_cons_succ]
    refine wpAnyH_ready (rs := [9]) (by kernel_rfl) (by simp) (AllReadyH.cons rfl (fun K hK => ?_) AllReadyH.nil)
    go_simp
    refine (E10.out _ J2.out).mono ?_
    rintro z v3 ⟨rfl, b⟩
    have Q3 := hid (Q2.out.trans (b.mono Q2.out.size))
    have J3 := hid (J2.out.later b)
    have Y3 := hid (Y2.out.below b)
    clear b
    refine hK.out _ _ Y3.out (fun hH3 => ?_)
    clear hK K
    try simp only [Act.put, List.setIfInBounds_toArray, List.set_cons_zero, List.set_cons_succ]
    refine wpAnyH_ready (rs := [11]) (by kernel_rfl) (by simp) (AllReadyH.cons rfl (fun K hK => ?_) AllReadyH.nil)
    go_simp
    refine (E11.out _ (HL.out _ Q3.out)).mono ?_
    rintro z v4 ⟨rfl, b⟩
    have Q4 := hid (Q3.out.trans (b.mono Q3.out.size))
    have J4 := hid (J3.out.later b)
    have Y4 := hid (Y3.out.below b)
    clear b
    refine hK.out _ _ Y4.out (fun hH4 => ?_)
    clear hK K
    try simp only [Act.put, List.setIfInBounds_toArray, List.set_cons_zero, List.set_cons_succ]
    refine wpAnyH_take (i := 12) (oi := ⟨some 35, _, _, _, _, _⟩) (v := .bool true) rfl (by kernel_rfl) (by kernel_rfl) (by kernel_rfl) (fun _ _ _ h => h) (Or.inl ⟨by rfl, by intro w hSw; (try dsimp only at hSw); go_simp⟩) hH4 ?_
    try simp only [Act.put, List.setIfInBounds_toArray, List.set_cons_zero, List.set_cons_succ]
    refine wpAnyH_take (i := 13) (oi := ⟨some 36, _, _, _, _, _⟩) (v := .bool true) rfl (by kernel_rfl) (by kernel_rfl) (by kernel_rfl) (fun _ _ _ h => h) (Or.inl ⟨by rfl, by intro w hSw; (try dsimp only at hSw); go_simp⟩) hH4 ?_
    try simp only [Act.put, List.setIfInBounds_toArray, List.set_cons_zero, List.set_cons_succ]
    refine wpAnyH_take (i := 14) (oi := ⟨some 37, _, _, _, _, _⟩) (v := .bool true) rfl (by kernel_rfl) (by kernel_rfl) (by kernel_rfl) (fun _ _ _ h => h) (Or.inl ⟨by rfl, by intro w hSw; (try dsimp only at hSw); go_simp⟩) hH4 ?_
    try simp only [Act.put, List.setIfInBounds_toArray, List.set_cons_zero, List.set_cons_succ]
    refine wpAnyH_take (i := 15) (oi := ⟨some 38, _, _, _, _, _⟩) (v := .agg #[.int .i64 h, .int .i64 m, .int .i64 ph, .int .i64 pm, .slice Aq nq cq, .slice Ac nc cc, .slice Ap np cp, .bool hp]) rfl (by kernel_rfl) (by kernel_rfl) (by kernel_rfl) (fun _ _ _ h => h) (Or.inl ⟨by rfl, by intro w hSw; (try dsimp only at hSw); obtain ⟨z0, z1, z2, z3, z4, z5, z6, z7⟩ := hSw; go_simp⟩) hH4 ?_
    try simp only [Act.put, List.setIfInBounds_toArray, List.set_cons_zero, List.set_cons_succ]
    refine wpAnyH_take (i := 17) (oi := ⟨some 40, _, _, _, _, _⟩) (v := .agg #[.int .i64 h, .int .i64 m, .int .i64 ph, .int .i64 pm, .slice Aq nq cq, .slice Ac nc cc, .slice Ap np cp, .bool hp]) rfl (by kernel_rfl) (by kernel_rfl) (by kernel_rfl) (fun _ _ _ h => h) (Or.inl ⟨by rfl, by intro w hSw; (try dsimp only at hSw); obtain ⟨z0, z1, z2, z3, z4, z5, z6, z7⟩ := hSw; go_simp⟩) hH4 ?_
    try simp only [Act.put, List.setIfInBounds_toArray, List.set_cons_zero, List.set_cons_succ]
    refine wpAnyH_ready (rs := [16]) (by kernel_rfl) (by simp) (AllReadyH.cons rfl (fun K hK => ?_) AllReadyH.nil)
    go_simp
    refine (E12.out _ (HCf.out _ Q4.out).1 (HCf.out _ Q4.out).2).mono ?_
    rintro z v5 ⟨rfl, b⟩
    have Q5 := hid (Q4.out.trans (b.mono Q4.out.size))
    have J5 := hid (J4.out.later b)
    have Y5 := hid (Y4.out.below b)
    clear b
    refine hK.out _ _ Y5.out (fun hH5 => ?_)
    clear hK K
    try simp only [Act.put, List.setIfInBounds_toArray, List.set_cons_zero, List.set_cons_succ]
    refine wpAnyH_ready (rs := [18]) (by kernel_rfl) (by simp) (AllReadyH.cons rfl (fun K hK => ?_) AllReadyH.nil)
    go_simp
    refine (E13.out _ (HCf.out _ Q5.out).1 (HCf.out _ Q5.out).2).mono ?_
    rintro z v6 ⟨rfl, b⟩
    have Q6 := hid (Q5.out.trans (b.mono Q5.out.size))
    have J6 := hid (J5.out.later b)
    have Y6 := hid (Y5.out.below b)
    clear b
    refine hK.out _ _ Y6.out (fun hH6 => ?_)
    clear hK K
    try simp only [Act.put, List.setIfInBounds_toArray, List.set_cons_zero, List.set_cons_succ]
    refine wpAnyH_take (i := 19) (oi := ⟨some 42, _, _, _, _, _⟩) (v := .bool true) rfl (by kernel_rfl) (by kernel_rfl) (by kernel_rfl) (fun _ _ _ h => h) (Or.inl ⟨by rfl, by intro w hSw; (try dsimp only at hSw); go_simp⟩) hH6 ?_
    try simp only [Act.put, List.setIfInBounds_toArray, List.set_cons_zero, List.set_cons_succ]
    refine wpAnyH_take (i := 20) (oi := ⟨some 43, _, _, _, _, _⟩) (v := .bool true) rfl (by kernel_rfl) (by kernel_rfl) (by kernel_rfl) (fun _ _ _ h => h) (Or.inl ⟨by rfl, by intro w hSw; (try dsimp only at hSw); go_simp⟩) hH6 ?_
    try simp only [Act.put, List.setIfInBounds_toArray, List.set_cons_zero, List.set_cons_succ]
    refine wpAnyH_take (i := 21) (oi := ⟨some 44, _, _, _, _, _⟩) (v := .bool true) rfl (by kernel_rfl) (by kernel_rfl) (by kernel_rfl) (fun _ _ _ h => h) (Or.inl ⟨by rfl, by intro w hSw; (try dsimp only at hSw); go_simp⟩) hH6 ?_
    try simp only [Act.put, List.setIfInBounds_toArray, List.set_cons_zero, List.set_cons_succ]
    refine wpAnyH_take (i := 22) (oi := ⟨some 45, _, _, _, _, _⟩) (v := .slice A4 n c4) rfl (by kernel_rfl) (by kernel_rfl) (by kernel_rfl) (fun _ _ _ h => h) (Or.inl ⟨by rfl, by intro w hSw; (try dsimp only at hSw); go_simp⟩) hH6 ?_
    try simp only [Act.put, List.setIfInBounds_toArray, List.set_cons_zero, List.set_cons_succ]
    refine wpAnyH_take (i := 23) (oi := ⟨some 46, _, _, _, _, _⟩) (v := .slice A n c) rfl (by kernel_rfl) (by kernel_rfl) (by kernel_rfl) (fun _ _ _ h => h) (Or.inl ⟨by rfl, by intro w hSw; (try dsimp only at hSw); go_simp⟩) hH6 ?_
    try simp only [Act.put, List.setIfInBounds_toArray, List.set_cons_zero, List.set_cons_succ]
    refine wpAnyH_ready (rs := [24]) (by kernel_rfl) (by simp) (AllReadyH.cons rfl (fun K hK => ?_) AllReadyH.nil)
    go_simp
    refine (E14.out _ J6.out (HL.out _ Q6.out)).mono ?_
    rintro z v7 ⟨rfl, b⟩
    have Q7 := hid (Q6.out.trans (b.mono Q6.out.size))
    have J7 := hid (J6.out.later b)
    have Y7 := hid (Y6.out.below b)
    clear b
    refine hK.out _ _ Y7.out (fun hH7 => ?_)
    clear hK K
    try simp only [Act.put, List.setIfInBounds_toArray, List.set_cons_zero, List.set_cons_succ]
    refine wpAnyH_take (i := 25) (oi := ⟨some 48, _, _, _, _, _⟩) (v := .bool true) rfl (by kernel_rfl) (by kernel_rfl) (by kernel_rfl) (fun _ _ _ h => h) (Or.inl ⟨by rfl, by intro w hSw; (try dsimp only at hSw); go_simp⟩) hH7 ?_
    try simp only [Act.put, List.setIfInBounds_toArray, List.set_cons_zero, List.set_cons_succ]
    refine wpAnyH_take (i := 26) (oi := ⟨some 49, _, _, _, _, _⟩) (v := .bool true) rfl (by kernel_rfl) (by kernel_rfl) (by kernel_rfl) (fun _ _ _ h => h) (Or.inl ⟨by rfl, by intro w hSw; (try dsimp only at hSw); go_simp⟩) hH7 ?_
    try simp only [Act.put, List.setIfInBounds_toArray, List.set_cons_zero, List.set_cons_succ]
    refine wpAnyH_ready (rs := [27]) (by kernel_rfl) (by simp) (AllReadyH.cons rfl (fun K hK => ?_) AllReadyH.nil)
    go_simp
    refine (HA.out _).mono ?_
    rintro z v8 ⟨rfl, b⟩
    have Q8 := hid (Q7.out.trans (b.mono Q7.out.size))
    have J8 := hid (J7.out.later b)
    have Y8 := hid (Y7.out.below b)
    clear b
    refine hK.out _ _ Y8.out (fun hH8 => ?_)
    clear hK K
    try simp only [Act.put, List.setIfInBounds_toArray, List.set_cons_zero, List.set_cons_succ]
    refine wpAnyH_take (i := 28) (oi := ⟨some 51, _, _, _, _, _⟩) (v := .bool true) rfl (by kernel_rfl) (by kernel_rfl) (by kernel_rfl) (fun _ _ _ h => h) (Or.inl ⟨by rfl, by intro w hSw; (try dsimp only at hSw); go_simp⟩) hH8 ?_
    try simp only [Act.put, List.setIfInBounds_toArray, List.set_cons_zero, List.set_cons_succ]
    refine wpAnyH_take (i := 29) (oi := ⟨some 6, _, _, _, _, _⟩) (v := .bool true) rfl (by kernel_rfl) (by kernel_rfl) (by kernel_rfl) (fun _ _ _ h => h) (Or.inl ⟨by rfl, by intro w hSw; (try dsimp only at hSw); go_simp⟩) hH8 ?_
    try simp only [Act.put, List.setIfInBounds_toArray, List.set_cons_zero, List.set_cons_succ]
    refine wpAnyH_done (by kernel_rfl) ?_ _
    go_wp2_with fail
    go_ret
    exact ⟨rfl, Q8.out⟩
  · go_ret
    exact ⟨rfl, B3.out.trans (Ba.out.mono B3.out.size)⟩
  · go_ret
    exact ⟨rfl, B2.out.trans (Ba.out.mono B2.out.size)⟩
  · go_ret
    exact ⟨rfl, B1.out.trans (Ba.out.mono B1.out.size)⟩
end Go.Proofs.Ytdachagkhjhggaa
