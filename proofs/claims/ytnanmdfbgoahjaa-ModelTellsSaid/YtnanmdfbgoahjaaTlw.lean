/-
  ModelTells' walk: what is small.
-/
import Derived.Test.YtnanmdfbgoahjaaTlb
import Derived.Deep.DeepCutAuto
set_option linter.unusedVariables false
set_option linter.unusedSimpArgs false
namespace Go.Proofs.Ytnanmdfbgoahjaa
open Go.RowKit

theorem tl_less {n i : Nat} (h : i < n) : n - (intOf (.int .i64 ((i : Int) + 1))).toNat < n - (intOf (.int .i64 (i : Nat))).toNat := by simp [intOf]; omega
theorem wr64n (i : Nat) (h : i ≤ 140737488355328) : Hid (wrap64 ((i : Int) + 1) = (i : Int) + 1) := by refine hid ?_; unfold wrap64; omega
theorem bel_on2 {w w1 w2 : World} (h : Below w.heap.size w w1) (b : Below w1.heap.size w1 w2) : Below w.heap.size w w2 := h.trans (b.mono h.size)
theorem same_any (A B : Option Addr) (l : List UInt8) (n c d : Nat) (w : World) (h1 : IsB w A n c l) (h2 : IsB w B n d l) : Calls Try.prog 14 #[.slice A n c, .slice B n d] w fun e w' => e = .returned (.bool true) ∧ Below w.heap.size w w' :=
  (SameBytes_true A B l n c d w h1 h2).mono fun _ _ ⟨e, k, hk⟩ => ⟨e, by rw [hk]; exact below_drewN (Below.refl _ _) k⟩
/-- All that the law holds ahead of its test. -/
structure TlS (w W : World) (base b g5 g11 g14 : Nat) (x y : Md) (P C Q P1 C1 Q1 P2 C2 Q2 P3 C3 Q3 : Sl) (A7 A9 : Option Addr) (N c7 c9 : Nat) (X : List UInt8) (Ar : Option Addr) (t cr : Nat) (Ba : Option Addr) (Bc : Nat) (l : List UInt8) : Prop where
  m2 : MxAt W b x P C Q
  m5 : MxAt W g5 x P1 C1 Q1
  m11 : MxAt W g11 y P2 C2 Q2
  m14 : MxAt W g14 y P3 C3 Q3
  xs : IsB W A7 N c7 X
  xl : 0 < X.length → ∀ ad, A7 = some ad → ad.block < W.heap.size
  ys : IsB W A9 N c9 X
  yl : 0 < X.length → ∀ ad, A9 = some ad → ad.block < W.heap.size
  raw : IsBB W base Ar t cr l
  by_ : IsBB W w.heap.size Ba t Bc l
  cd : CdAt base W C2 y.code 0
  bb : base ≤ W.heap.size
  wb : w.heap.size ≤ base
  bel : Below w.heap.size w W
section
variable {w W W' : World} {base b g5 g11 g14 : Nat} {x y : Md} {P C Q P1 C1 Q1 P2 C2 Q2 P3 C3 Q3 : Sl} {A7 A9 : Option Addr} {N c7 c9 : Nat} {X : List UInt8} {Ar : Option Addr} {t cr : Nat} {Ba : Option Addr} {Bc : Nat} {l : List UInt8}
theorem TlS.cells (h : TlS w W base b g5 g11 g14 x y P C Q P1 C1 Q1 P2 C2 Q2 P3 C3 Q3 A7 A9 N c7 c9 X Ar t cr Ba Bc l) : Mc7 W b x P C Q ∧ Mc7 W g5 x P1 C1 Q1 ∧ Mc7 W g11 y P2 C2 Q2 ∧ Mc7 W g14 y P3 C3 Q3 := ⟨h.m2.mc, h.m5.mc, h.m11.mc, h.m14.mc⟩
theorem TlS.later (h : TlS w W base b g5 g11 g14 x y P C Q P1 C1 Q1 P2 C2 Q2 P3 C3 Q3 A7 A9 N c7 c9 X Ar t cr Ba Bc l) (k : Below W.heap.size W W') : TlS w W' base b g5 g11 g14 x y P C Q P1 C1 Q1 P2 C2 Q2 P3 C3 Q3 A7 A9 N c7 c9 X Ar t cr Ba Bc l := by
  have hx := (IsBB.on ⟨h.xs, h.xl⟩ k)
  have hy := (IsBB.on ⟨h.ys, h.yl⟩ k)
  exact ⟨h.m2.later k, h.m5.later k, h.m11.later k, h.m14.later k, hx.toIsB, hx.low, hy.toIsB, hy.low, h.raw.below (k.mono h.bb), h.by_.below (k.mono h.bel.size), h.cd.later k, Nat.le_trans h.bb k.size, h.wb, h.bel.trans (k.mono h.bel.size)⟩
/-- While the code that was got is turned. -/
structure TlR (w W : World) (base g11 : Nat) (y : Md) (P2 C2 Q2 : Sl) (Ar : Option Addr) (t cr : Nat) (Ba : Option Addr) (Bc : Nat) (l : List UInt8) (i : Nat) : Prop where
  row : W.heap[g11]? = some (.cells #[.int .i64 y.h, .int .i64 y.m, .int .i64 y.ph, .int .i64 y.pm, .slice P2.a y.parts.length P2.c, .slice C2.a y.code.length C2.c, .slice Q2.a y.post.length Q2.c] 25 (0, 0))
  raw : IsBB W base Ar t cr l
  by_ : IsBB W w.heap.size Ba t Bc l
  cd : CdAt base W C2 y.code i
  bb : base ≤ W.heap.size
  wb : w.heap.size ≤ base
  bel : Below w.heap.size w W
theorem TlS.start (h : TlS w W base b g5 g11 g14 x y P C Q P1 C1 Q1 P2 C2 Q2 P3 C3 Q3 A7 A9 N c7 c9 X Ar t cr Ba Bc l) : TlR w W base g11 y P2 C2 Q2 Ar t cr Ba Bc l 0 := ⟨h.m11.row, h.raw, h.by_, h.cd, h.bb, h.wb, h.bel⟩
theorem TlR.set {i g : Nat} (h : TlR w W base g11 y P2 C2 Q2 Ar t cr Ba Bc l i) (hi : i < y.code.length) (hg : C2.a = some ⟨g, 0, none⟩) (u : Value) : TlR w (W.setCell ⟨g, i, none⟩ u) base g11 y P2 C2 Q2 Ar t cr Ba Bc l (i + 1) := by
  obtain ⟨g', cur, e, hb, hh, hc⟩ := h.cd.at_ (by omega)
  rw [hg] at e
  cases e
  have hne : g11 ≠ g := fun e => by subst e; rw [h.row] at hh; cases hh
  have bel : Below base W (W.setCell ⟨g, i, none⟩ u) := set_bel (Below.refl _ _) g i u hb
  exact ⟨(set_block hne).trans h.row, h.raw.below bel, h.by_.below (bel.mono h.wb), h.cd.set hg u, by rw [World.size_setCell]; exact h.bb, h.wb, h.bel.trans (bel.mono h.wb)⟩
end
set_option maxRecDepth 10000 in
set_option maxHeartbeats 8000000 in
theorem tells_small (w : World) (x : Md) (P C Q : Sl) (Ba : Option Addr) (t Bc : Nat) (l : List UInt8) (a : MdAt w w.heap.size x P C Q) (hB : IsBB w w.heap.size Ba t Bc l) (h1 : x.parts.length ≤ 300) (h2 : x.code.length ≤ 10000) (h3 : x.post.length ≤ 10000) (h4 : t ≤ 20000)
    (RGet : ∀ (A : Option Addr) (n c : Nat) (l : List UInt8) (w : World), IsBB w w.heap.size A n c l → n ≤ 20000 → Calls Try.prog 11 #[.slice A n c] w fun e w' => RGetPost w w' l e) :
    Calls Try.prog 3 #[vMd x P C Q, .slice Ba t Bc] w fun e w' => e = .returned (.bool true) ∧ Below w.heap.size w w' := by
  have hlt := hB.len
  have HBw : Hid (∀ W, Below w.heap.size w W → IsBB W w.heap.size Ba t Bc l) := hid (fun W k => hB.below k)
  have H2 := hid (mx_made a)
  have HB := hid (hB.on ((Below.refl _ w).alloc (Nat.le_refl _) (.cells #[.int .i64 x.h, .int .i64 x.m, .int .i64 x.ph, .int .i64 x.pm, .slice P.a x.parts.length P.c, .slice C.a x.code.length C.c, .slice Q.a x.post.length Q.c] 25)))
  have BL := hid ((Below.refl _ w).alloc (Nat.le_refl _) (.cells #[.int .i64 x.h, .int .i64 x.m, .int .i64 x.ph, .int .i64 x.pm, .slice P.a x.parts.length P.c, .slice C.a x.code.length C.c, .slice Q.a x.post.length Q.c] 25))
  have HCM := hid (fun W P' C' Q' (k : MdAt W W.heap.size x P' C' Q') => CopyModel_any W x P' C' Q' k (by omega) (by omega) (by omega))
  have HPA := hid (fun W P' C' Q' k => put_any x W P' C' Q' k)
  have HRP := hid (fun W P' C' Q' k => rput_any x W P' C' Q' k)
  have hpl := putX_len x
  obtain ⟨X, hX⟩ : ∃ X, putX x = X := ⟨_, rfl⟩
  obtain ⟨rr, hrr⟩ : ∃ r, x.right = r := ⟨_, rfl⟩
  obtain ⟨y, hy⟩ : ∃ y, tM l = y := ⟨_, rfl⟩
  obtain ⟨kk, hkk⟩ : ∃ k, tK l = k := ⟨_, rfl⟩
  obtain ⟨er, her⟩ : ∃ e, tE l = e := ⟨_, rfl⟩
  simp only [hX, hrr] at HPA HRP
  rw [hX] at hpl
  have g1 : ¬ (300 : Int) < (x.parts.length : Int) := by omega
  have g2 : ¬ (10000 : Int) < (x.code.length : Int) := by omega
  have g3 : ¬ (10000 : Int) < (x.post.length : Int) := by omega
  have g4 : ¬ (20000 : Int) < (t : Int) := by omega
  have H4 := hid h4
  unfold vMd vMdl at HCM HPA HRP
  unfold vMd vMdl
  clear hB a h1 h2 h3 h4
  go_enter Try.func3, Try.ntmps3
  go_wp2_with fail
  refine (HCM.out _ _ _ _ H2.out.md).mono ?_
  rintro r w1 ⟨P1, C1, Q1, rfl, a1, b1⟩
  have H2 := hid (H2.out.later b1)
  have HB := hid (HB.out.on b1)
  have BL := hid (bel_on2 BL.out b1)
  have HA1 := hid a1
  clear a1 b1 g1 g2 g3 g4
  try dsimp only
  go_wp2_with fail
  refine (CopyBytes_any _ _ _ _ _ HB.out H4.out).mono ?_
  rintro r w2 ⟨v2, rfl, o2⟩
  obtain ⟨Ar, cr, rfl, r2⟩ := o2.isBB (by have := H4.out; omega)
  rw [hlt] at r2 ⊢
  have RW := hid r2
  have H2 := hid (H2.out.later o2.bel)
  have HB := hid (HB.out.on o2.bel)
  have BL := hid (bel_on2 BL.out o2.bel)
  have HA1 := hid (HA1.out.later o2.bel)
  clear o2 r2
  have H5 := hid (mx_made HA1.out)
  have al := (Below.refl _ w2).alloc (Nat.le_refl _) (.cells #[.int .i64 x.h, .int .i64 x.m, .int .i64 x.ph, .int .i64 x.pm, .slice P1.a x.parts.length P1.c, .slice C1.a x.code.length C1.c, .slice Q1.a x.post.length Q1.c] 25)
  have H2 := hid (H2.out.later al)
  have HB := hid (HB.out.on al)
  have BL := hid (bel_on2 BL.out al)
  have RW := hid (RW.out.on al)
  clear al HA1
  try dsimp only
  go_wp2_with fail
  refine (HPA.out _ _ _ _ H5.out.md).mono ?_
  rintro r w3 ⟨A7, c7, rfl, x3, b3⟩
  have XS := hid x3
  have H2 := hid (H2.out.later b3)
  have H5 := hid (H5.out.later b3)
  have HB := hid (HB.out.on b3)
  have BL := hid (bel_on2 BL.out b3)
  have RW := hid (RW.out.on b3)
  generalize w2.heap.size = g5 at H5 ⊢
  clear x3 b3
  obtain ⟨k0, k1, k2, k3, k4, k5, k6⟩ := H2.out.mc
  try dsimp only
  go_wp2_with fail
  refine (HRP.out _ _ _ _ H2.out.md).mono ?_
  rintro r w4 ⟨A9, c9, rfl, x4, b4⟩
  have YS := hid x4
  have H2 := hid (H2.out.later b4)
  have H5 := hid (H5.out.later b4)
  have HB := hid (HB.out.on b4)
  have BL := hid (bel_on2 BL.out b4)
  have RW := hid (RW.out.on b4)
  have XS := hid (XS.out.on b4)
  clear x4 b4 k0 k1 k2 k3 k4 k5 k6
  have HTG := hid (tget_any Ar t cr l w4 RW.out (by have := H4.out; omega))
  rw [hy, hkk, her] at HTG
  try dsimp only
  go_wp2_with fail
  refine HTG.out.mono ?_
  rintro r w5 ⟨P2, C2, Q2, rfl, m5, own5, b5⟩
  have CD := hid (cd_start own5)
  have RB := hid (RW.out.below b5)
  have BS := hid b5.size
  have BW := hid BL.out.size
  have H2 := hid (H2.out.later b5)
  have H5 := hid (H5.out.later b5)
  have HB := hid (HB.out.on b5)
  have BL := hid (bel_on2 BL.out b5)
  have XS := hid (XS.out.on b5)
  have YS := hid (YS.out.on b5)
  have M11 := hid (mx_made m5)
  have al := (Below.refl _ w5).alloc (Nat.le_refl _) (.cells #[.int .i64 y.h, .int .i64 y.m, .int .i64 y.ph, .int .i64 y.pm, .slice P2.a y.parts.length P2.c, .slice C2.a y.code.length C2.c, .slice Q2.a y.post.length Q2.c] 25)
  have H2 := hid (H2.out.later al)
  have H5 := hid (H5.out.later al)
  have HB := hid (HB.out.on al)
  have BL := hid (bel_on2 BL.out al)
  have XS := hid (XS.out.on al)
  have YS := hid (YS.out.on al)
  have CD := hid (CD.out.later al)
  have RB := hid (RB.out.below (al.mono BS.out))
  have BS := hid (Nat.le_trans BS.out al.size)
  clear al b5 m5 own5 HTG RW
  unfold vMd vMdl
  try dsimp only
  go_wp2_with fail
  refine (RGet _ _ _ _ _ HB.out H4.out).mono ?_
  rintro r w6 hp
  obtain ⟨P3, C3, Q3, rfl, m6, b6⟩ := rget_of hp
  rw [hy] at m6
  rw [hy, hkk, her]
  have H2 := hid (H2.out.later b6)
  have H5 := hid (H5.out.later b6)
  have HB := hid (HB.out.on b6)
  have BL := hid (bel_on2 BL.out b6)
  have XS := hid (XS.out.on b6)
  have YS := hid (YS.out.on b6)
  have CD := hid (CD.out.later b6)
  have RB := hid (RB.out.below (b6.mono BS.out))
  have BS := hid (Nat.le_trans BS.out b6.size)
  have M11 := hid (M11.out.later b6)
  generalize w5.heap.size = g11 at M11 ⊢
  have M14 := hid (mx_made m6)
  have al := (Below.refl _ w6).alloc (Nat.le_refl _) (.cells #[.int .i64 y.h, .int .i64 y.m, .int .i64 y.ph, .int .i64 y.pm, .slice P3.a y.parts.length P3.c, .slice C3.a y.code.length C3.c, .slice Q3.a y.post.length Q3.c] 25)
  have H2 := hid (H2.out.later al)
  have H5 := hid (H5.out.later al)
  have HB := hid (HB.out.on al)
  have BL := hid (bel_on2 BL.out al)
  have XS := hid (XS.out.on al)
  have YS := hid (YS.out.on al)
  have CD := hid (CD.out.later al)
  have RB := hid (RB.out.below (al.mono BS.out))
  have BS := hid (Nat.le_trans BS.out al.size)
  have M11 := hid (M11.out.later al)
  clear al b6 m6 hp
  unfold vMd vMdl
  try dsimp only
  go_upto_region 8 with fail
  obtain ⟨base, hbase⟩ : ∃ b, w4.heap.size = b := ⟨_, rfl⟩
  rw [hbase] at RB BS BW CD
  generalize hg14 : w6.heap.size = g14 at M14 ⊢
  generalize hW6 : w6.alloc (.cells #[.int .i64 y.h, .int .i64 y.m, .int .i64 y.ph, .int .i64 y.pm, .slice P3.a y.parts.length P3.c, .slice C3.a y.code.length C3.c, .slice Q3.a y.post.length Q3.c] 25) = W6 at *
  have HS : Hid (TlS w W6 base w.heap.size g5 g11 g14 x y P C Q P1 C1 Q1 P2 C2 Q2 P3 C3 Q3 A7 A9 X.length c7 c9 X Ar t cr Ba Bc l) := hid ⟨H2.out, H5.out, M11.out, M14.out, XS.out.toIsB, XS.out.low, YS.out.toIsB, YS.out.low, RB.out, HBw.out _ BL.out, CD.out, BS.out, BW.out, BL.out⟩
  go_cut [103] (fun v wx => v = .bool false ∧ Hid (TlS w wx base w.heap.size g5 g11 g14 x y P C Q P1 C1 Q1 P2 C2 Q2 P3 C3 Q3 A7 A9 X.length c7 c9 X Ar t cr Ba Bc l))
  clear H2 H5 M11 M14 XS YS RB CD BS BW BL HB HPA HRP HCM HBw hX hy hkk her hg14 hW6 hbase hpl
  case first =>
    have HR12 := hid (fun W P' C' Q' k => Right_md W x P' C' Q' k)
    have HR13 := hid (fun W P' C' Q' k => refRight_md W x P' C' Q' k)
    simp only [hrr] at HR12 HR13
    unfold vMd vMdl at HR12 HR13
    have H0 := hid (HS.out.later (Below.refl _ W6).drew)
    refine wp_region_held_drew (S := (fun W' => Mc7 W' w.heap.size x P C Q ∧ Mc7 W' g5 x P1 C1 Q1 ∧ Mc7 W' g11 y P2 C2 Q2 ∧ Mc7 W' g14 y P3 C3 Q3)) (by kernel_rfl) H0.out.cells (fun hH => ?_)
    refine wpAnyH_take (i := 0) (oi := ⟨some 66, _, _, _, _, _⟩) (v := .agg #[.int .i64 x.h, .int .i64 x.m, .int .i64 x.ph, .int .i64 x.pm, .slice P1.a x.parts.length P1.c, .slice C1.a x.code.length C1.c, .slice Q1.a x.post.length Q1.c]) rfl (by kernel_rfl) (by kernel_rfl) (by kernel_rfl) (fun _ _ _ h => h) (Or.inl ⟨by rfl, by intro w hSw; (try dsimp only at hSw); obtain ⟨⟨a0, a1, a2, a3, a4, a5, a6⟩, ⟨b0, b1, b2, b3, b4, b5, b6⟩, ⟨d0, d1, d2, d3, d4, d5, d6⟩, ⟨e0, e1, e2, e3, e4, e5, e6⟩⟩ := hSw; go_simp⟩) hH ?_
    try simp only [Act.put, List.setIfInBounds_toArray, List.set_cons_zero, List.set_cons_succ]
    refine wpAnyH_take (i := 2) (oi := ⟨some 68, _, _, _, _, _⟩) (v := .agg #[.int .i64 x.h, .int .i64 x.m, .int .i64 x.ph, .int .i64 x.pm, .slice P.a x.parts.length P.c, .slice C.a x.code.length C.c, .slice Q.a x.post.length Q.c]) rfl (by kernel_rfl) (by kernel_rfl) (by kernel_rfl) (fun _ _ _ h => h) (Or.inl ⟨by rfl, by intro w hSw; (try dsimp only at hSw); obtain ⟨⟨a0, a1, a2, a3, a4, a5, a6⟩, ⟨b0, b1, b2, b3, b4, b5, b6⟩, ⟨d0, d1, d2, d3, d4, d5, d6⟩, ⟨e0, e1, e2, e3, e4, e5, e6⟩⟩ := hSw; go_simp⟩) hH ?_
    try simp only [Act.put, List.setIfInBounds_toArray, List.set_cons_zero, List.set_cons_succ]
    refine wpAnyH_ready (rs := [1]) (by kernel_rfl) (by simp) (AllReadyH.cons rfl (fun K hK => ?_) AllReadyH.nil)
    go_simp
    refine (HR12.out _ _ _ _ H0.out.m5.md).mono ?_
    rintro z w1 ⟨rfl, p1⟩
    have H1 := hid (H0.out.later p1)
    clear p1
    refine hK.out _ _ H1.out.cells (fun hH1 => ?_)
    clear hK K
    try simp only [Act.put, List.setIfInBounds_toArray, List.set_cons_zero, List.set_cons_succ]
    refine wpAnyH_ready (rs := [3]) (by kernel_rfl) (by simp) (AllReadyH.cons rfl (fun K hK => ?_) AllReadyH.nil)
    go_simp
    refine (HR13.out _ _ _ _ H1.out.m2.md).mono ?_
    rintro z w2 ⟨rfl, p2⟩
    have H2 := hid (H1.out.later p2)
    clear p2
    refine hK.out _ _ H2.out.cells (fun hH2 => ?_)
    clear hK K
    try simp only [Act.put, List.setIfInBounds_toArray, List.set_cons_zero, List.set_cons_succ]
    refine wpAnyH_take (i := 4) (oi := ⟨some 70, _, _, _, _, _⟩) (v := .bool false) rfl (by kernel_rfl) (by kernel_rfl) (by kernel_rfl) (fun _ _ _ h => h) (Or.inl ⟨by rfl, by intro w hSw; (try dsimp only at hSw); go_simp⟩) hH2 ?_
    try simp only [Act.put, List.setIfInBounds_toArray, List.set_cons_zero, List.set_cons_succ]
    refine wpAnyH_take (i := 5) (oi := ⟨some 71, _, _, _, _, _⟩) (v := .bool false) rfl (by kernel_rfl) (by kernel_rfl) (by kernel_rfl) (fun _ _ _ h => h) (Or.inl ⟨by rfl, by intro w hSw; (try dsimp only at hSw); go_simp⟩) hH2 ?_
    try simp only [Act.put, List.setIfInBounds_toArray, List.set_cons_zero, List.set_cons_succ]
    refine wpAnyH_take (i := 6) (oi := ⟨some 72, _, _, _, _, _⟩) (v := .int .i64 rr) rfl (by kernel_rfl) (by kernel_rfl) (by kernel_rfl) (fun _ _ _ h => h) (Or.inl ⟨by rfl, by intro w hSw; (try dsimp only at hSw); go_simp⟩) hH2 ?_
    try simp only [Act.put, List.setIfInBounds_toArray, List.set_cons_zero, List.set_cons_succ]
    refine wpAnyH_take (i := 7) (oi := ⟨some 73, _, _, _, _, _⟩) (v := .int .i64 rr) rfl (by kernel_rfl) (by kernel_rfl) (by kernel_rfl) (fun _ _ _ h => h) (Or.inl ⟨by rfl, by intro w hSw; (try dsimp only at hSw); go_simp⟩) hH2 ?_
    try simp only [Act.put, List.setIfInBounds_toArray, List.set_cons_zero, List.set_cons_succ]
    refine wpAnyH_take (i := 8) (oi := ⟨some 74, _, _, _, _, _⟩) (v := .bool false) rfl (by kernel_rfl) (by kernel_rfl) (by kernel_rfl) (fun _ _ _ h => h) (Or.inl ⟨by rfl, by intro w hSw; (try dsimp only at hSw); go_simp⟩) hH2 ?_
    try simp only [Act.put, List.setIfInBounds_toArray, List.set_cons_zero, List.set_cons_succ]
    refine wpAnyH_take (i := 9) (oi := ⟨some 75, _, _, _, _, _⟩) (v := .bool false) rfl (by kernel_rfl) (by kernel_rfl) (by kernel_rfl) (fun _ _ _ h => h) (Or.inl ⟨by rfl, by intro w hSw; (try dsimp only at hSw); go_simp⟩) hH2 ?_
    try simp only [Act.put, List.setIfInBounds_toArray, List.set_cons_zero, List.set_cons_succ]
    refine wpAnyH_take (i := 10) (oi := ⟨some 76, _, _, _, _, _⟩) (v := .bool false) rfl (by kernel_rfl) (by kernel_rfl) (by kernel_rfl) (fun _ _ _ h => h) (Or.inl ⟨by rfl, by intro w hSw; (try dsimp only at hSw); go_simp⟩) hH2 ?_
    try simp only [Act.put, List.setIfInBounds_toArray, List.set_cons_zero, List.set_cons_succ]
    refine wpAnyH_take (i := 11) (oi := ⟨some 77, _, _, _, _, _⟩) (v := .slice A7 X.length c7) rfl (by kernel_rfl) (by kernel_rfl) (by kernel_rfl) (fun _ _ _ h => h) (Or.inl ⟨by rfl, by intro w hSw; (try dsimp only at hSw); go_simp⟩) hH2 ?_
    try simp only [Act.put, List.setIfInBounds_toArray, List.set_cons_zero, List.set_cons_succ]
    refine wpAnyH_take (i := 12) (oi := ⟨some 78, _, _, _, _, _⟩) (v := .slice A9 X.length c9) rfl (by kernel_rfl) (by kernel_rfl) (by kernel_rfl) (fun _ _ _ h => h) (Or.inl ⟨by rfl, by intro w hSw; (try dsimp only at hSw); go_simp⟩) hH2 ?_
    try simp only [Act.put, List.setIfInBounds_toArray, List.set_cons_zero, List.set_cons_succ]
    refine wpAnyH_ready (rs := [13]) (by kernel_rfl) (by simp) (AllReadyH.cons rfl (fun K hK => ?_) AllReadyH.nil)
    go_simp
    refine (same_any _ _ _ _ _ _ _ H2.out.xs H2.out.ys).mono ?_
    rintro z w3 ⟨rfl, p3⟩
    have H3 := hid (H2.out.later p3)
    clear p3
    refine hK.out _ _ H3.out.cells (fun hH3 => ?_)
    clear hK K
    try simp only [Act.put, List.setIfInBounds_toArray, List.set_cons_zero, List.set_cons_succ]
    refine wpAnyH_take (i := 14) (oi := ⟨some 80, _, _, _, _, _⟩) (v := .bool false) rfl (by kernel_rfl) (by kernel_rfl) (by kernel_rfl) (fun _ _ _ h => h) (Or.inl ⟨by rfl, by intro w hSw; (try dsimp only at hSw); go_simp⟩) hH3 ?_
    try simp only [Act.put, List.setIfInBounds_toArray, List.set_cons_zero, List.set_cons_succ]
    refine wpAnyH_take (i := 15) (oi := ⟨some 81, _, _, _, _, _⟩) (v := .bool false) rfl (by kernel_rfl) (by kernel_rfl) (by kernel_rfl) (fun _ _ _ h => h) (Or.inl ⟨by rfl, by intro w hSw; (try dsimp only at hSw); go_simp⟩) hH3 ?_
    try simp only [Act.put, List.setIfInBounds_toArray, List.set_cons_zero, List.set_cons_succ]
    refine wpAnyH_take (i := 16) (oi := ⟨some 82, _, _, _, _, _⟩) (v := .bool false) rfl (by kernel_rfl) (by kernel_rfl) (by kernel_rfl) (fun _ _ _ h => h) (Or.inl ⟨by rfl, by intro w hSw; (try dsimp only at hSw); go_simp⟩) hH3 ?_
    try simp only [Act.put, List.setIfInBounds_toArray, List.set_cons_zero, List.set_cons_succ]
    refine wpAnyH_take (i := 17) (oi := ⟨some 83, _, _, _, _, _⟩) (v := .int .i64 (kk : Nat)) rfl (by kernel_rfl) (by kernel_rfl) (by kernel_rfl) (fun _ _ _ h => h) (Or.inl ⟨by rfl, by intro w hSw; (try dsimp only at hSw); go_simp⟩) hH3 ?_
    try simp only [Act.put, List.setIfInBounds_toArray, List.set_cons_zero, List.set_cons_succ]
    refine wpAnyH_take (i := 18) (oi := ⟨some 84, _, _, _, _, _⟩) (v := .int .i64 (kk : Nat)) rfl (by kernel_rfl) (by kernel_rfl) (by kernel_rfl) (fun _ _ _ h => h) (Or.inl ⟨by rfl, by intro w hSw; (try dsimp only at hSw); go_simp⟩) hH3 ?_
    try simp only [Act.put, List.setIfInBounds_toArray, List.set_cons_zero, List.set_cons_succ]
    refine wpAnyH_take (i := 19) (oi := ⟨some 85, _, _, _, _, _⟩) (v := .bool false) rfl (by kernel_rfl) (by kernel_rfl) (by kernel_rfl) (fun _ _ _ h => h) (Or.inl ⟨by rfl, by intro w hSw; (try dsimp only at hSw); go_simp⟩) hH3 ?_
    try simp only [Act.put, List.setIfInBounds_toArray, List.set_cons_zero, List.set_cons_succ]
    refine wpAnyH_take (i := 20) (oi := ⟨some 86, _, _, _, _, _⟩) (v := .bool false) rfl (by kernel_rfl) (by kernel_rfl) (by kernel_rfl) (fun _ _ _ h => h) (Or.inl ⟨by rfl, by intro w hSw; (try dsimp only at hSw); go_simp⟩) hH3 ?_
    try simp only [Act.put, List.setIfInBounds_toArray, List.set_cons_zero, List.set_cons_succ]
    refine wpAnyH_take (i := 21) (oi := ⟨some 87, _, _, _, _, _⟩) (v := .bool false) rfl (by kernel_rfl) (by kernel_rfl) (by kernel_rfl) (fun _ _ _ h => h) (Or.inl ⟨by rfl, by intro w hSw; (try dsimp only at hSw); go_simp⟩) hH3 ?_
    try simp only [Act.put, List.setIfInBounds_toArray, List.set_cons_zero, List.set_cons_succ]
    refine wpAnyH_take (i := 22) (oi := ⟨some 88, _, _, _, _, _⟩) (v := .int .i64 er) rfl (by kernel_rfl) (by kernel_rfl) (by kernel_rfl) (fun _ _ _ h => h) (Or.inl ⟨by rfl, by intro w hSw; (try dsimp only at hSw); go_simp⟩) hH3 ?_
    try simp only [Act.put, List.setIfInBounds_toArray, List.set_cons_zero, List.set_cons_succ]
    refine wpAnyH_take (i := 23) (oi := ⟨some 89, _, _, _, _, _⟩) (v := .int .i64 er) rfl (by kernel_rfl) (by kernel_rfl) (by kernel_rfl) (fun _ _ _ h => h) (Or.inl ⟨by rfl, by intro w hSw; (try dsimp only at hSw); go_simp⟩) hH3 ?_
    try simp only [Act.put, List.setIfInBounds_toArray, List.set_cons_zero, List.set_cons_succ]
    refine wpAnyH_take (i := 24) (oi := ⟨some 90, _, _, _, _, _⟩) (v := .bool false) rfl (by kernel_rfl) (by kernel_rfl) (by kernel_rfl) (fun _ _ _ h => h) (Or.inl ⟨by rfl, by intro w hSw; (try dsimp only at hSw); go_simp⟩) hH3 ?_
    try simp only [Act.put, List.setIfInBounds_toArray, List.set_cons_zero, List.set_cons_succ]
    refine wpAnyH_take (i := 25) (oi := ⟨some 91, _, _, _, _, _⟩) (v := .bool false) rfl (by kernel_rfl) (by kernel_rfl) (by kernel_rfl) (fun _ _ _ h => h) (Or.inl ⟨by rfl, by intro w hSw; (try dsimp only at hSw); go_simp⟩) hH3 ?_
    try simp only [Act.put, List.setIfInBounds_toArray, List.set_cons_zero, List.set_cons_succ]
    refine wpAnyH_take (i := 26) (oi := ⟨some 92, _, _, _, _, _⟩) (v := .bool false) rfl (by kernel_rfl) (by kernel_rfl) (by kernel_rfl) (fun _ _ _ h => h) (Or.inl ⟨by rfl, by intro w hSw; (try dsimp only at hSw); go_simp⟩) hH3 ?_
    try simp only [Act.put, List.setIfInBounds_toArray, List.set_cons_zero, List.set_cons_succ]
    refine wpAnyH_take (i := 27) (oi := ⟨some 93, _, _, _, _, _⟩) (v := .agg #[.int .i64 y.h, .int .i64 y.m, .int .i64 y.ph, .int .i64 y.pm, .slice P2.a y.parts.length P2.c, .slice C2.a y.code.length C2.c, .slice Q2.a y.post.length Q2.c]) rfl (by kernel_rfl) (by kernel_rfl) (by kernel_rfl) (fun _ _ _ h => h) (Or.inl ⟨by rfl, by intro w hSw; (try dsimp only at hSw); obtain ⟨⟨a0, a1, a2, a3, a4, a5, a6⟩, ⟨b0, b1, b2, b3, b4, b5, b6⟩, ⟨d0, d1, d2, d3, d4, d5, d6⟩, ⟨e0, e1, e2, e3, e4, e5, e6⟩⟩ := hSw; go_simp⟩) hH3 ?_
    try simp only [Act.put, List.setIfInBounds_toArray, List.set_cons_zero, List.set_cons_succ]
    refine wpAnyH_take (i := 28) (oi := ⟨some 94, _, _, _, _, _⟩) (v := .agg #[.int .i64 y.h, .int .i64 y.m, .int .i64 y.ph, .int .i64 y.pm, .slice P3.a y.parts.length P3.c, .slice C3.a y.code.length C3.c, .slice Q3.a y.post.length Q3.c]) rfl (by kernel_rfl) (by kernel_rfl) (by kernel_rfl) (fun _ _ _ h => h) (Or.inl ⟨by rfl, by intro w hSw; (try dsimp only at hSw); obtain ⟨⟨a0, a1, a2, a3, a4, a5, a6⟩, ⟨b0, b1, b2, b3, b4, b5, b6⟩, ⟨d0, d1, d2, d3, d4, d5, d6⟩, ⟨e0, e1, e2, e3, e4, e5, e6⟩⟩ := hSw; go_simp⟩) hH3 ?_
    try simp only [Act.put, List.setIfInBounds_toArray, List.set_cons_zero, List.set_cons_succ]
    refine wpAnyH_ready (rs := [29]) (by kernel_rfl) (by simp) (AllReadyH.cons rfl (fun K hK => ?_) AllReadyH.nil)
    go_simp
    refine (SameModel_true _ y P2 C2 Q2 P3 C3 Q3 H3.out.m11.md H3.out.m14.md).mono ?_
    rintro z w4 ⟨rfl, p4⟩
    have H4 := hid (H3.out.later p4)
    clear p4
    refine hK.out _ _ H4.out.cells (fun hH4 => ?_)
    clear hK K
    try simp only [Act.put, List.setIfInBounds_toArray, List.set_cons_zero, List.set_cons_succ]
    refine wpAnyH_take (i := 30) (oi := ⟨some 96, _, _, _, _, _⟩) (v := .bool false) rfl (by kernel_rfl) (by kernel_rfl) (by kernel_rfl) (fun _ _ _ h => h) (Or.inl ⟨by rfl, by intro w hSw; (try dsimp only at hSw); go_simp⟩) hH4 ?_
    try simp only [Act.put, List.setIfInBounds_toArray, List.set_cons_zero, List.set_cons_succ]
    refine wpAnyH_take (i := 31) (oi := ⟨some 97, _, _, _, _, _⟩) (v := .bool false) rfl (by kernel_rfl) (by kernel_rfl) (by kernel_rfl) (fun _ _ _ h => h) (Or.inl ⟨by rfl, by intro w hSw; (try dsimp only at hSw); go_simp⟩) hH4 ?_
    try simp only [Act.put, List.setIfInBounds_toArray, List.set_cons_zero, List.set_cons_succ]
    refine wpAnyH_take (i := 32) (oi := ⟨some 98, _, _, _, _, _⟩) (v := .bool false) rfl (by kernel_rfl) (by kernel_rfl) (by kernel_rfl) (fun _ _ _ h => h) (Or.inl ⟨by rfl, by intro w hSw; (try dsimp only at hSw); go_simp⟩) hH4 ?_
    try simp only [Act.put, List.setIfInBounds_toArray, List.set_cons_zero, List.set_cons_succ]
    refine wpAnyH_take (i := 33) (oi := ⟨some 99, _, _, _, _, _⟩) (v := .agg #[.int .i64 x.h, .int .i64 x.m, .int .i64 x.ph, .int .i64 x.pm, .slice P1.a x.parts.length P1.c, .slice C1.a x.code.length C1.c, .slice Q1.a x.post.length Q1.c]) rfl (by kernel_rfl) (by kernel_rfl) (by kernel_rfl) (fun _ _ _ h => h) (Or.inl ⟨by rfl, by intro w hSw; (try dsimp only at hSw); obtain ⟨⟨a0, a1, a2, a3, a4, a5, a6⟩, ⟨b0, b1, b2, b3, b4, b5, b6⟩, ⟨d0, d1, d2, d3, d4, d5, d6⟩, ⟨e0, e1, e2, e3, e4, e5, e6⟩⟩ := hSw; go_simp⟩) hH4 ?_
    try simp only [Act.put, List.setIfInBounds_toArray, List.set_cons_zero, List.set_cons_succ]
    refine wpAnyH_take (i := 34) (oi := ⟨some 100, _, _, _, _, _⟩) (v := .agg #[.int .i64 x.h, .int .i64 x.m, .int .i64 x.ph, .int .i64 x.pm, .slice P.a x.parts.length P.c, .slice C.a x.code.length C.c, .slice Q.a x.post.length Q.c]) rfl (by kernel_rfl) (by kernel_rfl) (by kernel_rfl) (fun _ _ _ h => h) (Or.inl ⟨by rfl, by intro w hSw; (try dsimp only at hSw); obtain ⟨⟨a0, a1, a2, a3, a4, a5, a6⟩, ⟨b0, b1, b2, b3, b4, b5, b6⟩, ⟨d0, d1, d2, d3, d4, d5, d6⟩, ⟨e0, e1, e2, e3, e4, e5, e6⟩⟩ := hSw; go_simp⟩) hH4 ?_
    try simp only [Act.put, List.setIfInBounds_toArray, List.set_cons_zero, List.set_cons_succ]
    refine wpAnyH_ready (rs := [35]) (by kernel_rfl) (by simp) (AllReadyH.cons rfl (fun K hK => ?_) AllReadyH.nil)
    go_simp
    refine (SameModel_true _ x P1 C1 Q1 P C Q H4.out.m5.md H4.out.m2.md).mono ?_
    rintro z w5 ⟨rfl, p5⟩
    have H5 := hid (H4.out.later p5)
    clear p5
    refine hK.out _ _ H5.out.cells (fun hH5 => ?_)
    clear hK K
    try simp only [Act.put, List.setIfInBounds_toArray, List.set_cons_zero, List.set_cons_succ]
    refine wpAnyH_take (i := 36) (oi := ⟨some 102, _, _, _, _, _⟩) (v := .bool false) rfl (by kernel_rfl) (by kernel_rfl) (by kernel_rfl) (fun _ _ _ h => h) (Or.inl ⟨by rfl, by intro w hSw; (try dsimp only at hSw); go_simp⟩) hH5 ?_
    try simp only [Act.put, List.setIfInBounds_toArray, List.set_cons_zero, List.set_cons_succ]
    refine wpAnyH_take (i := 37) (oi := ⟨some 103, _, _, _, _, _⟩) (v := .bool false) rfl (by kernel_rfl) (by kernel_rfl) (by kernel_rfl) (fun _ _ _ h => h) (Or.inl ⟨by rfl, by intro w hSw; (try dsimp only at hSw); go_simp⟩) hH5 ?_
    try simp only [Act.put, List.setIfInBounds_toArray, List.set_cons_zero, List.set_cons_succ]
    refine wpAnyH_done (by kernel_rfl) ?_ _
    go_wp2_with fail
    go_meet
    case rel => exact ⟨rfl, H5⟩
  case rest =>
    obtain ⟨rfl, hs⟩ := hcut
    have c5 := hs.out.m11.mc.c5
    have HCS := hid hs.out.m11.md.code.small
    have HR0 := hid hs.out.start
    clear HS hs
    go_wp2_with fail
    go_loopw [107] (fun v wr => ∃ i : Nat, i ≤ y.code.length ∧ v = .int .i64 (i : Nat) ∧ Hid (TlR w wr base g11 y P2 C2 Q2 Ar t cr Ba Bc l i)) (fun v _ => y.code.length - (intOf v).toNat)
    case atStart => exact ⟨0, Nat.zero_le _, rfl, HR0⟩
    case round =>
      obtain ⟨i, hi, rfl, hr⟩ := hrel
      clear HR0 c5
      by_cases hl2 : i < y.code.length
      · obtain ⟨g, cur, hg, hb, hh, hc⟩ := hr.out.cd.at_ (by omega)
        have c5 : wr.cell? ⟨g11, 5, none⟩ = some (.slice (some ⟨g, 0, none⟩) y.code.length C2.c) := by rw [← hg]; exact row_cell hr.out.row 5
        have cc : wr.cell? ⟨g, i, none⟩ = some (.int .u8 (y.code[i].toNat : Nat)) := (row_cell hh i).trans (hc i hl2 (Nat.le_refl _))
        have fc := row_free hh i
        have hz : (i : Int) < (y.code.length : Int) := by omega
        have HG := hid hg
        have EW := wr64n i (Nat.le_trans hi HCS.out)
        generalize y.code[i].toNat = z at cc
        clear hh hc hb hg
        go_wp2_with fail
        go_roundw
        case rel => exact ⟨i + 1, hl2, by rw [EW.out]; rfl, hid (hr.out.set hl2 HG.out _)⟩
        case measure => rw [EW.out]; exact tl_less hl2
      · have hx : (y.code.length : Int) ≤ (i : Int) := by omega
        clear hi hl2
        go_wp2_with fail
        refine (same_any _ _ l t cr Bc _ hr.out.raw.toIsB hr.out.by_.toIsB).mono ?_
        rintro r w7 ⟨rfl, b7⟩
        have BL := hid (bel_on2 hr.out.bel b7)
        clear b7
        try dsimp only
        go_wp2_with fail
        refine (awake_any _).mono ?_
        rintro r w8 ⟨rfl, b8⟩
        have BL := hid (bel_on2 BL.out b8)
        try dsimp only
        go_wp2_with fail
        go_ret
        exact ⟨rfl, BL.out⟩
end Go.Proofs.Ytnanmdfbgoahjaa
