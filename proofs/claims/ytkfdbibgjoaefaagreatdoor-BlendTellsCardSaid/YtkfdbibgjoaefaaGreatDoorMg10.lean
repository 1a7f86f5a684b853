/-
  Merged: Rd4.
-/
import Derived.Test.YtkfdbibgjoaefaaGreatDoorMg09
import Derived.StillTailTactics
/-
  The document's blend: how a unit of kind 4 leans.
-/
namespace Go.Proofs.YtkfdbibgjoaefaaGreatDoor
open Go.RowKit
set_option linter.unusedVariables false
set_option linter.unusedSimpArgs false

set_option maxRecDepth 10000 in
set_option maxHeartbeats 16000000 in
theorem lean_4 (r g N cap i C bits whole : Nat) (u : Un) (V : Vs) (B Bl : Nat) (l : List Int) (la : Option Addr) (lc : Nat) (w : World)
    (hb : RB w r g N cap C bits whole) (hc : RC w g (i * 16) u V) (ht : RT w B u V) (hi : i < N) (hN : N ≤ 16) (hNc : N ≤ cap) (sz : Nat) (hsz : u.p.size = (sz : Int)) (hs16 : sz ≤ 16) (hC : 1 ≤ C ∧ C ≤ 255) (hbits : bits ≤ 7) (hh : u.h < 4294967296)
    (hok : u.ok whole) (hone : u.p.one (i : Int)) (hl : l.length = i) (hlv : w.ownsRow Bl 3 1 (.slice la i lc) i (l.map iv)) (hlr : ∀ d ∈ l, Lean1 d) (hk : u.p.kind = 4) :
    Calls Tryz.prog 38 #[.pointer (some ⟨r, 0, none⟩), .int .i64 (i : Int), .slice la i lc] w fun e w' => e = .returned (.int .i64 (u.lean C bits l)) ∧ Below w.heap.size w w' := by
  have hiz : (i : Int) < (N : Int) := by omega
  have hNz : (N : Int) ≤ 16 := by omega
  have HP := hid (fun w => r_place u.h C sz hh (by omega) hs16 w)
  obtain ⟨pl, hpl⟩ : ∃ pl, placeN u.h C (sz : Int) = pl := ⟨_, rfl⟩
  have hplt : pl < pw u.p.size := by rw [← hpl, hsz]; exact placeN_lt _ _ _ (by omega) (by omega)
  rw [hpl] at HP
  obtain ⟨⟨ca, cn, cc⟩, ⟨ka, kn1, kc⟩, ⟨sa, sn, sc⟩, ⟨wa, wn, wc⟩, ⟨na, nn1, nc⟩, ⟨ra, rn, rc⟩⟩ := V
  have hok2 := hok
  unfold Un.ok at hok2
  simp [hk] at hok2
  obtain ⟨o1, o2, o3, o4, o5, o6⟩ := hok2
  obtain ⟨gr, xr, er, hler, cellr⟩ := tab_at ht.r u.pos (by omega) (bn 0)
  injection er with e1 e2 e3
  subst e1 e2 e3
  have Tr := hid cellr
  clear cellr
  have hrp : u.pos < u.ring.length := by omega
  have hre : u.ring.getD u.pos 0 ≤ 255 := o3 _
  have hlen6 := o6
  clear o1 o2 o3 o4 o5 o6 Tr
  have hres : u.lean C bits l = u.foretold C bits := by unfold Un.lean; simp [hk]
  obtain ⟨p0, p1, p2, p3, p4, p5, p6, p7, p8, p9, p10, p11, p12, p13, p14, p15⟩ := hc
  have HB := hid hb
  have HM := hid (fun w => hnd_made (w := w) u ⟨⟨ca, cn, cc⟩, ⟨ka, kn1, kc⟩, ⟨sa, sn, sc⟩, ⟨wa, wn, wc⟩, ⟨na, nn1, nc⟩, ⟨some ⟨gr, 0, none⟩, u.ring.length, rc⟩⟩ 65 38)
  obtain ⟨b0, b1, b2, b3⟩ := hb
  unfold cellsU at HM
  dsimp only at *
  rw [hsz] at HM p1
  have hkk : (u.p.kind : Int) = 4 := by omega
  rw [hkk] at p0 HM
  have HT := hid ht
  clear ht hlv hok hone hlr hplt
  go_enter Tryz.func38, Tryz.ntmps38
  go_upto_region 3 with fail
  have H1 := hid (HM.out w)
  clear p0 p1 p2 p3 p4 p5 p6 p7 p8 p9 p10 p11 p12 p13 p14 p15 HM b0 b1 b2 b3
  generalize (w.alloc (.cells #[.int .u8 4, .int .i64 (sz : Int), .int .i64 u.p.a, .int .i64 u.p.b, .int .i64 u.p.c, .int .i64 u.p.rate, .int .i64 u.p.limit, .int .u32 (u.h : Nat), .slice ca cn cc, .slice ka kn1 kc, .slice sa sn sc, .slice wa wn wc, .slice na nn1 nc, .slice (some ⟨gr, 0, none⟩) u.ring.length rc, .int .i64 (u.pos : Nat), .int .i64 (u.len : Nat)] 65)).alloc (.cells #[.int .u8 4, .int .i64 (sz : Int), .int .i64 u.p.a, .int .i64 u.p.b, .int .i64 u.p.c, .int .i64 u.p.rate, .int .i64 u.p.limit] 38) = W at H1 ⊢
  have HB1 := hid (HB.out.below H1.out.bel)
  have HPq := still HP.out W
  have q1 := HB1.out.c
  have q2 := H1.out.un.h
  have q3 := H1.out.p1
  rw [hsz] at q3
  generalize hU : w.heap.size = U at *
  go_quiet (with_reducible exact HPq.out _)
  have hbd := hid (below_drewN H1.out.bel nq)
  have H2 := hid (H1.out.later (show Below W.heap.size W (W.drewN nq) from below_drewN (Below.refl _ W) nq))
  clear H1 HPq q1 q2 q3 HB1
  have q0 : (W.drewN nq).cell? ⟨U + 1, 0, none⟩ = some (.int .u8 4) := by rw [← hU]; have := H2.out.p0; rw [hU]; rw [hkk] at this; exact this
  generalize W.drewN nq = W at *
  have HBW := hid (HB.out.below H2.out.bel)
  have HRW := hid (own_below HT.out.r H2.out.bel)
  have HF := hid (fun w hb hr => foretold_any r g N cap C bits whole 4 (sz : Int) u.p.a u.p.b u.p.c u.p.rate u.p.limit u.h u.pos u.len u.ring (.slice ca cn cc) (.slice ka kn1 kc) (.slice sa sn sc) (.slice wa wn wc) (.slice na nn1 nc) gr rc B w hb hr hrp hlen6 hre hbits hC.2 u ⟨rfl, rfl, rfl⟩ ⟨_, _, _, rfl⟩ ⟨_, _, _, rfl⟩ ⟨_, _, _, rfl⟩ ⟨_, _, _, rfl⟩ ⟨_, _, _, rfl⟩)
  have HF2 := hid (HF.out W HBW.out HRW.out)
  have UN := H2.out.un
  obtain ⟨v0, v1, v2, v3, v4, v5, v6, v7, v8, v9, v10, v11, v12, v13, v14, v15⟩ := UN
  rw [hkk] at v0
  rw [hsz] at v1
  dsimp only at *
  clear HF hkk
  go_wp2_with (go_at_call 62; refine HF2.out.mono ?_; rintro rj w5 ⟨rfl, b5⟩)
  go_ret
  exact ⟨ret_i64 hres.symm, bel_on hbd.out b5⟩
end Go.Proofs.YtkfdbibgjoaefaaGreatDoor
