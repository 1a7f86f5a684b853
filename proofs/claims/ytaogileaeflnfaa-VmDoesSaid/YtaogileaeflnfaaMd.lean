/-
  Merged: Vdd Vde Vdf Vdg.
-/
import Derived.Test.YtaogileaeflnfaaApt
import Derived.Test.YtaogileaeflnfaaHld
import Derived.Test.YtaogileaeflnfaaMa
import Derived.Test.YtaogileaeflnfaaMb
import Derived.Test.YtaogileaeflnfaaDow
import Derived.Deep.RegionWith
import Derived.Deep.RegionHeld
import Derived.Deep.MidRow
/-
  CopyMachine.
-/
set_option linter.unusedVariables false
set_option linter.unusedSimpArgs false
namespace Go.Proofs.Ytaogileaeflnfaa
open Go.RowKit

theorem two_copy {w W : World} {b nH cH : Nat} {L L2 : List Value} {AH : Option Addr} {l : List UInt32} (h : Hid (TwoM w W b L L2)) (hb : w.heap.size ≤ b) (hh : Hid (U.IsBB w w.heap.size AH nH cH l)) (hn : nH ≤ 20000) :
    Calls Try.prog 19 #[.slice AH nH cH] W fun e w' => ∃ BH dH, e = .returned (.slice BH nH dH) ∧ Hid (TwoM w w' b L L2) ∧ Hid (w'.ownsRow w.heap.size 25 1 (.slice BH nH dH) nH (l.map U.bv)) ∧ Hid (Below W.heap.size W w') := by
  have hl := hh.out.len
  refine (U.CopyBytes_any AH l nH cH W (hh.out.on h.out.bel) hn).mono ?_
  rintro e w' ⟨v, rfl, o⟩
  have o2 := o.own
  rw [hl] at o2
  obtain ⟨BH, dH, rfl, _⟩ := own_slice o2
  exact ⟨BH, dH, rfl, h.out.below o.bel, own_up o2 h.out.bel.size, o.bel⟩
theorem two_copy_b {w W : World} {b nH cH : Nat} {L L2 : List Value} {AH : Option Addr} {l : List UInt8} (h : Hid (TwoM w W b L L2)) (hb : w.heap.size ≤ b) (hh : Hid (IsBB w w.heap.size AH nH cH l)) (hn : nH ≤ 20000) :
    Calls Try.prog 20 #[.slice AH nH cH] W fun e w' => ∃ BH dH, e = .returned (.slice BH nH dH) ∧ Hid (TwoM w w' b L L2) ∧ Hid (w'.ownsRow w.heap.size 5 1 (.slice BH nH dH) nH (l.map bv)) ∧ Hid (Below W.heap.size W w') := by
  have hl := hh.out.len
  refine (CopyBytes_any AH l nH cH W (hh.out.on h.out.bel) hn).mono ?_
  rintro e w' ⟨v, rfl, o⟩
  have o2 := o.own
  rw [hl] at o2
  obtain ⟨BH, dH, rfl, _⟩ := own_slice o2
  exact ⟨BH, dH, rfl, h.out.below o.bel, own_up o2 h.out.bel.size, o.bel⟩
/-- Both lists put into the first block. -/
theorem two_put {w W1 W : World} {x : Mn} {sh0 sm0 : Value} (h1 : TwoM w W1 w.heap.size (mcL x sh0 sm0) zL) (h : TwoM w W w.heap.size (mcL x sh0 sm0) zL) (b : Below W1.heap.size W1 W) {A1 A2 : Option Addr} {n1 c1 n2 c2 : Nat} {l1 l2 : List Value}
    (o1 : W1.ownsRow w.heap.size 25 1 (.slice A1 n1 c1) n1 l1) (o2 : W.ownsRow w.heap.size 5 1 (.slice A2 n2 c2) n2 l2) :
    TwoM w ((W.setCell ⟨w.heap.size, 261, none⟩ (.slice A1 n1 c1)).setCell ⟨w.heap.size, 262, none⟩ (.slice A2 n2 c2)) w.heap.size (mcL x (.slice A1 n1 c1) (.slice A2 n2 c2)) zL ∧
    ((W.setCell ⟨w.heap.size, 261, none⟩ (.slice A1 n1 c1)).setCell ⟨w.heap.size, 262, none⟩ (.slice A2 n2 c2)).ownsRow w.heap.size 25 1 (.slice A1 n1 c1) n1 l1 ∧
    ((W.setCell ⟨w.heap.size, 261, none⟩ (.slice A1 n1 c1)).setCell ⟨w.heap.size, 262, none⟩ (.slice A2 n2 c2)).ownsRow w.heap.size 5 1 (.slice A2 n2 c2) n2 l2 := by
  have t := (h.set 261 (.slice A1 n1 c1)).set 262 (.slice A2 n2 c2)
  rw [ms_h, ms_m] at t
  have t1 := h.set 261 (.slice A1 n1 c1)
  exact ⟨t, own_set30 (own_set30 (own_below o1 b) h.one (by decide) _ _) t1.one (by decide) _ _, own_set30 (own_set30 o2 h.one (by decide) _ _) t1.one (by decide) _ _⟩
set_option maxRecDepth 10000 in
set_option maxHeartbeats 16000000 in
theorem CopyMachine_any (w : World) (x : Mn) (AH AM : Option Addr) (nH cH nM cM : Nat) (h : U.IsBB w w.heap.size AH nH cH x.h) (hm : IsBB w w.heap.size AM nM cM x.m) (h1 : nH ≤ 20000) (h2 : nM ≤ 20000) :
    Calls Try.prog 7 #[vM x (.slice AH nH cH) (.slice AM nM cM)] w fun e w' => ∃ BH dH BM dM, e = .returned (vM x (.slice BH nH dH) (.slice BM nM dM)) ∧ w'.ownsRow w.heap.size 25 1 (.slice BH nH dH) nH (x.h.map U.bv) ∧ w'.ownsRow w.heap.size 5 1 (.slice BM nM dM) nM (x.m.map bv) ∧ Below w.heap.size w w' := by
  have zv := zero30
  have H0 := hid (TwoM.start w (mcL x (.slice AH nH cH) (.slice AM nM cM)) 30 rfl)
  have H0d := hid H0.out.drew
  have HH := hid h
  have HM := hid hm
  clear h hm
  unfold vM
  have CH := hid (mc_h x (.slice AH nH cH) (.slice AM nM cM))
  have CM := hid (mc_m x (.slice AH nH cH) (.slice AM nM cM))
  have HE : Hid (∀ W1 W A1 n1 c1 A2 n2 c2 l1 l2, _) := hid (fun W1 W A1 n1 c1 A2 n2 c2 l1 l2 h1 h b o1 o2 => two_put (x := x) (sh0 := .slice AH nH cH) (sm0 := .slice AM nM cM) (w := w) (W1 := W1) (W := W) (A1 := A1) (n1 := n1) (c1 := c1) (A2 := A2) (n2 := n2) (c2 := c2) (l1 := l1) (l2 := l2) h1 h b o1 o2)
  generalize hL : mcL x (.slice AH nH cH) (.slice AM nM cM) = L at *
  obtain ⟨k6, f6⟩ := H0.out.cell CH.out
  obtain ⟨k7, f7⟩ := H0.out.cell CM.out
  go_enter Try.func7, Try.ntmps7
  go_upto_region 1 with fail
  generalize (w.alloc (.cells L.toArray 30)).alloc (.cells zL.toArray 30) = W0 at *
  go_region_with (first
    | (go_at_call 19; go_must ((first | (with_reducible refine (two_copy H0 (Nat.le_refl _) HH h1).mono ?_) | (with_reducible refine (two_copy H0d (Nat.le_refl _) HH h1).mono ?_)); rintro r W1 ⟨A1, c1, rfl, H1, I1, B1⟩; have H1d := hid H1.out.drew; obtain ⟨q6, g6⟩ := H1.out.cell CH.out; obtain ⟨q7, g7⟩ := H1.out.cell CM.out))
    | (go_at_call 20; go_must ((first | (with_reducible refine (two_copy_b H1 (Nat.le_refl _) HM h2).mono ?_) | (with_reducible refine (two_copy_b H1d (Nat.le_refl _) HM h2).mono ?_)); rintro r W2 ⟨A2, c2, rfl, H2, I2, B2⟩; obtain ⟨r6, l6⟩ := H2.out.cell CH.out; obtain ⟨r7, l7⟩ := H2.out.cell CM.out)))
  all_goals
    have E := hid (HE.out W1 W2 A1 nH c1 A2 nM c2 _ _ H1.out H2.out B2.out I1.out I2.out)
    clear HE I1 I2 B2 B1 H1 H2 H1d H0 H0d k6 f6 k7 f7 q6 g6 q7 g7 r6 l6 r7 l7
    generalize (W2.setCell _ _).setCell _ _ = V at *
    obtain ⟨H4, O5, O6⟩ := E.out
    clear E
    have H4 := hid H4
    have O5 := hid O5
    have O6 := hid O6
    have Z5 := mc_one x A1 A2 nH nM c1 c2
    have Z6 := mc_size x (.slice A1 nH c1) (.slice A2 nM c2)
    have HD := hid (H4.out.done (mcL x (.slice A1 nH c1) (.slice A2 nM c2)))
    generalize hL4 : mcL x (.slice A1 nH c1) (.slice A2 nM c2) = L4 at *
    replace hL4 := hid hL4
    have hsz := hid (size30 L4.toArray Z6)
    have hz2 := hid (show zL.toArray.size = L4.toArray.size by rw [Z6]; rfl)
    go_wp2_with (first
      | (refine wpList_load_row rfl 30 (.tmp 1) rfl w.heap.size rfl 30 L4.toArray (0, 0) _ H4.out.one Try.underlying30 rfl hsz.out ?_)
      | (refine wpList_store_row (o := ⟨none, .store 30 (.tmp 2) (.tmp 11), _, _, _, _⟩) rfl 30 (.tmp 2) (.tmp 11) rfl (w.heap.size + 1) L4.toArray rfl rfl 30 zL.toArray H4.out.two hsz.out hz2.out Z5 ?_))
    refine bodyPost_ret (results_cell_row (by kernel_rfl : Try.f7.results = #[.cell 2 30]) _ _ (w.heap.size + 1) 30 L4.toArray (0, 0) _ rfl HD.out.1 Try.underlying30 rfl hsz.out) rfl ?_
    exact ⟨A1, c1, A2, c2, by rw [hL4.out], HD.out.2.2 _ _ _ _ (by decide) _ O5.out, HD.out.2.2 _ _ _ _ (by decide) _ O6.out, HD.out.2.1⟩
end Go.Proofs.Ytaogileaeflnfaa
/-
  The document's Holds.
-/
set_option linter.unusedVariables false
set_option linter.unusedSimpArgs false
namespace Go.Proofs.Ytaogileaeflnfaa
open Go.RowKit

theorem Hl2.right {w W V : World} {x : Mn} {AH AM : Option Addr} {nH cH nM cM : Nat} {o d s n : Int} (H : Hl2 w W x AH nH cH AM nM cM o d s n) (h1 : nH ≤ 5000) (h2 : nM ≤ 5000) (b : Below W.heap.size W V) :
    Calls Try.prog 27 #[vM x (.slice AH nH cH) (.slice AM nM cM)] V fun e w' => e = .returned (.bool (decide x.ok)) ∧ Below V.heap.size V w' :=
  rright_any V x AH AM nH cH nM cM (H.below b).m.h (H.below b).m.m h1 h2
theorem Hl2.at {w W V : World} {x : Mn} {AH AM : Option Addr} {nH cH nM cM : Nat} {o d s n : Int} (H : Hl2 w W x AH nH cH AM nM cM o d s n) (hk : x.ok) (b : Below W.heap.size W V) (p q : Int) :
    Calls Try.prog 29 #[vM x (.slice AH nH cH) (.slice AM nM cM), .int .i64 p, .int .i64 q] V fun e w' => e = .returned (U.bv (atM x p q)) ∧ Below V.heap.size V w' :=
  rat_any V x p q AH AM nH cH nM cM (H.below b).m.h (H.below b).m.m hk
set_option maxRecDepth 10000 in
set_option maxHeartbeats 16000000 in
theorem rHolds_any (w : World) (x : Mn) (o d s n : Int) (ho : 0 ≤ o) (AH AM : Option Addr) (nH cH nM cM : Nat) (h : U.IsBB w w.heap.size AH nH cH x.h) (hm : IsBB w w.heap.size AM nM cM x.m) (h1 : nH ≤ 5000) (h2 : nM ≤ 5000) :
    Calls Try.prog 14 #[vI o d s n, vM x (.slice AH nH cH) (.slice AM nM cM)] w fun e w' => e = .returned (.bool (holdsM o d s n x)) ∧ Below w.heap.size w w' := by
  have H0 := hid (Hl2.start h hm o d s n)
  have HR := hid (RefRight_any o d s n ho)
  have HE : Hid (holdsM o d s n x = if (19 ≤ o ∧ o ≤ 21) ∧ okI o d s n ∧ x.ok then cmpM o s n x else false) := rfl
  have HM := hid (fun V W (H : Hl2 w W x AH nH cH AM nM cM o d s n) b => H.right (V := V) h1 h2 b)
  have HA := hid (fun hk V W (H : Hl2 w W x AH nH cH AM nM cM o d s n) b p q => H.at (V := V) hk b p q)
  have HC := hid (fun V W (H : Hl2 w W x AH nH cH AM nM cM o d s n) (b : Below W.heap.size W V) => (H.below b).m.ca)
  have hsz := hid (size30 _ (mc_size x (.slice AH nH cH) (.slice AM nM cM)))
  have HG := hid (fun V W (H : Hl2 w W x AH nH cH AM nM cM o d s n) (b : Below W.heap.size W V) => (H.below b).m.row)
  clear h hm
  unfold vM at HM HA ⊢
  unfold vI at HR ⊢
  generalize mcL x (.slice AH nH cH) (.slice AM nM cM) = L at *
  go_enter Try.func14, Try.ntmps14
  go_upto_region 1 with fail
  generalize ((w.alloc _).alloc (.cells L.toArray 30)) = W2 at *
  obtain ⟨c0, c1, c2, c3⟩ := H0.out.cells
  have HM2 := hid (HM.out W2 W2 H0.out (Below.refl _ _))
  have HG2 := hid (HG.out W2 W2 H0.out (Below.refl _ _))
  by_cases hk : x.ok
  case neg =>
    rw [decide_eq_false hk] at HM2
    go_wp2_with (first
      | (refine BigFrame.wpList_want (o := ⟨some 6, .load 30 (.tmp 3), _, _, _, _⟩) (by rfl) (fun _ hK => wp_load_row 30 (.tmp 3) rfl (w.heap.size + 1) rfl 30 L.toArray (0, 0) _ HG2.out Try.underlying30 rfl hsz.out (hK _ _ ?_)))
      | (go_at_call 27; refine HM2.out.mono ?_; rintro r w2 ⟨rfl, b2⟩; have B2 := hid b2; clear b2))
    go_ret
    exact ⟨by rw [HE.out, if_neg (fun h => hk h.2.2)]; rfl, bel_trans H0.out.bel B2.out⟩
  rw [decide_eq_true hk] at HM2
  by_cases hi : okI o d s n
  case neg =>
    rw [show rightE o d s n = 110 from if_neg hi] at HR
    go_wp2_with (first
      | (refine BigFrame.wpList_want (o := ⟨some 6, .load 30 (.tmp 3), _, _, _, _⟩) (by rfl) (fun _ hK => wp_load_row 30 (.tmp 3) rfl (w.heap.size + 1) rfl 30 L.toArray (0, 0) _ HG2.out Try.underlying30 rfl hsz.out (hK _ _ ?_)))
      | (go_at_call 27; refine HM2.out.mono ?_; rintro r w2 ⟨rfl, b2⟩; have B2 := hid b2; obtain ⟨c0, c1, c2, c3⟩ := (H0.out.below b2).cells; clear b2)
      | (go_at_call 28; refine (HR.out _).mono ?_; rintro r w3 ⟨rfl, b3⟩; have B3 := hid b3; clear b3))
    go_ret
    exact ⟨by rw [HE.out, if_neg (fun h => hi h.2.1)]; rfl, bel_trans H0.out.bel (bel_trans B2.out B3.out)⟩
  rw [show rightE o d s n = 0 from if_pos hi] at HR
  go_upto_region 3 with (first
    | (refine BigFrame.wpList_want (o := ⟨some 6, .load 30 (.tmp 3), _, _, _, _⟩) (by rfl) (fun _ hK => wp_load_row 30 (.tmp 3) rfl (w.heap.size + 1) rfl 30 L.toArray (0, 0) _ HG2.out Try.underlying30 rfl hsz.out (hK _ _ ?_)))
    | (go_at_call 27; refine HM2.out.mono ?_; rintro r w2 ⟨rfl, b2⟩; have B2 := hid b2; obtain ⟨c0, c1, c2, c3⟩ := (H0.out.below b2).cells; clear b2)
    | (go_at_call 28; refine (HR.out _).mono ?_; rintro r W3 ⟨rfl, b3⟩; have B3 := hid (bel_trans B2.out b3); clear b3 B2))
  obtain ⟨c0, c1, c2, c3⟩ := (H0.out.below B3.out).cells
  have HG3 := hid (HG.out _ _ H0.out B3.out)
  have HA3 := hid (HA.out hk _ _ H0.out B3.out s n)
  clear HM HM2 HR HG2
  obtain ⟨z, hz⟩ : ∃ z, atM x s n = z := ⟨_, rfl⟩
  rw [hz] at HA3
  replace hz := hid hz
  unfold U.bv at HA3
  go_upto_region 4 with (first
    | (refine wpList_load_row rfl 30 (.tmp 3) rfl (w.heap.size + 1) rfl 30 L.toArray (0, 0) _ HG3.out Try.underlying30 rfl hsz.out ?_)
    | (go_at_call 29; refine HA3.out.mono ?_; rintro r W4 ⟨rfl, b4⟩; have B4 := hid (bel_trans B3.out b4); clear b4 B3))
  obtain ⟨c0, c1, c2, c3⟩ := (H0.out.below B4.out).cells
  have ca := HC.out _ _ H0.out B4.out
  unfold U.bv at ca
  clear HA HA3 HG3 HC HG
  by_cases e1 : o = 19
  · subst e1
    by_cases q : x.a = z
    · have q2 : ((x.a.toNat : Int) == (z.toNat : Int)) = true := by simp [q]
      go_wp2_with fail
      go_ret
      refine ⟨?_, bel_trans H0.out.bel B4.out⟩
      rw [HE.out, if_pos ⟨by omega, hi, hk⟩]
      unfold cmpM
      rw [if_pos rfl, hz.out, decide_eq_true q]
      rfl
    · have q2 : ((x.a.toNat : Int) == (z.toNat : Int)) = false := by
        simp only [beq_eq_false_iff_ne, ne_eq]
        intro e
        exact q (UInt32.toNat_inj.1 (by omega))
      go_wp2_with fail
      go_ret
      refine ⟨?_, bel_trans H0.out.bel B4.out⟩
      rw [HE.out, if_pos ⟨by omega, hi, hk⟩]
      unfold cmpM
      rw [if_pos rfl, hz.out, decide_eq_false q]
      rfl
  by_cases e2 : o = 20
  · subst e2
    by_cases q : x.a < z
    · have q2 : decide ((x.a.toNat : Int) < (z.toNat : Int)) = true := decide_eq_true (by have := UInt32.lt_iff_toNat_lt.1 q; omega)
      have q3 : decide (x.a.toNat < z.toNat) = true := decide_eq_true (UInt32.lt_iff_toNat_lt.1 q)
      go_wp2_with fail
      go_ret
      refine ⟨?_, bel_trans H0.out.bel B4.out⟩
      rw [HE.out, if_pos ⟨by omega, hi, hk⟩]
      unfold cmpM
      rw [if_neg (by omega), if_pos rfl, hz.out, decide_eq_true q]
      rfl
    · have q2 : decide ((x.a.toNat : Int) < (z.toNat : Int)) = false := decide_eq_false (fun h => q (UInt32.lt_iff_toNat_lt.2 (by omega)))
      have q3 : decide (x.a.toNat < z.toNat) = false := decide_eq_false (fun h => q (UInt32.lt_iff_toNat_lt.2 h))
      go_wp2_with fail
      go_ret
      refine ⟨?_, bel_trans H0.out.bel B4.out⟩
      rw [HE.out, if_pos ⟨by omega, hi, hk⟩]
      unfold cmpM
      rw [if_neg (by omega), if_pos rfl, hz.out, decide_eq_false q]
      rfl
  by_cases e3 : o = 21
  · subst e3
    by_cases q : z < x.a
    · have q2 : decide ((z.toNat : Int) < (x.a.toNat : Int)) = true := decide_eq_true (by have := UInt32.lt_iff_toNat_lt.1 q; omega)
      have q3 : decide (z.toNat < x.a.toNat) = true := decide_eq_true (UInt32.lt_iff_toNat_lt.1 q)
      go_wp2_with fail
      go_ret
      refine ⟨?_, bel_trans H0.out.bel B4.out⟩
      rw [HE.out, if_pos ⟨by omega, hi, hk⟩]
      unfold cmpM
      rw [if_neg (by omega), if_neg (by omega), hz.out, decide_eq_true q]
      rfl
    · have q2 : decide ((z.toNat : Int) < (x.a.toNat : Int)) = false := decide_eq_false (fun h => q (UInt32.lt_iff_toNat_lt.2 (by omega)))
      have q3 : decide (z.toNat < x.a.toNat) = false := decide_eq_false (fun h => q (UInt32.lt_iff_toNat_lt.2 h))
      go_wp2_with fail
      go_ret
      refine ⟨?_, bel_trans H0.out.bel B4.out⟩
      rw [HE.out, if_pos ⟨by omega, hi, hk⟩]
      unfold cmpM
      rw [if_neg (by omega), if_neg (by omega), hz.out, decide_eq_false q]
      rfl
  have n1 : (o == 19) = false := by simp only [beq_eq_false_iff_ne, ne_eq]; omega
  have n2 : (o == 20) = false := by simp only [beq_eq_false_iff_ne, ne_eq]; omega
  have n3 : (o == 21) = false := by simp only [beq_eq_false_iff_ne, ne_eq]; omega
  go_wp2_with fail
  go_ret
  refine ⟨?_, bel_trans H0.out.bel B4.out⟩
  rw [HE.out, if_neg (fun h => by omega)]
  rfl
end Go.Proofs.Ytaogileaeflnfaa
/-
  The document's Do: what lies in memory.
-/
set_option linter.unusedVariables false
set_option linter.unusedSimpArgs false
namespace Go.Proofs.Ytaogileaeflnfaa
open Go.RowKit

/-- The document's Do: the instruction's box, the machine's block g, the result. -/
structure RDo (w W : World) (g : Nat) (L : List Value) (o d s n : Int) : Prop where
  box : W.heap[w.heap.size]? = some (.cells #[.int .u8 o, .int .i64 d, .int .i64 s, .int .i64 n] 24 (0, 0))
  res : W.heap[w.heap.size + 1 + 1]? = some (.cells zL.toArray 30 (0, 0))
  row : W.heap[g]? = some (.cells L.toArray 30 (0, 0))
  ge : w.heap.size + 3 ≤ g
  bel : Below w.heap.size w W
section
variable {w W V : World} {g : Nat} {L : List Value} {o d s n : Int}
theorem RDo.below (h : RDo w W g L o d s n) (b : Below W.heap.size W V) : RDo w V g L o d s n :=
  ⟨(b.block _ (lt_of_heap h.box)).trans h.box, (b.block _ (lt_of_heap h.res)).trans h.res, (b.block _ (lt_of_heap h.row)).trans h.row, h.ge, bel_trans h.bel b⟩
theorem RDo.cells (h : RDo w W g L o d s n) : W.cell? ⟨w.heap.size, 0, none⟩ = some (.int .u8 o) ∧ W.cell? ⟨w.heap.size, 1, none⟩ = some (.int .i64 d) ∧ W.cell? ⟨w.heap.size, 2, none⟩ = some (.int .i64 s) ∧ W.cell? ⟨w.heap.size, 3, none⟩ = some (.int .i64 n) :=
  ⟨row_cell h.box 0, row_cell h.box 1, row_cell h.box 2, row_cell h.box 3⟩
/-- The machine's new block. -/
def Stw (W : World) (L : List Value) : World := (W.alloc (.cells zL.toArray 30)).setRow W.heap.size L.toArray
theorem Stw.bel (W : World) (L : List Value) : Below W.heap.size W (Stw W L) := by
  refine ⟨rfl, rfl, rfl, by unfold Stw; rw [size_setRow]; simp, fun i hi => ?_⟩
  unfold Stw
  rw [setRow_other _ _ _ _ (by omega)]
  exact heap_alloc_old _ _ hi
theorem RDo.start {W1 : World} (h : Do3 w W L o d s n) (hs : W.heap.size = w.heap.size + 3) (b : Below W.heap.size W W1) (L' : List Value) : RDo w (Stw W1 L') W1.heap.size L' o d s n := by
  have h1 := h.below b
  have b2 := Stw.bel W1 L'
  exact ⟨(b2.block _ (lt_of_heap h1.box)).trans h1.box, (b2.block _ (lt_of_heap h1.two.two)).trans h1.two.two, setRow_heap _ _ _ _ _ _ (heap_alloc_new W1 _), by have := b.size; omega, bel_trans h1.two.bel b2⟩
/-- The end: the machine is returned. -/
theorem rdo_end {x : Mn} {BH BM : Option Addr} {nH dH nM dM : Nat} (h : RDo w W g (mcL x (.slice BH nH dH) (.slice BM nM dM)) o d s n) (o1 : W.ownsRow w.heap.size 25 1 (.slice BH nH dH) nH (x.h.map U.bv)) (o2 : W.ownsRow w.heap.size 5 1 (.slice BM nM dM) nM (x.m.map bv)) (L : List Value) (hL : mcL x (.slice BH nH dH) (.slice BM nM dM) = L) :
    W.heap[g]? = some (.cells L.toArray 30 (0, 0)) ∧ (Try.prog.info? 30).map (·.size) = some L.toArray.size ∧ W.heap[w.heap.size + 1 + 1]? = some (.cells zL.toArray 30 (0, 0)) ∧ zL.toArray.size = L.toArray.size ∧ L.toArray.all (·.oneCell') = true ∧
    (W.setRow (w.heap.size + 1 + 1) L.toArray).heap[w.heap.size + 1 + 1]? = some (.cells L.toArray 30 (0, 0)) ∧ DoPost w x nH nM (.returned (.agg L.toArray)) (W.setRow (w.heap.size + 1 + 1) L.toArray) := by
  subst hL
  have he := setRow_heap W (w.heap.size + 1 + 1) zL.toArray (mcL x (.slice BH nH dH) (.slice BM nM dM)).toArray 30 (0, 0) h.res
  refine ⟨h.row, size30 _ (mc_size _ _ _), h.res, by rw [mc_size]; exact mc_size _ _ _, mc_one _ _ _ _ _ _ _, he, BH, dH, BM, dM, rfl, setRow_own h.res (by decide) o1, setRow_own h.res (by decide) o2, ?_⟩
  refine ⟨h.bel.os, h.bel.tape, h.bel.output, by rw [size_setRow]; exact h.bel.size, fun i hi => ?_⟩
  rw [setRow_other _ _ _ _ (by omega)]
  exact h.bel.block i hi
end
/-- The machine has lists of its own. -/
structure RM (w W : World) (g hb mb nH cH nM cM : Nat) (x : Mn) (o d s n : Int) : Prop where
  d : RDo w W g (mcL x (.slice (some ⟨hb, 0, none⟩) nH cH) (.slice (some ⟨mb, 0, none⟩) nM cM)) o d s n
  m : MO W (w.heap.size + 3) g hb mb nH cH nM cM x
section
variable {w W V : World} {g hb mb nH cH nM cM : Nat} {x y : Mn} {o d s n : Int}
theorem RM.below (h : RM w W g hb mb nH cH nM cM x o d s n) (b : Below W.heap.size W V) : RM w V g hb mb nH cH nM cM x o d s n := ⟨h.d.below b, h.m.below b⟩
theorem RM.drew (h : RM w W g hb mb nH cH nM cM x o d s n) : RM w W.drew g hb mb nH cH nM cM x o d s n := ⟨⟨h.d.box, h.d.res, h.d.row, h.d.ge, h.d.bel.drew⟩, h.m.drew⟩
theorem RM.low (h : RM w W g hb mb nH cH nM cM x o d s n) : ∀ i, Its g hb mb i → w.heap.size + 3 ≤ i := by
  rintro i (rfl | rfl | rfl)
  · exact h.d.ge
  · exact h.m.hlt.1
  · exact h.m.mlt.1
theorem RM.but (h : RM w W g hb mb nH cH nM cM x o d s n) (m : MO V (w.heap.size + 3) g hb mb nH cH nM cM y) (b : But (Its g hb mb) W V) : RM w V g hb mb nH cH nM cM y o d s n := by
  have hl := h.low
  refine ⟨⟨?_, ?_, m.row, h.d.ge, ?_⟩, m⟩
  · exact (b.block _ (lt_of_heap h.d.box) (fun q => by have := hl _ q; omega)).trans h.d.box
  · exact (b.block _ (lt_of_heap h.d.res) (fun q => by have := hl _ q; omega)).trans h.d.res
  · exact h.d.bel.trans (b.below (fun i q => by have := hl i q; omega) h.d.bel.size)
theorem RM.set (h : RM w W g hb mb nH cH nM cM x o d s n) (i : Nat) (u : Value) (y : Mn) (hy : (mcL x (.slice (some ⟨hb, 0, none⟩) nH cH) (.slice (some ⟨mb, 0, none⟩) nM cM)).set i u = mcL y (.slice (some ⟨hb, 0, none⟩) nH cH) (.slice (some ⟨mb, 0, none⟩) nM cM)) (h1 : y.h = x.h) (h2 : y.m = x.m) :
    RM w (W.setCell ⟨g, i, none⟩ u) g hb mb nH cH nM cM y o d s n := h.but (h.m.put i u y hy h1 h2) ((But.refl _ _).set _ _ (.inl (.inl rfl)))
theorem RM.put (h : RM w W g hb mb nH cH nM cM x o d s n) (hok : x.ok) (p : Int) (v : UInt32) (z : Int) (hz : (v.toNat : Int) = z) :
    Calls Try.prog 30 #[.pointer (some ⟨g, 0, none⟩), .int .i64 p, .int .u32 z] W fun e w' => e = .returned (.tuple #[]) ∧ Hid (RM w w' g hb mb nH cH nM cM (putM x p v) o d s n) := by
  subst hz
  exact (rput_any W _ g hb mb nH cH nM cM x p v h.m hok).mono fun e w' ⟨h1, h2, h3⟩ => ⟨h1, h.but h2 h3⟩
theorem RM.at (h : RM w W g hb mb nH cH nM cM x o d s n) (hok : x.ok) (p q : Int) :
    Calls Try.prog 29 #[vM x (.slice (some ⟨hb, 0, none⟩) nH cH) (.slice (some ⟨mb, 0, none⟩) nM cM), .int .i64 p, .int .i64 q] W fun e w' => e = .returned (U.bv (atM x p q)) ∧ Hid (RM w w' g hb mb nH cH nM cM x o d s n) := by
  have hr := h.m.mr
  exact (rat_any W x p q _ _ nH cH nM cM hr.h hr.m hok).mono fun e w' ⟨h1, h2⟩ => ⟨h1, h.below h2⟩
theorem RM.holds (h : RM w W g hb mb nH cH nM cM x o d s n) (ho : 0 ≤ o) (h1 : nH ≤ 5000) (h2 : nM ≤ 5000) :
    Calls Try.prog 14 #[vI o d s n, vM x (.slice (some ⟨hb, 0, none⟩) nH cH) (.slice (some ⟨mb, 0, none⟩) nM cM)] W fun e w' => e = .returned (.bool (holdsM o d s n x)) ∧ Hid (RM w w' g hb mb nH cH nM cM x o d s n) := by
  have hr := h.m.mr
  exact (rHolds_any W x o d s n ho _ _ nH cH nM cM hr.h hr.m h1 h2).mono fun e w' ⟨h1, h2⟩ => ⟨h1, h.below h2⟩
theorem RM.range (h : RM w W g hb mb nH cH nM cM x o d s n) (L : List Value) (hL : mcL x (.slice (some ⟨hb, 0, none⟩) nH cH) (.slice (some ⟨mb, 0, none⟩) nM cM) = L) : W.rangeAt g 0 L := by
  subst hL
  intro j v hv
  rw [row_get h.d.row, Nat.zero_add]
  exact hv
theorem RM.fin (h : RM w W g hb mb nH cH nM cM x o d s n) (L : List Value) (hL : mcL x (.slice (some ⟨hb, 0, none⟩) nH cH) (.slice (some ⟨mb, 0, none⟩) nM cM) = L) :
    W.heap[g]? = some (.cells L.toArray 30 (0, 0)) ∧ (Try.prog.info? 30).map (·.size) = some L.toArray.size ∧ W.heap[w.heap.size + 1 + 1]? = some (.cells zL.toArray 30 (0, 0)) ∧ zL.toArray.size = L.toArray.size ∧ L.toArray.all (·.oneCell') = true ∧
    (W.setRow (w.heap.size + 1 + 1) L.toArray).heap[w.heap.size + 1 + 1]? = some (.cells L.toArray 30 (0, 0)) ∧ DoPost w x nH nM (.returned (.agg L.toArray)) (W.setRow (w.heap.size + 1 + 1) L.toArray) :=
  rdo_end h.d (own_up h.m.h (Nat.le_add_right _ _)) (own_up h.m.m (Nat.le_add_right _ _)) L hL
end
end Go.Proofs.Ytaogileaeflnfaa
/-
  The document's Do: up to the switch (written by tools/stage17/gen_vdg.py).
-/
set_option linter.unusedVariables false
set_option linter.unusedSimpArgs false
namespace Go.Proofs.Ytaogileaeflnfaa
open Go.RowKit

/-- What the rest of the document's Do makes of a machine. -/
def RestOf (o d s n : Int) (x : Mn) (nH nM : Nat) : Prop := ∀ (w W : World) (g hb mb cH cM : Nat) (Lx : List Value) (H : RM w W g hb mb nH cH nM cM x o d s n)
  (t : Array Value), True
/-- A list that is not empty lies somewhere. -/
theorem own_some {w : World} {B e n : Nat} {A : Option Addr} {c : Nat} {xs : List Value} (h : w.ownsRow B e 1 (.slice A n c) n xs) (h0 : 0 < n) : ∃ g, A = some ⟨g, 0, none⟩ := by
  rcases h.2 with ⟨_, h1⟩ | ⟨g, cap, cur, hv, _⟩
  · omega
  · injection hv with e1 e2 e3
    exact ⟨g, e1⟩
theorem rm_of {w W : World} {g nH dH nM dM : Nat} {BH BM : Option Addr} {x : Mn} {o d s n : Int} (h : RDo w W g (mcL x (.slice BH nH dH) (.slice BM nM dM)) o d s n) (o1 : W.ownsRow (w.heap.size + 3) 25 1 (.slice BH nH dH) nH (x.h.map U.bv)) (o2 : W.ownsRow (w.heap.size + 3) 5 1 (.slice BM nM dM) nM (x.m.map bv)) (hk : x.ok) (h1 : nH ≤ 5000) (h2 : nM ≤ 5000) :
    ∃ hb mb, BH = some ⟨hb, 0, none⟩ ∧ BM = some ⟨mb, 0, none⟩ ∧ RM w W g hb mb nH dH nM dM x o d s n := by
  have l1 : x.h.length = nH := by simpa using o1.1
  have l2 : x.m.length = nM := by simpa using o2.1
  obtain ⟨hb, rfl⟩ := own_some o1 (by rw [← l1]; exact pw_pos hk.1)
  obtain ⟨mb, rfl⟩ := own_some o2 (by rw [← l2]; exact pw_pos hk.2)
  exact ⟨hb, mb, rfl, rfl, h, ⟨h.row, o1, o2, h.ge, by omega, by omega⟩⟩
theorem inc_eq (y : UInt32) : ((y + 1).toNat : Int) = ((y.toNat : Int) + 1) % 4294967296 := by
  rw [UInt32.toNat_add, Int.natCast_emod]; rfl
theorem dec_eq (y : UInt32) : ((y - 1).toNat : Int) = ((y.toNat : Int) - 1) % 4294967296 := by
  have := y.toNat_lt
  rw [UInt32.toNat_sub, show (1 : UInt32).toNat = 1 from rfl]; omega
theorem not_eq (y : UInt32) : ((~~~ y).toNat : Int) = (4294967295 - (y.toNat : Int)) % 4294967296 := by
  have := y.toNat_lt
  rw [UInt32.toNat_not, show UInt32.size = 4294967296 from rfl]; omega
theorem swap_eq (x : Mn) (d s n : Int) : doM 7 d s n x = { putM x d x.a with a := atM x d n } := by
  show putM { x with a := atM x d n } d x.a = _
  by_cases h : d = 0
  · subst h; rfl
  · unfold putM
    repeat (first | rw [if_neg h] | (split; · rfl))
    rfl
theorem doM_calc {o d s n : Int} {x : Mn} (h : 8 ≤ o ∧ o ≤ 18) : doM o d s n x = { x with a := calcM o x.a (atM x s n) } := by
  unfold doM
  repeat rw [if_neg (by omega)]
theorem hash_wr (x y : UInt32) : ((hashM x y).toNat : Int) = IntKind.u32.wrap (IntKind.u32.wrap (IntKind.u32.wrap ((x.toNat : Int) + (y.toNat : Int)) + 512) * 773) := by
  rw [IntKind.wrap_u32', IntKind.wrap_u32', IntKind.wrap_u32', ← hash_eq]
  omega
theorem putM_r (x : Mn) (p : Int) (v : UInt32) : (putM x p v).r = x.r := by
  unfold putM
  repeat (split; · rfl)
  rfl
theorem rd_right {w W : World} {g nH dH nM dM : Nat} {BH BM : Option Addr} {x : Mn} {L : List Value} {o d s n : Int} (h : RDo w W g L o d s n) (o1 : W.ownsRow (w.heap.size + 3) 25 1 (.slice BH nH dH) nH (x.h.map U.bv)) (o2 : W.ownsRow (w.heap.size + 3) 5 1 (.slice BM nM dM) nM (x.m.map bv)) (h1 : nH ≤ 5000) (h2 : nM ≤ 5000) :
    Calls Try.prog 27 #[vM x (.slice BH nH dH) (.slice BM nM dM)] W fun e w' => e = .returned (.bool (decide x.ok)) ∧ Hid (RDo w w' g L o d s n) ∧ Hid (w'.ownsRow (w.heap.size + 3) 25 1 (.slice BH nH dH) nH (x.h.map U.bv)) ∧ Hid (w'.ownsRow (w.heap.size + 3) 5 1 (.slice BM nM dM) nM (x.m.map bv)) := by
  refine (rright_any W x BH BM nH dH nM dM (U.own_isB2 o1 (by omega)) (own_isB2 o2 (by omega)) h1 h2).mono fun e w' ⟨q1, q2⟩ => ⟨q1, h.below q2, own_below o1 q2, own_below o2 q2⟩
set_option maxRecDepth 10000 in
set_option maxHeartbeats 32000000 in
theorem rdo_bad (w : World) (x : Mn) (o d s n : Int) (ho : 0 ≤ o) (AH AM : Option Addr) (nH cH nM cM : Nat) (h : U.IsBB w w.heap.size AH nH cH x.h) (hm : IsBB w w.heap.size AM nM cM x.m) (h1 : nH ≤ 5000) (h2 : nM ≤ 5000) (hbad : ¬ (okI o d s n ∧ x.ok)) :
    Calls Try.prog 12 #[vI o d s n, vM x (.slice AH nH cH) (.slice AM nM cM)] w (DoPost w (doneM o d s n x) nH nM) := by
  have zv := zero30
  have zl : zL.length = 263 := mc_len _ _ _
  have H0 := hid (Do3.start w (mcL x (.slice AH nH cH) (.slice AM nM cM)) o d s n)
  have HCM := hid (fun W (hw : Do3 w W (mcL x (.slice AH nH cH) (.slice AM nM cM)) o d s n) => CopyMachine_any W x AH AM nH cH nM cM (h.on hw.two.bel) (hm.on hw.two.bel) (by omega) (by omega))
  have HR := hid (RefRight_any o d s n ho)
  have HE : Hid (doneM o d s n x = if (1 ≤ o ∧ o ≤ 25) ∧ okI o d s n ∧ x.ok then doM o d s n x else x) := rfl
  have HZ := hid (mc_size x (.slice AH nH cH) (.slice AM nM cM))
  clear h hm
  unfold vM at HCM ⊢
  unfold vI at HR ⊢
  generalize hL : mcL x (.slice AH nH cH) (.slice AM nM cM) = L at *
  replace hL := hid hL
  have hsz := hid (size30 L.toArray HZ.out)
  go_enter Try.func12, Try.ntmps12
  go_upto_region 1 with fail
  have HS0 : Hid ((((w.alloc (.cells #[.int .u8 o, .int .i64 d, .int .i64 s, .int .i64 n] 24)).alloc (.cells L.toArray 30)).alloc (.cells zL.toArray 30)).heap.size = w.heap.size + 3) := hid (by simp)
  generalize (((w.alloc _).alloc (.cells L.toArray 30)).alloc (.cells zL.toArray 30)) = W0 at *
  have HA0 := hid (HCM.out W0 H0.out)
  go_upto_region 2 with (first
    | (refine wpList_load_row rfl 30 (.tmp 3) rfl (w.heap.size + 1) rfl 30 L.toArray (0, 0) _ H0.out.two.one Try.underlying30 rfl hsz.out ?_)
    | (go_at_call 7; refine HA0.out.mono ?_; rintro r W1 ⟨BH, dH, BM, dM, rfl, o1, o2, b1⟩; have O1 := hid o1; have O2 := hid o2; have B1 := hid b1; clear o1 o2 b1; obtain ⟨L1, hL1⟩ : ∃ L1, mcL x (.slice BH nH dH) (.slice BM nM dM) = L1 := ⟨_, rfl⟩; have E1 := hid (show (Try.prog.info? 30).map (·.size) = some L1.toArray.size ∧ zL.toArray.size = L1.toArray.size ∧ L1.toArray.all (·.oneCell') = true by rw [← hL1]; exact ⟨size30 _ (mc_size _ _ _), by rw [mc_size]; exact mc_size _ _ _, mc_one _ _ _ _ _ _ _⟩); rw [hL1]; replace hL1 := hid hL1)
    | (refine wpList_store_row (o := ⟨none, .store 30 (.tmp 5) (.tmp 10), _, _, _, _⟩) rfl 30 (.tmp 5) (.tmp 10) rfl W1.heap.size L1.toArray rfl rfl 30 zL.toArray (heap_alloc_new W1 _) E1.out.1 E1.out.2.1 E1.out.2.2 ?_))
  change Code.wp _ _ _ _ (Stw W1 L1)
  have H2 := hid (RDo.start H0.out HS0.out B1.out L1)
  have O3 : Hid ((Stw W1 L1).ownsRow (w.heap.size + 3) 25 1 (.slice BH nH dH) nH (x.h.map U.bv)) := hid (by have := own_below O1.out (Stw.bel W1 L1); rw [HS0.out] at this; exact this)
  have O4 : Hid ((Stw W1 L1).ownsRow (w.heap.size + 3) 5 1 (.slice BM nM dM) nM (x.m.map bv)) := hid (by have := own_below O2.out (Stw.bel W1 L1); rw [HS0.out] at this; exact this)
  clear O1 O2 B1 HA0 HCM H0 HS0 hL hsz HZ
  generalize Stw W1 L1 = W2 at *
  generalize W1.heap.size = g at *
  have HM := hid (rd_right H2.out O3.out O4.out h1 h2)
  unfold vM at HM
  rw [hL1.out] at HM
  obtain ⟨c0, c1, c2, c3⟩ := H2.out.cells
  by_cases hk : x.ok
  case neg =>
    rw [decide_eq_false hk] at HM
    go_upto_region 3 with (first
      | (refine BigFrame.wpList_want (o := ⟨some 11, .load 30 (.tmp 5), _, _, _, _⟩) (by rfl) (fun _ hK => wp_load_row 30 (.tmp 5) rfl g rfl 30 L1.toArray (0, 0) _ H2.out.row Try.underlying30 rfl E1.out.1 (hK _ _ ?_)))
      | (go_at_call 27; refine HM.out.mono ?_; rintro r W3 ⟨rfl, H3, P1, P2⟩))
    have T := hid (rdo_end (x := x) (by rw [hL1.out]; exact H3.out) (own_up P1.out (Nat.le_add_right _ _)) (own_up P2.out (Nat.le_add_right _ _)) L1 hL1.out)
    go_wp2_with (first
      | (refine wpList_load_row rfl 30 (.tmp 5) rfl g rfl 30 L1.toArray (0, 0) _ T.out.1 Try.underlying30 rfl T.out.2.1 ?_)
      | (refine wpList_store_row (o := ⟨none, .store 30 (.tmp 4) (.tmp 19), _, _, _, _⟩) rfl 30 (.tmp 4) (.tmp 19) rfl (w.heap.size + 1 + 1) L1.toArray rfl rfl 30 zL.toArray T.out.2.2.1 T.out.2.1 T.out.2.2.2.1 T.out.2.2.2.2.1 ?_))
    refine bodyPost_ret (results_cell_row (by kernel_rfl : Try.f12.results = #[.cell 4 30]) _ _ (w.heap.size + 1 + 1) 30 L1.toArray (0, 0) _ rfl T.out.2.2.2.2.2.1 Try.underlying30 rfl T.out.2.1) rfl ?_
    rw [HE.out, if_neg (fun h => hk h.2.2)]
    exact T.out.2.2.2.2.2.2
  have hi : ¬ okI o d s n := fun h => hbad ⟨h, hk⟩
  rw [decide_eq_true hk] at HM
  rw [show rightE o d s n = 110 from if_neg hi] at HR
  go_upto_region 3 with (first
    | (refine BigFrame.wpList_want (o := ⟨some 11, .load 30 (.tmp 5), _, _, _, _⟩) (by rfl) (fun _ hK => wp_load_row 30 (.tmp 5) rfl g rfl 30 L1.toArray (0, 0) _ H2.out.row Try.underlying30 rfl E1.out.1 (hK _ _ ?_)))
    | (go_at_call 27; refine HM.out.mono ?_; rintro r W3 ⟨rfl, H3, P1, P2⟩; obtain ⟨c0, c1, c2, c3⟩ := H3.out.cells)
    | (go_at_call 28; refine (HR.out _).mono ?_; rintro r W4 ⟨rfl, b4⟩; have B4 := hid b4; clear b4))
  have T := hid (rdo_end (x := x) (by rw [hL1.out]; exact H3.out.below B4.out) (own_up (own_below P1.out B4.out) (Nat.le_add_right _ _)) (own_up (own_below P2.out B4.out) (Nat.le_add_right _ _)) L1 hL1.out)
  go_wp2_with (first
    | (refine wpList_load_row rfl 30 (.tmp 5) rfl g rfl 30 L1.toArray (0, 0) _ T.out.1 Try.underlying30 rfl T.out.2.1 ?_)
    | (refine wpList_store_row (o := ⟨none, .store 30 (.tmp 4) (.tmp 19), _, _, _, _⟩) rfl 30 (.tmp 4) (.tmp 19) rfl (w.heap.size + 1 + 1) L1.toArray rfl rfl 30 zL.toArray T.out.2.2.1 T.out.2.1 T.out.2.2.2.1 T.out.2.2.2.2.1 ?_))
  refine bodyPost_ret (results_cell_row (by kernel_rfl : Try.f12.results = #[.cell 4 30]) _ _ (w.heap.size + 1 + 1) 30 L1.toArray (0, 0) _ rfl T.out.2.2.2.2.2.1 Try.underlying30 rfl T.out.2.1) rfl ?_
  rw [HE.out, if_neg (fun h => hi h.2.1)]
  exact T.out.2.2.2.2.2.2
end Go.Proofs.Ytaogileaeflnfaa
