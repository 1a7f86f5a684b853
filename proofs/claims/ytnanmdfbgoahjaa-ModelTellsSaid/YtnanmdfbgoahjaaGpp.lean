/-
  Get's 'getPart'.
-/
import Derived.Test.YtnanmdfbgoahjaaGpt
namespace Go.Proofs.Ytnanmdfbgoahjaa
open Go.RowKit

theorem prtOk_iff (V : Nat) : (fldL V = [] → decide (1 ≤ V ∧ V ≤ 9) = false) ∧ (fldL V ≠ [] → decide (1 ≤ V ∧ V ≤ 9) = true) := by
  refine ⟨fun h => decide_eq_false (fun hv => ?_), fun h => decide_eq_true ?_⟩
  · have : V = 1 ∨ V = 2 ∨ V = 3 ∨ V = 4 ∨ V = 5 ∨ V = 6 ∨ V = 7 ∨ V = 8 ∨ V = 9 := by omega
    rcases this with e | e | e | e | e | e | e | e | e <;> subst e <;> exact absurd h (by decide)
  · apply Classical.byContradiction
    intro hn
    apply h
    unfold fldL
    rw [if_neg (by omega), if_neg (by omega), if_neg (by omega), if_neg (by omega), if_neg (by omega), if_neg (by omega), if_neg (by omega)]
section
variable {w0 w : World} {p : Gp} {A : Option Addr} {n c : Nat} {l : List UInt8} {s : St}
theorem GpAt.below {w' w'' : World} {g : Nat} {L : List Pt} (h : GpAt w0 w w' p g A n c l s L) (b : Below w'.heap.size w' w'') : GpAt w0 w w'' p g A n c l s L :=
  ⟨h.gt.below b, (b.block _ (lt_of_heap h.pts)).trans h.pts, h.but.trans (But3.of_below b)⟩
theorem GpAt.drew {w' : World} {g : Nat} {L : List Pt} (h : GpAt w0 w w' p g A n c l s L) : GpAt w0 w w'.drew p g A n c l s L :=
  ⟨h.gt.drew, h.pts, ⟨h.but.size, h.but.block⟩⟩
theorem GpAt.num {w' w'' : World} {g : Nat} {L : List Pt} {s' : St} (h : GpAt w0 w w' p g A n c l s L) (k : GtAt w0 w'' p A n c l s') (b : But2 p.a p.e w' w'') : GpAt w0 w w'' p g A n c l s' L :=
  ⟨k, PtsAt.on2 h.gt h.pts b, h.but.trans (But3.of2 b)⟩
theorem GpAt.set {w' : World} {g : Nat} {L : List Pt} (h : GpAt w0 w w' p g A n c l s L) (hg : w0.heap.size ≤ g) (i f : Nat) (u : Value) (q : Pt) (hi : i < L.length) (hf : f < 7) (e : cellsP q = (cellsP L[i]).set f u) :
    GpAt w0 w (w'.setCell ⟨g, i * 7 + f, none⟩ u) p g A n c l s (L.set i q) :=
  ⟨h.gt.other h.pts hg _ _, h.pts.set i f u q hi hf e, h.but.trans (But3.of_set _ _ _ _ _ _)⟩
theorem after_num {w3 W w5 : World} {g x o : Nat} {L : List Pt} {s' : St} {a b d cu : Value} (HA : GpAt w0 w W p g A n c l s L) (hx : W.heap[x]? = some (.cells #[a, b, d] 50 (0, 0))) (HB : But3 p.a p.e g w3 W) (hcu : W.cell? ⟨g, o, none⟩ = some cu)
    (h5 : GtAt w0 w5 p A n c l s') (b5 : But2 p.a p.e W.drew w5) :
    (w5.cell? ⟨x, 0, none⟩ = some a ∧ w5.cell? ⟨x, 1, none⟩ = some b ∧ w5.cell? ⟨x, 2, none⟩ = some d) ∧ (w5.cell? ⟨g, o, none⟩ = some cu ∧ w5.frozen? ⟨g, o, none⟩ = false ∧ ∀ u, (w5.setCell ⟨g, o, none⟩ u).cell? ⟨x, 0, none⟩ = some a ∧ (w5.setCell ⟨g, o, none⟩ u).cell? ⟨x, 1, none⟩ = some b ∧ (w5.setCell ⟨g, o, none⟩ u).cell? ⟨x, 2, none⟩ = some d) ∧ GpAt w0 w w5 p g A n c l s' L ∧ But3 p.a p.e g w3 w5 := by
  have b6 : But2 p.a p.e W w5 := ⟨b5.size, b5.block⟩
  have hx5 := b6.row hx (fun e => row_ne hx HA.gt.ra (by decide) e) (fun e => row_ne hx HA.gt.re (by decide) e)
  have H5 := HA.num h5 b6
  refine ⟨⟨row_cell hx5 0, row_cell hx5 1, row_cell hx5 2⟩, ⟨?_, row_free H5.pts o, fun u => ?_⟩, H5, HB.trans (But3.of2 b6)⟩
  · have e1 := row_cell HA.pts o
    rw [hcu] at e1
    exact (row_cell H5.pts o).trans e1.symm
  · have hne : x ≠ g := row_ne hx5 H5.pts (by decide)
    have hr : (w5.setCell ⟨g, o, none⟩ u).heap[x]? = _ := (set_block hne).trans hx5
    exact ⟨row_cell hr 0, row_cell hr 1, row_cell hr 2⟩
set_option maxRecDepth 10000 in
set_option maxHeartbeats 8000000 in
theorem part_any (h : GtAt w0 w p A n c l s) {g : Nat} {L : List Pt} (hp : PtsAt w g L) (hg : w0.heap.size ≤ g) (i : Nat) (hi : i < L.length) (h0 : L[i] = part0 0) (hL : L.length ≤ 255) :
    Calls Try.prog 25 #[.pointer (some ⟨g, i * 7, none⟩), vNum p] w fun r w' => r = .returned (.bool (prtOk l s)) ∧ GpAt w0 w w' p g A n c l (prtS l s).1 (L.set i (prtS l s).2) := by
  have HN : Hid (Calls Try.prog 24 #[.int .i64 1, .pointer (some ⟨p.t, 0, none⟩)] w fun r w' => r = .returned (.int .i64 (numV l 1 s : Nat)) ∧ GtAt w0 w' p A n c l (takeS l 1 s) ∧ But2 p.a p.e w w') := hid (num_any h 1 (.inl rfl))
  have hV := numV_lt l 1 s
  have HE : Hid ((prtOk l s = decide (1 ≤ numV l 1 s ∧ numV l 1 s ≤ 9)) ∧ prtS l s = fldS l (fldL (numV l 1 s)) (takeS l 1 s) (part0 (numV l 1 s))) := ⟨rfl, rfl⟩
  have H := hid (GpAt.mk h hp (But3.refl p.a p.e g w))
  generalize prtOk l s = ok at *
  generalize prtS l s = res at *
  generalize numV l 1 s = V at *
  generalize takeS l 1 s = s1 at *
  have wv : IntKind.u8.wrap (V : Int) = (V : Int) := by rw [IntKind.wrap_u8]; omega
  have HL := hid (And.intro hL h0)
  clear h hp hL
  unfold vNum
  go_enter Try.func25, Try.ntmps25
  go_upto_region 2 with (go_at_call 24; refine HN.out.mono ?_; rintro r w1 ⟨rfl, h1, b1⟩; have H1 := hid (H.out.num h1 b1); have q0 : w1.cell? ⟨g, i * 7, none⟩ = some (.int .u8 0) := (H1.out.pts.cell i 0 hi (by decide)).trans (by rw [h0]; rfl); have f0 := row_free H1.out.pts (i * 7); clear h1 b1)
  have H2 := hid (H1.out.set hg i 0 (.int .u8 (V : Nat)) (part0 V) hi (by decide) (by rw [h0]; rfl))
  have c0 : (w1.setCell ⟨g, i * 7, none⟩ (.int .u8 (V : Nat))).cell? ⟨g, i * 7, none⟩ = some (.int .u8 (V : Nat)) := (H2.out.pts.cell i 0 (by rw [List.length_set]; exact hi) (by decide)).trans (by rw [List.getElem_set_self]; rfl)
  have HF := hid (flds_any g (i * 7) V _ c0 (by omega))
  clear c0 f0 q0 wv HN H1
  have H3 : Hid (GpAt w0 w (w1.setCell ⟨g, i * 7, none⟩ (.int .u8 (V : Nat))) p g A n c l s1 (L.set i (part0 V))) := H2
  clear H2
  generalize w1.setCell ⟨g, i * 7, none⟩ (.int .u8 (V : Nat)) = w2 at *
  go_upto_region 3 with (go_at_call 19; refine HF.out.mono ?_; rintro r w3 ⟨Af, cf, rfl, hF, b3⟩; have H4 := hid (H3.out.below b3))
  have HO := hid (prtOk_iff V)
  have HK := hid (fldL_ok V)
  generalize fldL V = F at *
  obtain ⟨m, hm⟩ : ∃ m, F.length = m := ⟨_, rfl⟩
  rw [hm]
  have hm4 : m ≤ 4 := by rw [← hm]; exact HK.out.1
  have hmc : m ≤ cf := by rw [← hm]; exact hF.cap
  have hc4 := hF.small
  have HM := hid hm
  have hF2 := hid hF
  clear b3 H3 HF hm hF
  go_wp2_with fail
  go_loopw [18] (fun vi wr => ∃ q : Nat, q ≤ m ∧ vi = .int .i64 (q : Nat) ∧ Hid (GpAt w0 w wr p g A n c l (fldS l (F.take q) s1 (part0 V)).1 (L.set i (fldS l (F.take q) s1 (part0 V)).2)) ∧ Hid (But3 p.a p.e g w3 wr)) (fun vi _ => m - (intOf vi).toNat)
  case atStart => exact ⟨0, Nat.zero_le _, rfl, H4, hid (But3.refl _ _ _ _)⟩
  case round =>
    obtain ⟨q, hq, rfl, hs, hb⟩ := hrel
    by_cases hgo : q < m
    · have hz : (q : Int) < (m : Int) := by omega
      have hql : q < F.length := by rw [HM.out]; exact hgo
      obtain ⟨gf, rfl, hrow⟩ := hF2.out.some (by intro e; rw [e] at hql; simp at hql)
      have hrw : wr.heap[gf]? = _ := (hb.out.block gf (lt_of_heap hrow) (row_ne hrow H4.out.gt.ra (by decide)) (row_ne hrow H4.out.gt.re (by decide)) (row_ne hrow H4.out.pts (by decide))).trans hrow
      have cc := fun (j : Nat) (hj : j < 3) => (row_cell hrw (q * 3 + j)).trans ((List.getElem?_toArray).trans (flat3 g (i * 7) F q j hql hj))
      obtain ⟨f, y, mo, e⟩ : ∃ f y mo, F[q] = (f, y, mo) := ⟨_, _, _, rfl⟩
      have hok := HK.out.2 F[q] (List.getElem_mem hql)
      rw [e] at hok
      simp only at hok
      obtain ⟨hf, hy, hmo⟩ := hok
      have k0 : wr.cell? ⟨gf, q * 3, none⟩ = some (.pointer (some ⟨g, i * 7 + f, none⟩)) := (cc 0 (by decide)).trans (by rw [e]; rfl)
      have k1 : wr.cell? ⟨gf, q * 3 + 1, none⟩ = some (.int .i64 (y : Nat)) := (cc 1 (by decide)).trans (by rw [e]; rfl)
      have k2 : wr.cell? ⟨gf, q * 3 + 2, none⟩ = some (.int .i64 (mo : Nat)) := (cc 2 (by decide)).trans (by rw [e]; rfl)
      have hS := fldS_app l (F.take q) (f, y, mo) s1 (part0 V)
      rw [← e, ← List.take_succ_eq_append_getElem hql, e] at hS
      simp only at hS
      have HS := hid hS
      clear hS
      generalize fldS l (F.take q) s1 (part0 V) = sq at *
      clear cc hrw hrow e HK
      go_upto_region 6 with fail
      have hx : (wr.alloc (.cells #[.pointer (some ⟨g, i * 7 + f, none⟩), .int .i64 (y : Nat), .int .i64 (mo : Nat)] 50)).heap[wr.heap.size]? = some (.cells #[.pointer (some ⟨g, i * 7 + f, none⟩), .int .i64 (y : Nat), .int .i64 (mo : Nat)] 50 (0, 0)) := heap_alloc_new wr _
      have HA := hid (hs.out.below ((Below.refl _ _).alloc (Nat.le_refl _) (.cells #[.pointer (some ⟨g, i * 7 + f, none⟩), .int .i64 (y : Nat), .int .i64 (mo : Nat)] 50)))
      have HB := hid (hb.out.trans (But3.of_below ((Below.refl _ _).alloc (Nat.le_refl _) (.cells #[.pointer (some ⟨g, i * 7 + f, none⟩), .int .i64 (y : Nat), .int .i64 (mo : Nat)] 50))))
      clear hb hs
      generalize wr.alloc (.cells #[.pointer (some ⟨g, i * 7 + f, none⟩), .int .i64 (y : Nat), .int .i64 (mo : Nat)] 50) = W at *
      generalize wr.heap.size = x at *
      have x0 : W.cell? ⟨x, 0, none⟩ = some (.pointer (some ⟨g, i * 7 + f, none⟩)) := row_cell hx 0
      have x1 : W.cell? ⟨x, 1, none⟩ = some (.int .i64 (y : Nat)) := row_cell hx 1
      have x2 : W.cell? ⟨x, 2, none⟩ = some (.int .i64 (mo : Nat)) := row_cell hx 2
      have HX := hid hx
      have HU := hid (num_any HA.out.gt.drew y hy)
      have hv := numV_lt l y sq.1
      have hv2 : numV l y sq.1 < 65536 := Nat.lt_of_lt_of_le hv (Nat.pow_le_pow_right (show 0 < 256 by decide) (show y ≤ 2 by omega))
      generalize numV l y sq.1 = v at *
      have wz : IntKind.i64.wrap ((v : Int) - (mo : Int)) = (v : Int) - (mo : Int) := IntWalk.i64_in _ (by omega)
      obtain ⟨cu, hcu⟩ : ∃ u, W.cell? ⟨g, i * 7 + f, none⟩ = some u := by
        have := HA.out.pts.cell i f (by rw [List.length_set]; exact hi) (by omega)
        rw [this, List.getElem?_eq_getElem (by rw [cellsP_len]; omega)]
        exact ⟨_, rfl⟩
      clear k0 k1 k2 hx hv
      go_region_held3 (fun w' => w'.cell? ⟨x, 0, none⟩ = some (.pointer (some ⟨g, i * 7 + f, none⟩)) ∧ w'.cell? ⟨x, 1, none⟩ = some (.int .i64 (y : Nat)) ∧ w'.cell? ⟨x, 2, none⟩ = some (.int .i64 (mo : Nat))) (first | exact ⟨x0, x1, x2⟩ | exact ⟨j0, j1, j2⟩ | exact j9.out _ | go_keep)
        (first
        | (go_at_call 24; with_reducible refine HU.out.mono ?_; rintro r w5 ⟨rfl, h5, b5⟩; have Z := after_num HA.out HX.out HB.out hcu h5 b5; have j0 := Z.1.1; have j1 := Z.1.2.1; have j2 := Z.1.2.2; have jc := Z.2.1.1; have jf := Z.2.1.2.1; have j9 := hid Z.2.1.2.2; have H5 := hid Z.2.2; clear Z h5 b5))
      go_wp2_with fail
      go_roundw
      case rel =>
        have Z := H5.out
        refine ⟨q + 1, by omega, by go_num, ?_, ?_⟩
        · rw [HS.out]
          have z := Z.1.set hg i f (.int .i64 ((v : Int) - mo)) (sq.2.put1 f ((v : Int) - mo)) (by rw [List.length_set]; exact hi) (by omega) (by rw [List.getElem_set_self]; exact put1_cells _ _ _ hf)
          rw [List.set_set] at z
          exact z
        · exact Z.2.trans (But3.of_set _ _ _ _ _ _)
      case measure => simp [intOf]; omega
    · obtain rfl : q = m := by omega
      have e : F.take q = F := List.take_of_length_le (by rw [HM.out]; exact Nat.le_refl _)
      rw [e, ← HE.out.2] at hs
      by_cases hF0 : F = []
      · have hA := hF2.out.nil hF0
        subst hA
        have hk := hid (HE.out.1.trans (HO.out.1 hF0))
        clear HK hF0 e
        go_wp2_with fail
        go_ret
        rw [hk.out]
        exact ⟨rfl, hs.out⟩
      · obtain ⟨gf, rfl, _⟩ := hF2.out.some hF0
        have hk := hid (HE.out.1.trans (HO.out.2 hF0))
        clear HK hF0 e
        go_wp2_with fail
        go_ret
        rw [hk.out]
        exact ⟨rfl, hs.out⟩
end
end Go.Proofs.Ytnanmdfbgoahjaa
