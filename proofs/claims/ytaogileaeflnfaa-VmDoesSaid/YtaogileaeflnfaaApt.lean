/-
  The contract of apart.
-/
import Derived.Test.YtaogileaeflnfaaMow
import Derived.Test.YtaogileaeflnfaaIts
set_option linter.unusedVariables false
set_option linter.unusedSimpArgs false
namespace Go.Proofs.Ytaogileaeflnfaa
open Go.RowKit

/-- A machine of noughts with empty lists. -/
def zM : Mn := ⟨0, 0, 0, 0, false, fun _ => 0, [], []⟩
def zL : List Value := mcL zM (.slice none 0 0) (.slice none 0 0)
theorem zero30 (w : World) : (zeroValue 30).run Try.prog w = .ok (.agg zL.toArray) w := by kernel_rfl
def vM (x : Mn) (sh sm : Value) : Value := .agg (mcL x sh sm).toArray
theorem own_up {w' : World} {B B' e n : Nat} {v : Value} {xs : List Value} (h : w'.ownsRow B e 1 v n xs) (hb : B' ≤ B) : w'.ownsRow B' e 1 v n xs := by
  refine ⟨h.1, ?_⟩
  rcases h.2 with h2 | ⟨g, cap, cur, rfl, hg, r⟩
  · exact .inl h2
  · exact .inr ⟨g, cap, cur, rfl, Nat.le_trans hb hg, r⟩
/-- Two blocks: a machine of one's own, and what is returned. -/
structure TwoM (w W : World) (b : Nat) (L L2 : List Value) : Prop where
  one : W.heap[b]? = some (.cells L.toArray 30 (0, 0))
  two : W.heap[b + 1]? = some (.cells L2.toArray 30 (0, 0))
  ge : w.heap.size ≤ b
  bel : Below w.heap.size w W
theorem TwoM.below {w W V : World} {b : Nat} {L L2 : List Value} (h : TwoM w W b L L2) (k : Below W.heap.size W V) : TwoM w V b L L2 :=
  ⟨(k.block _ (lt_of_heap h.one)).trans h.one, (k.block _ (lt_of_heap h.two)).trans h.two, h.ge, bel_trans h.bel k⟩
theorem TwoM.drew {w W : World} {b : Nat} {L L2 : List Value} (h : TwoM w W b L L2) : TwoM w W.drew b L L2 := ⟨h.one, h.two, h.ge, h.bel.drew⟩
theorem TwoM.set {w W : World} {b : Nat} {L L2 : List Value} (h : TwoM w W b L L2) (i : Nat) (u : Value) : TwoM w (W.setCell ⟨b, i, none⟩ u) b (L.set i u) L2 :=
  ⟨by rw [row_set h.one i u, set_toArray], by rw [Below.heap_setCell _ _ _ _ (show b + 1 ≠ b by omega)]; exact h.two, h.ge, below_set h.bel _ _ h.ge⟩
theorem TwoM.start (w : World) (L : List Value) (t : Nat) (ht : t = 30) : TwoM w ((w.alloc (.cells L.toArray 30)).alloc (.cells zL.toArray 30)) w.heap.size L zL := by
  have hz : (w.alloc (.cells L.toArray 30)).heap.size = w.heap.size + 1 := by simp
  have h1 := heap_alloc_new w (.cells L.toArray 30)
  have h2 := heap_alloc_new (w.alloc (.cells L.toArray 30)) (.cells zL.toArray 30)
  rw [hz] at h2
  exact ⟨(heap_alloc_old _ _ (lt_of_heap h1)).trans h1, h2, Nat.le_refl _, ((Below.refl _ _).alloc (Nat.le_refl _) _).alloc (by rw [hz]; exact Nat.le_succ _) _⟩
/-- The second block becomes the first. -/
theorem TwoM.done {w W : World} {b : Nat} {L L2 : List Value} (h : TwoM w W b L L2) (L3 : List Value) : (W.setRow (b + 1) L3.toArray).heap[b + 1]? = some (.cells L3.toArray 30 (0, 0)) ∧ Below w.heap.size w (W.setRow (b + 1) L3.toArray) ∧ ∀ e n v xs, (30 : Nat) ≠ e → ∀ B, W.ownsRow B e 1 v n xs → (W.setRow (b + 1) L3.toArray).ownsRow B e 1 v n xs := by
  refine ⟨setRow_heap _ _ _ _ _ _ h.two, ?_, ?_⟩
  · refine ⟨h.bel.os, h.bel.tape, h.bel.output, by rw [size_setRow]; exact h.bel.size, fun i hi => ?_⟩
    rw [setRow_other _ _ _ _ (by have := h.ge; omega)]
    exact h.bel.block i hi
  · intro e n v xs he B ho
    refine ⟨ho.1, ?_⟩
    rcases ho.2 with h2 | ⟨g, cap, cur, rfl, hg, hh, r⟩
    · exact .inl h2
    · refine .inr ⟨g, cap, cur, rfl, hg, ?_, r⟩
      rw [setRow_other _ _ _ _ (fun e2 => by
        subst e2
        have := own_ng (w := W) (base := B) (E := e) (g := b + 1) ho h.two he
        exact this rfl)]
      exact hh
theorem own_set30 {W : World} {B e n b : Nat} {v : Value} {xs : List Value} {L : List Value} (h : W.ownsRow B e 1 v n xs) (hb : W.heap[b]? = some (.cells L.toArray 30 (0, 0))) (he : (30 : Nat) ≠ e) (i : Nat) (u : Value) : (W.setCell ⟨b, i, none⟩ u).ownsRow B e 1 v n xs := own_off h _ _ (own_ng h hb he)
theorem TwoM.cell {w W : World} {b i : Nat} {L L2 : List Value} {v : Value} (h : TwoM w W b L L2) (hc : L[i]? = some v) : W.cell? ⟨b, i, none⟩ = some v ∧ W.frozen? ⟨b, i, none⟩ = false := ⟨(row_get h.one i).trans hc, row_free h.one i⟩
theorem two_clone {w W : World} {b nH cH : Nat} {L L2 : List Value} {AH : Option Addr} {l : List UInt32} (h : TwoM w W b L L2) (hb : w.heap.size ≤ b) (hh : U.IsBB w w.heap.size AH nH cH l) :
    Calls Try.prog 39 #[.slice AH nH cH] W fun e w' => ∃ BH dH, e = .returned (.slice BH nH dH) ∧ Hid (TwoM w w' b L L2) ∧ Hid (w'.ownsRow w.heap.size 25 1 (.slice BH nH dH) nH (l.map U.bv)) ∧ Hid (Below W.heap.size W w') := by
  refine (U.Clone_any AH l nH cH W (hh.on h.bel)).mono ?_
  rintro e w' ⟨v, rfl, ho, hbl⟩
  obtain ⟨BH, dH, rfl, _⟩ := own_slice ho
  exact ⟨BH, dH, rfl, h.below hbl, own_up ho h.bel.size, hbl⟩
theorem two_clone_b {w W : World} {b nH cH : Nat} {L L2 : List Value} {AH : Option Addr} {l : List UInt8} (h : TwoM w W b L L2) (hb : w.heap.size ≤ b) (hh : IsBB w w.heap.size AH nH cH l) :
    Calls Try.prog 40 #[.slice AH nH cH] W fun e w' => ∃ BH dH, e = .returned (.slice BH nH dH) ∧ Hid (TwoM w w' b L L2) ∧ Hid (w'.ownsRow w.heap.size 5 1 (.slice BH nH dH) nH (l.map bv)) ∧ Hid (Below W.heap.size W w') := by
  refine (Clone_any AH l nH cH W (hh.on h.bel)).mono ?_
  rintro e w' ⟨v, rfl, ho, hbl⟩
  obtain ⟨BH, dH, rfl, _⟩ := own_slice ho
  exact ⟨BH, dH, rfl, h.below hbl, own_up ho h.bel.size, hbl⟩
set_option maxRecDepth 10000 in
set_option maxHeartbeats 8000000 in
theorem apart_any (w : World) (x : Mn) (AH AM : Option Addr) (nH cH nM cM : Nat) (h : U.IsBB w w.heap.size AH nH cH x.h) (hm : IsBB w w.heap.size AM nM cM x.m) (h1 : nH ≤ 1000000) (h2 : nM ≤ 1000000) :
    Calls Try.prog 21 #[vM x (.slice AH nH cH) (.slice AM nM cM)] w fun e w' => ∃ BH dH BM dM, e = .returned (vM x (.slice BH nH dH) (.slice BM nM dM)) ∧ w'.ownsRow w.heap.size 25 1 (.slice BH nH dH) nH (x.h.map U.bv) ∧ w'.ownsRow w.heap.size 5 1 (.slice BM nM dM) nM (x.m.map bv) ∧ Below w.heap.size w w' := by
  have zv := zero30
  have H0 := hid (TwoM.start w (mcL x (.slice AH nH cH) (.slice AM nM cM)) 30 rfl)
  have HH := hid h
  have HM := hid hm
  clear h hm
  unfold vM
  have ch : (mcL x (.slice AH nH cH) (.slice AM nM cM))[261]? = some (.slice AH nH cH) := mc_h _ _ _
  have E1 := hid (fun u => ms_h x (.slice AH nH cH) (.slice AM nM cM) u)
  have E2 := hid (fun v u => ms_m x v (.slice AM nM cM) u)
  have CM := hid (fun v => mc_m x v (.slice AM nM cM))
  have Z1 := hid (fun a b c d e f => mc_one x a b c d e f)
  have Z2 := hid (fun a b => mc_size x a b)
  generalize hL : mcL x (.slice AH nH cH) (.slice AM nM cM) = L at *
  go_enter Try.func21, Try.ntmps21
  go_upto_region 1 with fail
  generalize (w.alloc (.cells L.toArray 30)).alloc (.cells zL.toArray 30) = W0 at *
  have HC1 := hid (two_clone H0.out (Nat.le_refl _) HH.out)
  have HC2 := hid (fun W (L' : List Value) (h : TwoM w W w.heap.size L' zL) => two_clone_b h (Nat.le_refl _) HM.out)
  obtain ⟨k6, _⟩ := H0.out.cell ch
  go_upto_region 2 with (go_at_call 39; refine HC1.out.mono ?_; rintro r W1 ⟨BH, dH, rfl, H1, O1, _⟩; obtain ⟨q6, f6⟩ := H1.out.cell ch)
  have H2 : Hid (TwoM w (W1.setCell ⟨w.heap.size, 261, none⟩ (.slice BH nH dH)) w.heap.size (mcL x (.slice BH nH dH) (.slice AM nM cM)) zL) := hid (by have := H1.out.set 261 (.slice BH nH dH); rwa [E1.out] at this)
  have O2 := hid (own_set30 O1.out H1.out.one (by decide) 261 (.slice BH nH dH))
  clear O1 H1 q6 f6 k6 H0 HC1
  generalize W1.setCell ⟨w.heap.size, 261, none⟩ (.slice BH nH dH) = W2 at *
  obtain ⟨k7, _⟩ := H2.out.cell (CM.out _)
  have HC3 := hid (HC2.out _ _ H2.out)
  have CM1 := CM.out (.slice BH nH dH)
  go_upto_region 3 with (go_at_call 40; refine HC3.out.mono ?_; rintro r W3 ⟨BM, dM, rfl, H3, O3, BB⟩; obtain ⟨q7, f7⟩ := H3.out.cell CM1)
  have O4 := hid (own_below O2.out BB.out)
  have H4 : Hid (TwoM w (W3.setCell ⟨w.heap.size, 262, none⟩ (.slice BM nM dM)) w.heap.size (mcL x (.slice BH nH dH) (.slice BM nM dM)) zL) := hid (by have := H3.out.set 262 (.slice BM nM dM); rwa [E2.out] at this)
  have O5 := hid (own_set30 O3.out H3.out.one (by decide) 262 (.slice BM nM dM))
  have O6 := hid (own_set30 O4.out H3.out.one (by decide) 262 (.slice BM nM dM))
  clear O3 O4 H3 q7 f7 k7 H2 O2 BB HC2 HC3 CM1
  generalize W3.setCell ⟨w.heap.size, 262, none⟩ (.slice BM nM dM) = W4 at *
  have Z5 := Z1.out BH BM nH nM dH dM
  have Z6 := Z2.out (.slice BH nH dH) (.slice BM nM dM)
  have HD := hid (H4.out.done (mcL x (.slice BH nH dH) (.slice BM nM dM)))
  generalize hL4 : mcL x (.slice BH nH dH) (.slice BM nM dM) = L4 at *
  replace hL4 := hid hL4
  have hsz := hid (size30 L4.toArray Z6)
  have hz2 := hid (show zL.toArray.size = L4.toArray.size by rw [Z6]; rfl)
  go_wp2_with (first
    | (refine wpList_load_row rfl 30 (.tmp 1) rfl w.heap.size rfl 30 L4.toArray (0, 0) _ H4.out.one Try.underlying30 rfl hsz.out ?_)
    | (refine wpList_store_row (o := ⟨none, .store 30 (.tmp 2) (.tmp 11), _, _, _, _⟩) rfl 30 (.tmp 2) (.tmp 11) rfl (w.heap.size + 1) L4.toArray rfl rfl 30 zL.toArray H4.out.two hsz.out hz2.out Z5 ?_))
  refine bodyPost_ret (results_cell_row (by kernel_rfl : Try.f21.results = #[.cell 2 30]) _ _ (w.heap.size + 1) 30 L4.toArray (0, 0) _ rfl HD.out.1 Try.underlying30 rfl hsz.out) rfl ?_
  exact ⟨BH, dH, BM, dM, by rw [hL4.out], HD.out.2.2 _ _ _ _ (by decide) _ O6.out, HD.out.2.2 _ _ _ _ (by decide) _ O5.out, HD.out.2.1⟩
end Go.Proofs.Ytaogileaeflnfaa
