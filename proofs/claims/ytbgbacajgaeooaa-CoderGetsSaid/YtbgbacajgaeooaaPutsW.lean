/-
  The walk of CoderPuts.
-/
import Derived.Test.YtbgbacajgaeooaaBts
import Derived.Test.YtbgbacajgaeooaaRdc
import Derived.Deep.RegionLaw
import Derived.Deep.CutRange
import Derived.Deep.RegionWith
namespace Go.Proofs.Ytbgbacajgaeooaa
open Go.RowKit

/-- m bytes in block g, that may be written. -/
def BRow (w : World) (g m : Nat) : Prop := ∃ cur, w.heap[g]? = some (.cells cur 5 (0, 0)) ∧ ∀ j, j < m → ∃ z : Nat, z < 256 ∧ cur[j]? = some (.int .u8 (z : Nat))
theorem brow_of {w : World} {base g m c : Nat} {l : List UInt8} (h : w.ownsRow base 5 1 (.slice (some ⟨g, 0, none⟩) m c) m (l.map bv)) : BRow w g m ∧ base ≤ g := by
  rcases h.2 with ⟨h1, _⟩ | ⟨g', cap, cur, hv, hg, hh, hn, hm, hs, ht⟩
  · cases h1
  · cases hv
    have hl : l.length = m := by simpa using h.1
    refine ⟨⟨cur, hh, fun j hj => ⟨(l.getD j 0).toNat, (l.getD j 0).toNat_lt, ?_⟩⟩, hg⟩
    have h2 : (cur.toList.take m)[j]? = (l.map bv)[j]? := by rw [← ht]; simp
    rw [List.getElem?_take, if_pos hj] at h2
    rw [← Array.getElem?_toList, h2, map_bv_getElem? l j (by omega), List.getD_eq_getElem?_getD, List.getElem?_eq_getElem (by omega)]
    rfl
theorem BRow.set {w : World} {g m : Nat} (h : BRow w g m) (k : Nat) (z : Nat) (hz : z < 256) : BRow (w.setCell ⟨g, k, none⟩ (.int .u8 (z : Nat))) g m := by
  obtain ⟨cur, h1, h2⟩ := h
  refine ⟨_, row_set h1 k _, fun j hj => ?_⟩
  obtain ⟨y, hy, hc⟩ := h2 j hj
  by_cases hjk : k = j
  · subst hjk
    refine ⟨z, hz, ?_⟩
    have hlt : k < cur.size := by
      rcases Nat.lt_or_ge k cur.size with h | h
      · exact h
      · rw [Array.getElem?_eq_none h] at hc; cases hc
    rw [Array.getElem?_setIfInBounds_self, if_pos hlt]
  · refine ⟨y, hy, ?_⟩
    rw [Array.getElem?_setIfInBounds_ne hjk]
    exact hc
theorem BRow.below {w w' : World} {g m : Nat} (h : BRow w g m) (b : Below w.heap.size w w') : BRow w' g m := by
  obtain ⟨cur, h1, h2⟩ := h
  exact ⟨cur, (b.block g (lt_of_heap h1)).trans h1, h2⟩
theorem BRow.at {w : World} {g m k : Nat} (h : BRow w g m) (hk : k < m) : ∃ z : Nat, z < 256 ∧ w.cell? ⟨g, k, none⟩ = some (.int .u8 (z : Nat)) ∧ w.frozen? ⟨g, k, none⟩ = false := by
  obtain ⟨cur, h1, h2⟩ := h
  obtain ⟨z, hz, hc⟩ := h2 k hk
  exact ⟨z, hz, (row_cell h1 k).trans hc, row_free h1 k⟩
section
variable {n : Nat} {w W : World} {e r : Nat} {s : Es}
/-- Both told at the end, and held against each other. -/
theorem OL.ends (h : OL n w W [(true, e, s), (false, r, s)]) : ∃ m : Nat, m ≤ 100000 ∧
    Calls Try.prog 13 #[.pointer (some ⟨e, 0, none⟩)] W fun x W1 => ∃ gb cb, x = .returned (.slice (some ⟨gb, 0, none⟩) m cb) ∧ m ≤ cb ∧
      Calls Try.prog 15 #[.pointer (some ⟨r, 0, none⟩)] W1 fun y W2 => ∃ A2 c2, y = .returned (.slice A2 m c2) ∧
        Calls Try.prog 14 #[.slice (some ⟨gb, 0, none⟩) m cb, .slice A2 m c2] W2 fun z W3 => z = .returned (.bool true) ∧ OL W.heap.size w W3 [(true, e, s), (false, r, s)] ∧ BRow W3 gb m ∧ W.heap.size ≤ gb := by
  obtain ⟨S, _, _, hl⟩ := h.first
  refine ⟨(s.l ++ be4 s.x).length, by rw [List.length_append, be4_len]; omega, ?_⟩
  obtain ⟨L, hL⟩ : ∃ L, L = s.l ++ be4 s.x := ⟨_, rfl⟩
  have hLl : L.length ≤ 100000 := by rw [hL, List.length_append, be4_len]; omega
  have hL0 : 0 < L.length := by rw [hL, List.length_append, be4_len]; omega
  refine h.end.mono ?_
  rintro x W1 ⟨v, rfl, ho⟩
  rw [← hL] at ho ⊢
  obtain ⟨gb, cb, rfl, hnew⟩ := ho.new (by omega) hL0
  have h1 := h.later ho.bel
  refine ⟨gb, cb, rfl, (hnew.isB).cap, h1.swap.rend.mono ?_⟩
  rintro y W2 ⟨v2, rfl, ho2⟩
  rw [← hL] at ho2
  obtain ⟨A2, c2, rfl, hI2⟩ := ho2.isBB (by omega)
  have hI1 := (own_isB2 (own_below ho.own ho2.bel) (by omega)).toIsB
  refine ⟨A2, c2, rfl, (SameBytes_true _ _ L _ _ _ W2 hI1 hI2.toIsB).mono ?_⟩
  rintro z W3 ⟨rfl, k, rfl⟩
  have b2 := bel_trans ho2.bel (below_drewN (Below.refl _ W2) k)
  obtain ⟨hbr, hg⟩ := brow_of (own_below ho.own b2)
  exact ⟨rfl, (h1.later b2).up h.n1 (Nat.le_trans ho.bel.size b2.size) |> fun q => ⟨OLs.mono _ _ _ (h1.later b2).os (fun _ hi => Nat.lt_of_lt_of_le hi h.n1), q.n0, q.n1, q.bel⟩, hbr, hg⟩
/-- Both put the same. -/
theorem OL.both (h : OL n w W [(true, e, s), (false, r, s)]) (x p : Int) : ∃ (c m : Nat) (s' : Es), ∀ q,
    Calls Try.prog 10 #[.pointer (some ⟨e, 0, none⟩), .int .i64 x, .int .i64 p] (W.drewN q) fun z W1 => z = .returned (.int .i64 (c : Nat)) ∧ Below w.heap.size w W1 ∧
      Calls Try.prog 11 #[.pointer (some ⟨r, 0, none⟩), .int .i64 x, .int .i64 p] W1 fun z W2 => z = .returned (.int .i64 (c : Nat)) ∧ Below w.heap.size w W2 ∧ OL W2.heap.size w W2 [(true, e, s'), (false, r, s')] ∧
        (Calls Try.prog 12 #[.pointer (some ⟨e, 0, none⟩)] W2 fun z W3 => z = .returned (.int .i64 (m : Nat)) ∧ W2 = W3) ∧ ∃ A1 c1, W2.cell? ⟨r, 2, none⟩ = some (.slice A1 m c1) := by
  refine ⟨(s.put x p).2, (s.put x p).1.l.length, (s.put x p).1, fun q => ?_⟩
  refine ((h.later (below_drewN (Below.refl _ W) q)).put x p).mono ?_
  rintro z W1 ⟨rfl, h1⟩
  refine ⟨rfl, h1.bel, (h1.swap.put x p).mono ?_⟩
  rintro z W2 ⟨rfl, h2⟩
  obtain ⟨S, ⟨F, ho⟩, _, _⟩ := h2.first
  have hc := row_cell ho.row 2
  obtain ⟨A1, c1, rfl⟩ := own_sl ho.ff
  exact ⟨rfl, h2.bel, h2.swap, h2.swap.len, A1, c1, hc⟩
end
set_option maxRecDepth 10000 in
set_option maxHeartbeats 1000000 in
theorem puts_walk (a : Option Addr) (len cap : Nat) (bt pr : Nat → Int) (w : World) (hb : BitsAt w w.heap.size a len bt pr) (_hlc : len ≤ cap) (_hcm : cap ≤ maxLen) :
    Calls Try.prog 3 #[.slice a len cap] w fun e w' => e = .returned (.bool true) ∧ Below w.heap.size w w' := by
  have HB : Hid (∀ W, Below w.heap.size w W → BitsAt W w.heap.size a len bt pr) := fun W k => hb.below k
  have O0 := hid (OL.nil (Below.refl w.heap.size w))
  unfold maxLen at _hcm
  clear hb
  go_enter Try.func3, Try.ntmps3
  go_wp2_with (first
    | (go_at_call 8; (with_reducible refine O0.out.new.mono ?_); rintro r w1 ⟨e, rfl, h1⟩; have O1 := hid h1; clear h1)
    | (go_at_call 9; (refine (RNew_any w1).mono ?_); rintro r w2 ⟨rfl, b2⟩; have O2 := hid ((O1.out.later b2).rnew.swap); clear b2))
  obtain ⟨r, hr⟩ : ∃ r, r = w2.heap.size := ⟨_, rfl⟩
  rw [← hr] at O2 ⊢
  clear hr O1 O0
  go_loopw [5] (fun vi wr => ∃ i, i ≤ len ∧ i ≤ 5000 ∧ vi = .int .i64 (i : Nat) ∧ ∃ s, Hid (OL wr.heap.size w wr [(true, e, s), (false, r, s)])) (fun vi _ => len - (intOf vi).toNat)
  case atStart => exact ⟨0, Nat.zero_le _, Nat.zero_le _, rfl, _, O2⟩
  case round =>
    obtain ⟨i, hi, hi5, rfl, s, hst⟩ := hrel
    clear O2
    by_cases hlt : i < len ∧ i < 5000
    · obtain ⟨l1, l2⟩ := hlt
      have l1z : (i : Int) < (len : Int) := by omega
      have l2y : decide ((i : Int) < 5000) = true := decide_eq_true (by omega)
      have l2z : decide (i < 5000) = true := decide_eq_true l2
      obtain ⟨ad, rfl, h0, c0, c1⟩ := HB.out wr hst.out.bel i l1
      obtain ⟨c, m, s', hB⟩ := hst.out.both (bt i) (pr i)
      have HC : Hid (∀ W, Below w.heap.size w W → W.cell? (ad.add (i * 2)) = some (.int .i64 (bt i)) ∧ W.cell? ⟨(ad.add (i * 2)).block, (ad.add (i * 2)).off + 1, none⟩ = some (.int .i64 (pr i))) := by
        intro W k
        obtain ⟨ad2, e2, _, q0, q1⟩ := HB.out W k i l1
        cases e2
        exact ⟨q0, q1⟩
      have HBo := hid hB
      have HL := hid (And.intro l1 l2)
      clear hB h0 hi l1 l2
      generalize bt i = bx at c0 HC HBo
      generalize pr i = px at c1 HC HBo
      go_upto_region 5 with fail
      go_cut [56] from 22 to 56 (fun v56 wx => v56 = .bool false ∧ ∃ s, Hid (OL wx.heap.size w wx [(true, e, s), (false, r, s)]))
      case first =>
        refine wp_region_held_drew (S := (fun w' => w'.cell? (ad.add (i * 2)) = some (.int .i64 bx) ∧ w'.cell? ⟨(ad.add (i * 2)).block, (ad.add (i * 2)).off + 1, none⟩ = some (.int .i64 px))) (by kernel_rfl) ⟨c0, c1⟩ (fun hH => ?_)
        refine wpAnyH_take (i := 0) (oi := ⟨some 22, _, _, _, _, _⟩) (v := .pointer (some ⟨e, 0, none⟩)) rfl (by kernel_rfl) (by kernel_rfl) (by kernel_rfl) (fun _ _ _ h => h) (Or.inl ⟨by rfl, by intro w hSw; (try dsimp only at hSw); go_simp⟩) hH ?_
        try simp only [Act.put, List.setIfInBounds_toArray, List.set_cons_zero, List.set_cons_succ]
        refine wpAnyH_take (i := 1) (oi := ⟨some 23, _, _, _, _, _⟩) (v := .slice (some ad) len cap) rfl (by kernel_rfl) (by kernel_rfl) (by kernel_rfl) (fun _ _ _ h => h) (Or.inl ⟨by rfl, by intro w hSw; (try dsimp only at hSw); go_simp⟩) hH ?_
        try simp only [Act.put, List.setIfInBounds_toArray, List.set_cons_zero, List.set_cons_succ]
        refine wpAnyH_take (i := 2) (oi := ⟨some 24, _, _, _, _, _⟩) (v := .int .i64 i) rfl (by kernel_rfl) (by kernel_rfl) (by kernel_rfl) (fun _ _ _ h => h) (Or.inl ⟨by rfl, by intro w hSw; (try dsimp only at hSw); go_simp⟩) hH ?_
        try simp only [Act.put, List.setIfInBounds_toArray, List.set_cons_zero, List.set_cons_succ]
        refine wpAnyH_take (i := 3) (oi := ⟨some 25, _, _, _, _, _⟩) (v := .pointer (some (ad.add (i * 2)))) rfl (by kernel_rfl) (by kernel_rfl) (by kernel_rfl) (fun _ _ _ h => h) (Or.inl ⟨by rfl, by intro w hSw; (try dsimp only at hSw); go_simp⟩) hH ?_
        try simp only [Act.put, List.setIfInBounds_toArray, List.set_cons_zero, List.set_cons_succ]
        refine wpAnyH_take (i := 4) (oi := ⟨some 26, _, _, _, _, _⟩) (v := .pointer (some (ad.add (i * 2)))) rfl (by kernel_rfl) (by kernel_rfl) (by kernel_rfl) (fun _ _ _ h => h) (Or.inl ⟨by rfl, by intro w hSw; (try dsimp only at hSw); go_simp⟩) hH ?_
        try simp only [Act.put, List.setIfInBounds_toArray, List.set_cons_zero, List.set_cons_succ]
        refine wpAnyH_take (i := 5) (oi := ⟨some 27, _, _, _, _, _⟩) (v := .int .i64 bx) rfl (by kernel_rfl) (by kernel_rfl) (by kernel_rfl) (fun _ _ _ h => h) (Or.inl ⟨by rfl, by intro w hSw; (try dsimp only at hSw); go_simp⟩) hH ?_
        try simp only [Act.put, List.setIfInBounds_toArray, List.set_cons_zero, List.set_cons_succ]
        refine wpAnyH_take (i := 6) (oi := ⟨some 28, _, _, _, _, _⟩) (v := .slice (some ad) len cap) rfl (by kernel_rfl) (by kernel_rfl) (by kernel_rfl) (fun _ _ _ h => h) (Or.inl ⟨by rfl, by intro w hSw; (try dsimp only at hSw); go_simp⟩) hH ?_
        try simp only [Act.put, List.setIfInBounds_toArray, List.set_cons_zero, List.set_cons_succ]
        refine wpAnyH_take (i := 7) (oi := ⟨some 29, _, _, _, _, _⟩) (v := .int .i64 i) rfl (by kernel_rfl) (by kernel_rfl) (by kernel_rfl) (fun _ _ _ h => h) (Or.inl ⟨by rfl, by intro w hSw; (try dsimp only at hSw); go_simp⟩) hH ?_
        try simp only [Act.put, List.setIfInBounds_toArray, List.set_cons_zero, List.set_cons_succ]
        refine wpAnyH_take (i := 8) (oi := ⟨some 30, _, _, _, _, _⟩) (v := .pointer (some (ad.add (i * 2)))) rfl (by kernel_rfl) (by kernel_rfl) (by kernel_rfl) (fun _ _ _ h => h) (Or.inl ⟨by rfl, by intro w hSw; (try dsimp only at hSw); go_simp⟩) hH ?_
        try simp only [Act.put, List.setIfInBounds_toArray, List.set_cons_zero, List.set_cons_succ]
        refine wpAnyH_take (i := 9) (oi := ⟨some 31, _, _, _, _, _⟩) (v := .pointer (some ⟨(ad.add (i * 2)).block, (ad.add (i * 2)).off + 1, none⟩)) rfl (by kernel_rfl) (by kernel_rfl) (by kernel_rfl) (fun _ _ _ h => h) (Or.inl ⟨by rfl, by intro w hSw; (try dsimp only at hSw); go_simp⟩) hH ?_
        try simp only [Act.put, List.setIfInBounds_toArray, List.set_cons_zero, List.set_cons_succ]
        refine wpAnyH_take (i := 10) (oi := ⟨some 32, _, _, _, _, _⟩) (v := .int .i64 px) rfl (by kernel_rfl) (by kernel_rfl) (by kernel_rfl) (fun _ _ _ h => h) (Or.inl ⟨by rfl, by intro w hSw; (try dsimp only at hSw); go_simp⟩) hH ?_
        try simp only [Act.put, List.setIfInBounds_toArray, List.set_cons_zero, List.set_cons_succ]
        refine wpAnyH_take (i := 12) (oi := ⟨some 34, _, _, _, _, _⟩) (v := .pointer (some ⟨r, 0, none⟩)) rfl (by kernel_rfl) (by kernel_rfl) (by kernel_rfl) (fun _ _ _ h => h) (Or.inl ⟨by rfl, by intro w hSw; (try dsimp only at hSw); go_simp⟩) hH ?_
        try simp only [Act.put, List.setIfInBounds_toArray, List.set_cons_zero, List.set_cons_succ]
        refine wpAnyH_take (i := 13) (oi := ⟨some 35, _, _, _, _, _⟩) (v := .slice (some ad) len cap) rfl (by kernel_rfl) (by kernel_rfl) (by kernel_rfl) (fun _ _ _ h => h) (Or.inl ⟨by rfl, by intro w hSw; (try dsimp only at hSw); go_simp⟩) hH ?_
        try simp only [Act.put, List.setIfInBounds_toArray, List.set_cons_zero, List.set_cons_succ]
        refine wpAnyH_take (i := 14) (oi := ⟨some 36, _, _, _, _, _⟩) (v := .int .i64 i) rfl (by kernel_rfl) (by kernel_rfl) (by kernel_rfl) (fun _ _ _ h => h) (Or.inl ⟨by rfl, by intro w hSw; (try dsimp only at hSw); go_simp⟩) hH ?_
        try simp only [Act.put, List.setIfInBounds_toArray, List.set_cons_zero, List.set_cons_succ]
        refine wpAnyH_take (i := 15) (oi := ⟨some 37, _, _, _, _, _⟩) (v := .pointer (some (ad.add (i * 2)))) rfl (by kernel_rfl) (by kernel_rfl) (by kernel_rfl) (fun _ _ _ h => h) (Or.inl ⟨by rfl, by intro w hSw; (try dsimp only at hSw); go_simp⟩) hH ?_
        try simp only [Act.put, List.setIfInBounds_toArray, List.set_cons_zero, List.set_cons_succ]
        refine wpAnyH_take (i := 16) (oi := ⟨some 38, _, _, _, _, _⟩) (v := .pointer (some (ad.add (i * 2)))) rfl (by kernel_rfl) (by kernel_rfl) (by kernel_rfl) (fun _ _ _ h => h) (Or.inl ⟨by rfl, by intro w hSw; (try dsimp only at hSw); go_simp⟩) hH ?_
        try simp only [Act.put, List.setIfInBounds_toArray, List.set_cons_zero, List.set_cons_succ]
        refine wpAnyH_take (i := 17) (oi := ⟨some 39, _, _, _, _, _⟩) (v := .int .i64 bx) rfl (by kernel_rfl) (by kernel_rfl) (by kernel_rfl) (fun _ _ _ h => h) (Or.inl ⟨by rfl, by intro w hSw; (try dsimp only at hSw); go_simp⟩) hH ?_
        try simp only [Act.put, List.setIfInBounds_toArray, List.set_cons_zero, List.set_cons_succ]
        refine wpAnyH_take (i := 18) (oi := ⟨some 40, _, _, _, _, _⟩) (v := .slice (some ad) len cap) rfl (by kernel_rfl) (by kernel_rfl) (by kernel_rfl) (fun _ _ _ h => h) (Or.inl ⟨by rfl, by intro w hSw; (try dsimp only at hSw); go_simp⟩) hH ?_
        try simp only [Act.put, List.setIfInBounds_toArray, List.set_cons_zero, List.set_cons_succ]
        refine wpAnyH_take (i := 19) (oi := ⟨some 41, _, _, _, _, _⟩) (v := .int .i64 i) rfl (by kernel_rfl) (by kernel_rfl) (by kernel_rfl) (fun _ _ _ h => h) (Or.inl ⟨by rfl, by intro w hSw; (try dsimp only at hSw); go_simp⟩) hH ?_
        try simp only [Act.put, List.setIfInBounds_toArray, List.set_cons_zero, List.set_cons_succ]
        refine wpAnyH_take (i := 20) (oi := ⟨some 42, _, _, _, _, _⟩) (v := .pointer (some (ad.add (i * 2)))) rfl (by kernel_rfl) (by kernel_rfl) (by kernel_rfl) (fun _ _ _ h => h) (Or.inl ⟨by rfl, by intro w hSw; (try dsimp only at hSw); go_simp⟩) hH ?_
        try simp only [Act.put, List.setIfInBounds_toArray, List.set_cons_zero, List.set_cons_succ]
        refine wpAnyH_take (i := 21) (oi := ⟨some 43, _, _, _, _, _⟩) (v := .pointer (some ⟨(ad.add (i * 2)).block, (ad.add (i * 2)).off + 1, none⟩)) rfl (by kernel_rfl) (by kernel_rfl) (by kernel_rfl) (fun _ _ _ h => h) (Or.inl ⟨by rfl, by intro w hSw; (try dsimp only at hSw); go_simp⟩) hH ?_
        try simp only [Act.put, List.setIfInBounds_toArray, List.set_cons_zero, List.set_cons_succ]
        refine wpAnyH_take (i := 22) (oi := ⟨some 44, _, _, _, _, _⟩) (v := .int .i64 px) rfl (by kernel_rfl) (by kernel_rfl) (by kernel_rfl) (fun _ _ _ h => h) (Or.inl ⟨by rfl, by intro w hSw; (try dsimp only at hSw); go_simp⟩) hH ?_
        try simp only [Act.put, List.setIfInBounds_toArray, List.set_cons_zero, List.set_cons_succ]
        refine wpAnyH_ready (rs := [11]) (by kernel_rfl) (by simp) (AllReadyH.cons rfl (fun K hK => ?_) AllReadyH.nil)
        go_simp
        refine (HBo.out 1).mono ?_
        rintro z0 W1 ⟨rfl, b1, h11⟩
        obtain ⟨k0, k1⟩ := HC.out W1 b1
        have H11 := hid h11
        clear h11 b1
        refine hK.out _ _ ⟨k0, k1⟩ (fun hH1 => ?_)
        clear hK K
        try simp only [Act.put, List.setIfInBounds_toArray, List.set_cons_zero, List.set_cons_succ]
        refine wpAnyH_ready (rs := [23]) (by kernel_rfl) (by simp) (AllReadyH.cons rfl (fun K hK => ?_) AllReadyH.nil)
        go_simp
        refine H11.out.mono ?_
        rintro z0 W2 ⟨rfl, b2, ho2, h12, A2, c2, k2⟩
        obtain ⟨q0, q1⟩ := HC.out W2 b2
        have H12 := hid h12
        have HO2 := hid ho2
        clear h12 ho2 b2
        refine hK.out _ _ ⟨q0, q1⟩ (fun hH2 => ?_)
        clear hK K
        try simp only [Act.put, List.setIfInBounds_toArray, List.set_cons_zero, List.set_cons_succ]
        refine wpAnyH_take (i := 24) (oi := ⟨some 46, _, _, _, _, _⟩) (v := .bool false) rfl (by kernel_rfl) (by kernel_rfl) (by kernel_rfl) (fun _ _ _ h => h) (Or.inl ⟨by rfl, by intro w hSw; (try dsimp only at hSw); go_simp⟩) hH2 ?_
        try simp only [Act.put, List.setIfInBounds_toArray, List.set_cons_zero, List.set_cons_succ]
        refine wpAnyH_take (i := 25) (oi := ⟨some 47, _, _, _, _, _⟩) (v := .bool false) rfl (by kernel_rfl) (by kernel_rfl) (by kernel_rfl) (fun _ _ _ h => h) (Or.inl ⟨by rfl, by intro w hSw; (try dsimp only at hSw); go_simp⟩) hH2 ?_
        try simp only [Act.put, List.setIfInBounds_toArray, List.set_cons_zero, List.set_cons_succ]
        refine wpAnyH_take (i := 26) (oi := ⟨some 48, _, _, _, _, _⟩) (v := .pointer (some ⟨e, 0, none⟩)) rfl (by kernel_rfl) (by kernel_rfl) (by kernel_rfl) (fun _ _ _ h => h) (Or.inl ⟨by rfl, by intro w hSw; (try dsimp only at hSw); go_simp⟩) hH2 ?_
        try simp only [Act.put, List.setIfInBounds_toArray, List.set_cons_zero, List.set_cons_succ]
        refine wpAnyH_take (i := 28) (oi := ⟨some 50, _, _, _, _, _⟩) (v := .pointer (some ⟨r, 0, none⟩)) rfl (by kernel_rfl) (by kernel_rfl) (by kernel_rfl) (fun _ _ _ h => h) (Or.inl ⟨by rfl, by intro w hSw; (try dsimp only at hSw); go_simp⟩) hH2 ?_
        try simp only [Act.put, List.setIfInBounds_toArray, List.set_cons_zero, List.set_cons_succ]
        refine wpAnyH_take (i := 29) (oi := ⟨some 51, _, _, _, _, _⟩) (v := .pointer (some ⟨r, 0, none⟩)) rfl (by kernel_rfl) (by kernel_rfl) (by kernel_rfl) (fun _ _ _ h => h) (Or.inl ⟨by rfl, by intro w hSw; (try dsimp only at hSw); go_simp⟩) hH2 ?_
        try simp only [Act.put, List.setIfInBounds_toArray, List.set_cons_zero, List.set_cons_succ]
        refine wpAnyH_take (i := 30) (oi := ⟨some 52, _, _, _, _, _⟩) (v := .pointer (some ⟨r, 2, none⟩)) rfl (by kernel_rfl) (by kernel_rfl) (by kernel_rfl) (fun _ _ _ h => h) (Or.inl ⟨by rfl, by intro w hSw; (try dsimp only at hSw); go_simp⟩) hH2 ?_
        try simp only [Act.put, List.setIfInBounds_toArray, List.set_cons_zero, List.set_cons_succ]
        refine wpAnyH_ready (rs := [27, 31]) (by kernel_rfl) (by simp) (AllReadyH.cons rfl (fun K hK => ?_) (AllReadyH.cons rfl (fun K hK => ?_) AllReadyH.nil))
        · go_simp
          refine H12.out.mono ?_
          rintro z0 W3 ⟨rfl, rfl⟩
          refine hK.out _ _ ⟨q0, q1⟩ (fun hH3 => ?_)
          clear hK K
          try simp only [Act.put, List.setIfInBounds_toArray, List.set_cons_zero, List.set_cons_succ]
          refine wpAnyH_ready (rs := [31]) (by kernel_rfl) (by simp) (AllReadyH.cons rfl (fun K hK => ?_) AllReadyH.nil)
          go_simp
          refine hK.out _ _ ⟨q0, q1⟩ (fun hH4 => ?_)
          clear hK K
          try simp only [Act.put, List.setIfInBounds_toArray, List.set_cons_zero, List.set_cons_succ]
          refine wpAnyH_take (i := 32) (oi := ⟨some 54, _, _, _, _, _⟩) (v := .int .i64 (m : Nat)) rfl (by kernel_rfl) (by kernel_rfl) (by kernel_rfl) (fun _ _ _ h => h) (Or.inl ⟨by rfl, by intro w hSw; (try dsimp only at hSw); go_simp⟩) hH4 ?_
          try simp only [Act.put, List.setIfInBounds_toArray, List.set_cons_zero, List.set_cons_succ]
          refine wpAnyH_take (i := 33) (oi := ⟨some 55, _, _, _, _, _⟩) (v := .bool false) rfl (by kernel_rfl) (by kernel_rfl) (by kernel_rfl) (fun _ _ _ h => h) (Or.inl ⟨by rfl, by intro w hSw; (try dsimp only at hSw); go_simp⟩) hH4 ?_
          try simp only [Act.put, List.setIfInBounds_toArray, List.set_cons_zero, List.set_cons_succ]
          refine wpAnyH_take (i := 34) (oi := ⟨some 56, _, _, _, _, _⟩) (v := .bool false) rfl (by kernel_rfl) (by kernel_rfl) (by kernel_rfl) (fun _ _ _ h => h) (Or.inl ⟨by rfl, by intro w hSw; (try dsimp only at hSw); go_simp⟩) hH4 ?_
          try simp only [Act.put, List.setIfInBounds_toArray, List.set_cons_zero, List.set_cons_succ]
          refine wpAnyH_done (by kernel_rfl) ?_ _
          go_wp2_with fail
          go_meet
          case rel => exact ⟨rfl, _, HO2⟩
        · go_simp
          refine hK.out _ _ ⟨q0, q1⟩ (fun hH3 => ?_)
          clear hK K
          try simp only [Act.put, List.setIfInBounds_toArray, List.set_cons_zero, List.set_cons_succ]
          refine wpAnyH_take (i := 32) (oi := ⟨some 54, _, _, _, _, _⟩) (v := .int .i64 (m : Nat)) rfl (by kernel_rfl) (by kernel_rfl) (by kernel_rfl) (fun _ _ _ h => h) (Or.inl ⟨by rfl, by intro w hSw; (try dsimp only at hSw); go_simp⟩) hH3 ?_
          try simp only [Act.put, List.setIfInBounds_toArray, List.set_cons_zero, List.set_cons_succ]
          refine wpAnyH_ready (rs := [27]) (by kernel_rfl) (by simp) (AllReadyH.cons rfl (fun K hK => ?_) AllReadyH.nil)
          go_simp
          refine H12.out.mono ?_
          rintro z0 W3 ⟨rfl, rfl⟩
          refine hK.out _ _ ⟨q0, q1⟩ (fun hH4 => ?_)
          clear hK K
          try simp only [Act.put, List.setIfInBounds_toArray, List.set_cons_zero, List.set_cons_succ]
          refine wpAnyH_take (i := 33) (oi := ⟨some 55, _, _, _, _, _⟩) (v := .bool false) rfl (by kernel_rfl) (by kernel_rfl) (by kernel_rfl) (fun _ _ _ h => h) (Or.inl ⟨by rfl, by intro w hSw; (try dsimp only at hSw); go_simp⟩) hH4 ?_
          try simp only [Act.put, List.setIfInBounds_toArray, List.set_cons_zero, List.set_cons_succ]
          refine wpAnyH_take (i := 34) (oi := ⟨some 56, _, _, _, _, _⟩) (v := .bool false) rfl (by kernel_rfl) (by kernel_rfl) (by kernel_rfl) (fun _ _ _ h => h) (Or.inl ⟨by rfl, by intro w hSw; (try dsimp only at hSw); go_simp⟩) hH4 ?_
          try simp only [Act.put, List.setIfInBounds_toArray, List.set_cons_zero, List.set_cons_succ]
          refine wpAnyH_done (by kernel_rfl) ?_ _
          go_wp2_with fail
          go_meet
          case rel => exact ⟨rfl, _, HO2⟩
      case rest =>
        obtain ⟨rfl, s2, ho⟩ := hcut
        clear hst c0 c1 HC HBo
        have hi5b := hi5
        by_cases h100 : (i : Int) % 100 = 0
        · have hb100 : ((i : Int) % 100 == 0) = true := by simp only [beq_iff_eq]; exact h100
          obtain ⟨m2, hm2, hE⟩ := ho.out.ends
          have HE := hid hE
          clear hE h100 ho
          go_wp2_with (first
            | (go_at_call 13; (with_reducible refine HE.out.mono ?_); rintro z1 W1 ⟨gb, cb, rfl, hcb, h1⟩; have H1 := hid h1; clear h1)
            | (go_at_call 15; (with_reducible refine H1.out.mono ?_); rintro z2 W2 ⟨A2, c2, rfl, h2⟩; have H2 := hid h2; clear h2)
            | (go_at_call 14; (with_reducible refine H2.out.mono ?_); rintro z3 W3 ⟨rfl, h3, hbr, hgb⟩; have H3 := hid (And.intro h3 (And.intro hbr hgb)); clear h3 hbr hgb))
          go_loopw [69] (fun vk wk => ∃ k, k ≤ m2 ∧ vk = .int .i64 (k : Nat) ∧ Hid (OL wc.heap.size w wk [(true, e, s2), (false, r, s2)] ∧ BRow wk gb m2 ∧ wc.heap.size ≤ gb)) (fun vk _ => m2 - (intOf vk).toNat)
          case atStart => exact ⟨0, Nat.zero_le _, rfl, H3⟩
          case round =>
            obtain ⟨k, hk, rfl, hst⟩ := hrel
            clear HE H1 H2 H3
            by_cases hlt : k < m2
            · have hkz : (k : Int) < (m2 : Int) := by omega
              obtain ⟨z, hz, cz, fz⟩ := hst.out.2.1.at hlt
              obtain ⟨z1, hz1⟩ : ∃ z1, z1 = (z + 1) % 256 := ⟨_, rfl⟩
              have ez : ((z : Int) + 1) % 256 = (z1 : Int) := by omega
              have HN : Hid (OL wc.heap.size w (wr.setCell ⟨gb, k, none⟩ (.int .u8 (z1 : Nat))) [(true, e, s2), (false, r, s2)] ∧ BRow (wr.setCell ⟨gb, k, none⟩ (.int .u8 (z1 : Nat))) gb m2 ∧ wc.heap.size ≤ gb) :=
                ⟨hst.out.1.but (T := (· = gb)) ((But.refl _ wr).set _ _ (.inl rfl)) (fun x hx => by rw [hx]; exact hst.out.2.2), hst.out.2.1.set k z1 (by omega), hst.out.2.2⟩
              have HLT := hid hlt
              clear hst hz hz1 hlt
              go_wp2_with fail
              have hlt := HLT.out
              go_roundw
              case rel => exact ⟨k + 1, by omega, by go_num, HN⟩
              case measure => simp [intOf]; omega
            · obtain rfl : k = m2 := by omega
              clear hk hlt
              go_wp2_with fail
              obtain ⟨l1, l2⟩ := HL.out
              go_roundw
              case rel => exact ⟨i + 1, by omega, by omega, by go_num, s2, hid (hst.out.1.up hst.out.1.n1 (Nat.le_refl _))⟩
              case measure => simp [intOf]; omega
        · have hb100 : ((i : Int) % 100 == 0) = false := by simp only [beq_eq_false_iff_ne, ne_eq]; exact h100
          clear h100
          go_wp2_with fail
          obtain ⟨l1, l2⟩ := HL.out
          go_roundw
          case rel => exact ⟨i + 1, by omega, by omega, by go_num, s2, ho⟩
          case measure => simp [intOf]; omega
    · have hguard : ((len : Int) ≤ (i : Int)) ∨ ((i : Int) < (len : Int) ∧ decide ((i : Int) < (5000 : Int)) = false) := by
        by_cases h : i < len
        · exact .inr ⟨by omega, decide_eq_false (by omega)⟩
        · exact .inl (by omega)
      obtain ⟨m2, hm2, hE⟩ := hst.out.ends
      have HE := hid hE
      clear hE hst hi5 hi hlt
      rcases hguard with hg1 | ⟨hg1, hg2⟩
      all_goals
        go_wp2_with (first
          | (go_at_call 13; (with_reducible refine HE.out.mono ?_); rintro z1 W1 ⟨gb, cb, rfl, hcb, h1⟩; have H1 := hid h1; clear h1)
          | (go_at_call 15; (with_reducible refine H1.out.mono ?_); rintro z2 W2 ⟨A2, c2, rfl, h2⟩; have H2 := hid h2; clear h2)
          | (go_at_call 14; (with_reducible refine H2.out.mono ?_); rintro z3 W3 ⟨rfl, h3, _, _⟩; have H3 := hid h3.bel; clear h3)
          | (go_at_call 16; (refine (awake_any _).mono ?_); rintro z4 W4 ⟨rfl, b4⟩; have B4 := hid (bel_trans H3.out b4)))
        go_ret
        exact ⟨rfl, B4.out⟩
end Go.Proofs.Ytbgbacajgaeooaa
