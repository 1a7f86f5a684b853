/-
  CopyModel.
-/
import Derived.Test.YtnanmdfbgoahjaaGtm
import Derived.Deep.RegionWith
set_option linter.unusedVariables false
set_option linter.unusedSimpArgs false
namespace Go.Proofs.Ytnanmdfbgoahjaa
open Go.RowKit

/-- CopyModel's two blocks: its model, what it returns. -/
structure CmAt (w W : World) (cs : Array Value) : Prop where
  r : W.heap[w.heap.size]? = some (.cells cs 25 (0, 0))
  r2 : W.heap[w.heap.size + 1]? = some (.cells #[.int .i64 0, .int .i64 0, .int .i64 0, .int .i64 0, .slice none 0 0, .slice none 0 0, .slice none 0 0] 25 (0, 0))
  bel : Below w.heap.size w W
theorem CmAt.drew {w W : World} {cs : Array Value} (h : CmAt w W cs) : CmAt w W.drew cs := ⟨h.r, h.r2, h.bel.drew⟩
theorem CmAt.below {w W V : World} {cs : Array Value} (h : CmAt w W cs) (b : Below W.heap.size W V) : CmAt w V cs :=
  ⟨(b.block _ (lt_of_heap h.r)).trans h.r, (b.block _ (lt_of_heap h.r2)).trans h.r2, h.bel.trans (b.mono h.bel.size)⟩
theorem cm_start (w : World) (cs : Array Value) : CmAt w ((w.alloc (.cells cs 25)).alloc (.cells #[.int .i64 0, .int .i64 0, .int .i64 0, .int .i64 0, .slice none 0 0, .slice none 0 0, .slice none 0 0] 25)) cs := by
  have hz : (w.alloc (.cells cs 25)).heap.size = w.heap.size + 1 := by simp
  have h1 := heap_alloc_new w (.cells cs 25)
  have h2 := heap_alloc_new (w.alloc (.cells cs 25)) (.cells #[.int .i64 0, .int .i64 0, .int .i64 0, .int .i64 0, .slice none 0 0, .slice none 0 0, .slice none 0 0] 25)
  rw [hz] at h2
  exact ⟨(heap_alloc_old _ _ (lt_of_heap h1)).trans h1, h2, ((Below.refl _ _).alloc (Nat.le_refl _) _).alloc (by rw [hz]; exact Nat.le_succ _) _⟩
theorem CmAt.cells {w W : World} {a b c d e f g : Value} (h : CmAt w W #[a, b, c, d, e, f, g]) : W.cell? ⟨w.heap.size, 4, none⟩ = some e ∧ W.cell? ⟨w.heap.size, 5, none⟩ = some f ∧ W.cell? ⟨w.heap.size, 6, none⟩ = some g ∧ W.frozen? ⟨w.heap.size, 4, none⟩ = false ∧ W.frozen? ⟨w.heap.size, 5, none⟩ = false ∧ W.frozen? ⟨w.heap.size, 6, none⟩ = false :=
  ⟨row_cell h.r 4, row_cell h.r 5, row_cell h.r 6, row_free h.r 4, row_free h.r 5, row_free h.r 6⟩
theorem own_kp {W V : World} {b e k n : Nat} {v : Value} {xs : List Value} (h : W.ownsRow b e k v n xs) (q : ∀ g, g < W.heap.size → V.heap[g]? = W.heap[g]?) : V.ownsRow b e k v n xs := by
  refine ⟨h.1, ?_⟩
  rcases h.2 with h | ⟨g, cap, cur, rfl, hg, hh, r⟩
  · exact .inl h
  · exact .inr ⟨g, cap, cur, rfl, hg, (q g (lt_of_heap hh)).trans hh, r⟩
theorem cm_parts {w W : World} {cs : Array Value} {A : Option Addr} {n c : Nat} {L : List Pt} (h : Hid (CmAt w W cs)) (hp : Hid (IsP w w.heap.size A n c L)) (hn : n ≤ 5000) :
    Calls Try.prog 17 #[.slice A n c] W fun e w' => ∃ A' c', e = .returned (.slice A' n c') ∧ Hid (CmAt w w' cs) ∧ Hid (w'.ownsRow w.heap.size 41 7 (.slice A' n c') n (L.flatMap cellsP)) := by
  refine (CopyParts_any A n c L W (hp.out.later h.out.bel) hn).mono ?_
  rintro e w' ⟨A', c', e1, _, o, b⟩
  exact ⟨A', c', e1, h.out.below b, own_base o h.out.bel.size⟩
theorem cm_bytes {w W : World} {cs : Array Value} {A : Option Addr} {n c : Nat} {l : List UInt8} (h : Hid (CmAt w W cs)) (hp : Hid (IsBB w w.heap.size A n c l)) (hn : n ≤ 20000) :
    Calls Try.prog 7 #[.slice A n c] W fun e w' => ∃ A' c', e = .returned (.slice A' n c') ∧ Hid (CmAt w w' cs) ∧ Hid (w'.ownsRow w.heap.size 5 1 (.slice A' n c') n (l.map bv)) ∧ Hid (∀ g, g < W.heap.size → w'.heap[g]? = W.heap[g]?) := by
  have hl := hp.out.len
  refine (CopyBytes_any A l n c W (hp.out.on h.out.bel) hn).mono ?_
  rintro e w' ⟨v, e1, o⟩
  obtain ⟨A', c', e2, _⟩ := o.isBB (by omega)
  have q := own_base o.own h.out.bel.size
  rw [hl] at e2 q
  subst e2
  exact ⟨A', c', e1, h.out.below o.bel, q, o.bel.block⟩
theorem cm_end {w W : World} {a0 a1 a2 a3 a4 a5 a6 : Value} (h : CmAt w W #[a0, a1, a2, a3, a4, a5, a6]) (u4 u5 u6 : Value) :
    CmAt w (((W.setCell ⟨w.heap.size, 4, none⟩ u4).setCell ⟨w.heap.size, 5, none⟩ u5).setCell ⟨w.heap.size, 6, none⟩ u6) #[a0, a1, a2, a3, u4, u5, u6] ∧
    ∀ e s v n xs, (25 : Nat) ≠ e → W.ownsRow w.heap.size e s v n xs → (((W.setCell ⟨w.heap.size, 4, none⟩ u4).setCell ⟨w.heap.size, 5, none⟩ u5).setCell ⟨w.heap.size, 6, none⟩ u6).ownsRow w.heap.size e s v n xs := by
  refine ⟨⟨row_set (row_set (row_set h.r 4 u4) 5 u5) 6 u6, ?_, set_bel (set_bel (set_bel h.bel _ 4 u4 (Nat.le_refl _)) _ 5 u5 (Nat.le_refl _)) _ 6 u6 (Nat.le_refl _)⟩, ?_⟩
  · rw [set_block (by omega), set_block (by omega), set_block (by omega)]; exact h.r2
  · intro e s v n xs he ho
    have hne := own_ne ho h.r he
    exact own_set (own_set (own_set ho hne 4) hne 5) hne 6
theorem cm_done {w V : World} {a0 a1 a2 a3 a4 a5 a6 : Value} (h : CmAt w V #[a0, a1, a2, a3, a4, a5, a6]) :
    (set7 V (w.heap.size + 1) a0 a1 a2 a3 a4 a5 a6).heap[w.heap.size + 1]? = some (.cells #[a0, a1, a2, a3, a4, a5, a6] 25 (0, 0)) ∧ Below w.heap.size w (set7 V (w.heap.size + 1) a0 a1 a2 a3 a4 a5 a6) ∧
    ∀ e s v n xs, (25 : Nat) ≠ e → V.ownsRow w.heap.size e s v n xs → (set7 V (w.heap.size + 1) a0 a1 a2 a3 a4 a5 a6).ownsRow w.heap.size e s v n xs := by
  have R := row_set7 _ _ _ _ _ _ _ a0 a1 a2 a3 a4 a5 a6 h.r2
  refine ⟨R.1, R.2 _ _ (Nat.le_succ _) h.bel, ?_⟩
  intro e s v n xs he ho
  have hne := own_ne ho h.r2 he
  exact own_set (own_set (own_set (own_set (own_set (own_set (own_set ho hne 0) hne 1) hne 2) hne 3) hne 4) hne 5) hne 6
theorem cm_md {W : World} {x : Md} {A1 A2 A3 : Option Addr} {c1 c2 c3 n i j : Nat} (b : Nat) (hl : x.parts.length = n ∧ x.code.length = i ∧ x.post.length = j) (h2 : i ≤ 20000) (h3 : j ≤ 20000)
    (o1 : W.ownsRow b 41 7 (.slice A1 n c1) n (x.parts.flatMap cellsP)) (o2 : W.ownsRow b 5 1 (.slice A2 i c2) i (x.code.map bv)) (o3 : W.ownsRow b 5 1 (.slice A3 j c3) j (x.post.map bv)) : MdAt W W.heap.size x ⟨A1, c1⟩ ⟨A2, c2⟩ ⟨A3, c3⟩ := by
  obtain ⟨rfl, rfl, rfl⟩ := hl
  obtain ⟨_, _, e1, i1, _⟩ := own_isP rfl o1
  obtain ⟨_, _, e2, i2⟩ := own_isBB o2 (by omega)
  obtain ⟨_, _, e3, i3⟩ := own_isBB o3 (by omega)
  cases e1; cases e2; cases e3
  exact ⟨i1, i2, i3⟩
theorem CmAt.sevens {w W : World} {a b c d e f g : Value} (h : CmAt w W #[a, b, c, d, e, f, g]) : (W.cell? ⟨w.heap.size, 0, none⟩ = some a ∧ W.cell? ⟨w.heap.size, 1, none⟩ = some b ∧ W.cell? ⟨w.heap.size, 2, none⟩ = some c ∧ W.cell? ⟨w.heap.size, 3, none⟩ = some d ∧ W.cell? ⟨w.heap.size, 4, none⟩ = some e ∧ W.cell? ⟨w.heap.size, 5, none⟩ = some f ∧ W.cell? ⟨w.heap.size, 6, none⟩ = some g) ∧
    ∀ k, W.frozen? ⟨w.heap.size + 1, k, none⟩ = false :=
  ⟨⟨row_cell h.r 0, row_cell h.r 1, row_cell h.r 2, row_cell h.r 3, row_cell h.r 4, row_cell h.r 5, row_cell h.r 6⟩, fun k => row_free h.r2 k⟩
theorem cm_zeros {w W : World} {cs : Array Value} (h : CmAt w W cs) : W.cell? ⟨w.heap.size + 1, 0, none⟩ = some (.int .i64 0) ∧ W.cell? ⟨w.heap.size + 1, 1, none⟩ = some (.int .i64 0) ∧ W.cell? ⟨w.heap.size + 1, 2, none⟩ = some (.int .i64 0) ∧ W.cell? ⟨w.heap.size + 1, 3, none⟩ = some (.int .i64 0) ∧ W.cell? ⟨w.heap.size + 1, 4, none⟩ = some (.slice none 0 0) ∧ W.cell? ⟨w.heap.size + 1, 5, none⟩ = some (.slice none 0 0) ∧ W.cell? ⟨w.heap.size + 1, 6, none⟩ = some (.slice none 0 0) :=
  ⟨row_cell h.r2 0, row_cell h.r2 1, row_cell h.r2 2, row_cell h.r2 3, row_cell h.r2 4, row_cell h.r2 5, row_cell h.r2 6⟩
set_option maxRecDepth 10000 in
set_option maxHeartbeats 8000000 in
theorem CopyModel_any (w : World) (x : Md) (P C Q : Sl) (a : MdAt w w.heap.size x P C Q) (h1 : x.parts.length ≤ 5000) (h2 : x.code.length ≤ 20000) (h3 : x.post.length ≤ 20000) :
    Calls Try.prog 6 #[vMd x P C Q] w fun e w' => ∃ P' C' Q', e = .returned (vMd x P' C' Q') ∧ MdAt w' w'.heap.size x P' C' Q' ∧ Below w.heap.size w w' := by
  have HP := hid a.parts
  have HC := hid a.code
  have HQ := hid a.post
  unfold vMd vMdl
  clear a
  obtain ⟨n, hn⟩ : ∃ n, x.parts.length = n := ⟨_, rfl⟩
  obtain ⟨i, hi⟩ : ∃ n, x.code.length = n := ⟨_, rfl⟩
  obtain ⟨j, hj⟩ : ∃ n, x.post.length = n := ⟨_, rfl⟩
  have HL := hid (And.intro hn (And.intro hi hj))
  rw [hn] at HP h1 ⊢
  rw [hi] at HC h2 ⊢
  rw [hj] at HQ h3 ⊢
  clear hn hi hj
  have H0 := hid (cm_start w #[.int .i64 x.h, .int .i64 x.m, .int .i64 x.ph, .int .i64 x.pm, .slice P.a n P.c, .slice C.a i C.c, .slice Q.a j Q.c])
  have H0d := hid H0.out.drew
  obtain ⟨k4, k5, k6, f4, f5, f6⟩ := H0.out.cells
  go_enter Try.func6, Try.ntmps6
  go_wp2_with fail
  generalize World.alloc _ _ = W0 at *
  go_region_with (first
    | (go_at_call 17; go_must ((first | (with_reducible refine (cm_parts H0 HP h1).mono ?_) | (with_reducible refine (cm_parts H0d HP h1).mono ?_)); rintro r W1 ⟨A1, c1, rfl, H1, I1⟩; have H1d := hid H1.out.drew; obtain ⟨q4, q5, q6, g4, g5, g6⟩ := H1.out.cells))
    | (go_at_call 7; first
      | ((first | (with_reducible refine (cm_bytes H1 HC h2).mono ?_) | (with_reducible refine (cm_bytes H1d HC h2).mono ?_)); rintro r W2 ⟨A2, c2, rfl, H2, I2, B2⟩; have H2d := hid H2.out.drew; obtain ⟨r4, r5, r6, l4, l5, l6⟩ := H2.out.cells)
      | ((first | (with_reducible refine (cm_bytes H2 HQ h3).mono ?_) | (with_reducible refine (cm_bytes H2d HQ h3).mono ?_)); rintro r W3 ⟨A3, c3, rfl, H3, I3, B3⟩; have H3d := hid H3.out.drew; obtain ⟨s4, s5, s6, m4, m5, m6⟩ := H3.out.cells)))
  all_goals
    have E := cm_end H3.out (.slice A1 n c1) (.slice A2 i c2) (.slice A3 j c3)
    have I2' := hid (E.2 _ _ _ _ _ (by decide) (own_kp I2.out B3.out))
    have I1' := hid (E.2 _ _ _ _ _ (by decide) (own_kp (own_kp I1.out B2.out) B3.out))
    have I3' := hid (E.2 _ _ _ _ _ (by decide) I3.out)
    have E1 := hid E.1
    clear E I1 I2 I3 B2 B3 H1 H2 H3 H0 H1d H2d H3d H0d k4 k5 k6 f4 f5 f6 q4 q5 q6 g4 g5 g6 r4 r5 r6 l4 l5 l6 s4 s5 s6 m4 m5 m6
    generalize ((W3.setCell _ _).setCell _ _).setCell _ _ = V at *
    obtain ⟨⟨y0, y1, y2, y3, y4, y5, y6⟩, z⟩ := E1.out.sevens
    obtain ⟨x0, x1, x2, x3, x4, x5, x6⟩ := cm_zeros E1.out
    have z0 := z 0
    have z1 := z 1
    have z2 := z 2
    have z3 := z 3
    have z4 := z 4
    have z5 := z 5
    have z6 := z 6
    have D := hid (cm_done E1.out)
    unfold set7 at D
    go_wp2_with fail
    obtain ⟨D1, D2, D3⟩ := D.out
    refine bodyPost_ret (results_md1 (by kernel_rfl : Try.f6.results = #[.cell 2 25]) _ _ (w.heap.size + 1) _ _ _ rfl D1 rfl) rfl ?_
    exact ⟨⟨A1, c1⟩, ⟨A2, c2⟩, ⟨A3, c3⟩, rfl, cm_md _ HL.out h2 h3 (D3 _ _ _ _ _ (by decide) I1'.out) (D3 _ _ _ _ _ (by decide) I2'.out) (D3 _ _ _ _ _ (by decide) I3'.out), D2⟩
end Go.Proofs.Ytnanmdfbgoahjaa
