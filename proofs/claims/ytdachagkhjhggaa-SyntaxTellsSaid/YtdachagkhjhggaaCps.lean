/-
  CopyStmts.
-/
import Derived.Test.YtdachagkhjhggaaTsp
import Derived.Test.YtdachagkhjhggaaRgs
import Derived.Deep.RegionWith
import Derived.Deep.Cut
namespace Go.Proofs.Ytdachagkhjhggaa
open Go.RowKit
set_option linter.unusedVariables false
set_option linter.unusedSimpArgs false

/-- A statement's box as a row. -/
def BxR (w : World) (b : Nat) (x : Sd) (vb ve : Value) : Prop := w.heap[b]? = some (.cells #[.int .u8 x.k, .int .u8 x.o, .int .i64 x.d, .int .i64 x.s, .int .i64 x.n, .bool x.nt, .int .u8 x.co, .int .i64 x.cd, .int .i64 x.cs, .int .i64 x.cn, vb, ve, .int .i64 x.ln] 42 (0, 0))
theorem BxR.b13 {w : World} {b : Nat} {x : Sd} {vb ve : Value} (h : BxR w b x vb ve) : B13 w b x vb ve := b13_row h
theorem BxR.below {w w' : World} {b : Nat} {x : Sd} {vb ve : Value} (h : BxR w b x vb ve) (hb : Below w.heap.size w w') : BxR w' b x vb ve := (hb.block b (lt_of_heap h)).trans h
theorem BxR.free {w : World} {b : Nat} {x : Sd} {vb ve : Value} (h : BxR w b x vb ve) (i : Nat) : w.frozen? ⟨b, i, none⟩ = false := row_free h i
theorem BxR.set {w : World} {b : Nat} {x : Sd} {vb ve : Value} (h : BxR w b x vb ve) (ub ue : Value) : BxR ((w.setCell ⟨b, 10, none⟩ ub).setCell ⟨b, 11, none⟩ ue) b x ub ue := row_set (row_set h 10 ub) 11 ue
def Mid (w w' : World) (i : Nat) : Prop := w.heap.size ≤ i ∧ i < w'.heap.size
theorem own_kp {W V : World} {b e k n : Nat} {v : Value} {xs : List Value} (h : W.ownsRow b e k v n xs) (q : Below W.heap.size W V) : V.ownsRow b e k v n xs := by
  refine ⟨h.1, ?_⟩
  rcases h.2 with h | ⟨g, cap, cur, rfl, hg, hh, r⟩
  · exact .inl h
  · exact .inr ⟨g, cap, cur, rfl, hg, (q.block g (lt_of_heap hh)).trans hh, r⟩
/-- What the round has behind its two calls of itself and its two stores. -/
structure CpR (w wr V : World) (vo : Value) (i : Nat) (L : List (Sd × Value × Value)) (pre : Tr) (x : Sd) (b e : Tr) (A1 : Option Addr) (nb d1 : Nat) (A2 : Option Addr) (ne d2 : Nat) : Prop where
  row : BxR V wr.heap.size x (.slice A1 nb d1) (.slice A2 ne d2)
  bel : Below w.heap.size w V
  own : V.ownsRow w.heap.size 42 13 vo i (L.flatMap c13)
  made : Made V (fun k => Mid w wr k ∧ vo.ownBlock ≠ some k) L pre
  s1 : SlP V (fun k => wr.heap.size < k ∧ k < V.heap.size) b A1 nb d1
  s2 : SlP V (fun k => wr.heap.size < k ∧ k < V.heap.size) e A2 ne d2
  wrs : w.heap.size ≤ wr.heap.size
  vsz : wr.heap.size ≤ V.heap.size
theorem cp_mid {w wr W0 W1 W2 : World} {vo : Value} {i : Nat} {L : List (Sd × Value × Value)} {pre : Tr} {x : Sd} {b e : Tr} {A1 : Option Addr} {nb d1 : Nat} {A2 : Option Addr} {ne d2 : Nat} {ub ue : Value}
    (hw : Below w.heap.size w wr) (h0 : Below wr.heap.size wr W0) (hs : wr.heap.size < W0.heap.size) (h1 : Below W0.heap.size W0 W1) (h2 : Below W1.heap.size W1 W2) (hr : BxR W2 wr.heap.size x ub ue)
    (ho : wr.ownsRow w.heap.size 42 13 vo i (L.flatMap c13)) (hm : Made wr (fun k => Mid w wr k ∧ vo.ownBlock ≠ some k) L pre) (i1 : SlP W1 (Mid W0 W1) b A1 nb d1) (i2 : SlP W2 (Mid W1 W2) e A2 ne d2) :
    CpR w wr ((W2.setCell ⟨wr.heap.size, 10, none⟩ (.slice A1 nb d1)).setCell ⟨wr.heap.size, 11, none⟩ (.slice A2 ne d2)) vo i L pre x b e A1 nb d1 A2 ne d2 := by
  have b2 : Below wr.heap.size wr W2 := h0.trans ((h1.mono h0.size).trans (h2.mono (Nat.le_trans h0.size h1.size)))
  have bV : Below wr.heap.size wr ((W2.setCell ⟨wr.heap.size, 10, none⟩ (.slice A1 nb d1)).setCell ⟨wr.heap.size, 11, none⟩ (.slice A2 ne d2)) := below_set (below_set b2 _ _ (Nat.le_refl _)) _ _ (Nat.le_refl _)
  have sV : ((W2.setCell ⟨wr.heap.size, 10, none⟩ (.slice A1 nb d1)).setCell ⟨wr.heap.size, 11, none⟩ (.slice A2 ne d2)).heap.size = W2.heap.size := by simp [World.setCell]
  have cV : ∀ a : Addr, a.block ≠ wr.heap.size → ((W2.setCell ⟨wr.heap.size, 10, none⟩ (.slice A1 nb d1)).setCell ⟨wr.heap.size, 11, none⟩ (.slice A2 ne d2)).cell? a = W2.cell? a := fun a ha => by
    unfold World.cell?
    rw [RowKit.Below.heap_setCell _ _ _ _ ha, RowKit.Below.heap_setCell _ _ _ _ ha]
  refine ⟨hr.set _ _, hw.trans (bV.mono hw.size), own_kp ho bV, hm.to (fun _ h => h) (fun a ha => bV.cell ha.1.2), i1.to (fun k hk => ?_) (fun a ha => ?_), i2.to (fun k hk => ?_) (fun a ha => ?_), hw.size, bV.size⟩
  · have := hk.1; have := hk.2; have := h2.size; rw [sV]; omega
  · have := ha.1
    rw [cV a (by omega)]
    exact h2.cell ha.2
  · have := hk.1; have := hk.2; have := h1.size; rw [sV]; omega
  · have := ha.1; have := h1.size
    exact cV a (by omega)
/-- Behind the append. -/
theorem cp_end {w wr V w4 : World} {vo v1 : Value} {i : Nat} {L : List (Sd × Value × Value)} {pre : Tr} {x : Sd} {b e : Tr} {A1 : Option Addr} {nb d1 : Nat} {A2 : Option Addr} {ne d2 : Nat} {o : Obj}
    (h : CpR w wr V vo i L pre x b e A1 nb d1 A2 ne d2) (ho : wr.ownsRow w.heap.size 42 13 vo i (L.flatMap c13)) (hg : (V.alloc o).grownBy w4 vo.ownBlock) (hf : v1.ownBlock = vo.ownBlock ∨ ∃ k, v1.ownBlock = some k ∧ (V.alloc o).heap.size ≤ k) :
    Made w4 (fun k => Mid w w4 k ∧ v1.ownBlock ≠ some k) (L ++ [(x, .slice A1 nb d1, .slice A2 ne d2)]) (pre.app (.st x b e .nil)) ∧ Below w.heap.size w w4 := by
  have sz : (V.alloc o).heap.size = V.heap.size + 1 := by simp
  have szs := hg.size
  have wr1 := h.wrs
  have wr2 := h.vsz
  have hvo : ∀ k, vo.ownBlock = some k → k < wr.heap.size := fun k hk => (ho.lt k hk).2
  have hvb : ∀ k, vo.ownBlock = some k → w.heap.size ≤ k := fun k hk => (ho.lt k hk).1
  have keep : ∀ a : Addr, a.block < V.heap.size → vo.ownBlock ≠ some a.block → w4.cell? a = V.cell? a := fun a ha hn => by
    have e1 := hg.block a.block (by omega) (fun e => hn e.symm)
    have e2 : (V.alloc o).heap[a.block]? = V.heap[a.block]? := heap_alloc_old _ _ ha
    exact World.cell?_of_block (e1.trans e2)
  have mk1 : ∀ k, (wr.heap.size < k ∧ k < V.heap.size) → (Mid w w4 k ∧ v1.ownBlock ≠ some k) := fun k hk => ⟨⟨by omega, by omega⟩, fun e => by
    rcases hf with hf | ⟨j, hf, hj⟩
    · have := hvo k (hf ▸ e); omega
    · rw [hf] at e; injection e with e; omega⟩
  have mk2 : ∀ k, (Mid w wr k ∧ vo.ownBlock ≠ some k) → (Mid w w4 k ∧ v1.ownBlock ≠ some k) := fun k hk => ⟨⟨hk.1.1, by have := hk.1.2; omega⟩, fun e => by
    rcases hf with hf | ⟨j, hf, hj⟩
    · exact hk.2 (hf ▸ e)
    · rw [hf] at e; injection e with e; have := hk.1.2; omega⟩
  exact ⟨Made.snoc (h.s1.to mk1 (fun a ha => keep a ha.2 (fun e => by have := hvo _ e; omega))) (h.s2.to mk1 (fun a ha => keep a ha.2 (fun e => by have := hvo _ e; omega))) (h.made.to mk2 (fun a ha => keep a (by have := ha.1.2; omega) ha.2)), (h.bel.alloc (by omega) o).grown hg (by omega) hvb⟩
theorem st_cells (W : World) (x : Sd) (vb ve : Value) : ∀ (j : Nat) (u : Value), (c13 (x, vb, ve))[j]? = some u →
    (W.alloc (.cells #[.int .u8 x.k, .int .u8 x.o, .int .i64 x.d, .int .i64 x.s, .int .i64 x.n, .bool x.nt, .int .u8 x.co, .int .i64 x.cd, .int .i64 x.cs, .int .i64 x.cn, vb, ve, .int .i64 x.ln] 42)).cell? (({ block := W.heap.size, off := 0 } : Addr).add j) = some u := by
  intro j u hu
  have hh := heap_alloc_new W (.cells #[.int .u8 x.k, .int .u8 x.o, .int .i64 x.d, .int .i64 x.s, .int .i64 x.n, .bool x.nt, .int .u8 x.co, .int .i64 x.cd, .int .i64 x.cs, .int .i64 x.cn, vb, ve, .int .i64 x.ln] 42)
  rw [Addr.add_lit, Nat.zero_add, row_cell hh j]
  simpa [c13, cells13] using hu
theorem c13_one (x : Sd) (A1 : Option Addr) (nb d1 : Nat) (A2 : Option Addr) (ne d2 : Nat) : ∀ u ∈ c13 (x, .slice A1 nb d1, .slice A2 ne d2), u.oneCell' = true := by
  intro u hu
  simp only [c13, cells13, List.mem_cons, List.not_mem_nil, or_false] at hu
  rcases hu with rfl | rfl | rfl | rfl | rfl | rfl | rfl | rfl | rfl | rfl | rfl | rfl | rfl <;> rfl
set_option maxRecDepth 10000 in
set_option maxHeartbeats 8000000 in
theorem copy_any (m : Nat) : ∀ (t : Tr), t.sz < m → t.sz ≤ 3000 → ∀ (A : Option Addr) (n c : Nat) (w : World), Sl w w.heap.size t A n c →
    Calls Try.prog 7 #[.slice A n c] w fun e w' => ∃ A' c', e = .returned (.slice A' n c') ∧ SlP w' (Mid w w') t A' n c' ∧ Below w.heap.size w w' := by
  induction m with
  | zero => intro t ht; omega
  | succ m ih =>
    intro t ht ht3 A n c w hS
    have hn3 : n ≤ 3000 := by have := t.len_sz; have := hS.len; omega
    have HB := hid hS.rest
    have HSL := hid (And.intro ht (And.intro ht3 (And.intro hS.len hn3)))
    have IH := hid (fun t h => ih t h)
    clear hS ih
    go_enter Try.func7, Try.ntmps7
    go_wp2_with fail
    go_loopw [3, 4] (fun vo v4 wr => ∃ (i : Nat) (L : List (Sd × Value × Value)) (pre t' : Tr) (vv : Value), v4 = .int .i64 (i : Nat) ∧ vv = vo ∧ Hid (L.length = i ∧ pre.app t' = t ∧ t'.sz ≤ t.sz) ∧ Hid (wr.ownsRow w.heap.size 42 13 vv i (L.flatMap c13)) ∧ Hid (Made wr (fun k => Mid w wr k ∧ vv.ownBlock ≠ some k) L pre) ∧ Hid (Rest w w.heap.size t' A i n) ∧ Hid (Below w.heap.size w wr)) (fun _ v4 _ => n - (intOf v4).toNat)
    case atStart => exact ⟨0, [], .nil, t, _, rfl, rfl, hid ⟨rfl, rfl, Nat.le_refl _⟩, hid (World.ownsRow_nil _ _ _ _), hid trivial, HB, hid (Below.refl _ _)⟩
    case round =>
      obtain ⟨i, L, pre, t', vv, rfl, hvv, HL, HO, HM, HR, HW⟩ := hrel
      subst hvv
      have hi := HR.out.le
      by_cases hlt : i < n
      · have hltz : (i : Int) < (n : Int) := by omega
        obtain ⟨x, b, e, q, ad, Ab, nb, cb, Ae, ne, ce, rfl, rfl, hab, hat, hb, he, hq⟩ := HR.out.at hlt
        have HQ := hid hq
        obtain ⟨c0, c1, c2, c3, c4, c5, c6, c7, c8, c9, c10, c11, c12⟩ := hat.to (w' := wr) (fun a ha => HW.out.cell (by rw [ha, block_of_add]; exact hab))
        have hbz : b.sz < m ∧ b.sz ≤ 3000 ∧ e.sz < m ∧ e.sz ≤ 3000 := by
          have h1 := HL.out.2.2
          have h2 := HSL.out
          simp only [Tr.sz] at h1
          omega
        have C1 := hid (fun W (h : Below w.heap.size w W) => IH.out b hbz.1 hbz.2.1 Ab nb cb W ((hb.below h).up h.size))
        have C2 := hid (fun W (h : Below w.heap.size w W) => IH.out e hbz.2.2.1 hbz.2.2.2 Ae ne ce W ((he.below h).up h.size))
        obtain ⟨W0, hW0⟩ : ∃ W0, wr.alloc (.cells #[.int .u8 x.k, .int .u8 x.o, .int .i64 x.d, .int .i64 x.s, .int .i64 x.n, .bool x.nt, .int .u8 x.co, .int .i64 x.cd, .int .i64 x.cs, .int .i64 x.cn, .slice Ab nb cb, .slice Ae ne ce, .int .i64 x.ln] 42) = W0 := ⟨_, rfl⟩
        have hr0 : BxR W0 wr.heap.size x (.slice Ab nb cb) (.slice Ae ne ce) := by rw [← hW0]; exact heap_alloc_new wr _
        have hb0 : Below wr.heap.size wr W0 := by rw [← hW0]; exact (Below.refl _ wr).alloc (Nat.le_refl _) _
        have hbw0 : Below w.heap.size w W0 := HW.out.trans (hb0.mono HW.out.size)
        have HW0 := hid hW0
        have R0 := hid hr0
        have R0d : Hid (BxR W0.drew wr.heap.size x (.slice Ab nb cb) (.slice Ae ne ce)) := hr0
        have B0 := hid hb0
        have BW0 := hid hbw0
        have BW0d := hid hbw0.drew
        have S0 : Hid (wr.heap.size < W0.heap.size) := lt_of_heap hr0
        have S0d : Hid (wr.heap.size < W0.drew.heap.size) := lt_of_heap hr0
        have B0d : Hid (Below wr.heap.size wr W0.drew) := hb0.drew
        have k10 := hr0.b13.c10
        have k11 := hr0.b13.c11
        have f10 := hr0.free 10
        have f11 := hr0.free 11
        clear hb he hq hat hW0 hr0 hb0 hbw0 hbz
        go_upto_region 6 with fail
        rw [HW0.out]
        clear HW0 c0 c1 c2 c3 c4 c5 c6 c7 c8 c9 c10 c11 c12
        go_region_with (go_at_call 7; first
          | ((with_reducible refine (C1.out _ BW0d.out).mono ?_); rintro r1 W1 ⟨A1, d1, rfl, s1, b1⟩; have I1 := hid s1; have B1 := hid b1; have R1 := hid (R0d.out.below b1); have BW1 := hid (BW0d.out.trans (b1.mono BW0d.out.size)); have k10' := R1.out.b13.c10; have k11' := R1.out.b13.c11; have f10' := R1.out.free 10; have f11' := R1.out.free 11; clear s1 b1)
          | (go_must ((with_reducible refine (C2.out _ BW1.out).mono ?_); rintro r2 W2 ⟨A2, d2, rfl, s2, b2⟩; have I2 := hid s2; have B2 := hid b2; have R2 := hid (R1.out.below b2); have k10'' := R2.out.b13.c10; have k11'' := R2.out.b13.c11; have f10'' := R2.out.free 10; have f11'' := R2.out.free 11; clear s2 b2)))
        all_goals
          have HC := hid (cp_mid (b := b) (e := e) HW.out B0d.out S0d.out B1.out B2.out R2.out HO.out HM.out I1.out I2.out)
          clear R0 R0d R1 R2 B0 B0d B1 B2 BW0 BW0d BW1 S0 S0d I1 I2 k10 k11 f10 f11 k10' k11' f10' f11' k10'' k11'' f10'' f11'' C1 C2 IH
          generalize (W2.setCell _ _).setCell _ _ = V at *
          obtain ⟨y0, y1, y2, y3, y4, y5, y6, y7, y8, y9, y10, y11, y12⟩ := HC.out.row.b13
          go_wp2_with (at_builtin; refine wpList_append_st rfl (.tmp 24) (.tmp 26) rfl w.heap.size vv i (L.flatMap c13) rfl (HC.out.own.alloc _) ⟨V.heap.size, 0, none⟩ 1 1 (c13 (x, .slice A1 nb d1, .slice A2 ne d2)) rfl rfl (st_cells V x _ _) (c13_one x _ _ _ _ _ _) (by omega) (by have := HC.out.wrs; have := HC.out.vsz; simp; omega) ?_
                       intro v1 w4 ho4 hg4 hf4
                       have HE := hid (cp_end HC.out HO.out hg4.out hf4.out); clear hg4 hf4)
          go_roundw
          case rel =>
            refine ⟨i + 1, L ++ [(x, .slice A1 nb d1, .slice A2 ne d2)], pre.app (.st x b e .nil), q, v1, by go_num, rfl, hid ⟨?_, ?_, ?_⟩, ?_, hid HE.out.1, HQ, hid HE.out.2⟩
            · rw [List.length_append, HL.out.1]; rfl
            · rw [Tr.app_snoc]; exact HL.out.2.1
            · have := HL.out.2.2
              simp only [Tr.sz] at this
              omega
            · rw [List.flatMap_append]
              simpa using ho4
          case measure => simp [intOf]; omega
      · obtain rfl : i = n := by omega
        obtain rfl := HR.out.end
        go_wp2_with fail
        go_ret
        have hpre : pre = t := by rw [← HL.out.2.1, Tr.app_nil]
        subst hpre
        obtain ⟨A', c', rfl, hs⟩ := own_slP (P := Mid w wr) HL.out.1 HO.out (HM.out.to (fun k hk => hk.1) (fun _ _ => rfl)) (by omega) (fun g hg => HO.out.lt g hg)
        exact ⟨A', c', rfl, hs, HW.out⟩
end Go.Proofs.Ytdachagkhjhggaa
