/-
  The contract of Truncate's work: the floor falls byte by byte.
-/
import Derived.Test.YtgccjclloomfgaaApn
import Derived.Test.YtgccjclloomfgaaSlc
import Derived.Deep.RegionHeld
namespace Go.Proofs.Ytgccjclloomfgaa
open Go.RowKit

def floorOf (w : World) (g : Nat) : Nat := (intOf ((w.cell? ⟨g, 3, none⟩).getD undef)).toNat
theorem lost_next (d : Dk) (f : Nat) (x : UInt8) (hf : f < d.old.length) (hx : d.old[f] = x) : (d.old.drop (f + 1)).reverse ++ [x] = (d.old.drop f).reverse := by
  have e : d.old.drop f = d.old[f] :: d.old.drop (f + 1) := List.drop_eq_getElem_cons hf
  rw [e, List.reverse_cons, hx]
/-- The old file's end has got one byte more, the floor has fallen by one. -/
theorem DkAt.fall {B : Nat} {S : Nat → Prop} {w w2 : World} {g f : Nat} {F L L' : Value} {d : Dk} {e : Int} {x : UInt8} (h : DkAt B S w g F L { d with floor := f + 1 } e) (hx : ∀ h : f < d.old.length, d.old[f] = x)
    (ha : Apd w w2 L L' (d.old.length - (f + 1) + 1) (((d.old.drop (f + 1)).reverse ++ [x]).map bv)) :
    DkAt B (fun i => S i ∨ L'.ownBlock = some i) ((w2.setCell ⟨g, 4, none⟩ L').setCell ⟨g, 3, none⟩ (.int .i64 (f : Nat))) g F L' { d with floor := f } e ∧ Stp S (fun i => S i ∨ L'.ownBlock = some i) w ((w2.setCell ⟨g, 4, none⟩ L').setCell ⟨g, 3, none⟩ (.int .i64 (f : Nat))) := by
  have hfo : f + 1 ≤ d.old.length := h.ok.fo
  have hfn : f + 1 ≤ d.now.length := h.ok.fn
  have hL := own_gne h.ll h.row (by decide)
  have hgL : some g ≠ L.ownBlock := fun e => hL g e.symm rfl
  have hrow : w2.heap[g]? = some (.cells (dcells g F L { d with floor := f + 1 } e) 61 (0, 0)) := (ha.grown.block g (lt_of_heap h.row) hgL).trans h.row
  have hL2 := own_gne ha.own hrow (by decide)
  obtain ⟨hF, hap⟩ := ha.keeps 0 F _ _ h.ff h.ap.swap
  have hF2 := own_gne hF hrow (by decide)
  have bg : But (· = g) w2 ((w2.setCell ⟨g, 4, none⟩ L').setCell ⟨g, 3, none⟩ (.int .i64 (f : Nat))) := ((But.refl (· = g) w2).set _ _ (.inl rfl)).set _ _ (.inl rfl)
  have b2 : But S w w2 := (But.refl S w).grown ha.grown (fun k hk => .inl (h.sl k hk))
  refine ⟨⟨?_, ownsRow_but hF bg hF2, ?_, hap.swap, .inl h.sg, fun k hk => .inl (h.sf k hk), fun k hk => .inr hk, ?_, ?_, h.er, h.ae, h.fe⟩, (b2.set _ _ (.inl h.sg)).set _ _ (.inl h.sg), ?_⟩
  · have r1 := row_set hrow 4 L'
    rw [row_set r1 3]; rfl
  · have e1 := ownsRow_but ha.own bg hL2
    rw [lost_next d f x (by omega) (hx (by omega))] at e1
    have e2 : d.old.length - (f + 1) + 1 = d.old.length - f := by omega
    rw [e2] at e1
    exact e1
  · intro i hi
    rw [World.size_setCell, World.size_setCell]
    rcases hi with hi | hi
    · exact ⟨(h.lt i hi).1, Nat.lt_of_lt_of_le (h.lt i hi).2 ha.grown.size⟩
    · refine ⟨?_, (own_lt ha.own i hi).2⟩
      rcases ha.fresh with h1 | ⟨k, h1, h2⟩
      · exact (h.lt i (h.sl i (h1 ▸ hi))).1
      · rw [h1] at hi
        cases hi
        have := (h.lt g h.sg)
        omega
  · refine ⟨by show f ≤ d.now.length; omega, by show f ≤ d.old.length; omega, ?_, h.ok.mx, h.ok.mo, h.ok.m4, h.ok.fa⟩
    have hs : d.now.take (f + 1) = d.old.take (f + 1) := h.ok.same
    have := congrArg (List.take f) hs
    rw [List.take_take, List.take_take, show min f (f + 1) = f by omega] at this
    exact this
  · intro i hi
    rcases hi with hi | hi
    · exact .inl hi
    · rcases ha.fresh with h1 | ⟨k, h1, h2⟩
      · exact .inl (h.sl i (h1 ▸ hi))
      · rw [h1] at hi
        cases hi
        exact .inr h2
/-- The disk when its file is cut in field 2. -/
theorem DkAt.cut {B : Nat} {S : Nat → Prop} {w : World} {g n c : Nat} {A : Option Addr} {L : Value} {d : Dk} {e : Int} (h : DkAt B S w g (.slice A d.now.length c) L d e) (hn : n ≤ d.now.length) (hf : d.floor ≤ n) :
    DkAt B S (w.setCell ⟨g, 2, none⟩ (.slice A n c)) g (.slice A n c) L { d with now := d.now.take n } e ∧ But S w (w.setCell ⟨g, 2, none⟩ (.slice A n c)) := by
  have bg : But (· = g) w (w.setCell ⟨g, 2, none⟩ (.slice A n c)) := (But.refl (· = g) w).set _ _ (.inl rfl)
  have hF := own_gne h.ff h.row (by decide)
  have hL := own_gne h.ll h.row (by decide)
  refine ⟨⟨?_, ?_, ownsRow_but h.ll bg hL, (fun k hk => h.ap k (by cases A <;> exact hk)), h.sg, (fun k hk => h.sf k (by cases A <;> exact hk)), h.sl, fun i hi => by rw [World.size_setCell]; exact h.lt i hi, ?_, h.er, h.ae, h.fe⟩, h.butg bg⟩
  · rw [row_set h.row 2]; rfl
  · have e1 := ownsRow_but h.ff bg hF
    have e2 : (d.now.take n).length = n := by rw [List.length_take]; omega
    show World.ownsRow _ 0 5 1 _ (d.now.take n).length ((d.now.take n).map bv)
    rw [e2]
    refine ⟨by rw [List.length_map, e2, Nat.mul_one], ?_⟩
    rcases e1.2 with ⟨h1, h2⟩ | ⟨q, cap, cur, hv, hq, hh, hc, hm, hs, ht⟩
    · injection h1 with h3 h4 h5
      subst h3 h5
      have h6 : n = 0 := by omega
      exact .inl ⟨by rw [h6], h6⟩
    · injection hv with h3 h4 h5
      subst h3 h5
      refine .inr ⟨q, c, cur, rfl, hq, hh, by omega, hm, hs, ?_⟩
      rw [Nat.mul_one] at ht ⊢
      rw [List.map_take, ← ht, List.take_take, show min n d.now.length = n by omega]
  · refine ⟨?_, h.ok.fo, ?_, ?_, h.ok.mo, h.ok.m4, h.ok.fa⟩
    · show d.floor ≤ (d.now.take n).length
      rw [List.length_take]; have := h.ok.fn; omega
    · show (d.now.take n).take d.floor = d.old.take d.floor
      rw [List.take_take, show min d.floor n = d.floor by omega]; exact h.ok.same
    · show (d.now.take n).length ≤ d.most
      rw [List.length_take]; have := h.ok.mx; omega
theorem keep_set {w : World} {g k pb j : Nat} {u v : Value} (hne : pb = g → False) (h : w.cell? ⟨pb, j, none⟩ = some v) : (w.setCell ⟨g, k, none⟩ u).drew.cell? ⟨pb, j, none⟩ = some v :=
  (World.cell?_of_block (Below.heap_setCell w ⟨g, k, none⟩ u pb hne)).trans h
theorem keep_off {w : World} {g k j : Nat} {cs : Array Value} {u v : Value} {t : TypeId} (hr : w.heap[g]? = some (.cells cs t (0, 0))) (h : cs[j]? = some v) (hne : k ≠ j) : (w.setCell ⟨g, k, none⟩ u).drew.cell? ⟨g, j, none⟩ = some v := by
  have := row_cell (row_set hr k u) j
  rw [Array.getElem?_setIfInBounds_ne hne, h] at this
  exact this
theorem keep_alloc {w : World} {p : Addr} {o : Obj} {v : Value} (h : w.cell? p = some v) : (w.alloc o).drew.cell? p = some v :=
  (World.cell?_of_block (Below.heap_alloc w o p.block (lt_of_cell h))).trans h
/-- What a byte's append to the old file's end leaves. -/
theorem DkAt.lost {B : Nat} {S : Nat → Prop} {w W : World} {g pb qb f cF : Nat} {AF : Option Addr} {L v : Value} {d : Dk} {e : Int} {xs : List Value} {n N k : Nat} {x y z : Value} (h : DkAt B S w g (.slice AF N cF) L d e) (ha : Apd w W L v k xs)
    (cp : w.cell? ⟨pb, 0, none⟩ = some x) (cq : w.cell? ⟨qb, 0, none⟩ = some y) (hp : ¬ S pb) (hq : ¬ S qb) :
    W.cell? ⟨pb, 0, none⟩ = some x ∧ W.cell? ⟨qb, 0, none⟩ = some y ∧ W.heap[g]? = some (.cells (dcells g (.slice AF N cF) L d e) 61 (0, 0)) := by
  have hL := own_gne h.ll h.row (by decide)
  have hgL : some g ≠ L.ownBlock := fun e => hL g e.symm rfl
  exact ⟨ha.grown.cell cp (fun e => hp (h.sl _ e.symm)), ha.grown.cell cq (fun e => hq (h.sl _ e.symm)), (ha.grown.block g (lt_of_heap h.row) hgL).trans h.row⟩
set_option maxRecDepth 10000 in
set_option maxHeartbeats 2000000 in
theorem trunc_clo {B : Nat} {S : Nat → Prop} {w : World} {g : Nat} {F L : Value} {d : Dk} {e : Int} (pb qb n : Nat) (h : DkAt B S w g F L d e) (cp : w.cell? ⟨pb, 0, none⟩ = some (.pointer (some ⟨g, 0, none⟩))) (cq : w.cell? ⟨qb, 0, none⟩ = some (.int .i64 (n : Nat)))
    (hp : ¬ S pb) (hq : ¬ S qb) (hn : n ≤ d.now.length) :
    Calls Try.prog 41 #[.pointer (some ⟨pb, 0, none⟩), .pointer (some ⟨qb, 0, none⟩)] w fun r w' => r = .returned (.int .i64 0) ∧ ∃ F' L' S', DkAt B S' w' g F' L' { d with now := d.now.take n, floor := min d.floor n } e ∧ Stp S S' w w' := by
  obtain ⟨AF, cF, hFe⟩ := own_sl h.ff
  subst hFe
  have hfloor : ∀ S' wr L' f, DkAt B S' wr g (.slice AF d.now.length cF) L' { d with floor := f } e → floorOf wr g = f := by
    intro S' wr L' f h1
    unfold floorOf
    rw [h1.cells.2.2.2.1]
    simp [intOf]
  have HFL := hid hfloor
  have hmx := h.ok.mx
  have hm4 := h.ok.m4
  have H0 := hid h
  have Hok := hid h.ok
  have Hn := hid hn
  have Hp := hid (And.intro hp hq)
  have Hc := hid (And.intro cp cq)
  have Hgl := hid (lt_of_heap h.row)
  have Hpg := hid (And.intro (fun e : pb = g => hp (e ▸ h.sg)) (fun e : qb = g => hq (e ▸ h.sg)))
  clear hfloor hn hp hq cp cq h
  go_enter Try.func41, Try.ntmps41
  go_wp2_with fail
  go_loopw [] (fun wr => ∃ (f : Nat) (L' : Value) (S' : Nat → Prop), Hid (f ≤ d.floor ∧ min d.floor n ≤ f) ∧ Hid (DkAt B S' wr g (.slice AF d.now.length cF) L' { d with floor := f } e) ∧ Hid (Stp S S' w wr)) (fun wr => floorOf wr g)
  case atStart => exact ⟨d.floor, L, S, ⟨Nat.le_refl _, Nat.min_le_left _ _⟩, H0, Stp.refl S w⟩
  case round =>
    obtain ⟨f, L', S', hf, hD, hS⟩ := hrel
    have cp := hS.out.but.cell Hc.out.1 Hp.out.1
    have cq := hS.out.but.cell Hc.out.2 Hp.out.2
    have hp' : ¬ S' pb := fun h9 => by rcases hS.out.new _ h9 with h8 | h8; exact Hp.out.1 h8; have := lt_of_cell Hc.out.1; simp at this; omega
    have hq' : ¬ S' qb := fun h9 => by rcases hS.out.new _ h9 with h8 | h8; exact Hp.out.2 h8; have := lt_of_cell Hc.out.2; simp at this; omega
    have HP' := hid (And.intro hp' hq')
    clear hp' hq'
    by_cases hlt : n < f
    · obtain ⟨f, rfl⟩ : ∃ k, f = k + 1 := ⟨f - 1, by omega⟩
      have hfo : f + 1 ≤ d.old.length := hD.out.ok.fo
      have hfn : f + 1 ≤ d.now.length := hD.out.ok.fn
      obtain ⟨_, _, c2, c3, c4, _, _, _, _⟩ := hD.out.cells
      obtain ⟨AL, cL, hLe⟩ := own_sl hD.out.ll
      subst hLe
      obtain ⟨ad, had, hF1⟩ := (own_isBB hD.out.ff (by show d.now.length ≤ _; omega)).elim fun A9 h9 => by
        obtain ⟨c9, e9, h8⟩ := h9
        cases e9
        exact h8.lies (by show 0 < d.now.length; omega)
      obtain ⟨gF, hgF⟩ : ∃ gF, ad = ⟨gF, 0, none⟩ := by
        rcases hD.out.ff.2 with ⟨h9, _⟩ | ⟨q, cap, cur, hv, _⟩
        · rw [had] at h9; cases h9
        · rw [had] at hv; cases hv; exact ⟨q, rfl⟩
      subst had hgF
      have cx := hF1 f (by show f < d.now.length; omega)
      rw [Addr.add_lit, Nat.zero_add] at cx
      have hx : ∀ h : f < d.old.length, d.old[f] = d.now[f]'(by omega) := by
        intro h9
        have hs : d.now.take (f + 1) = d.old.take (f + 1) := hD.out.ok.same
        have h1 : (d.now.take (f + 1))[f]? = (d.old.take (f + 1))[f]? := by rw [hs]
        rw [List.getElem?_take_of_lt (by omega), List.getElem?_take_of_lt (by omega), List.getElem?_eq_getElem (by omega), List.getElem?_eq_getElem h9] at h1
        exact (Option.some.inj h1).symm
      obtain ⟨x, hxe⟩ : ∃ x, x = d.now[f]'(by omega) := ⟨_, rfl⟩
      have cx1 : wr.cell? ⟨gF, f, none⟩ = some (.int .u8 (x.toNat : Int)) := by rw [hxe]; exact cx
      rw [← hxe] at hx
      have Hx := hid hx
      have hgFg : gF ≠ g := own_gne hD.out.ff hD.out.row (by decide) gF rfl
      obtain ⟨r, hr⟩ : ∃ r, r = f + 1 := ⟨_, rfl⟩
      have hrz : (r : Int) ≤ 4194305 := by omega
      have hlz : (n : Int) < (r : Int) := by omega
      have hfz : (f : Int) ≤ 4194304 := by omega
      have hfl : (f : Int) < (d.now.length : Int) := by omega
      have e1 : IntKind.i64.wrap ((r : Int) - 1) = (f : Int) := by rw [IntWalk.i64_in _ (by omega)]; omega
      have hfl2 : f < d.now.length := by omega
      have e2 : IntKind.i64.wrap (f : Int) = (f : Int) := IntWalk.i64_in _ (by omega)
      have Hr := hid hr
      have Hmw := hid (HFL.out _ _ _ _ hD.out)
      have hne := Hpg.out.1
      have hnq := Hpg.out.2
      dsimp only at c3 c2 c4
      have c3 : wr.cell? ⟨g, 3, none⟩ = some (.int .i64 (r : Nat)) := by rw [hr]; exact c3
      clear cx hF1 hx hxe hfo hfn hr
      go_wp2_with fail
      go_quiet (fail)
      go_wp2_with fail
      obtain ⟨w1, hw1⟩ : ∃ w1, w1 = wr.drewN nq := ⟨_, rfl⟩
      have hcw : ∀ p, w1.cell? p = wr.cell? p := by rw [hw1]; intro p; rfl
      have HD1 : Hid (DkAt B S' w1 g (.slice (some ⟨gF, 0, none⟩) d.now.length cF) (.slice AL (d.old.length - (f + 1)) cL) { d with floor := f + 1 } e ∧ Stp S S' w w1) := by
        subst hw1; exact ⟨hD.out.drewN _, hS.out.but.drewN _, hS.out.new⟩
      rw [← hw1]
      rw [← hcw] at cp cq c2 c3 c4 cx1
      have hlen : ((d.old.drop (f + 1)).reverse).length = d.old.length - (f + 1) := by simp
      have hold : d.old.length ≤ 4194304 := by have := Hok.out.mo; omega
      have hba : Below w1.heap.size w1 (w1.alloc (.cells #[.int .u8 (x.toNat : Int)] 5)) := (Below.refl _ w1).alloc (Nat.le_refl _) _
      have HA : Hid (DkAt B S' (w1.alloc (.cells #[.int .u8 (x.toNat : Int)] 5)).drew g (.slice (some ⟨gF, 0, none⟩) d.now.length cF) (.slice AL (d.old.length - (f + 1)) cL) { d with floor := f + 1 } e ∧ Stp S S' w (w1.alloc (.cells #[.int .u8 (x.toNat : Int)] 5)).drew ∧ IsB (w1.alloc (.cells #[.int .u8 (x.toNat : Int)] 5)).drew (some ⟨w1.heap.size, 0, none⟩) 1 1 [x]) :=
        ⟨(HD1.out.1.below hba).drew, ⟨(HD1.out.2.but.trans (.of_below hba) (S' := S) (fun i hi => .inl hi)).drew, HD1.out.2.new⟩, (one_isB w1 x _ rfl).drewN 1⟩
      have H5 : Hid (∀ (W : World) (v : Value), Apd (w1.alloc (.cells #[.int .u8 (x.toNat : Int)] 5)).drew W (.slice AL (d.old.length - (f + 1)) cL) v (d.old.length - (f + 1) + 1) (((d.old.drop (f + 1)).reverse ++ [x]).map bv) →
          (W.cell? ⟨pb, 0, none⟩ = some (.pointer (some ⟨g, 0, none⟩)) ∧ W.cell? ⟨gF, f, none⟩ = some (.int .u8 (x.toNat : Int)) ∧ W.heap[g]? = some (.cells (dcells g (.slice (some ⟨gF, 0, none⟩) d.now.length cF) (.slice AL (d.old.length - (f + 1)) cL) { d with floor := f + 1 } e) 61 (0, 0)) ∧ W.cell? ⟨g, 3, none⟩ = some (.int .i64 (r : Nat)) ∧ (∀ u, (W.setCell ⟨g, 4, none⟩ u).drew.cell? ⟨g, 3, none⟩ = some (.int .i64 (r : Nat))) ∧ W.cell? ⟨g, 4, none⟩ = some (.slice AL (d.old.length - (f + 1)) cL) ∧ W.frozen? ⟨g, 4, none⟩ = false)) := by
        intro W v ha
        have hL := own_gne HA.out.1.ll HA.out.1.row (by decide)
        have hgL : some g ≠ (Value.slice AL (d.old.length - (f + 1)) cL).ownBlock := fun e => hL g e.symm rfl
        have hrw := (ha.grown.block g (lt_of_heap HA.out.1.row) hgL).trans HA.out.1.row
        rw [Hr.out]
        refine ⟨?_, ?_, hrw, row_cell hrw 3, fun u => keep_off hrw rfl (by decide), row_cell hrw 4, row_free hrw 4⟩
        · exact ha.grown.cell (keep_alloc cp) (fun e => HP'.out.1 (HD1.out.1.sl _ e.symm))
        · exact ha.grown.cell (keep_alloc cx1) (fun e => HD1.out.1.ap.swap _ e.symm rfl)
      have c4a : (w1.alloc (.cells #[.int .u8 (x.toNat : Int)] 5)).drew.cell? ⟨g, 4, none⟩ = some (.slice AL (d.old.length - (f + 1)) cL) := keep_alloc c4
      clear hw1 hcw hD hS H0 hba cq hlz
      refine wp_region_held_drew (S := (fun w' => w'.cell? ⟨pb, 0, none⟩ = some (.pointer (some ⟨g, 0, none⟩)) ∧ w'.cell? ⟨g, 2, none⟩ = some (.slice (some ⟨gF, 0, none⟩) d.now.length cF) ∧ w'.cell? ⟨g, 3, none⟩ = some (.int .i64 (r : Nat)) ∧ w'.cell? ⟨gF, f, none⟩ = some (.int .u8 (x.toNat : Int)))) (by kernel_rfl) ⟨cp, c2, c3, cx1⟩ (fun hH => ?_)
      refine wpAnyH_take (i := 0) (oi := ⟨some 16, _, _, _, _, _⟩) (v := .pointer (some ⟨g, 0, none⟩)) rfl (by kernel_rfl) (by kernel_rfl) (by kernel_rfl) (fun _ _ _ h => h) (Or.inl ⟨by rfl, by intro w hSw; go_simp⟩) hH ?_
      try simp only [Act.put, List.setIfInBounds_toArray, List.set_cons_zero, List.set_cons_succ]
      refine wpAnyH_take (i := 1) (oi := ⟨some 17, _, _, _, _, _⟩) (v := .pointer (some ⟨g, 0, none⟩)) rfl (by kernel_rfl) (by kernel_rfl) (by kernel_rfl) (fun _ _ _ h => h) (Or.inl ⟨by rfl, by intro w hSw; go_simp⟩) hH ?_
      try simp only [Act.put, List.setIfInBounds_toArray, List.set_cons_zero, List.set_cons_succ]
      refine wpAnyH_take (i := 5) (oi := ⟨some 21, _, _, _, _, _⟩) (v := .pointer (some ⟨g, 0, none⟩)) rfl (by kernel_rfl) (by kernel_rfl) (by kernel_rfl) (fun _ _ _ h => h) (Or.inl ⟨by rfl, by intro w hSw; go_simp⟩) hH ?_
      try simp only [Act.put, List.setIfInBounds_toArray, List.set_cons_zero, List.set_cons_succ]
      refine wpAnyH_take (i := 9) (oi := ⟨some 25, _, _, _, _, _⟩) (v := .pointer (some ⟨g, 0, none⟩)) rfl (by kernel_rfl) (by kernel_rfl) (by kernel_rfl) (fun _ _ _ h => h) (Or.inl ⟨by rfl, by intro w hSw; go_simp⟩) hH ?_
      try simp only [Act.put, List.setIfInBounds_toArray, List.set_cons_zero, List.set_cons_succ]
      refine wpAnyH_take (i := 2) (oi := ⟨some 18, _, _, _, _, _⟩) (v := .pointer (some ⟨g, 0, none⟩)) rfl (by kernel_rfl) (by kernel_rfl) (by kernel_rfl) (fun _ _ _ h => h) (Or.inl ⟨by rfl, by intro w hSw; go_simp⟩) hH ?_
      try simp only [Act.put, List.setIfInBounds_toArray, List.set_cons_zero, List.set_cons_succ]
      refine wpAnyH_take (i := 3) (oi := ⟨some 19, _, _, _, _, _⟩) (v := .pointer (some ⟨g, 4, none⟩)) rfl (by kernel_rfl) (by kernel_rfl) (by kernel_rfl) (fun _ _ _ h => h) (Or.inl ⟨by rfl, by intro w hSw; go_simp⟩) hH ?_
      try simp only [Act.put, List.setIfInBounds_toArray, List.set_cons_zero, List.set_cons_succ]
      refine wpAnyH_take (i := 6) (oi := ⟨some 22, _, _, _, _, _⟩) (v := .pointer (some ⟨g, 0, none⟩)) rfl (by kernel_rfl) (by kernel_rfl) (by kernel_rfl) (fun _ _ _ h => h) (Or.inl ⟨by rfl, by intro w hSw; go_simp⟩) hH ?_
      try simp only [Act.put, List.setIfInBounds_toArray, List.set_cons_zero, List.set_cons_succ]
      refine wpAnyH_take (i := 7) (oi := ⟨some 23, _, _, _, _, _⟩) (v := .pointer (some ⟨g, 2, none⟩)) rfl (by kernel_rfl) (by kernel_rfl) (by kernel_rfl) (fun _ _ _ h => h) (Or.inl ⟨by rfl, by intro w hSw; go_simp⟩) hH ?_
      try simp only [Act.put, List.setIfInBounds_toArray, List.set_cons_zero, List.set_cons_succ]
      refine wpAnyH_take (i := 8) (oi := ⟨some 24, _, _, _, _, _⟩) (v := .slice (some ⟨gF, 0, none⟩) d.now.length cF) rfl (by kernel_rfl) (by kernel_rfl) (by kernel_rfl) (fun _ _ _ h => h) (Or.inl ⟨by rfl, by intro w hSw; go_simp⟩) hH ?_
      try simp only [Act.put, List.setIfInBounds_toArray, List.set_cons_zero, List.set_cons_succ]
      refine wpAnyH_take (i := 10) (oi := ⟨some 26, _, _, _, _, _⟩) (v := .pointer (some ⟨g, 0, none⟩)) rfl (by kernel_rfl) (by kernel_rfl) (by kernel_rfl) (fun _ _ _ h => h) (Or.inl ⟨by rfl, by intro w hSw; go_simp⟩) hH ?_
      try simp only [Act.put, List.setIfInBounds_toArray, List.set_cons_zero, List.set_cons_succ]
      refine wpAnyH_take (i := 11) (oi := ⟨some 27, _, _, _, _, _⟩) (v := .pointer (some ⟨g, 3, none⟩)) rfl (by kernel_rfl) (by kernel_rfl) (by kernel_rfl) (fun _ _ _ h => h) (Or.inl ⟨by rfl, by intro w hSw; go_simp⟩) hH ?_
      try simp only [Act.put, List.setIfInBounds_toArray, List.set_cons_zero, List.set_cons_succ]
      refine wpAnyH_take (i := 12) (oi := ⟨some 28, _, _, _, _, _⟩) (v := .int .i64 (r : Nat)) rfl (by kernel_rfl) (by kernel_rfl) (by kernel_rfl) (fun _ _ _ h => h) (Or.inl ⟨by rfl, by intro w hSw; go_simp⟩) hH ?_
      try simp only [Act.put, List.setIfInBounds_toArray, List.set_cons_zero, List.set_cons_succ]
      refine wpAnyH_take (i := 13) (oi := ⟨some 29, _, _, _, _, _⟩) (v := .int .i64 (f : Nat)) rfl (by kernel_rfl) (by kernel_rfl) (by kernel_rfl) (fun _ _ _ h => h) (Or.inl ⟨by rfl, by intro w hSw; go_simp⟩) hH ?_
      try simp only [Act.put, List.setIfInBounds_toArray, List.set_cons_zero, List.set_cons_succ]
      refine wpAnyH_take (i := 14) (oi := ⟨some 30, _, _, _, _, _⟩) (v := .pointer (some ⟨gF, f, none⟩)) rfl (by kernel_rfl) (by kernel_rfl) (by kernel_rfl) (fun _ _ _ h => h) (Or.inl ⟨by rfl, by intro w hSw; go_simp⟩) hH ?_
      try simp only [Act.put, List.setIfInBounds_toArray, List.set_cons_zero, List.set_cons_succ]
      refine wpAnyH_take (i := 15) (oi := ⟨some 31, _, _, _, _, _⟩) (v := .int .u8 (x.toNat : Int)) rfl (by kernel_rfl) (by kernel_rfl) (by kernel_rfl) (fun _ _ _ h => h) (Or.inl ⟨by rfl, by intro w hSw; go_simp⟩) hH ?_
      try simp only [Act.put, List.setIfInBounds_toArray, List.set_cons_zero, List.set_cons_succ]
      refine wpAnyH_ready (rs := [4, 16]) (by kernel_rfl) (by simp) (AllReadyH.cons rfl (fun K hK => ?_) (AllReadyH.cons rfl (fun K hK => ?_) AllReadyH.nil))
      · go_simp
        refine hK.out _ _ hH (fun hH2 => ?_)
        clear hK K
        refine wpAnyH_ready (rs := [16]) (by kernel_rfl) (by simp) (AllReadyH.cons rfl (fun K hK => ?_) AllReadyH.nil)
        go_simp
        refine hK.out _ _ ⟨keep_alloc cp, keep_alloc c2, keep_alloc c3, keep_alloc cx1⟩ (fun hH3 => ?_)
        clear hK K
        refine wpAnyH_ready (rs := [17]) (by kernel_rfl) (by simp) (AllReadyH.cons rfl (fun K hK => ?_) AllReadyH.nil)
        refine step_append_dk rfl (.tmp 20) (.tmp 32) rfl (w1.alloc (.cells #[.int .u8 (x.toNat : Int)] 5)).drew _ (d.old.length - (f + 1)) _ rfl HA.out.1.ll (some ⟨w1.heap.size, 0, none⟩) 1 1 [x] rfl HA.out.2.2 (by omega) ?_
        intro A2 n2 W2 hA2
        obtain ⟨q1, q2, q3, q4, q5, q6, q7⟩ := H5.out _ _ hA2.out
        refine hK.out _ _ ⟨q1, row_cell q3 2, q4, q2⟩ (fun hH4 => ?_)
        clear hK K
        refine wpAnyH_take (i := 18) (oi := ⟨some 34, _, _, _, _, _⟩) (v := .pointer (some ⟨g, 0, none⟩)) rfl (by kernel_rfl) (by kernel_rfl) (by kernel_rfl) (fun _ _ _ h => h) (Or.inl ⟨by rfl, by intro w hSw; go_simp⟩) hH4 ?_
        try simp only [Act.put, List.setIfInBounds_toArray, List.set_cons_zero, List.set_cons_succ]
        refine wpAnyH_take (i := 19) (oi := ⟨some 35, _, _, _, _, _⟩) (v := .pointer (some ⟨g, 4, none⟩)) rfl (by kernel_rfl) (by kernel_rfl) (by kernel_rfl) (fun _ _ _ h => h) (Or.inl ⟨by rfl, by intro w hSw; go_simp⟩) hH4 ?_
        try simp only [Act.put, List.setIfInBounds_toArray, List.set_cons_zero, List.set_cons_succ]
        refine wpAnyH_ready (rs := [20]) (by kernel_rfl) (by simp) (AllReadyH.cons rfl (fun K hK => ?_) AllReadyH.nil)
        go_simp
        refine hK.out _ _ ⟨keep_set hne q1, keep_off q3 rfl (by decide), q5 _, keep_set hgFg q2⟩ (fun hH5 => ?_)
        clear hK K
        refine wpAnyH_done (by kernel_rfl) ?_ _
        obtain ⟨k1, k2⟩ := HA.out.1.fall Hx.out hA2.out
        have fr3 : (W2.setCell ⟨g, 4, none⟩ (.slice A2 (d.old.length - (f + 1) + 1) n2)).frozen? ⟨g, 3, none⟩ = false := row_free (row_set q3 4 _) 3
        have cr3 : (W2.setCell ⟨g, 4, none⟩ (.slice A2 (d.old.length - (f + 1) + 1) n2)).cell? ⟨g, 3, none⟩ = some (.int .i64 (r : Nat)) := q5 _
        have cp3 : (W2.setCell ⟨g, 4, none⟩ (.slice A2 (d.old.length - (f + 1) + 1) n2)).cell? ⟨pb, 0, none⟩ = some (.pointer (some ⟨g, 0, none⟩)) := keep_set hne q1
        have HK := hid (And.intro k1 (HA.out.2.1.trans k2))
        clear k1 k2 hH hH3 hH4 hH5 q1 q2 q3 q4 q5 q6 q7 hA2 H5 HA
        generalize (W2.setCell ⟨g, 4, none⟩ (.slice A2 (d.old.length - (f + 1) + 1) n2)) = W3 at fr3 cr3 cp3 HK ⊢
        go_wp2_with fail
        go_roundw
        case rel => exact ⟨f, _, _, by have := hf.out; exact ⟨by omega, by omega⟩, HK.out.1, HK.out.2⟩
        case measure =>
          rw [HFL.out _ _ _ _ HK.out.1, Hmw.out]
          omega
      · go_simp
        refine hK.out _ _ ⟨keep_alloc cp, keep_alloc c2, keep_alloc c3, keep_alloc cx1⟩ (fun hH3 => ?_)
        clear hK K
        refine wpAnyH_ready (rs := [4]) (by kernel_rfl) (by simp) (AllReadyH.cons rfl (fun K hK => ?_) AllReadyH.nil)
        go_simp
        refine hK.out _ _ hH3 (fun hH2 => ?_)
        clear hK K
        refine wpAnyH_ready (rs := [17]) (by kernel_rfl) (by simp) (AllReadyH.cons rfl (fun K hK => ?_) AllReadyH.nil)
        refine step_append_dk rfl (.tmp 20) (.tmp 32) rfl (w1.alloc (.cells #[.int .u8 (x.toNat : Int)] 5)).drew _ (d.old.length - (f + 1)) _ rfl HA.out.1.ll (some ⟨w1.heap.size, 0, none⟩) 1 1 [x] rfl HA.out.2.2 (by omega) ?_
        intro A2 n2 W2 hA2
        obtain ⟨q1, q2, q3, q4, q5, q6, q7⟩ := H5.out _ _ hA2.out
        refine hK.out _ _ ⟨q1, row_cell q3 2, q4, q2⟩ (fun hH4 => ?_)
        clear hK K
        refine wpAnyH_take (i := 18) (oi := ⟨some 34, _, _, _, _, _⟩) (v := .pointer (some ⟨g, 0, none⟩)) rfl (by kernel_rfl) (by kernel_rfl) (by kernel_rfl) (fun _ _ _ h => h) (Or.inl ⟨by rfl, by intro w hSw; go_simp⟩) hH4 ?_
        try simp only [Act.put, List.setIfInBounds_toArray, List.set_cons_zero, List.set_cons_succ]
        refine wpAnyH_take (i := 19) (oi := ⟨some 35, _, _, _, _, _⟩) (v := .pointer (some ⟨g, 4, none⟩)) rfl (by kernel_rfl) (by kernel_rfl) (by kernel_rfl) (fun _ _ _ h => h) (Or.inl ⟨by rfl, by intro w hSw; go_simp⟩) hH4 ?_
        try simp only [Act.put, List.setIfInBounds_toArray, List.set_cons_zero, List.set_cons_succ]
        refine wpAnyH_ready (rs := [20]) (by kernel_rfl) (by simp) (AllReadyH.cons rfl (fun K hK => ?_) AllReadyH.nil)
        go_simp
        refine hK.out _ _ ⟨keep_set hne q1, keep_off q3 rfl (by decide), q5 _, keep_set hgFg q2⟩ (fun hH5 => ?_)
        clear hK K
        refine wpAnyH_done (by kernel_rfl) ?_ _
        obtain ⟨k1, k2⟩ := HA.out.1.fall Hx.out hA2.out
        have fr3 : (W2.setCell ⟨g, 4, none⟩ (.slice A2 (d.old.length - (f + 1) + 1) n2)).frozen? ⟨g, 3, none⟩ = false := row_free (row_set q3 4 _) 3
        have cr3 : (W2.setCell ⟨g, 4, none⟩ (.slice A2 (d.old.length - (f + 1) + 1) n2)).cell? ⟨g, 3, none⟩ = some (.int .i64 (r : Nat)) := q5 _
        have cp3 : (W2.setCell ⟨g, 4, none⟩ (.slice A2 (d.old.length - (f + 1) + 1) n2)).cell? ⟨pb, 0, none⟩ = some (.pointer (some ⟨g, 0, none⟩)) := keep_set hne q1
        have HK := hid (And.intro k1 (HA.out.2.1.trans k2))
        clear k1 k2 hH hH3 hH4 hH5 q1 q2 q3 q4 q5 q6 q7 hA2 H5 HA
        generalize (W2.setCell ⟨g, 4, none⟩ (.slice A2 (d.old.length - (f + 1) + 1) n2)) = W3 at fr3 cr3 cp3 HK ⊢
        go_wp2_with fail
        go_roundw
        case rel => exact ⟨f, _, _, by have := hf.out; exact ⟨by omega, by omega⟩, HK.out.1, HK.out.2⟩
        case measure =>
          rw [HFL.out _ _ _ _ HK.out.1, Hmw.out]
          omega
    · have c3 := hD.out.cells.2.2.2.1
      have c2 := hD.out.cells.2.2.1
      have hl1 : ¬ ((n : Int) < (f : Int)) := by omega
      have hcut := slice_cut AF d.now.length cF n (by have := hD.out.ff; obtain ⟨A9, c9, e9, h9, _⟩ := own_slice this; cases e9; have h10 : d.now.length ≤ cF := h9; have := Hn.out; omega)
      have hfe : f = min d.floor n := by have := hf.out; omega
      have Hfe := hid hfe
      clear hfe hlt
      have hne := Hpg.out.1
      have hnq := Hpg.out.2
      dsimp only at c3
      go_wp2_with fail
      go_quiet (fail)
      go_wp2_with fail
      obtain ⟨w1, hw1⟩ : ∃ w1, w1 = wr.drewN nq := ⟨_, rfl⟩
      have hcw : ∀ p, w1.cell? p = wr.cell? p := by rw [hw1]; intro p; rfl
      have HD1 : Hid (DkAt B S' w1.drew g (.slice AF d.now.length cF) L' { d with floor := f } e ∧ Stp S S' w w1.drew) := by
        subst hw1; exact ⟨(hD.out.drewN _).drew, hS.out.but.drewN _ |>.drew, hS.out.new⟩
      rw [← hw1]
      rw [← hcw] at cp cq c2 c3
      have f2 := row_free HD1.out.1.row 2
      clear hw1 hcw hD hS c3 H0
      refine wp_region_held_drew (S := (fun w' => w'.cell? ⟨pb, 0, none⟩ = some (.pointer (some ⟨g, 0, none⟩)) ∧ w'.cell? ⟨qb, 0, none⟩ = some (.int .i64 (n : Nat)))) (by kernel_rfl) ⟨cp, cq⟩ (fun hH => ?_)
      refine wpAnyH_take (i := 0) (oi := ⟨some 36, _, _, _, _, _⟩) (v := .pointer (some ⟨g, 0, none⟩)) rfl (by kernel_rfl) (by kernel_rfl) (by kernel_rfl) (fun _ _ _ h => h) (Or.inl ⟨by rfl, by intro w hSw; go_simp⟩) hH ?_
      try simp only [Act.put, List.setIfInBounds_toArray, List.set_cons_zero, List.set_cons_succ]
      refine wpAnyH_take (i := 1) (oi := ⟨some 37, _, _, _, _, _⟩) (v := .pointer (some ⟨g, 0, none⟩)) rfl (by kernel_rfl) (by kernel_rfl) (by kernel_rfl) (fun _ _ _ h => h) (Or.inl ⟨by rfl, by intro w hSw; go_simp⟩) hH ?_
      try simp only [Act.put, List.setIfInBounds_toArray, List.set_cons_zero, List.set_cons_succ]
      refine wpAnyH_take (i := 2) (oi := ⟨some 38, _, _, _, _, _⟩) (v := .pointer (some ⟨g, 0, none⟩)) rfl (by kernel_rfl) (by kernel_rfl) (by kernel_rfl) (fun _ _ _ h => h) (Or.inl ⟨by rfl, by intro w hSw; go_simp⟩) hH ?_
      try simp only [Act.put, List.setIfInBounds_toArray, List.set_cons_zero, List.set_cons_succ]
      refine wpAnyH_take (i := 3) (oi := ⟨some 39, _, _, _, _, _⟩) (v := .pointer (some ⟨g, 2, none⟩)) rfl (by kernel_rfl) (by kernel_rfl) (by kernel_rfl) (fun _ _ _ h => h) (Or.inl ⟨by rfl, by intro w hSw; go_simp⟩) hH ?_
      try simp only [Act.put, List.setIfInBounds_toArray, List.set_cons_zero, List.set_cons_succ]
      refine wpAnyH_take (i := 5) (oi := ⟨some 41, _, _, _, _, _⟩) (v := .int .i64 (n : Nat)) rfl (by kernel_rfl) (by kernel_rfl) (by kernel_rfl) (fun _ _ _ h => h) (Or.inl ⟨by rfl, by intro w hSw; go_simp⟩) hH ?_
      try simp only [Act.put, List.setIfInBounds_toArray, List.set_cons_zero, List.set_cons_succ]
      refine wpAnyH_ready (rs := [4]) (by kernel_rfl) (by simp) (AllReadyH.cons rfl (fun K hK => ?_) AllReadyH.nil)
      go_simp
      refine hK.out _ _ hH (fun hH2 => ?_)
      clear hK K
      refine wpAnyH_take (i := 6) (oi := ⟨some 42, _, _, _, _, _⟩) (v := .slice AF n cF) rfl (by kernel_rfl) (by kernel_rfl) (by kernel_rfl) (fun _ _ _ h => h) (Or.inl ⟨by rfl, by intro w hSw; go_simp⟩) hH2 ?_
      try simp only [Act.put, List.setIfInBounds_toArray, List.set_cons_zero, List.set_cons_succ]
      refine wpAnyH_take (i := 7) (oi := ⟨some 43, _, _, _, _, _⟩) (v := .pointer (some ⟨g, 0, none⟩)) rfl (by kernel_rfl) (by kernel_rfl) (by kernel_rfl) (fun _ _ _ h => h) (Or.inl ⟨by rfl, by intro w hSw; go_simp⟩) hH2 ?_
      try simp only [Act.put, List.setIfInBounds_toArray, List.set_cons_zero, List.set_cons_succ]
      refine wpAnyH_take (i := 8) (oi := ⟨some 44, _, _, _, _, _⟩) (v := .pointer (some ⟨g, 2, none⟩)) rfl (by kernel_rfl) (by kernel_rfl) (by kernel_rfl) (fun _ _ _ h => h) (Or.inl ⟨by rfl, by intro w hSw; go_simp⟩) hH2 ?_
      try simp only [Act.put, List.setIfInBounds_toArray, List.set_cons_zero, List.set_cons_succ]
      refine wpAnyH_ready (rs := [9]) (by kernel_rfl) (by simp) (AllReadyH.cons rfl (fun K hK => ?_) AllReadyH.nil)
      go_simp
      refine hK.out _ _ ⟨keep_set hne cp, keep_set hnq cq⟩ (fun hH3 => ?_)
      clear hK K hH hH2 hH3
      refine wpAnyH_done (by kernel_rfl) ?_ _
      go_wp2_with fail
      go_ret
      have k1 := DkAt.cut (d := { d with floor := f }) HD1.out.1 Hn.out (by have := Hfe.out; show f ≤ n; omega)
      rw [Hfe.out] at k1
      exact ⟨rfl, _, _, _, k1.1, HD1.out.2.trans (.of_but k1.2)⟩
end Go.Proofs.Ytgccjclloomfgaa
