/-
  Put's closure: a number is put behind the bytes that there are.
-/
import Derived.Test.YtnanmdfbgoahjaaKit
import Derived.Test.YtnanmdfbgoahjaaApp
import Derived.Deep.RegionLaw
namespace Go.Proofs.Ytnanmdfbgoahjaa
open Go.RowKit

/-- The variable 'out' in block g: a list v of the call's own, of these bytes. -/
structure PuAt (w0 w : World) (g : Nat) (v : Value) (X : List UInt8) : Prop where
  own : w.ownsRow w0.heap.size 5 1 v X.length (X.map bv)
  row : w.heap[g]? = some (.cells #[v] 23 (0, 0))
  low : w0.heap.size ≤ g
  bel : Below w0.heap.size w0 w
/-- What is no list of bytes, and not block g, stays. -/
structure Sty (g : Nat) (w w' : World) : Prop where
  size : w.heap.size ≤ w'.heap.size
  block : ∀ k, k < w.heap.size → k ≠ g → (∀ cs fl, w.heap[k]? ≠ some (.cells cs 5 fl)) → w'.heap[k]? = w.heap[k]?
theorem Sty.refl (g : Nat) (w : World) : Sty g w w := ⟨Nat.le_refl _, fun _ _ _ _ => rfl⟩
theorem Sty.trans {g : Nat} {w w' w'' : World} (h : Sty g w w') (k : Sty g w' w'') : Sty g w w'' :=
  ⟨Nat.le_trans h.size k.size, fun i hi hg hn => by
    have e := h.block i hi hg hn
    exact (k.block i (Nat.lt_of_lt_of_le hi h.size) hg (fun cs fl h5 => hn cs fl (e ▸ h5))).trans e⟩
theorem Sty.of_below {g : Nat} {w w' : World} (h : Below w.heap.size w w') : Sty g w w' := ⟨h.size, fun k hk _ _ => h.block k hk⟩
theorem Sty.row {g k : Nat} {w w' : World} {cs : Array Value} {t : TypeId} {fl : Nat × Nat} (h : Sty g w w') (hk : w.heap[k]? = some (.cells cs t fl)) (hg : k ≠ g) (ht : t ≠ 5) : w'.heap[k]? = some (.cells cs t fl) :=
  (h.block k (lt_of_heap hk) hg (fun cs' fl' h5 => ht (by rw [hk] at h5; injection h5 with h5; injection h5))).trans hk
theorem own_ne {w : World} {base e s n g : Nat} {v : Value} {xs : List Value} {cs : Array Value} {t : TypeId} {fl : Nat × Nat} (h : w.ownsRow base e s v n xs) (hg : w.heap[g]? = some (.cells cs t fl)) (ht : t ≠ e) : v.ownBlock ≠ some g := by
  intro hv
  rcases h.2 with ⟨rfl, _⟩ | ⟨g', cap, cur, rfl, _, hh, _⟩
  · simp [Value.ownBlock] at hv
  · have : g' = g := by simpa [Value.ownBlock] using hv
    subst this
    rw [hg] at hh
    injection hh with hh
    injection hh with _ h2
    exact ht h2
theorem own_set {w : World} {base e s n g : Nat} {v u : Value} {xs : List Value} (h : w.ownsRow base e s v n xs) (hne : v.ownBlock ≠ some g) (i : Nat) : (w.setCell ⟨g, i, none⟩ u).ownsRow base e s v n xs := by
  refine ⟨h.1, ?_⟩
  rcases h.2 with h | ⟨g', cap, cur, rfl, hb, hh, r⟩
  · exact .inl h
  · refine .inr ⟨g', cap, cur, rfl, hb, ?_, r⟩
    rw [heap_setCell_other _ _ _ _ (by show g' ≠ g; intro e; exact hne (by rw [e]; rfl))]
    exact hh
theorem put_step {w0 w W2 : World} {g : Nat} {v v' : Value} {X : List UInt8} {b : UInt8} (h : PuAt w0 w g v X) (hown : W2.ownsRow w0.heap.size 5 1 v' (X.length + 1) ((X ++ [b]).map bv))
    (hg : (w.alloc (.cells #[.int .u8 (b.toNat : Int)] 5)).drew.grownBy W2 v.ownBlock) :
    (W2.cell? ⟨g, 0, none⟩ = some v ∧ W2.frozen? ⟨g, 0, none⟩ = false) ∧ PuAt w0 (W2.setCell ⟨g, 0, none⟩ v') g v' (X ++ [b]) ∧ Sty g w (W2.setCell ⟨g, 0, none⟩ v') := by
  have hlt := lt_of_heap h.row
  have hne : some g ≠ v.ownBlock := fun e => own_ne h.own h.row (by decide) e.symm
  have hz : (w.alloc (.cells #[.int .u8 (b.toNat : Int)] 5)).drew.heap.size = w.heap.size + 1 := by simp
  have r2 : W2.heap[g]? = some (.cells #[v] 23 (0, 0)) :=
    (hg.block g (by rw [hz]; omega) hne).trans ((heap_alloc_old w _ hlt).trans h.row)
  have hb2 : Below w0.heap.size w0 W2 := ((h.bel.alloc h.bel.size _).drew).grown hg (by rw [hz]; have := h.bel.size; omega) (fun q hq => (h.own.lt q hq).1)
  refine ⟨⟨row_cell r2 0, row_free r2 0⟩, ⟨?_, by rw [row_set r2 0]; rfl, h.low, ?_⟩, ?_, ?_⟩
  · rw [List.length_append]
    exact own_set hown (own_ne hown r2 (by decide)) 0
  · exact ⟨hb2.os, hb2.tape, hb2.output, by rw [World.size_setCell]; exact hb2.size, fun i hi => by
      rw [heap_setCell_other _ _ _ _ (by show i ≠ g; have := h.low; omega)]; exact hb2.block i hi⟩
  · rw [World.size_setCell]; have := hg.size; rw [hz] at this; omega
  · intro k hk hkg h5
    rw [heap_setCell_other _ _ _ _ (by show k ≠ g; exact hkg)]
    refine (hg.block k (by rw [hz]; omega) ?_).trans (heap_alloc_old w _ hk)
    intro e
    rcases h.own.2 with ⟨rfl, _⟩ | ⟨g', cap, cur, rfl, _, hh, _⟩
    · simp [Value.ownBlock] at e
    · have : k = g' := by simpa [Value.ownBlock] using e
      subst this
      exact h5 _ _ hh
theorem step_put1 {ops : Array Oper} {o : Oper} {a : Act} {K : Act → World → Prop} {Q : Exit → Act → World → Prop} {E : Prop} (hgd : o.guard = none) (s x : Operand)
    (ho : o.op = .call { callee := .builtin .append, args := #[s, x], argTypes := #[23, 23] }) (w0 w : World) (g : Nat) (v : Value) (X : List UInt8) (b : UInt8) (hs : a.eval s = v) (h : PuAt w0 w g v X)
    (hx : a.eval x = .slice (some ⟨w.heap.size, 0, none⟩) 1 1) (hX : X.length ≤ 1000000) (W : World) (hW : W = (w.alloc (.cells #[.int .u8 (b.toNat : Int)] 5)).drew)
    (hK : ∀ A' c' W2, Hid (W2.ownsRow w0.heap.size 5 1 (.slice A' (X.length + 1) c') (X.length + 1) ((X ++ [b]).map bv)) → Hid ((w.alloc (.cells #[.int .u8 (b.toNat : Int)] 5)).drew.grownBy W2 v.ownBlock) → K (a.put o.dst (.slice A' (X.length + 1) c')) W2) :
    if Region.wanted o (yielded ops a.tmps) = true then Oper.wp Try.prog o a W K Q else E := by
  subst hW
  have hw : Region.wanted o (yielded ops a.tmps) = true := by simp [Region.wanted, hgd]
  rw [if_pos hw]
  have hB := (one_isB w b _ rfl).drewN 1
  obtain ⟨v', w', hr, h2, h3, _, _⟩ := run_append_fresh (ty := o.type) ((h.own.alloc _).drew) ⟨w.heap.size, 0, none⟩ 1 1 [bv b] rfl (one_cell w b _ rfl) (bv_one [b]) (by omega) (by have := h.bel.size; simp; omega)
  unfold Oper.wp execOp
  simp only [ho, resolve, invoke, builtin, Sem.run_bind, Sem.run_pure, Result.andThen_ok, List.map_toArray, List.map_cons, List.map_nil, hs, hx]
  rw [hr]
  obtain ⟨A', c', rfl, _⟩ := own_slice h2
  exact hK _ _ _ (by rw [List.map_append]; exact h2) h3
def b8 (n : Int) : UInt8 := UInt8.ofNat (n % 256).toNat
theorem b8_int (n : Int) : IntKind.u8.wrap n = ((b8 n).toNat : Int) := by
  rw [show IntKind.u8.wrap n = n % 256 from rfl]
  unfold b8
  rw [UInt8.toNat_ofNat']
  omega
def nb (n : Int) (b : Nat) : List UInt8 := if b = 1 then [b8 n] else [b8 (n / 256), b8 n]
set_option maxRecDepth 10000 in
set_option maxHeartbeats 2000000 in
theorem number_any {w0 w : World} {g : Nat} {v : Value} {X : List UInt8} (n : Int) (b : Nat) (hb : b = 1 ∨ b = 2) (h : PuAt w0 w g v X) (hX : X.length ≤ 900000) :
    Calls Try.prog 18 #[.int .i64 n, .int .i64 b, .pointer (some ⟨g, 0, none⟩)] w fun e w' => e = .returned noResult ∧ ∃ v', PuAt w0 w' g v' (X ++ nb n b) ∧ Sty g w w' := by
  have HX := hid hX
  clear hX
  have HS : Hid (∃ v' Y, Y = X ++ (nb n b).take 0 ∧ PuAt w0 w g v' Y ∧ Sty g w w) := ⟨v, X, by rw [List.take_zero, List.append_nil], h, Sty.refl g w⟩
  clear h
  have z0 : IntKind.i64.wrap 0 = 0 := rfl
  have z8 : IntKind.i64.wrap 8 = 8 := rfl
  have HN := hid (b8_int n)
  have HM := hid (b8_int (n / 256))
  rcases hb with rfl | rfl
  · rw [show ((1 : Nat) : Int) = 1 from rfl]
    go_enter Try.func18, Try.ntmps18
    go_wp2_with fail
    go_loopw [5] (fun vi wr => ∃ (j : Nat) (t : Int), j ≤ 1 ∧ vi = .int .i64 t ∧ t = 0 - (j : Int) ∧ Hid (∃ v' Y, Y = X ++ (nb n 1).take j ∧ PuAt w0 wr g v' Y ∧ Sty g w wr)) (fun vi _ => (intOf vi + 1).toNat)
    case atStart => exact ⟨0, 0, Nat.zero_le _, rfl, rfl, HS⟩
    case round =>
      obtain ⟨j, t, hj, rfl, ht, hs⟩ := hrel
      by_cases hgo : j = 0
      · obtain rfl : j = 0 := hgo
        obtain rfl : t = 0 := by omega
        obtain ⟨v1, Y, hY, p1, s1⟩ := hs.out
        have HY := hid hY
        have c1 : wr.cell? ⟨g, 0, none⟩ = some v1 := row_cell p1.row 0
        have c2 : ∀ o, (wr.alloc o).cell? ⟨g, 0, none⟩ = some v1 := fun o => (World.cell?_of_block (heap_alloc_old wr o (lt_of_heap p1.row))).trans c1
        have P1 := hid p1
        have S1 := hid s1
        clear p1 s1 HS ht hs hY
        go_wp2_with fail
        go_region_law (refine step_put1 rfl (.tmp 12) (.tmp 18) rfl w0 wr g v1 _ (b8 n) rfl P1.out rfl (by have := HX.out; rw [HY.out]; simp; omega) _ (by rw [HN.out]) ?_; intro A2 c2 W2 g1 g2; have G := put_step P1.out g1.out g2.out; have q1 := G.1.1; have q2 := G.1.2; have G2 := hid G.2; clear G)
        all_goals obtain ⟨G3, G4⟩ := G2.out
        go_wp2_with fail
        all_goals exact ⟨⟨1, -1, by omega, rfl, by omega, _, _, by rw [HY.out]; simp [nb], G3, S1.out.trans G4⟩, by simp [intOf]⟩
      · obtain rfl : j = 1 := by omega
        obtain ⟨v1, Y, hY, p1, s1⟩ := hs.out
        have e : Y = X ++ nb n 1 := by rw [hY]; simp [nb]
        rw [e] at p1
        clear hY
        have hz : ¬ (0 : Int) ≤ t := by omega
        clear HS hs ht e
        go_wp2_with fail
        go_end0
        exact ⟨rfl, ⟨_, p1⟩, s1⟩
  · have HP := hid (show (X ++ (nb n 2).take 1) ++ [b8 n] = X ++ nb n 2 by simp [nb])
    rw [show ((2 : Nat) : Int) = 2 from rfl]
    go_enter Try.func18, Try.ntmps18
    go_wp2_with fail
    go_loopw [5] (fun vi wr => ∃ (j : Nat) (t : Int), j ≤ 2 ∧ vi = .int .i64 t ∧ t = 1 - (j : Int) ∧ Hid (∃ v' Y, Y = X ++ (nb n 2).take j ∧ PuAt w0 wr g v' Y ∧ Sty g w wr)) (fun vi _ => (intOf vi + 1).toNat)
    case atStart => exact ⟨0, 1, Nat.zero_le _, rfl, rfl, HS⟩
    case round =>
      obtain ⟨j, t, hj, rfl, ht, hs⟩ := hrel
      rcases (by omega : j = 0 ∨ j = 1 ∨ j = 2) with rfl | rfl | rfl
      · obtain rfl : t = 1 := by omega
        obtain ⟨v1, Y, hY, p1, s1⟩ := hs.out
        have HY := hid hY
        have c1 : wr.cell? ⟨g, 0, none⟩ = some v1 := row_cell p1.row 0
        have c2 : ∀ o, (wr.alloc o).cell? ⟨g, 0, none⟩ = some v1 := fun o => (World.cell?_of_block (heap_alloc_old wr o (lt_of_heap p1.row))).trans c1
        have P1 := hid p1
        have S1 := hid s1
        clear p1 s1 HS ht hs hY
        go_wp2_with fail
        go_region_law (refine step_put1 rfl (.tmp 12) (.tmp 18) rfl w0 wr g v1 _ (b8 (n / 256)) rfl P1.out rfl (by have := HX.out; rw [HY.out]; simp; omega) _ (by rw [HM.out]) ?_; intro A2 c2 W2 g1 g2; have G := put_step P1.out g1.out g2.out; have q1 := G.1.1; have q2 := G.1.2; have G2 := hid G.2; clear G)
        all_goals obtain ⟨G3, G4⟩ := G2.out
        go_wp2_with fail
        all_goals exact ⟨⟨1, 0, by omega, rfl, by omega, _, _, by rw [HY.out]; simp [nb], G3, S1.out.trans G4⟩, by simp [intOf]⟩
      · obtain rfl : t = 0 := by omega
        obtain ⟨v1, Y, hY, p1, s1⟩ := hs.out
        have HY := hid hY
        have c1 : wr.cell? ⟨g, 0, none⟩ = some v1 := row_cell p1.row 0
        have c2 : ∀ o, (wr.alloc o).cell? ⟨g, 0, none⟩ = some v1 := fun o => (World.cell?_of_block (heap_alloc_old wr o (lt_of_heap p1.row))).trans c1
        have P1 := hid p1
        have S1 := hid s1
        clear p1 s1 HS ht hs hY
        go_wp2_with fail
        go_region_law (refine step_put1 rfl (.tmp 12) (.tmp 18) rfl w0 wr g v1 _ (b8 n) rfl P1.out rfl (by have := HX.out; rw [HY.out]; simp [nb]; omega) _ (by rw [HN.out]) ?_; intro A2 c2 W2 g1 g2; have G := put_step P1.out g1.out g2.out; have q1 := G.1.1; have q2 := G.1.2; have G2 := hid G.2; clear G)
        all_goals obtain ⟨G3, G4⟩ := G2.out
        go_wp2_with fail
        all_goals exact ⟨⟨2, -1, by omega, rfl, by omega, _, _, by rw [HY.out, HP.out]; simp [nb], G3, S1.out.trans G4⟩, by simp [intOf]⟩
      · obtain ⟨v1, Y, hY, p1, s1⟩ := hs.out
        have e : Y = X ++ nb n 2 := by rw [hY]; simp [nb]
        rw [e] at p1
        clear hY
        have hz : ¬ (0 : Int) ≤ t := by omega
        clear HS hs ht e
        go_wp2_with fail
        go_end0
        exact ⟨rfl, ⟨_, p1⟩, s1⟩
end Go.Proofs.Ytnanmdfbgoahjaa
