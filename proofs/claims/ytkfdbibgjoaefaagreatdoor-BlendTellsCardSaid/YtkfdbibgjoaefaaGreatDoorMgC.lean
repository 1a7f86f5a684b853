/-
  Merged: Rnw.
-/
import Derived.Test.YtkfdbibgjoaefaaGreatDoorMg38
import Derived.Test.YtkfdbibgjoaefaaGreatDoorMg39
/-
  The document's blend: New: the units are laid one behind the other (written by tools/stage12/gen_rnw.py).
-/
namespace Go.Proofs.YtkfdbibgjoaefaaGreatDoor
open Go.RowKit
set_option linter.unusedVariables false
set_option linter.unusedSimpArgs false

theorem begun_any (p : Pt) (w : World) (i : Int) (h : p.one i) : Calls Tryz.prog 29 #[.agg (cellsPt p)] w (Begun w p) := by
  obtain ⟨sz, hsz, hs16⟩ := one_size p i h
  have hk := one_kind p i h
  have h9 : p.kind = 1 ∨ p.kind = 2 ∨ p.kind = 3 ∨ p.kind = 4 ∨ p.kind = 5 ∨ p.kind = 6 ∨ p.kind = 7 ∨ p.kind = 8 ∨ p.kind = 9 := by omega
  rcases h9 with k | k | k | k | k | k | k | k | k
  · exact begun_none p w sz hsz hs16 (.inl k)
  · exact begun_2 p w sz hsz hs16 k
  · exact begun_3 p w sz hsz hs16 k
  · exact begun_4 p w sz hsz hs16 k
  · exact begun_none p w sz hsz hs16 (.inr k)
  · exact begun_6 p w sz hsz hs16 k
  · have hm := (one_mix h k).2.1
    exact begun_7 p w sz hsz hs16 k p.b.toNat (by omega) (by omega) (by omega)
  · exact begun_8 p w sz hsz hs16 k
  · exact begun_9 p w sz hsz hs16 k
def zPt : Pt := ⟨0, 0, 0, 0, 0, 0, 0⟩
/-- The cells of the first i units. -/
def uCells (L : List Pt) (Vf : Nat → Vs) (i : Nat) : List Value := (List.range i).flatMap (fun j => (cellsU (begun (L.getD j zPt)) (Vf j)).toList)
theorem uCells_succ (L : List Pt) (Vf : Nat → Vs) (i : Nat) : uCells L Vf (i + 1) = uCells L Vf i ++ (cellsU (begun (L.getD i zPt)) (Vf i)).toList := by
  unfold uCells
  rw [List.range_succ, List.flatMap_append]
  simp
theorem uCells_len (L : List Pt) (Vf : Nat → Vs) : ∀ i, (uCells L Vf i).length = i * 16
  | 0 => rfl
  | i + 1 => by
    rw [uCells_succ, List.length_append, uCells_len L Vf i]
    show i * 16 + 16 = (i + 1) * 16
    omega
theorem uCells_get (L : List Pt) (Vf : Nat → Vs) (j k : Nat) (hk : k < 16) : ∀ i, j < i → (uCells L Vf i)[j * 16 + k]? = (cellsU (begun (L.getD j zPt)) (Vf j))[k]?
  | 0, h => by omega
  | i + 1, h => by
    rw [uCells_succ]
    by_cases e : j = i
    · subst e
      rw [List.getElem?_append_right (by rw [uCells_len]; omega), uCells_len, show j * 16 + k - j * 16 = k by omega, Array.getElem?_toList]
    · rw [List.getElem?_append_left (by rw [uCells_len]; omega)]
      exact uCells_get L Vf j k hk i (by omega)
theorem uCells_other (L : List Pt) (Vf : Nat → Vs) (V : Vs) (i : Nat) : uCells L (fun j => if j = i then V else Vf j) i = uCells L Vf i := by
  unfold uCells
  rw [List.flatMap_def, List.flatMap_def]
  congr 1
  refine List.map_congr_left fun j hj => ?_
  rw [List.mem_range] at hj
  show (cellsU _ (if j = i then V else Vf j)).toList = _
  rw [if_neg (by omega)]
def cellsB (s : Sw) : Array Value := #[.slice s.a s.n s.c, .int .i64 1, .int .i64 0, .int .i64 0]
/-- On the way of New: the handle, the list of units, their tables. -/
structure NwR (w W : World) (r : Nat) (L : List Pt) (i : Nat) (Vf : Nat → Vs) (s : Sw) : Prop where
  bel : Below w.heap.size w W
  lr : w.heap.size ≤ r
  row : W.heap[r]? = some (.cells (cellsB s) 51 (0, 0))
  own : W.ownsRow w.heap.size 65 16 (.slice s.a s.n s.c) i (uCells L Vf i)
  ob : s.b ≠ some r
  t : ∀ j, j < i → RT W w.heap.size (begun (L.getD j zPt)) (Vf j)
  a : ∀ j, j < i → AptV (Vf j)
  ap : ∀ j k, j < i → k < i → j ≠ k → ∀ x, (Vf j).has x → ¬ (Vf k).has x
  nr : ∀ j, j < i → ¬ (Vf j).has r
  nb : ∀ j, j < i → ∀ x, (Vf j).has x → s.b ≠ some x
/-- .. and one more unit's tables. -/
structure NwV (w W : World) (r : Nat) (L : List Pt) (i : Nat) (Vf : Nat → Vs) (s : Sw) (V : Vs) : Prop where
  st : NwR w W r L i Vf s
  t : RT W w.heap.size (begun (L.getD i zPt)) V
  a : AptV V
  ap : ∀ j, j < i → ∀ x, (Vf j).has x → ¬ V.has x
  nr : ¬ V.has r
  nb : ∀ x, V.has x → s.b ≠ some x
theorem own16_below {w w' : World} {b n e z : Nat} {v : Value} {xs : List Value} (h : w.ownsRow b e z v n xs) (hb : Below w.heap.size w w') : w'.ownsRow b e z v n xs := by
  refine ⟨h.1, ?_⟩
  rcases h.2 with h2 | ⟨g2, cap, cur, rfl, hge, hh, r⟩
  · exact .inl h2
  · exact .inr ⟨g2, cap, cur, rfl, hge, (hb.block g2 (lt_of_heap hh)).trans hh, r⟩
theorem own16_off {W : World} {B E n z : Nat} {v : Value} {X : List Value} (h : W.ownsRow B E z v n X) (a : Addr) (u : Value) (hne : v.ownBlock ≠ some a.block) : (W.setCell a u).ownsRow B E z v n X := by
  refine ⟨h.1, ?_⟩
  rcases h.2 with h2 | ⟨g, cap, cur, rfl, hge, hh, r⟩
  · exact .inl h2
  · refine .inr ⟨g, cap, cur, rfl, hge, ?_, r⟩
    rw [Below.heap_setCell _ _ _ _ (fun e => hne (by rw [← e]; rfl))]
    exact hh
theorem own16_lt {w : World} {b n e z x : Nat} {v : Value} {xs : List Value} (h : w.ownsRow b e z v n xs) (hx : v.ownBlock = some x) : b ≤ x ∧ x < w.heap.size := by
  rcases h.2 with ⟨h2, _⟩ | ⟨g2, cap, cur, rfl, hge, hh, r⟩
  · rw [h2] at hx
    cases hx
  · have e : g2 = x := by injection hx
    subst e
    exact ⟨hge, lt_of_heap hh⟩
theorem own_mono {W : World} {B B' e z n : Nat} {v : Value} {xs : List Value} (h : W.ownsRow B e z v n xs) (hb : B' ≤ B) : W.ownsRow B' e z v n xs := by
  refine ⟨h.1, ?_⟩
  rcases h.2 with h2 | ⟨g2, cap, cur, rfl, hge, r⟩
  · exact .inl h2
  · exact .inr ⟨g2, cap, cur, rfl, by omega, r⟩
theorem RT.mono {W : World} {B B' : Nat} {u : Un} {V : Vs} (h : RT W B u V) (hb : B' ≤ B) : RT W B' u V := ⟨own_mono h.c hb, own_mono h.k hb, own_mono h.s hb, own_mono h.w hb, own_mono h.n hb, own_mono h.r hb⟩
theorem RT.grown {W W2 : World} {B : Nat} {u : Un} {V : Vs} {row : Option Nat} (h : RT W B u V) (hg : W.grownBy W2 row) (hn : ∀ x, V.has x → row ≠ some x) : RT W2 B u V :=
  ⟨own_grown h.c hg (fun q hq => hn q (.inl hq)), own_grown h.k hg (fun q hq => hn q (.inr (.inl hq))), own_grown h.s hg (fun q hq => hn q (.inr (.inr (.inl hq)))), own_grown h.w hg (fun q hq => hn q (.inr (.inr (.inr (.inl hq))))), own_grown h.n hg (fun q hq => hn q (.inr (.inr (.inr (.inr (.inl hq)))))), own_grown h.r hg (fun q hq => hn q (.inr (.inr (.inr (.inr (.inr hq))))))⟩
theorem RT.put {W : World} {B : Nat} {u : Un} {V : Vs} (h : RT W B u V) (a : Addr) (x : Value) (hn : ¬ V.has a.block) : RT (W.setCell a x) B u V :=
  ⟨own_off h.c a x (fun e => hn (.inl e)), own_off h.k a x (fun e => hn (.inr (.inl e))), own_off h.s a x (fun e => hn (.inr (.inr (.inl e)))), own_off h.w a x (fun e => hn (.inr (.inr (.inr (.inl e))))), own_off h.n a x (fun e => hn (.inr (.inr (.inr (.inr (.inl e)))))), own_off h.r a x (fun e => hn (.inr (.inr (.inr (.inr (.inr e))))))⟩
theorem RT.ge {w : World} {B x : Nat} {u : Un} {V : Vs} (h : RT w B u V) (hx : V.has x) : B ≤ x := by
  rcases hx with hx | hx | hx | hx | hx | hx
  · exact (own_lt h.c hx).1
  · exact (own_lt h.k hx).1
  · exact (own_lt h.s hx).1
  · exact (own_lt h.w hx).1
  · exact (own_lt h.n hx).1
  · exact (own_lt h.r hx).1
theorem nilS_no (x : Nat) : nilS.b ≠ some x := fun e => by
  have e0 : nilS.b = none := rfl
  rw [e0] at e
  cases e
section
variable {w W W2 : World} {r i : Nat} {L : List Pt} {Vf : Nat → Vs} {s q : Sw} {V : Vs}
theorem NwR.later (h : NwR w W r L i Vf s) (b : Below W.heap.size W W2) : NwR w W2 r L i Vf s :=
  ⟨h.bel.trans (b.mono h.bel.size), h.lr, (b.block _ (lt_of_heap h.row)).trans h.row, own16_below h.own b, h.ob, fun j hj => (h.t j hj).below b, h.a, h.ap, h.nr, h.nb⟩
theorem NwV.later (h : NwV w W r L i Vf s V) (b : Below W.heap.size W W2) : NwV w W2 r L i Vf s V := ⟨h.st.later b, h.t.below b, h.a, h.ap, h.nr, h.nb⟩
theorem NwR.made (h : NwR w W r L i Vf s) (b : Below W.heap.size W W2) (t : RT W2 W.heap.size (begun (L.getD i zPt)) V) (a : AptV V) : NwV w W2 r L i Vf s V :=
  ⟨h.later b, t.mono h.bel.size, a, fun j hj x hx hx2 => by have := (h.t j hj).lt hx; have := t.ge hx2; omega, fun hx => by have := lt_of_heap h.row; have := t.ge hx; omega, fun x hx e => by have := (own16_lt h.own e).2; have := t.ge hx; omega⟩
theorem NwR.cell (h : NwR w W r L i Vf s) : W.cell? ⟨r, 0, none⟩ = some (.slice s.a s.n s.c) ∧ W.frozen? ⟨r, 0, none⟩ = false := ⟨row_cell h.row 0, row_free h.row 0⟩
theorem NwV.cell2 (h : NwV w W r L i Vf s V) (hg : W.grownBy W2 (Value.slice s.a s.n s.c).ownBlock) : W2.cell? ⟨r, 0, none⟩ = some (.slice s.a s.n s.c) ∧ W2.frozen? ⟨r, 0, none⟩ = false := by
  have e : W2.heap[r]? = W.heap[r]? := hg.block _ (lt_of_heap h.st.row) (fun e => h.st.ob e.symm)
  exact ⟨(World.cell?_of_block (a := ⟨r, 0, none⟩) e).trans h.st.cell.1, (World.frozen?_of_block (a := ⟨r, 0, none⟩) e).trans h.st.cell.2⟩
theorem NwV.put (h : NwV w W r L i Vf s V) (hg : W.grownBy W2 (Value.slice s.a s.n s.c).ownBlock) (ho : W2.ownsRow w.heap.size 65 16 (.slice q.a q.n q.c) (i + 1) (uCells L Vf i ++ (cellsU (begun (L.getD i zPt)) V).toList))
    (hf : q.b = (Value.slice s.a s.n s.c).ownBlock ∨ ∃ k, q.b = some k ∧ W.heap.size ≤ k) : NwR w (W2.setCell ⟨r, 0, none⟩ (.slice q.a q.n q.c)) r L (i + 1) (fun j => if j = i then V else Vf j) q := by
  have hlt := lt_of_heap h.st.row
  have hlb := h.st.bel.size
  have hrow : ∀ x, (Value.slice s.a s.n s.c).ownBlock = some x → w.heap.size ≤ x := fun x hx => (own16_lt h.st.own hx).1
  have r2 : W2.heap[r]? = some (.cells (cellsB s) 51 (0, 0)) := (hg.block _ hlt (fun e => h.st.ob e.symm)).trans h.st.row
  have hqb : ∀ x, x < W.heap.size → (Value.slice s.a s.n s.c).ownBlock ≠ some x → q.b ≠ some x := fun x hx hn e => by
    rcases hf with hf | ⟨k, hf, hk⟩
    · exact hn (hf ▸ e)
    · rw [hf] at e
      injection e with e
      omega
  have hqr : q.b ≠ some r := hqb r hlt h.st.ob
  have hT : ∀ {u : Un} {V' : Vs}, RT W w.heap.size u V' → (∀ x, V'.has x → s.b ≠ some x) → ¬ V'.has r → RT (W2.setCell ⟨r, 0, none⟩ (.slice q.a q.n q.c)) w.heap.size u V' := fun h1 h2 h3 => (h1.grown hg h2).put _ _ h3
  refine ⟨⟨hg.os.trans h.st.bel.os, hg.tape.trans h.st.bel.tape, hg.output.trans h.st.bel.output, by rw [World.size_setCell]; have := hg.size; omega, fun x hx => ?_⟩, h.st.lr, row_set r2 0 _, ?_, hqr, fun j hj => ?_, fun j hj => ?_, fun j k hj hk hne x => ?_, fun j hj => ?_, fun j hj x => ?_⟩
  · rw [Below.heap_setCell _ _ _ _ (by show x ≠ r; have := h.st.lr; omega), hg.block _ (by omega) (fun e => by have := hrow x e.symm; omega)]
    exact h.st.bel.block x hx
  · rw [uCells_succ, uCells_other]
    simp only [if_true]
    exact own16_off ho _ _ hqr
  · by_cases e : j = i
    · subst e; simp only [if_true]; exact hT h.t h.nb h.nr
    · simp only [if_neg e]; exact hT (h.st.t j (by omega)) (h.st.nb j (by omega)) (h.st.nr j (by omega))
  · by_cases e : j = i
    · subst e; simp only [if_true]; exact h.a
    · simp only [if_neg e]; exact h.st.a j (by omega)
  · by_cases e : j = i
    · subst e
      simp only [if_true, if_neg (Ne.symm hne)]
      exact fun h1 h2 => h.ap k (by omega) x h2 h1
    · by_cases e2 : k = i
      · subst e2; simp only [if_true, if_neg e]; exact h.ap j (by omega) x
      · simp only [if_neg e, if_neg e2]; exact h.st.ap j k (by omega) (by omega) hne x
  · by_cases e : j = i
    · subst e; simp only [if_true]; exact h.nr
    · simp only [if_neg e]; exact h.st.nr j (by omega)
  · by_cases e : j = i
    · subst e; simp only [if_true]; exact fun hx => hqb x (h.t.lt hx) (h.nb x hx)
    · simp only [if_neg e]; exact fun hx => hqb x ((h.st.t j (by omega)).lt hx) (h.st.nb j (by omega) x hx)
/-- What New hands over. -/
def RNew (w : World) (n : Nat) (L : List Pt) (e : Ending) (w' : World) : Prop := ∃ r g cap Vf, e = .returned (.tuple #[.pointer (some ⟨r, 0, none⟩), .int .i64 0]) ∧ BM w' r g n cap (Bl.new L) Vf w.heap.size ∧ Lay Vf r g n ∧ (∀ x, Mine Vf r g n x → w.heap.size ≤ x) ∧ (∀ x, Mine Vf r g n x → x < w'.heap.size) ∧ Below w.heap.size w w'
theorem NwR.done {n : Nat} (h : NwR w W r L n Vf s) (hn : L.length = n) (h1 : 1 ≤ n) (hr : rightP L = 0) : RNew w n L (.returned (.tuple #[.pointer (some ⟨r, 0, none⟩), .int .i64 0])) W := by
  rcases h.own.2 with ⟨_, h0⟩ | ⟨g, cap, cur, e, hge, hh, hnc, hcm, hcs, htake⟩
  · omega
  have es : s.a = some ⟨g, 0, none⟩ ∧ s.n = n ∧ s.c = cap := by injection e with e1 e2 e3; exact ⟨e1, e2, e3⟩
  have eb : s.b = some g := by unfold Sw.b; rw [e]; rfl
  have own := h.own
  rw [e] at own
  have hrg : r ≠ g := fun e2 => h.ob (by rw [eb, e2])
  have hng : ∀ j, j < n → ¬ (Vf j).has g := fun j hj hx => h.nb j hj g hx eb
  have hcell : ∀ j, j < n → ∀ k, k < 16 → W.cell? ⟨g, j * 16 + k, none⟩ = (cellsU (begun (L.getD j zPt)) (Vf j))[k]? := fun j hj k hk => by
    rw [World.ownsRow.cellAt own (j * 16 + k) (by omega)]
    exact uCells_get L Vf j k hk n hj
  have hlen : (Bl.new L).l.length = n := by show (L.map begun).length = n; rw [List.length_map]; exact hn
  have hget : ∀ i (hi : i < (Bl.new L).l.length), (Bl.new L).l[i] = begun (L.getD i zPt) := fun i hi => by
    have e5 : ∀ (hi : i < (L.map begun).length), (L.map begun)[i] = begun (L.getD i zPt) := fun hi => by
      rw [List.getElem_map, List.getD_eq_getElem?_getD, List.getElem?_eq_getElem (by rw [List.length_map] at hi; exact hi)]
      rfl
    exact e5 hi
  refine ⟨r, g, cap, Vf, rfl, ⟨⟨?_, row_cell h.row 1, row_cell h.row 2, row_cell h.row 3⟩, hlen, hnc, fun i hi => ?_, fun i hi => ?_, fun k => row_free hh k, fun k => row_free h.row k, fun i hi => ?_, new_ok L hr⟩, ⟨fun i hi => (h.a i hi).sep (hng i hi), h.ap, h.nr, hrg⟩, ?_, ?_, h.bel⟩
  · rw [h.cell.1, e]
  · rw [hget i hi]
    have hi2 : i < n := by rw [← hlen]; exact hi
    have hc := hcell i hi2
    have hp := begun_p (L.getD i zPt)
    exact ⟨hc 0 (by decide), hc 1 (by decide), hc 2 (by decide), hc 3 (by decide), hc 4 (by decide), hc 5 (by decide), hc 6 (by decide), hc 7 (by decide), hc 8 (by decide), hc 9 (by decide), hc 10 (by decide), hc 11 (by decide), hc 12 (by decide), hc 13 (by decide), hc 14 (by decide), hc 15 (by decide)⟩
  · rw [hget i hi]
    exact h.t i (by rw [← hlen]; exact hi)
  · rw [hget i hi]
    have : (begun (L.getD i zPt)).h = 0 := by
      unfold begun
      repeat' split
      all_goals rfl
    rw [this]
    decide
  · rintro x (⟨j, hj, hx⟩ | rfl | rfl)
    · exact (h.t j hj).ge hx
    · exact hge
    · exact h.lr
  · rintro x (⟨j, hj, hx⟩ | rfl | rfl)
    · exact (h.t j hj).lt hx
    · exact lt_of_heap hh
    · exact lt_of_heap h.row
theorem NwR.begin {W1 : World} (b : Below w.heap.size w W1) : NwR w (W1.alloc (.cells (cellsB nilS) 51)) W1.heap.size L 0 Vf nilS :=
  ⟨b.alloc b.size _, b.size, heap_alloc_new _ _, World.ownsRow_nil _ _ _ _, nilS_no _, fun j hj => by omega, fun j hj => by omega, fun j k hj => by omega, fun j hj => by omega, fun j hj => by omega⟩
end
theorem Tryz.info65 : (Tryz.prog.info? 65).map (fun i => (i.zero, i.size, i.bytes)) = some (some (.agg (cellsU zUn nilV)), 16, 224) := by kernel_rfl
theorem run_app65 {w : World} {base : Nat} {ty : TypeId} {v : Value} {n : Nat} {xs : List Value} (hown : w.ownsRow base 65 16 v n xs) (g : Nat) (news : List Value) (hl : news.length = 16) (hc : ∀ j u, news[j]? = some u → w.cell? ((⟨g, 0, none⟩ : Addr).add j) = some u) (h1 : ∀ u ∈ news, u.oneCell' = true) (h48 : n ≤ 1000000) (hbase : base ≤ w.heap.size) :
    ∃ (s : Sw) (w' : World), (Builtin.append_ #[49, 49] ty #[v, .slice (some ⟨g, 0, none⟩) 1 1]).run Tryz.prog w = .ok (.slice s.a s.n s.c) w' ∧ w'.ownsRow base 65 16 (.slice s.a s.n s.c) (n + 1) (xs ++ news) ∧ w.grownBy w' v.ownBlock ∧ (s.b = v.ownBlock ∨ ∃ k, s.b = some k ∧ w.heap.size ≤ k) := by
  obtain ⟨i0, hi, hz0, hz1, hz2⟩ := info_parts Tryz.info65
  have hl' : news.length = 1 * i0.size := by rw [hz1]; exact hl
  obtain ⟨v', w', hr, h2, h3, h4⟩ := run_append_own (P := Tryz.prog) w base 49 ty 65 i0 _ 16 224 Tryz.underlying49 hi hz0 hz1 hz2 rfl (by decide) v n xs hown ⟨g, 0, none⟩ 1 1 news hl hc h1 (by unfold maxLen; omega) (by omega) hbase
  obtain ⟨s, rfl⟩ : ∃ s : Sw, v' = .slice s.a s.n s.c := by
    rcases h2.2 with ⟨rfl, _⟩ | ⟨g2, cap, cur, rfl, _⟩
    · exact ⟨⟨none, 0, 0⟩, rfl⟩
    · exact ⟨⟨some ⟨g2, 0, none⟩, n + 1, cap⟩, rfl⟩
  refine ⟨s, w', hr, h2, h3, ?_⟩
  rcases hown.2 with ⟨rfl, rfl⟩ | ⟨g2, cap, cur, rfl, hbg, hg, hnc, hcm, hcs, htake⟩
  · have e := run_append_nil (P := Tryz.prog) w 49 ty 65 i0 _ Tryz.underlying49 hi hz0 ⟨g, 0, none⟩ 1 1 news hl' hc (by omega) (by omega) (by rw [hz2]; omega)
    rw [e] at hr
    injection hr with e1 _
    exact .inr ⟨w.heap.size, by unfold Sw.b; rw [← e1]; rfl, Nat.le_refl _⟩
  · by_cases hroom : n + 1 ≤ cap
    · have e := run_append_room (P := Tryz.prog) w 49 ty 65 i0 Tryz.underlying49 hi g2 n cap cur hg ⟨g, 0, none⟩ 1 1 news hl' hc h1 hroom (by rw [hl, hz1, hcs]; omega)
      rw [e] at hr
      injection hr with e1 _
      exact .inl (by unfold Sw.b; rw [← e1]; rfl)
    · have holds : ∀ j u, xs[j]? = some u → w.cell? ((⟨g2, 0, none⟩ : Addr).add j) = some u := hown.cells (g := g2) rfl
      have e := run_append_grow (P := Tryz.prog) w 49 ty 65 i0 _ Tryz.underlying49 hi hz0 ⟨g2, 0, none⟩ n cap xs (by rw [hz1]; exact hown.1) holds ⟨g, 0, none⟩ 1 1 news hl' hc (by omega) (by omega) (growslice_fits (by omega) (by rw [hz2]; omega))
      rw [e] at hr
      injection hr with e1 _
      exact .inr ⟨w.heap.size, by unfold Sw.b; rw [← e1]; rfl, Nat.le_refl _⟩
theorem if_app65 {ops : Array Oper} {E : Prop} {o : Oper} {a : Act} {W : World} {K : Act → World → Prop} {Q : Exit → Act → World → Prop} (hgd : o.guard = none) (s x : Operand)
    (ho : o.op = .call { callee := .builtin .append, args := #[s, x], argTypes := #[49, 49] }) (base : Nat) (v : Value) (n : Nat) (xs : List Value) (g : Nat) (u : Un) (V : Vs) (hs : a.eval s = v) (hx : a.eval x = .slice (some ⟨g, 0, none⟩) 1 1)
    (hown : W.ownsRow base 65 16 v n xs) (hc : W.heap[g]? = some (.cells (cellsU u V) 65 (0, 0))) (h48 : n ≤ 1000000) (hbase : base ≤ W.heap.size)
    (hK : ∀ (q : Sw) W', Hid (W'.ownsRow base 65 16 (.slice q.a q.n q.c) (n + 1) (xs ++ (cellsU u V).toList)) → Hid (W.grownBy W' v.ownBlock) → Hid (q.b = v.ownBlock ∨ ∃ k, q.b = some k ∧ W.heap.size ≤ k) → K (a.put o.dst (.slice q.a q.n q.c)) W') :
    if Region.wanted o (yielded ops a.tmps) = true then Oper.wp Tryz.prog o a W K Q else E := by
  have hw : Region.wanted o (yielded ops a.tmps) = true := by simp [Region.wanted, hgd]
  rw [if_pos hw]
  obtain ⟨q, W', hr, h2, h3, h4⟩ := run_app65 (ty := o.type) hown g (cellsU u V).toList rfl (fun j y hj => by
    have h5 := row_cell hc j
    rw [Addr.add_lit]
    rw [Nat.zero_add]
    rw [h5, ← hj, Array.getElem?_toList]) (fun y hy => by
      have h6 := oneU u V
      rw [Array.all_eq_true'] at h6
      exact h6 y (by simpa using hy)) h48 hbase
  unfold Oper.wp execOp
  simp only [ho, resolve, invoke, builtin, Sem.run_bind, Sem.run_pure, Result.andThen_ok, List.map_toArray, List.map_cons, List.map_nil, hs, hx, hr]
  exact hK _ _ h2 h3 h4
theorem build49 (u : Un) (V : Vs) (w : World) : (Instr.buildSlice 49 1 #[(0, .agg (cellsU u V))]).run Tryz.prog w = .ok (.slice (some ⟨w.heap.size, 0, none⟩) 1 1) (w.alloc (.cells (cellsU u V) 65)) := by
  kernel_rfl
theorem if_build49 {ops : Array Oper} {E : Prop} {o : Oper} {a : Act} {W : World} {K : Act → World → Prop} {Q : Exit → Act → World → Prop} (hgd : o.guard = none) (x : Operand) (ho : o.op = .buildSlice 49 1 #[(0, x)]) (u : Un) (V : Vs) (hx : a.eval x = .agg (cellsU u V))
    (hK : K (a.put o.dst (.slice (some ⟨W.heap.size, 0, none⟩) 1 1)) (W.alloc (.cells (cellsU u V) 65))) :
    if Region.wanted o (yielded ops a.tmps) = true then Oper.wp Tryz.prog o a W K Q else E := by
  have hw : Region.wanted o (yielded ops a.tmps) = true := by simp [Region.wanted, hgd]
  rw [if_pos hw]
  have hb := build49 u V W
  unfold Oper.wp execOp
  simp only [ho, List.map_toArray, List.map_cons, List.map_nil, hx, Sem.run_bind, Sem.run_pure, Result.andThen_ok, hb]
  exact hK
end Go.Proofs.YtkfdbibgjoaefaaGreatDoor
