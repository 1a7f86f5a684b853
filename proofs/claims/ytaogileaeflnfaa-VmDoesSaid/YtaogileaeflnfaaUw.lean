/-
  Words of 32 bits in memory, as Mem, Row, App have it of bytes (written by tools/stage17/gen_uw.py).
-/
import Derived.Test.YtaogileaeflnfaaKit
set_option linter.unusedVariables false
set_option linter.unusedSimpArgs false
namespace Go.Proofs.Ytaogileaeflnfaa.U
open Go.RowKit


theorem add_of_add (a : Addr) (i j : Nat) : (a.add i).add j = a.add (i + j) := by
  unfold Addr.add
  by_cases hi : i = 0 <;> by_cases hj : j = 0 <;> simp [hi, hj, Nat.add_assoc]
/-- A byte as the model has it. -/
def bv (b : UInt32) : Value := .int .u32 (b.toNat : Int)
/-- The slice of address A, length n and capacity c has the bytes l (nothing is asked of an empty one's address). -/
structure IsB (w : World) (A : Option Addr) (n c : Nat) (l : List UInt32) : Prop where
  len : l.length = n
  cap : n ≤ c
  max : c ≤ maxLen
  small : n ≤ 1000000000
  lies : 0 < l.length → ∃ ad, A = some ad ∧ ∀ j (h : j < l.length), w.cell? (ad.add j) = some (.int .u32 (l[j].toNat : Int))
theorem Try.info25 : (Try.prog.info? 25).map (fun i => (i.zero, i.size, i.bytes)) = some (some (.int .u32 0), 1, 4) := by kernel_rfl
theorem Try.size25 : (Try.prog.info? 25).map (·.size) = some 1 := by kernel_rfl
/-- A new list of bytes, in memory of the call's own: block g, not frozen. -/
structure New (w w' : World) (g n c : Nat) (l : List UInt32) : Prop where
  own : w'.ownsRow w.heap.size 25 1 (.slice (some ⟨g, 0, none⟩) n c) n (l.map bv)
  bel : Below w.heap.size w w'
  small : n ≤ 1000000000
theorem map_bv_getElem? (l : List UInt32) (j : Nat) (h : j < l.length) : (l.map bv)[j]? = some (.int .u32 (l[j].toNat : Int)) := by
  simp [bv, h]
theorem New.len {w w' : World} {g n c : Nat} {l : List UInt32} (h : New w w' g n c l) : l.length = n := by simpa using h.own.1
theorem New.row {w w' : World} {g n c : Nat} {l : List UInt32} (h : New w w' g n c l) :
    w.heap.size ≤ g ∧ g < w'.heap.size ∧ n ≤ c ∧ c ≤ maxLen ∧ ∃ cur, w'.heap[g]? = some (.cells cur 25 (0, 0)) ∧ cur.size = c ∧ cur.toList.take n = l.map bv := by
  rcases h.own.2 with ⟨h1, _⟩ | ⟨g', cap, cur, hv, hg, hh, hn, hm, hs, ht⟩
  · cases h1
  · cases hv
    refine ⟨hg, ?_, hn, hm, cur, hh, by simpa using hs, by simpa using ht⟩
    rcases Nat.lt_or_ge g w'.heap.size with hlt | hge
    · exact hlt
    · rw [Array.getElem?_eq_none hge] at hh; cases hh
theorem New.isB {w w' : World} {g n c : Nat} {l : List UInt32} (h : New w w' g n c l) : IsB w' (some ⟨g, 0, none⟩) n c l := by
  obtain ⟨_, _, hn, hm, _⟩ := h.row
  refine ⟨h.len, hn, hm, h.small, fun _ => ⟨_, rfl, fun j hj => ?_⟩⟩
  exact h.own.cells (g := g) rfl j _ (map_bv_getElem? l j hj)
theorem IsB.to {w w' : World} {A : Option Addr} {n c : Nat} {l : List UInt32} (h : IsB w A n c l) (hk : ∀ ad, A = some ad → ∀ j, w'.cell? (ad.add j) = w.cell? (ad.add j)) : IsB w' A n c l :=
  ⟨h.len, h.cap, h.max, h.small, fun hp => by
    obtain ⟨ad, e, hc⟩ := h.lies hp
    exact ⟨ad, e, fun j hj => (hk ad e j).trans (hc j hj)⟩⟩
theorem block_of_add (a : Addr) (n : Nat) : (a.add n).block = a.block := by unfold Addr.add; split <;> rfl
/-- Bytes that lie in a block below B. -/
structure IsBB (w : World) (B : Nat) (A : Option Addr) (n c : Nat) (l : List UInt32) : Prop extends IsB w A n c l where
  low : 0 < l.length → ∀ ad, A = some ad → ad.block < B
theorem IsBB.below {w w' : World} {B : Nat} {A : Option Addr} {n c : Nat} {l : List UInt32} (h : IsBB w B A n c l) (hb : Below B w w') : IsBB w' B A n c l :=
  ⟨⟨h.len, h.cap, h.max, h.small, fun hp => by
    obtain ⟨ad, e, hc⟩ := h.lies hp
    exact ⟨ad, e, fun j hj => (hb.cell (p := ad.add j) (by rw [block_of_add]; exact h.low hp ad e)).trans (hc j hj)⟩⟩, h.low⟩
theorem New.isBB {w w' : World} {g n c : Nat} {l : List UInt32} (h : New w w' g n c l) : IsBB w' w'.heap.size (some ⟨g, 0, none⟩) n c l :=
  ⟨h.isB, fun _ ad e => by cases e; exact h.row.2.1⟩
theorem isBB_nil (w : World) (B : Nat) : IsBB w B none 0 0 [] := ⟨⟨rfl, Nat.le_refl _, Nat.zero_le _, Nat.zero_le _, fun h => absurd h (by simp)⟩, fun h => absurd h (by simp)⟩
theorem row_set {w : World} {g : Nat} {t : TypeId} {cs : Array Value} (h : w.heap[g]? = some (.cells cs t (0, 0))) (i : Nat) (u : Value) :
    (w.setCell ⟨g, i, none⟩ u).heap[g]? = some (.cells (cs.setIfInBounds i u) t (0, 0)) := by
  simp [World.setCell, Array.getElem?_modify, h]
theorem row_cell {w : World} {g : Nat} {t : TypeId} {cs : Array Value} (h : w.heap[g]? = some (.cells cs t (0, 0))) (i : Nat) : w.cell? ⟨g, i, none⟩ = cs[i]? := cell_of_row w g i cs t (0, 0) h
theorem row_free {w : World} {g : Nat} {t : TypeId} {cs : Array Value} (h : w.heap[g]? = some (.cells cs t (0, 0))) (i : Nat) : w.frozen? ⟨g, i, none⟩ = false := by
  simp [World.frozen?, h]
theorem row_own {w w' : World} {g : Nat} {l : List UInt32} (h : w'.heap[g]? = some (.cells (l.map bv).toArray 25 (0, 0))) (hg : w.heap.size ≤ g) (hm : l.length ≤ 1000000000) (hb : Below w.heap.size w w') : New w w' g l.length l.length l :=
  ⟨⟨by simp, .inr ⟨g, l.length, _, rfl, hg, h, Nat.le_refl _, by unfold maxLen; omega, by simp, by rw [List.take_of_length_le (by simp)]⟩⟩, hb, hm⟩
theorem own_row {w : World} {base g n : Nat} {xs : List Value} (h : w.ownsRow base 25 1 (.slice (some ⟨g, 0, none⟩) n n) n xs) : w.heap[g]? = some (.cells xs.toArray 25 (0, 0)) := by
  rcases h.2 with ⟨h1, _⟩ | ⟨g', cap, cur, hv, hg, hh, hn, hm, hs, ht⟩
  · cases h1
  · cases hv
    have : cur = xs.toArray := by
      apply Array.ext'
      rw [← ht, List.take_of_length_le (by simp; omega)]
    rw [hh, this]
theorem set_toArray (L : List Value) (m : Nat) (u : Value) : L.toArray.setIfInBounds m u = (L.set m u).toArray := by simp
theorem splice_front (cs Z : List Value) : splice (cs ++ Z) 0 cs = cs ++ Z := by simp [splice]
theorem splice_zero (cs : List Value) (n nb : Nat) (z : Value) (h : cs.length = n) : splice (List.replicate (n + nb) z) 0 cs = cs ++ List.replicate nb z := by
  unfold splice
  rw [List.drop_replicate]
  simp
  omega
theorem made_cells (n : Nat) : (madeCells (Value.int .u32 0).cells (n * 1)).toList = List.replicate n (Value.int .u32 0) := by
  have e : (Value.int .u32 0).cells = #[Value.int .u32 0] := rfl
  rw [e, Nat.mul_one]
  apply List.ext_getElem
  · simp [size_madeCells]
  · intro i h1 h2
    simp [madeCells, Nat.mod_one]
theorem IsBB.src {w w' : World} {B : Nat} {A : Option Addr} {n c : Nat} {l : List UInt32} (h : IsBB w B A n c l) (hb : Below B w w') :
    0 < (l.map bv).length → ∃ ad, A = some ad ∧ ∀ j v, (l.map bv)[j]? = some v → w'.cell? (ad.add j) = some v := by
  intro hp
  obtain ⟨ad, e, hc⟩ := (h.below hb).lies (by simpa using hp)
  refine ⟨ad, e, fun j v hv => ?_⟩
  have hj : j < l.length := by
    have := (List.getElem?_eq_some_iff.1 hv).1
    simpa using this
  rw [map_bv_getElem? l j hj] at hv
  cases hv
  exact hc j hj
theorem IsBB.src2 {w w' : World} {B : Nat} {A : Option Addr} {n c : Nat} {l : List UInt32} (h : IsBB w B A n c l) (hb : Below B w w') :
    0 < l.length → ∃ ad, A = some ad ∧ ∀ (j : Nat) (a : UInt32), l[j]? = some a → w'.cell? (ad.add j) = some (bv a) := by
  intro hp
  obtain ⟨ad, e, hc⟩ := h.src hb (by simpa using hp)
  exact ⟨ad, e, fun j a ha => hc j (bv a) (by simp [ha])⟩
theorem bv_one (l : List UInt32) : ∀ v ∈ l.map bv, v.oneCell' = true := by
  intro v hv
  obtain ⟨b, _, rfl⟩ := List.mem_map.1 hv
  rfl
/-- A slice of bytes that came in: it is nil; or it leads to a row of cap cells, the numbers zs (the first len are its elements). -/
def IsRow (w : World) (a : Option Addr) (len cap : Nat) (zs : List Int) : Prop :=
  (a = none ∧ len = 0 ∧ cap = 0 ∧ zs = []) ∨
  ∃ x, a = some x ∧ len ≤ cap ∧ cap ≤ maxLen ∧ zs.length = cap ∧ (∀ i, i < zs.length → w.cell? (x.add i) = some (.int .u32 (zs.getD i 0))) ∧ ∀ n ∈ zs, (Lit.int .u32 n).wf = true
theorem lt_of_cell {w : World} {a : Addr} {v : Value} (h : w.cell? a = some v) : a.block < w.heap.size := by
  rcases Nat.lt_or_ge a.block w.heap.size with hlt | hge
  · exact hlt
  · unfold World.cell? at h
    rw [Array.getElem?_eq_none hge] at h
    simp at h
theorem wf_u32 {z : Int} (h : (Lit.int .u32 z).wf = true) : 0 ≤ z ∧ z ≤ 4294967295 := by
  have := bounds_u32 h
  omega
theorem isBB_of_row {w : World} {a : Option Addr} {len cap : Nat} {zs : List Int} (h : IsRow w a len cap zs) (hs : len ≤ 1000000000) : ∃ l, IsBB w w.heap.size a len cap l := by
  rcases h with ⟨rfl, rfl, rfl, rfl⟩ | ⟨x, rfl, hl, hm, hz, hc, hw⟩
  · exact ⟨[], isBB_nil w _⟩
  · refine ⟨(zs.take len).map (fun z => UInt32.ofNat z.toNat), ⟨⟨by simp; omega, hl, hm, hs, fun _ => ⟨x, rfl, fun j hj => ?_⟩⟩, fun hp ad e => ?_⟩⟩
    · have hj2 : j < zs.length := by simp at hj; omega
      rw [hc j hj2]
      have hb := wf_u32 (hw zs[j] (List.getElem_mem hj2))
      simp [List.getD, hj2]
      omega
    · cases e
      have hp2 : 0 < zs.length := by simp at hp; omega
      have := lt_of_cell (hc 0 hp2)
      rw [block_of_add] at this
      exact this
theorem IsBB.on {w w' : World} {A : Option Addr} {n c : Nat} {l : List UInt32} (h : IsBB w w.heap.size A n c l) (hb : Below w.heap.size w w') : IsBB w' w'.heap.size A n c l :=
  ⟨(h.below hb).toIsB, fun hp ad e => Nat.lt_of_lt_of_le (h.low hp ad e) hb.size⟩
theorem New.on {w0 w w' : World} {g n c : Nat} {l : List UInt32} (h : New w w' g n c l) (hb : Below w0.heap.size w0 w) : Below w0.heap.size w0 w' := hb.trans (h.bel.mono hb.size)
/-- The first bytes of a list of one's own. -/
theorem New.front {w w' : World} {g n m c : Nat} {l t : List UInt32} (h : New w w' g m c (l ++ t)) (hl : l.length = n) : IsBB w' w'.heap.size (some ⟨g, 0, none⟩) n c l := by
  have hlen := h.len
  obtain ⟨_, hlt, hn, hm, _⟩ := h.row
  have hs := h.small
  rw [List.length_append] at hlen
  refine ⟨⟨hl, by omega, hm, by omega, fun hp => ⟨_, rfl, fun j hj => ?_⟩⟩, fun _ ad e => by cases e; exact hlt⟩
  obtain ⟨ad, e, hc⟩ := h.isB.lies (by rw [List.length_append]; omega)
  cases e
  rw [hc j (by rw [List.length_append]; omega), List.getElem_append_left hj]
theorem own_nil {w : World} {base n : Nat} {v : Value} {xs : List Value} (h : w.ownsRow base 25 1 v n xs) (hn : 0 < n) : ∃ g c, v = .slice (some ⟨g, 0, none⟩) n c := by
  rcases h.2 with ⟨_, h0⟩ | ⟨g', cap, cur, hv, _⟩
  · omega
  · exact ⟨g', cap, hv⟩
theorem below_drewN {B : Nat} {a w : World} (h : Below B a w) (n : Nat) : Below B a (w.drewN n) := ⟨h.os, h.tape, h.output, h.size, h.block⟩
theorem IsBB.drew {w : World} {B : Nat} {A : Option Addr} {n c : Nat} {l : List UInt32} (h : IsBB w B A n c l) : IsBB w.drew B A n c l := ⟨⟨h.len, h.cap, h.max, h.small, h.lies⟩, h.low⟩
theorem IsB.drewN {w : World} {A : Option Addr} {n c : Nat} {l : List UInt32} (h : IsB w A n c l) (k : Nat) : IsB (w.drewN k) A n c l := ⟨h.len, h.cap, h.max, h.small, h.lies⟩
theorem New.base {w0 w w' : World} {g n c : Nat} {l : List UInt32} (h : New w w' g n c l) (hb : Below w0.heap.size w0 w) : New w0 w' g n c l := by
  obtain ⟨h1, h2⟩ := h.own
  refine ⟨⟨h1, ?_⟩, hb.trans (h.bel.mono hb.size), h.small⟩
  rcases h2 with h2 | ⟨g', cap, cur, hv, hg, r⟩
  · exact .inl h2
  · exact .inr ⟨g', cap, cur, hv, Nat.le_trans hb.size hg, r⟩
theorem one_cell (W : World) (b : UInt32) (x : Int) (hx : x = (b.toNat : Int)) : ∀ (j : Nat) (u : Value), [bv b][j]? = some u →
    (W.alloc (.cells #[.int .u32 x] 25)).cell? (({ block := W.heap.size, off := 0 } : Addr).add j) = some u := by
  intro j u hu
  have hh : (W.alloc (.cells #[.int .u32 x] 25)).heap[W.heap.size]? = some (.cells #[.int .u32 x] 25 (0, 0)) := heap_alloc_new W _
  match j, hu with
  | 0, hu =>
    rw [Addr.add_lit, Nat.zero_add, row_cell hh 0]
    simp [bv] at hu
    subst hu
    rw [hx]
    rfl
  | j + 1, hu => simp at hu
theorem own_other {w : World} {base base' e e' s s' n n' : Nat} {v v' : Value} {xs xs' : List Value} (h : w.ownsRow base e s v n xs) (h' : w.ownsRow base' e' s' v' n' xs') (hne : e ≠ e') : v'.ownBlock = none ∨ v'.ownBlock ≠ v.ownBlock := by
  rcases h'.2 with ⟨rfl, _⟩ | ⟨g', cap', cur', rfl, _, hh', _⟩
  · exact .inl rfl
  · rcases h.2 with ⟨rfl, _⟩ | ⟨g, cap, cur, rfl, _, hh, _⟩
    · exact .inr (by simp [Value.ownBlock])
    · refine .inr (fun e1 => ?_)
      have e2 : g' = g := by simpa [Value.ownBlock] using e1
      subst e2
      rw [hh] at hh'
      injection hh' with hh'
      injection hh' with _ ht
      exact hne ht
theorem own_isBB {w : World} {base n : Nat} {v : Value} {l : List UInt32} (h : w.ownsRow base 25 1 v n (l.map bv)) (hs : n ≤ 1000000000) : ∃ A c, v = .slice A n c ∧ IsBB w w.heap.size A n c l := by
  have hl : l.length = n := by simpa using h.1
  have hc := fun g (hg : v.ownBlock = some g) => h.cells hg
  rcases h.2 with ⟨rfl, rfl⟩ | ⟨g, cap, cur, rfl, _, hh, hn, hm, _, _⟩
  · obtain rfl := List.eq_nil_of_length_eq_zero hl
    exact ⟨none, 0, rfl, isBB_nil _ _⟩
  · refine ⟨_, cap, rfl, ⟨hl, hn, hm, hs, fun _ => ⟨_, rfl, fun j hj => hc g rfl j _ (map_bv_getElem? l j hj)⟩⟩, fun _ ad e => ?_⟩
    cases e
    rcases Nat.lt_or_ge g w.heap.size with hlt | hge
    · exact hlt
    · rw [Array.getElem?_eq_none hge] at hh; cases hh
theorem own_isB2 {w : World} {base n c : Nat} {A : Option Addr} {l : List UInt32} (h : w.ownsRow base 25 1 (.slice A n c) n (l.map bv)) (hs : n ≤ 1000000000) : IsBB w w.heap.size A n c l := by
  obtain ⟨A', c', e, hb⟩ := own_isBB h hs
  cases e
  exact hb
theorem own_below {w w' : World} {base e s n : Nat} {v : Value} {xs : List Value} (h : w.ownsRow base e s v n xs) (hb : Below w.heap.size w w') : w'.ownsRow base e s v n xs := by
  have hlt := h.lt
  obtain ⟨h1, h2⟩ := h
  refine ⟨h1, ?_⟩
  rcases h2 with h2 | ⟨g, cap, cur, rfl, hg, hh, r⟩
  · exact .inl h2
  · exact .inr ⟨g, cap, cur, rfl, hg, (hb.block g (hlt g rfl).2).trans hh, r⟩
theorem front_of {w : World} {A : Option Addr} {n m c : Nat} {l t : List UInt32} (h : IsB w A m c (l ++ t)) (hl : l.length = n) : IsB w A n c l := by
  have hlen := h.len
  rw [List.length_append] at hlen
  have h1 := h.cap
  have h2 := h.small
  refine ⟨hl, by omega, h.max, by omega, fun hp => ?_⟩
  obtain ⟨ad, e, hc⟩ := h.lies (by rw [List.length_append]; omega)
  refine ⟨ad, e, fun j hj => ?_⟩
  rw [hc j (by rw [List.length_append]; omega), List.getElem_append_left hj]
theorem take_isB {w : World} {B : Nat} {A : Option Addr} {n m c : Nat} {l : List UInt32} (h : IsBB w B A n c l) (hm : m ≤ n) : IsBB w B A m c (l.take m) := by
  have hl := h.len
  have h1 := h.cap
  have h2 := h.small
  refine ⟨⟨by rw [List.length_take]; omega, by omega, h.max, by omega, fun hp => ?_⟩, fun hp => h.low (by rw [List.length_take] at hp; omega)⟩
  have hp2 : 0 < l.length := by rw [List.length_take] at hp; omega
  obtain ⟨ad, e, hc⟩ := h.lies hp2
  refine ⟨ad, e, fun j hj => ?_⟩
  have hj2 : j < l.length := by rw [List.length_take] at hj; omega
  rw [hc j hj2, List.getElem_take]
theorem bel_trans {w a b : World} (h : Below w.heap.size w a) (k : Below a.heap.size a b) : Below w.heap.size w b := h.trans (k.mono h.size)
theorem own_slice {w : World} {base e s n : Nat} {v : Value} {xs : List Value} (h : w.ownsRow base e s v n xs) : ∃ A c, v = .slice A n c ∧ n ≤ c ∧ c ≤ maxLen := by
  rcases h.2 with ⟨rfl, rfl⟩ | ⟨g, cap, cur, rfl, _, _, hn, hm, _⟩
  · exact ⟨none, 0, rfl, Nat.le_refl _, Nat.zero_le _⟩
  · exact ⟨_, cap, rfl, hn, hm⟩


theorem lt_of_heap {w : World} {g : Nat} {o : Obj} (h : w.heap[g]? = some o) : g < w.heap.size := by
  rcases Nat.lt_or_ge g w.heap.size with hlt | hge
  · exact hlt
  · rw [Array.getElem?_eq_none hge] at h; cases h
/-- The slice v, of the call's own, holds these bytes. -/
structure OwnB (w wr : World) (v : Value) (X : List UInt32) : Prop where
  own : wr.ownsRow w.heap.size 25 1 v X.length (X.map bv)
  bel : Below w.heap.size w wr
theorem OwnB.nil (w wr : World) (h : Below w.heap.size w wr) : OwnB w wr (.slice none 0 0) [] := ⟨World.ownsRow_nil wr _ _ _, h⟩
theorem OwnB.drewN {w wr : World} {v : Value} {X : List UInt32} (h : OwnB w wr v X) (n : Nat) : OwnB w (wr.drewN n) v X := ⟨h.own, below_drewN h.bel n⟩
theorem OwnB.drew {w wr : World} {v : Value} {X : List UInt32} (h : OwnB w wr v X) : OwnB w wr.drew v X := ⟨h.own, ⟨h.bel.os, h.bel.tape, h.bel.output, h.bel.size, h.bel.block⟩⟩
theorem OwnB.isBB {w wr : World} {v : Value} {X : List UInt32} (h : OwnB w wr v X) (hs : X.length ≤ 1000000) : ∃ A c, v = .slice A X.length c ∧ IsBB wr wr.heap.size A X.length c X := own_isBB h.own (by omega)
theorem OwnB.new {w wr : World} {v : Value} {X : List UInt32} (h : OwnB w wr v X) (hs : X.length ≤ 1000000) (h0 : 0 < X.length) : ∃ g c, v = .slice (some ⟨g, 0, none⟩) X.length c ∧ New w wr g X.length c X := by
  obtain ⟨g, c, rfl⟩ := own_nil h.own h0
  exact ⟨g, c, rfl, h.own, h.bel, by omega⟩
theorem OwnB.below {w wr w' : World} {v : Value} {X : List UInt32} (h : OwnB w wr v X) (hb : Below wr.heap.size wr w') : OwnB w w' v X := by
  refine ⟨?_, h.bel.trans (hb.mono h.bel.size)⟩
  rcases h.own with ⟨h1, h2⟩
  refine ⟨h1, ?_⟩
  rcases h2 with h2 | ⟨g, cap, cur, rfl, hg, hh, r⟩
  · exact .inl h2
  · exact .inr ⟨g, cap, cur, rfl, hg, (hb.block g (lt_of_heap hh)).trans hh, r⟩
/-- Bytes that lie below an append's base stay. -/
theorem wpList_app1 {ops : Array Oper} {rest : List Oper} {o : Oper} {a : Act} {Q : Exit → Act → World → Prop} (hgd : o.guard = none) (s x : Operand)
    (ho : o.op = .call { callee := .builtin .append, args := #[s, x], argTypes := #[27, 27] }) (w wr : World) (v : Value) (X : List UInt32) (b : Nat) (hs : a.eval s = v) (hx : a.eval x = .slice (some ⟨wr.heap.size, 0, none⟩) 1 1)
    (h : OwnB w wr v X) (hl : X.length ≤ 1000000) (hb : b < 4294967296)
    (hK : ∀ v' W, Hid (OwnB w W v' (X ++ [UInt32.ofNat b])) → wpList Try.prog ops Q rest (a.put o.dst v') W) : wpList Try.prog ops Q (o :: rest) a (wr.alloc (.cells #[.int .u32 (b : Nat)] 25)) := by
  obtain ⟨i0, hi, hz0, hz1, hz2⟩ := info_parts Try.info25
  refine wpList_append_own _ hgd s x 27 ho w.heap.size 25 i0 (.int .u32 0) 1 4 Try.underlying27 hi hz0 hz1 hz2 rfl (by decide) v X.length (X.map bv) hs (h.own.alloc _) ⟨wr.heap.size, 0, none⟩ 1 1 [bv (UInt32.ofNat b)] hx rfl ?_ ?_ ?_ ?_ ?_ ?_
  · exact one_cell wr _ _ (by simp; omega)
  · intro u hu; simp at hu; subst hu; rfl
  · unfold maxLen; omega
  · omega
  · have := h.bel.size; simp; omega
  · intro v2 W2 hown2 hgrow2 _
    refine hK v2 W2 ⟨by simpa using hown2, ?_⟩
    exact (h.bel.alloc h.bel.size _).grown hgrow2 (by have := h.bel.size; simp; omega) (fun q hq => (h.own.lt q hq).1)


theorem run_append_nilc {w : World} {base : Nat} {ty : TypeId} {v : Value} {n : Nat} {xs : List Value} (c : Nat) (hown : w.ownsRow base 25 1 v n xs) :
    (Builtin.append_ #[27, 27] ty #[v, .slice none 0 c]).run Try.prog w = .ok v w := by
  obtain ⟨i0, hi, hz0, hz1, hz2⟩ := info_parts Try.info25
  rcases hown.2 with ⟨rfl, rfl⟩ | ⟨g, cap, cur, rfl, _, _, hnc, _⟩
  · simp [Builtin.append_, run_underlying Try.underlying27, sizeOf, typeInfo, hi, Builtin.lenOf, Builtin.firstCells]
  · simp [Builtin.append_, run_underlying Try.underlying27, sizeOf, typeInfo, hi, Builtin.lenOf, Builtin.firstCells, hnc, storeCells]

theorem own_grown {w w' : World} {base n : Nat} {v : Value} {xs : List Value} {row : Option Nat} (h : w.ownsRow base 25 1 v n xs) (hg : w.grownBy w' row) (hne : ∀ k, v.ownBlock = some k → row ≠ some k) : w'.ownsRow base 25 1 v n xs := by
  refine h.kept hg ?_
  cases hv : v.ownBlock with
  | none => exact .inl rfl
  | some k => exact .inr (by intro e; exact hne k hv e.symm)
/-- Two slices do not lie in one block. -/
def Apart2 (v u : Value) : Prop := ∀ k, v.ownBlock = some k → u.ownBlock ≠ some k
theorem Apart2.swap {v u : Value} (h : Apart2 v u) : Apart2 u v := fun k hk e => h k e hk
theorem apart2_nil (u : Value) : Apart2 (.slice none 0 0) u := fun k hk => by cases hk
/-- What an append to v leaves of the other lists of bytes that are owned. -/
def Keeps (w w' : World) (v v' : Value) : Prop := ∀ b u n xs, w.ownsRow b 25 1 u n xs → Apart2 v u → w'.ownsRow b 25 1 u n xs ∧ Apart2 v' u
theorem keeps_of {w w' : World} {v v' : Value} (hg : w.grownBy w' v.ownBlock) (hf : v'.ownBlock = v.ownBlock ∨ ∃ k, v'.ownBlock = some k ∧ w.heap.size ≤ k) : Keeps w w' v v' := by
  intro b u n xs hu ha
  refine ⟨own_grown hu hg (fun k hk e => ha k e hk), fun k hk e => ?_⟩
  rcases hf with h | ⟨k2, h, h2⟩
  · exact ha k (h ▸ hk) e
  · rw [h] at hk
    cases hk
    have := (hu.lt k e).2
    omega

theorem run_append_fresh {w : World} {base : Nat} {ty : TypeId} {v : Value} {n : Nat} {xs : List Value} (hown : w.ownsRow base 25 1 v n xs)
    (a : Addr) (m c : Nat) (news : List Value) (hl : news.length = m) (hnews : ∀ j u, news[j]? = some u → w.cell? (a.add j) = some u) (h1 : ∀ u ∈ news, u.oneCell' = true) (h48 : n + m ≤ 1000000000) (hbase : base ≤ w.heap.size) :
    ∃ v' w', (Builtin.append_ #[27, 27] ty #[v, .slice (some a) m c]).run Try.prog w = .ok v' w' ∧ w'.ownsRow base 25 1 v' (n + m) (xs ++ news) ∧ w.grownBy w' v.ownBlock ∧ Keeps w w' v v' ∧ (v'.ownBlock = v.ownBlock ∨ ∃ k, v'.ownBlock = some k ∧ w.heap.size ≤ k) := by
  obtain ⟨i0, hi, hz0, hz1, hz2⟩ := info_parts Try.info25
  have hl' : news.length = m * i0.size := by rw [hz1, Nat.mul_one]; exact hl
  obtain ⟨v', w', hr, h2, h3, h4⟩ := run_append_own (P := Try.prog) w base 27 ty 25 i0 (.int .u32 0) 1 4 Try.underlying27 hi hz0 hz1 hz2 rfl (by decide) v n xs hown a m c news (by rw [Nat.mul_one]; exact hl) hnews h1 (by unfold maxLen; omega) (by omega) hbase
  refine (fun hfr : v'.ownBlock = v.ownBlock ∨ ∃ k, v'.ownBlock = some k ∧ w.heap.size ≤ k => ?_) ?_
  · exact ⟨v', w', hr, h2, h3, keeps_of h3 hfr, hfr⟩
  rcases hown.2 with ⟨rfl, rfl⟩ | ⟨g, cap, cur, rfl, hbg, hg, hnc, hcm, hcs, htake⟩
  · by_cases hm : m = 0
    · left
      rw [h4.2 ⟨rfl, hm⟩]
    · have e := run_append_nil (P := Try.prog) w 27 ty 25 i0 (.int .u32 0) Try.underlying27 hi hz0 a m c news hl' hnews (by omega) (by omega) (by rw [hz2]; omega)
      rw [e] at hr
      injection hr with e1 _
      exact .inr ⟨w.heap.size, by rw [← e1]; rfl, Nat.le_refl _⟩
  · by_cases hroom : n + m ≤ cap
    · have e := run_append_room (P := Try.prog) w 27 ty 25 i0 Try.underlying27 hi g n cap cur hg a m c news hl' hnews h1 hroom (by rw [hl, hz1, hcs]; omega)
      rw [e] at hr
      injection hr with e1 _
      exact .inl (by rw [← e1]; rfl)
    · have holds : ∀ j u, xs[j]? = some u → w.cell? ((⟨g, 0, none⟩ : Addr).add j) = some u := hown.cells (g := g) rfl
      have e := run_append_grow (P := Try.prog) w 27 ty 25 i0 (.int .u32 0) Try.underlying27 hi hz0 ⟨g, 0, none⟩ n cap xs (by rw [hz1]; exact hown.1) holds a m c news hl' hnews (by omega) (by omega) (growslice_fits (by omega) (by rw [hz2]; omega))
      rw [e] at hr
      injection hr with e1 _
      exact .inr ⟨w.heap.size, by rw [← e1]; rfl, Nat.le_refl _⟩

theorem wpList_append_bytes {w : World} {ops : Array Oper} {rest : List Oper} {o : Oper} {a : Act} {Q : Exit → Act → World → Prop} (hgd : o.guard = none) (s x : Operand)
    (ho : o.op = .call { callee := .builtin .append, args := #[s, x], argTypes := #[27, 27] })
    (base : Nat) (w0 : World) (v : Value) (n : Nat) (l : List UInt32) (hs : a.eval s = v) (hown : w.ownsRow base 25 1 v n (l.map bv))
    (A : Option Addr) (m c : Nat) (l2 : List UInt32) (hx : a.eval x = .slice A m c) (hB : IsB w A m c l2) (h48 : n + m ≤ 1000000000) (hb : Below base w0 w) (hbase : base ≤ w0.heap.size)
    (h : ∀ v' w', Hid (w'.ownsRow base 25 1 v' (n + m) ((l ++ l2).map bv)) → Hid (Below base w0 w') → Hid (Keeps w w' v v') → wpList Try.prog ops Q rest (a.put o.dst v') w') : wpList Try.prog ops Q (o :: rest) a w := by
  rcases A with _ | ad
  · have hm : m = 0 := by
      rcases Nat.eq_zero_or_pos m with h0 | h0
      · exact h0
      · obtain ⟨ad, e, _⟩ := hB.lies (by rw [hB.len]; exact h0)
        cases e
    subst hm
    obtain rfl : l2 = [] := List.eq_nil_of_length_eq_zero hB.len
    refine wpList_plain hgd fun K hK => ?_
    have hrun := run_append_nilc (ty := o.type) c hown
    unfold Oper.wp
    simp [execOp, ho, resolve, invoke, builtin, hs, hx, hrun, Result.andThen]
    refine hK _ _ (h v w ?_ hb (fun _ _ _ _ hu ha => ⟨hu, ha⟩))
    show World.ownsRow _ _ _ _ _ _ _
    simpa using hown
  · have hc : ∀ j u, (l2.map bv)[j]? = some u → w.cell? (ad.add j) = some u := by
      intro j u hu
      have hj : j < l2.length := by have e := (List.getElem?_eq_some_iff.1 hu).1; simpa using e
      obtain ⟨ad', e, hc⟩ := hB.lies (by omega)
      cases e
      rw [map_bv_getElem? l2 j hj] at hu
      cases hu
      exact hc j hj
    obtain ⟨v', w', hr, h2, h3, h4, _⟩ := run_append_fresh (ty := o.type) hown ad m c (l2.map bv) (by rw [List.length_map, hB.len]) hc (bv_one l2) h48 (Nat.le_trans hbase hb.size)
    refine wpList_plain hgd fun K hK => ?_
    unfold Oper.wp execOp
    simp only [ho, resolve, invoke, builtin, Sem.run_bind, Sem.run_pure, Result.andThen_ok, List.map_toArray, List.map_cons, List.map_nil, hs, hx, hr]
    exact hK _ _ (h v' w' (by show World.ownsRow _ _ _ _ _ _ _; rw [List.map_append]; exact h2) (hb.grown h3 (Nat.le_trans hbase hb.size) (fun k hk => (hown.lt k hk).1)) h4)
/-- One byte in a new block. -/
theorem one_isB (W : World) (b : UInt32) (x : Int) (hx : x = (b.toNat : Int)) : IsB (W.alloc (.cells #[.int .u32 x] 25)) (some ⟨W.heap.size, 0, none⟩) 1 1 [b] :=
  ⟨rfl, Nat.le_refl _, by unfold maxLen; omega, by omega, fun _ => ⟨_, rfl, fun j hj => one_cell W b x hx j _ (map_bv_getElem? [b] j hj)⟩⟩
theorem keeps_alloc {W w' : World} {v v' : Value} {o : Obj} (h : Keeps (W.alloc o) w' v v') : Keeps W w' v v' := fun b u n xs hu ha => h b u n xs (hu.alloc _) ha


end Go.Proofs.Ytaogileaeflnfaa.U
