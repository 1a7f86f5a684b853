/-
  Bytes in memory: a slice that reads as a list of bytes, a new one, one that came in.
-/
import Derived.Test.YtaogileaeflnfaaProg
import Derived.WalkKit
import Derived.WalkSpells
import Derived.WalkLawsBesides
import Derived.Laws.CopyOwn
import Derived.Laws.Rows
import Derived.OpenShut
namespace Go.Proofs.Ytaogileaeflnfaa
open Go.RowKit

theorem hid {p : Prop} (h : p) : RowKit.Hid p := h
theorem add_of_add (a : Addr) (i j : Nat) : (a.add i).add j = a.add (i + j) := by
  unfold Addr.add
  by_cases hi : i = 0 <;> by_cases hj : j = 0 <;> simp [hi, hj, Nat.add_assoc]
/-- A byte as the model has it. -/
def bv (b : UInt8) : Value := .int .u8 (b.toNat : Int)
/-- The slice of address A, length n and capacity c has the bytes l (nothing is asked of an empty one's address). -/
structure IsB (w : World) (A : Option Addr) (n c : Nat) (l : List UInt8) : Prop where
  len : l.length = n
  cap : n ≤ c
  max : c ≤ maxLen
  small : n ≤ 140737488355328
  lies : 0 < l.length → ∃ ad, A = some ad ∧ ∀ j (h : j < l.length), w.cell? (ad.add j) = some (.int .u8 (l[j].toNat : Int))
theorem Try.info5 : (Try.prog.info? 5).map (fun i => (i.zero, i.size, i.bytes)) = some (some (.int .u8 0), 1, 1) := by kernel_rfl
theorem Try.size5 : (Try.prog.info? 5).map (·.size) = some 1 := by kernel_rfl
/-- A new list of bytes, in memory of the call's own: block g, not frozen. -/
structure New (w w' : World) (g n c : Nat) (l : List UInt8) : Prop where
  own : w'.ownsRow w.heap.size 5 1 (.slice (some ⟨g, 0, none⟩) n c) n (l.map bv)
  bel : Below w.heap.size w w'
  small : n ≤ 140737488355328
theorem map_bv_getElem? (l : List UInt8) (j : Nat) (h : j < l.length) : (l.map bv)[j]? = some (.int .u8 (l[j].toNat : Int)) := by
  simp [bv, h]
theorem New.len {w w' : World} {g n c : Nat} {l : List UInt8} (h : New w w' g n c l) : l.length = n := by simpa using h.own.1
theorem New.row {w w' : World} {g n c : Nat} {l : List UInt8} (h : New w w' g n c l) :
    w.heap.size ≤ g ∧ g < w'.heap.size ∧ n ≤ c ∧ c ≤ maxLen ∧ ∃ cur, w'.heap[g]? = some (.cells cur 5 (0, 0)) ∧ cur.size = c ∧ cur.toList.take n = l.map bv := by
  rcases h.own.2 with ⟨h1, _⟩ | ⟨g', cap, cur, hv, hg, hh, hn, hm, hs, ht⟩
  · cases h1
  · cases hv
    refine ⟨hg, ?_, hn, hm, cur, hh, by simpa using hs, by simpa using ht⟩
    rcases Nat.lt_or_ge g w'.heap.size with hlt | hge
    · exact hlt
    · rw [Array.getElem?_eq_none hge] at hh; cases hh
theorem New.isB {w w' : World} {g n c : Nat} {l : List UInt8} (h : New w w' g n c l) : IsB w' (some ⟨g, 0, none⟩) n c l := by
  obtain ⟨_, _, hn, hm, _⟩ := h.row
  refine ⟨h.len, hn, hm, h.small, fun _ => ⟨_, rfl, fun j hj => ?_⟩⟩
  exact h.own.cells (g := g) rfl j _ (map_bv_getElem? l j hj)
theorem IsB.to {w w' : World} {A : Option Addr} {n c : Nat} {l : List UInt8} (h : IsB w A n c l) (hk : ∀ ad, A = some ad → ∀ j, w'.cell? (ad.add j) = w.cell? (ad.add j)) : IsB w' A n c l :=
  ⟨h.len, h.cap, h.max, h.small, fun hp => by
    obtain ⟨ad, e, hc⟩ := h.lies hp
    exact ⟨ad, e, fun j hj => (hk ad e j).trans (hc j hj)⟩⟩
theorem block_of_add (a : Addr) (n : Nat) : (a.add n).block = a.block := by unfold Addr.add; split <;> rfl
/-- Bytes that lie in a block below B. -/
structure IsBB (w : World) (B : Nat) (A : Option Addr) (n c : Nat) (l : List UInt8) : Prop extends IsB w A n c l where
  low : 0 < l.length → ∀ ad, A = some ad → ad.block < B
theorem IsBB.below {w w' : World} {B : Nat} {A : Option Addr} {n c : Nat} {l : List UInt8} (h : IsBB w B A n c l) (hb : Below B w w') : IsBB w' B A n c l :=
  ⟨⟨h.len, h.cap, h.max, h.small, fun hp => by
    obtain ⟨ad, e, hc⟩ := h.lies hp
    exact ⟨ad, e, fun j hj => (hb.cell (p := ad.add j) (by rw [block_of_add]; exact h.low hp ad e)).trans (hc j hj)⟩⟩, h.low⟩
theorem New.isBB {w w' : World} {g n c : Nat} {l : List UInt8} (h : New w w' g n c l) : IsBB w' w'.heap.size (some ⟨g, 0, none⟩) n c l :=
  ⟨h.isB, fun _ ad e => by cases e; exact h.row.2.1⟩
theorem isBB_nil (w : World) (B : Nat) : IsBB w B none 0 0 [] := ⟨⟨rfl, Nat.le_refl _, Nat.zero_le _, Nat.zero_le _, fun h => absurd h (by simp)⟩, fun h => absurd h (by simp)⟩
theorem row_set {w : World} {g : Nat} {t : TypeId} {cs : Array Value} (h : w.heap[g]? = some (.cells cs t (0, 0))) (i : Nat) (u : Value) :
    (w.setCell ⟨g, i, none⟩ u).heap[g]? = some (.cells (cs.setIfInBounds i u) t (0, 0)) := by
  simp [World.setCell, Array.getElem?_modify, h]
theorem row_cell {w : World} {g : Nat} {t : TypeId} {cs : Array Value} (h : w.heap[g]? = some (.cells cs t (0, 0))) (i : Nat) : w.cell? ⟨g, i, none⟩ = cs[i]? := cell_of_row w g i cs t (0, 0) h
theorem row_free {w : World} {g : Nat} {t : TypeId} {cs : Array Value} (h : w.heap[g]? = some (.cells cs t (0, 0))) (i : Nat) : w.frozen? ⟨g, i, none⟩ = false := by
  simp [World.frozen?, h]
theorem row_own {w w' : World} {g : Nat} {l : List UInt8} (h : w'.heap[g]? = some (.cells (l.map bv).toArray 5 (0, 0))) (hg : w.heap.size ≤ g) (hm : l.length ≤ 140737488355328) (hb : Below w.heap.size w w') : New w w' g l.length l.length l :=
  ⟨⟨by simp, .inr ⟨g, l.length, _, rfl, hg, h, Nat.le_refl _, by unfold maxLen; omega, by simp, by rw [List.take_of_length_le (by simp)]⟩⟩, hb, hm⟩
theorem own_row {w : World} {base g n : Nat} {xs : List Value} (h : w.ownsRow base 5 1 (.slice (some ⟨g, 0, none⟩) n n) n xs) : w.heap[g]? = some (.cells xs.toArray 5 (0, 0)) := by
  rcases h.2 with ⟨h1, _⟩ | ⟨g', cap, cur, hv, hg, hh, hn, hm, hs, ht⟩
  · cases h1
  · cases hv
    have : cur = xs.toArray := by
      apply Array.ext'
      rw [← ht, List.take_of_length_le (by simp; omega)]
    rw [hh, this]
theorem set_toArray (L : List Value) (m : Nat) (u : Value) : L.toArray.setIfInBounds m u = (L.set m u).toArray := by simp
theorem splice_front (cs Z : List Value) : splice (cs ++ Z) 0 cs = cs ++ Z := by simp [splice]
theorem splice_zero (cs : List Value) (n nb : Nat) (z : Value) (h : cs.length = n) : splice (List.replicate (n + nb) z) 0 cs = cs ++ List.replicate nb z := by
  unfold splice
  rw [List.drop_replicate]
  simp
  omega
theorem made_cells (n : Nat) : (madeCells (Value.int .u8 0).cells (n * 1)).toList = List.replicate n (Value.int .u8 0) := by
  have e : (Value.int .u8 0).cells = #[Value.int .u8 0] := rfl
  rw [e, Nat.mul_one]
  apply List.ext_getElem
  · simp [size_madeCells]
  · intro i h1 h2
    simp [madeCells, Nat.mod_one]
theorem IsBB.src {w w' : World} {B : Nat} {A : Option Addr} {n c : Nat} {l : List UInt8} (h : IsBB w B A n c l) (hb : Below B w w') :
    0 < (l.map bv).length → ∃ ad, A = some ad ∧ ∀ j v, (l.map bv)[j]? = some v → w'.cell? (ad.add j) = some v := by
  intro hp
  obtain ⟨ad, e, hc⟩ := (h.below hb).lies (by simpa using hp)
  refine ⟨ad, e, fun j v hv => ?_⟩
  have hj : j < l.length := by
    have := (List.getElem?_eq_some_iff.1 hv).1
    simpa using this
  rw [map_bv_getElem? l j hj] at hv
  cases hv
  exact hc j hj
theorem IsBB.src2 {w w' : World} {B : Nat} {A : Option Addr} {n c : Nat} {l : List UInt8} (h : IsBB w B A n c l) (hb : Below B w w') :
    0 < l.length → ∃ ad, A = some ad ∧ ∀ (j : Nat) (a : UInt8), l[j]? = some a → w'.cell? (ad.add j) = some (bv a) := by
  intro hp
  obtain ⟨ad, e, hc⟩ := h.src hb (by simpa using hp)
  exact ⟨ad, e, fun j a ha => hc j (bv a) (by simp [ha])⟩
theorem bv_one (l : List UInt8) : ∀ v ∈ l.map bv, v.oneCell' = true := by
  intro v hv
  obtain ⟨b, _, rfl⟩ := List.mem_map.1 hv
  rfl
/-- A slice of bytes that came in: it is nil; or it leads to a row of cap cells, the numbers zs (the first len are its elements). -/
def IsRow (w : World) (a : Option Addr) (len cap : Nat) (zs : List Int) : Prop :=
  (a = none ∧ len = 0 ∧ cap = 0 ∧ zs = []) ∨
  ∃ x, a = some x ∧ len ≤ cap ∧ cap ≤ maxLen ∧ zs.length = cap ∧ (∀ i, i < zs.length → w.cell? (x.add i) = some (.int .u8 (zs.getD i 0))) ∧ ∀ n ∈ zs, (Lit.int .u8 n).wf = true
theorem lt_of_cell {w : World} {a : Addr} {v : Value} (h : w.cell? a = some v) : a.block < w.heap.size := by
  rcases Nat.lt_or_ge a.block w.heap.size with hlt | hge
  · exact hlt
  · unfold World.cell? at h
    rw [Array.getElem?_eq_none hge] at h
    simp at h
theorem wf_u8 {z : Int} (h : (Lit.int .u8 z).wf = true) : 0 ≤ z ∧ z ≤ 255 := by
  have := bounds_u8 h
  omega
theorem isBB_of_row {w : World} {a : Option Addr} {len cap : Nat} {zs : List Int} (h : IsRow w a len cap zs) (hs : len ≤ 140737488355328) : ∃ l, IsBB w w.heap.size a len cap l := by
  rcases h with ⟨rfl, rfl, rfl, rfl⟩ | ⟨x, rfl, hl, hm, hz, hc, hw⟩
  · exact ⟨[], isBB_nil w _⟩
  · refine ⟨(zs.take len).map (fun z => UInt8.ofNat z.toNat), ⟨⟨by simp; omega, hl, hm, hs, fun _ => ⟨x, rfl, fun j hj => ?_⟩⟩, fun hp ad e => ?_⟩⟩
    · have hj2 : j < zs.length := by simp at hj; omega
      rw [hc j hj2]
      have hb := wf_u8 (hw zs[j] (List.getElem_mem hj2))
      simp [List.getD, hj2]
      omega
    · cases e
      have hp2 : 0 < zs.length := by simp at hp; omega
      have := lt_of_cell (hc 0 hp2)
      rw [block_of_add] at this
      exact this
theorem IsBB.on {w w' : World} {A : Option Addr} {n c : Nat} {l : List UInt8} (h : IsBB w w.heap.size A n c l) (hb : Below w.heap.size w w') : IsBB w' w'.heap.size A n c l :=
  ⟨(h.below hb).toIsB, fun hp ad e => Nat.lt_of_lt_of_le (h.low hp ad e) hb.size⟩
theorem New.on {w0 w w' : World} {g n c : Nat} {l : List UInt8} (h : New w w' g n c l) (hb : Below w0.heap.size w0 w) : Below w0.heap.size w0 w' := hb.trans (h.bel.mono hb.size)
/-- The first bytes of a list of one's own. -/
theorem New.front {w w' : World} {g n m c : Nat} {l t : List UInt8} (h : New w w' g m c (l ++ t)) (hl : l.length = n) : IsBB w' w'.heap.size (some ⟨g, 0, none⟩) n c l := by
  have hlen := h.len
  obtain ⟨_, hlt, hn, hm, _⟩ := h.row
  have hs := h.small
  rw [List.length_append] at hlen
  refine ⟨⟨hl, by omega, hm, by omega, fun hp => ⟨_, rfl, fun j hj => ?_⟩⟩, fun _ ad e => by cases e; exact hlt⟩
  obtain ⟨ad, e, hc⟩ := h.isB.lies (by rw [List.length_append]; omega)
  cases e
  rw [hc j (by rw [List.length_append]; omega), List.getElem_append_left hj]
theorem own_nil {w : World} {base n : Nat} {v : Value} {xs : List Value} (h : w.ownsRow base 5 1 v n xs) (hn : 0 < n) : ∃ g c, v = .slice (some ⟨g, 0, none⟩) n c := by
  rcases h.2 with ⟨_, h0⟩ | ⟨g', cap, cur, hv, _⟩
  · omega
  · exact ⟨g', cap, hv⟩
theorem below_drewN {B : Nat} {a w : World} (h : Below B a w) (n : Nat) : Below B a (w.drewN n) := ⟨h.os, h.tape, h.output, h.size, h.block⟩
theorem IsBB.drew {w : World} {B : Nat} {A : Option Addr} {n c : Nat} {l : List UInt8} (h : IsBB w B A n c l) : IsBB w.drew B A n c l := ⟨⟨h.len, h.cap, h.max, h.small, h.lies⟩, h.low⟩
theorem IsB.drewN {w : World} {A : Option Addr} {n c : Nat} {l : List UInt8} (h : IsB w A n c l) (k : Nat) : IsB (w.drewN k) A n c l := ⟨h.len, h.cap, h.max, h.small, h.lies⟩
theorem New.base {w0 w w' : World} {g n c : Nat} {l : List UInt8} (h : New w w' g n c l) (hb : Below w0.heap.size w0 w) : New w0 w' g n c l := by
  obtain ⟨h1, h2⟩ := h.own
  refine ⟨⟨h1, ?_⟩, hb.trans (h.bel.mono hb.size), h.small⟩
  rcases h2 with h2 | ⟨g', cap, cur, hv, hg, r⟩
  · exact .inl h2
  · exact .inr ⟨g', cap, cur, hv, Nat.le_trans hb.size hg, r⟩
theorem toNat_mod (v : Nat) : (UInt8.ofNat (v % 256)).toNat = v % 256 := by simp
theorem one_cell (W : World) (b : UInt8) (x : Int) (hx : x = (b.toNat : Int)) : ∀ (j : Nat) (u : Value), [bv b][j]? = some u →
    (W.alloc (.cells #[.int .u8 x] 5)).cell? (({ block := W.heap.size, off := 0 } : Addr).add j) = some u := by
  intro j u hu
  have hh : (W.alloc (.cells #[.int .u8 x] 5)).heap[W.heap.size]? = some (.cells #[.int .u8 x] 5 (0, 0)) := heap_alloc_new W _
  match j, hu with
  | 0, hu =>
    rw [Addr.add_lit, Nat.zero_add, row_cell hh 0]
    simp [bv] at hu
    subst hu
    rw [hx]
    rfl
  | j + 1, hu => simp at hu
theorem own_other {w : World} {base base' e e' s s' n n' : Nat} {v v' : Value} {xs xs' : List Value} (h : w.ownsRow base e s v n xs) (h' : w.ownsRow base' e' s' v' n' xs') (hne : e ≠ e') : v'.ownBlock = none ∨ v'.ownBlock ≠ v.ownBlock := by
  rcases h'.2 with ⟨rfl, _⟩ | ⟨g', cap', cur', rfl, _, hh', _⟩
  · exact .inl rfl
  · rcases h.2 with ⟨rfl, _⟩ | ⟨g, cap, cur, rfl, _, hh, _⟩
    · exact .inr (by simp [Value.ownBlock])
    · refine .inr (fun e1 => ?_)
      have e2 : g' = g := by simpa [Value.ownBlock] using e1
      subst e2
      rw [hh] at hh'
      injection hh' with hh'
      injection hh' with _ ht
      exact hne ht
theorem own_isBB {w : World} {base n : Nat} {v : Value} {l : List UInt8} (h : w.ownsRow base 5 1 v n (l.map bv)) (hs : n ≤ 140737488355328) : ∃ A c, v = .slice A n c ∧ IsBB w w.heap.size A n c l := by
  have hl : l.length = n := by simpa using h.1
  have hc := fun g (hg : v.ownBlock = some g) => h.cells hg
  rcases h.2 with ⟨rfl, rfl⟩ | ⟨g, cap, cur, rfl, _, hh, hn, hm, _, _⟩
  · obtain rfl := List.eq_nil_of_length_eq_zero hl
    exact ⟨none, 0, rfl, isBB_nil _ _⟩
  · refine ⟨_, cap, rfl, ⟨hl, hn, hm, hs, fun _ => ⟨_, rfl, fun j hj => hc g rfl j _ (map_bv_getElem? l j hj)⟩⟩, fun _ ad e => ?_⟩
    cases e
    rcases Nat.lt_or_ge g w.heap.size with hlt | hge
    · exact hlt
    · rw [Array.getElem?_eq_none hge] at hh; cases hh
theorem own_isB2 {w : World} {base n c : Nat} {A : Option Addr} {l : List UInt8} (h : w.ownsRow base 5 1 (.slice A n c) n (l.map bv)) (hs : n ≤ 140737488355328) : IsBB w w.heap.size A n c l := by
  obtain ⟨A', c', e, hb⟩ := own_isBB h hs
  cases e
  exact hb
theorem own_below {w w' : World} {base e s n : Nat} {v : Value} {xs : List Value} (h : w.ownsRow base e s v n xs) (hb : Below w.heap.size w w') : w'.ownsRow base e s v n xs := by
  have hlt := h.lt
  obtain ⟨h1, h2⟩ := h
  refine ⟨h1, ?_⟩
  rcases h2 with h2 | ⟨g, cap, cur, rfl, hg, hh, r⟩
  · exact .inl h2
  · exact .inr ⟨g, cap, cur, rfl, hg, (hb.block g (hlt g rfl).2).trans hh, r⟩
theorem front_of {w : World} {A : Option Addr} {n m c : Nat} {l t : List UInt8} (h : IsB w A m c (l ++ t)) (hl : l.length = n) : IsB w A n c l := by
  have hlen := h.len
  rw [List.length_append] at hlen
  have h1 := h.cap
  have h2 := h.small
  refine ⟨hl, by omega, h.max, by omega, fun hp => ?_⟩
  obtain ⟨ad, e, hc⟩ := h.lies (by rw [List.length_append]; omega)
  refine ⟨ad, e, fun j hj => ?_⟩
  rw [hc j (by rw [List.length_append]; omega), List.getElem_append_left hj]
theorem take_isB {w : World} {B : Nat} {A : Option Addr} {n m c : Nat} {l : List UInt8} (h : IsBB w B A n c l) (hm : m ≤ n) : IsBB w B A m c (l.take m) := by
  have hl := h.len
  have h1 := h.cap
  have h2 := h.small
  refine ⟨⟨by rw [List.length_take]; omega, by omega, h.max, by omega, fun hp => ?_⟩, fun hp => h.low (by rw [List.length_take] at hp; omega)⟩
  have hp2 : 0 < l.length := by rw [List.length_take] at hp; omega
  obtain ⟨ad, e, hc⟩ := h.lies hp2
  refine ⟨ad, e, fun j hj => ?_⟩
  have hj2 : j < l.length := by rw [List.length_take] at hj; omega
  rw [hc j hj2, List.getElem_take]
theorem bel_trans {w a b : World} (h : Below w.heap.size w a) (k : Below a.heap.size a b) : Below w.heap.size w b := h.trans (k.mono h.size)
theorem own_slice {w : World} {base e s n : Nat} {v : Value} {xs : List Value} (h : w.ownsRow base e s v n xs) : ∃ A c, v = .slice A n c ∧ n ≤ c ∧ c ≤ maxLen := by
  rcases h.2 with ⟨rfl, rfl⟩ | ⟨g, cap, cur, rfl, _, _, hn, hm, _⟩
  · exact ⟨none, 0, rfl, Nat.le_refl _, Nat.zero_le _⟩
  · exact ⟨_, cap, rfl, hn, hm⟩
end Go.Proofs.Ytaogileaeflnfaa
