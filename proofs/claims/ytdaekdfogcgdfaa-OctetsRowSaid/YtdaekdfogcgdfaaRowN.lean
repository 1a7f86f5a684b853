/-
  What OctetsRow's walk wants: things, their bytes and places; slices of things that came in.
-/
import Derived.Test.YtdaekdfogcgdfaaThing
import Derived.Deep.Strs
namespace Go.Proofs.Ytdaekdfogcgdfaa
open Go.RowKit

abbrev Th := Nat × Nat × ByteArray
def cellsT (t : Th) : List Value := [.int .u8 t.1, .int .u64 t.2.1, .string t.2.2]
def encs (R : List Th) : List UInt8 := R.flatMap fun t => encT t.1 t.2.1 t.2.2
def lens (R : List Th) : Nat := (R.map fun t => lenT t.1 t.2.2).sum
def posL (a : Nat) (R : List Th) : List Nat := (List.range (R.length + 1)).map fun j => a + lens (R.take j)
def good (t : Th) : Bool := decide (t.2.2.size ≤ 60)
def kept (Ts : List Th) (k : Nat) : List Th := (Ts.take k).filter good
theorem encs_len (R : List Th) : (encs R).length = lens R := by
  unfold encs lens
  rw [List.length_flatMap]
  congr 1
  apply List.map_congr_left
  intro t _
  exact encT_len _ _ _
theorem lens_snoc (R : List Th) (t : Th) : lens (R ++ [t]) = lens R + lenT t.1 t.2.2 := by simp [lens]
theorem encs_snoc (R : List Th) (t : Th) : encs (R ++ [t]) = encs R ++ encT t.1 t.2.1 t.2.2 := by simp [encs]
theorem posL_snoc (a : Nat) (R : List Th) (t : Th) : posL a (R ++ [t]) = posL a R ++ [a + lens R + lenT t.1 t.2.2] := by
  unfold posL
  rw [List.length_append, List.length_singleton, List.range_succ, List.map_append]
  congr 1
  · apply List.map_congr_left
    intro j hj
    have : j ≤ R.length := by have := List.mem_range.1 hj; omega
    rw [List.take_append_of_le_length this]
  · rw [List.map_singleton, List.take_of_length_le (by simp), lens_snoc, Nat.add_assoc]
theorem posL_nil (a : Nat) : posL a [] = [a] := by simp [posL, lens]
theorem posL_len (a : Nat) (R : List Th) : (posL a R).length = R.length + 1 := by simp [posL]
theorem lenT_le (wd : Nat) (S : ByteArray) (h : S.size ≤ 60) : lenT wd S ≤ 62 := by
  unfold lenT
  split
  · omega
  · split
    · omega
    · split
      · omega
      · split <;> omega
theorem kept_len (Ts : List Th) (k : Nat) : (kept Ts k).length ≤ k := by
  unfold kept
  exact Nat.le_trans (List.length_filter_le _ _) (List.length_take_le _ _)
theorem lens_kept (Ts : List Th) : ∀ k : Nat, lens (kept Ts k) ≤ 62 * k := by
  intro k
  have h : ∀ R : List Th, (∀ t ∈ R, good t = true) → lens R ≤ 62 * R.length := by
    intro R
    induction R with
    | nil => intro _; simp [lens]
    | cons t R ih =>
      intro hg
      have h1 := ih (fun x hx => hg x (List.mem_cons_of_mem _ hx))
      have h2 : t.2.2.size ≤ 60 := of_decide_eq_true (hg t (List.mem_cons_self))
      have h3 := lenT_le t.1 t.2.2 h2
      have e : lens (t :: R) = lenT t.1 t.2.2 + lens R := by simp [lens]
      rw [e, List.length_cons]
      omega
  have h1 := h (kept Ts k) (fun t ht => (List.mem_filter.1 ht).2)
  have h2 := kept_len Ts k
  omega
theorem kept_yes (Ts : List Th) (k : Nat) (h : k < Ts.length) (hg : Ts[k].2.2.size ≤ 60) : kept Ts (k + 1) = kept Ts k ++ [Ts[k]] := by
  have : good Ts[k] = true := decide_eq_true hg
  unfold kept
  rw [List.take_succ_eq_append_getElem h, List.filter_append]
  simp [this]
theorem kept_no (Ts : List Th) (k : Nat) (h : k < Ts.length) (hg : ¬ Ts[k].2.2.size ≤ 60) : kept Ts (k + 1) = kept Ts k := by
  have : good Ts[k] = false := decide_eq_false hg
  unfold kept
  rw [List.take_succ_eq_append_getElem h, List.filter_append]
  simp [this]

/-- A slice of things that came in. -/
structure IsT (w : World) (B : Nat) (A : Option Addr) (n c : Nat) (Ts : List Th) : Prop where
  len : Ts.length = n
  cap : n ≤ c
  max : c ≤ maxLen
  addr : 0 < n → ∃ ad, A = some ad
  lies : ∀ ad, A = some ad → 0 < n → ad.block < B ∧ ∀ i (h : i < Ts.length), w.cell? (ad.add (i * 3)) = some (.int .u8 Ts[i].1) ∧ w.cell? (ad.add (i * 3 + 1)) = some (.int .u64 Ts[i].2.1) ∧ w.cell? (ad.add (i * 3 + 2)) = some (.string Ts[i].2.2)
  nums : ∀ t ∈ Ts, t.2.1 < 18446744073709551616
  strs : ∀ t ∈ Ts, t.2.2.size ≤ maxLen
theorem own_other {w : World} {base base' e e' s s' n n' : Nat} {v v' : Value} {xs xs' : List Value} (h : w.ownsRow base e s v n xs) (h' : w.ownsRow base' e' s' v' n' xs') (hne : e ≠ e') : v'.ownBlock = none ∨ v'.ownBlock ≠ v.ownBlock := by
  rcases h'.2 with ⟨rfl, _⟩ | ⟨g', cap', cur', rfl, _, hh', _⟩
  · exact .inl rfl
  · rcases h.2 with ⟨rfl, _⟩ | ⟨g, cap, cur, rfl, _, hh, _⟩
    · exact .inr (by simp [Value.ownBlock])
    · refine .inr (fun e1 => ?_)
      have e2 : g' = g := by simpa [Value.ownBlock] using e1
      subst e2
      rw [hh] at hh'
      injection hh' with hh'
      injection hh' with _ ht
      exact hne ht
theorem own_isBB {w : World} {base n : Nat} {v : Value} {l : List UInt8} (h : w.ownsRow base 5 1 v n (l.map bv)) (hs : n ≤ 140737488355328) : ∃ A c, v = .slice A n c ∧ IsBB w w.heap.size A n c l := by
  have hl : l.length = n := by simpa using h.1
  have hc := fun g (hg : v.ownBlock = some g) => h.cells hg
  rcases h.2 with ⟨rfl, rfl⟩ | ⟨g, cap, cur, rfl, _, hh, hn, hm, _, _⟩
  · obtain rfl := List.eq_nil_of_length_eq_zero hl
    exact ⟨none, 0, rfl, isBB_nil _ _⟩
  · refine ⟨_, cap, rfl, ⟨hl, hn, hm, hs, fun _ => ⟨_, rfl, fun j hj => hc g rfl j _ (map_bv_getElem? l j hj)⟩⟩, fun _ ad e => ?_⟩
    cases e
    rcases Nat.lt_or_ge g w.heap.size with hlt | hge
    · exact hlt
    · rw [Array.getElem?_eq_none hge] at hh; cases hh
set_option maxHeartbeats 400000 in
theorem CopyBytes_any (A : Option Addr) (l : List UInt8) (n c : Nat) (w : World) (h : IsBB w w.heap.size A n c l) :
    Calls Try.prog 28 #[.slice A n c] w fun e w' => ∃ v, e = .returned v ∧ w'.ownsRow w.heap.size 5 1 v n (l.map bv) ∧ Below w.heap.size w w' := by
  go_enter Try.func28, Try.ntmps28
  go_wp2_with (go_at_call 43; refine (own_any _ _ _ _ _ h).mono ?_; rintro e w1 ⟨v, rfl, hown, hbel⟩)
  go_ret
  exact ⟨v, rfl, hown, hbel⟩

theorem add_one_ (a : Addr) : a.add 1 = { block := a.block, off := a.off + 1 } := rfl
theorem add_two_ (a : Addr) : a.add 2 = { block := a.block, off := a.off + 2 } := rfl
theorem Try.info56 : (Try.prog.info? 56).map (fun i => (i.zero, i.size, i.bytes)) = some (some (.agg #[.int .u8 0, .int .u64 0, .string ⟨#[]⟩]), 3, 32) := by kernel_rfl
theorem Try.info3 : (Try.prog.info? 3).map (fun i => (i.zero, i.size, i.bytes)) = some (some (.int .i64 0), 1, 8) := by kernel_rfl
theorem own_isB2 {w : World} {base n c : Nat} {A : Option Addr} {l : List UInt8} (h : w.ownsRow base 5 1 (.slice A n c) n (l.map bv)) (hs : n ≤ 140737488355328) : IsBB w w.heap.size A n c l := by
  obtain ⟨A', c', e, hb⟩ := own_isBB h hs
  cases e
  exact hb
theorem own_below {w w' : World} {base e s n : Nat} {v : Value} {xs : List Value} (h : w.ownsRow base e s v n xs) (hb : Below w.heap.size w w') : w'.ownsRow base e s v n xs := by
  have hlt := h.lt
  obtain ⟨h1, h2⟩ := h
  refine ⟨h1, ?_⟩
  rcases h2 with h2 | ⟨g, cap, cur, rfl, hg, hh, r⟩
  · exact .inl h2
  · exact .inr ⟨g, cap, cur, rfl, hg, (hb.block g (hlt g rfl).2).trans hh, r⟩
theorem three_cells (W : World) (t : Th) : ∀ (j : Nat) (u : Value), (cellsT t)[j]? = some u →
    (W.alloc (.cells #[.int .u8 t.1, .int .u64 t.2.1, .string t.2.2] 56)).cell? (({ block := W.heap.size, off := 0 } : Addr).add j) = some u := by
  intro j u hu
  have hh : (W.alloc (.cells #[.int .u8 t.1, .int .u64 t.2.1, .string t.2.2] 56)).heap[W.heap.size]? = some (.cells #[.int .u8 t.1, .int .u64 t.2.1, .string t.2.2] 56 (0, 0)) := heap_alloc_new W _
  rw [Addr.add_lit, Nat.zero_add, row_cell hh j]
  simpa [cellsT] using hu
theorem int_cell (W : World) (x : Int) : ∀ (j : Nat) (u : Value), [Value.int .i64 x][j]? = some u →
    (W.alloc (.cells #[.int .i64 x] 3)).cell? (({ block := W.heap.size, off := 0 } : Addr).add j) = some u := by
  intro j u hu
  have hh : (W.alloc (.cells #[.int .i64 x] 3)).heap[W.heap.size]? = some (.cells #[.int .i64 x] 3 (0, 0)) := heap_alloc_new W _
  rw [Addr.add_lit, Nat.zero_add, row_cell hh j]
  simpa using hu
theorem front_of {w : World} {A : Option Addr} {n m c : Nat} {l t : List UInt8} (h : IsB w A m c (l ++ t)) (hl : l.length = n) : IsB w A n c l := by
  have hlen := h.len
  rw [List.length_append] at hlen
  have h1 := h.cap
  have h2 := h.small
  refine ⟨hl, by omega, h.max, by omega, fun hp => ?_⟩
  obtain ⟨ad, e, hc⟩ := h.lies (by rw [List.length_append]; omega)
  refine ⟨ad, e, fun j hj => ?_⟩
  rw [hc j (by rw [List.length_append]; omega), List.getElem_append_left hj]
theorem flat3 : ∀ (R : List Th) (j i : Nat) (h : j < R.length), i < 3 → (R.flatMap cellsT)[j * 3 + i]? = (cellsT R[j])[i]?
  | [], j, i, h, _ => by simp at h
  | t :: R, 0, i, _, hi => by
    rw [List.flatMap_cons, Nat.zero_mul, Nat.zero_add, List.getElem?_append_left (by simp [cellsT]; omega)]
    rfl
  | t :: R, j + 1, i, h, hi => by
    have hl : (cellsT t).length = 3 := rfl
    have e : (j + 1) * 3 + i - (cellsT t).length = j * 3 + i := by rw [hl]; omega
    rw [List.flatMap_cons, List.getElem?_append_right (by rw [hl]; omega), e, flat3 R j i (by simpa using h) hi]
    rfl
theorem row_at {w : World} {base c : Nat} {A : Option Addr} {R : List Th} (h : w.ownsRow base 56 3 (.slice A R.length c) R.length (R.flatMap cellsT)) (j : Nat) (hj : j < R.length) :
    ∃ g, A = some ⟨g, 0, none⟩ ∧ w.cell? ⟨g, j * 3, none⟩ = some (.int .u8 R[j].1) ∧ w.cell? ⟨g, j * 3 + 1, none⟩ = some (.int .u64 R[j].2.1) ∧ w.cell? ⟨g, j * 3 + 2, none⟩ = some (.string R[j].2.2) := by
  rcases h.2 with ⟨_, h0⟩ | ⟨g, cap, cur, hv, _⟩
  · omega
  · cases hv
    have hc := h.cells (g := g) rfl
    refine ⟨g, rfl, ?_, ?_, ?_⟩
    · have := hc (j * 3 + 0) _ (flat3 R j 0 hj (by omega))
      rwa [Addr.add_lit, Nat.zero_add] at this
    · have := hc (j * 3 + 1) _ (flat3 R j 1 hj (by omega))
      rwa [Addr.add_lit, Nat.zero_add] at this
    · have := hc (j * 3 + 2) _ (flat3 R j 2 hj (by omega))
      rwa [Addr.add_lit, Nat.zero_add] at this
theorem pos_at {w : World} {base c n : Nat} {A : Option Addr} {R : List Th} (h : w.ownsRow base 3 1 (.slice A (R.length + 1) c) (R.length + 1) ((posL n R).map fun p : Nat => Value.int .i64 (p : Int))) (j : Nat) (hj : j < R.length) :
    ∃ g, A = some ⟨g, 0, none⟩ ∧ w.cell? ⟨g, j, none⟩ = some (.int .i64 ((n + lens (R.take j) : Nat) : Int)) ∧ w.cell? ⟨g, j + 1, none⟩ = some (.int .i64 ((n + lens (R.take (j + 1)) : Nat) : Int)) := by
  rcases h.2 with ⟨_, h0⟩ | ⟨g, cap, cur, hv, _⟩
  · omega
  · cases hv
    have hc := h.cells (g := g) rfl
    have hp : ∀ i, i ≤ R.length → ((posL n R).map fun p : Nat => Value.int .i64 (p : Int))[i]? = some (.int .i64 ((n + lens (R.take i) : Nat) : Int)) := by
      intro i hi
      have : i < R.length + 1 := by omega
      simp [posL, this]
    refine ⟨g, rfl, ?_, ?_⟩
    · have := hc j _ (hp j (by omega))
      rwa [Addr.add_lit, Nat.zero_add] at this
    · have := hc (j + 1) _ (hp (j + 1) (by omega))
      rwa [Addr.add_lit, Nat.zero_add] at this
theorem cut_at (n L cut cb : Nat) (hn : n ≤ 40) (hL : L ≤ 10000) (hcb : n + L ≤ cb) : ∃ m : Nat, n ≤ m ∧ m ≤ n + L ∧ (m : Int) ≤ (n : Int) + (L : Int) ∧ (m : Int) ≤ (cb : Int) ∧ wrap64 ((n : Int) + (cut : Int) % ((n : Int) + (L : Int) - (n : Int) + 1)) = (m : Int) := by
  have h1 := Nat.mod_lt cut (show 0 < L + 1 by omega)
  refine ⟨n + cut % (L + 1), by omega, by omega, by omega, by omega, ?_⟩
  have e2 : (n : Int) + (L : Int) - (n : Int) + 1 = ((L + 1 : Nat) : Int) := by omega
  have e3 : (cut : Int) % ((L + 1 : Nat) : Int) = ((cut % (L + 1) : Nat) : Int) := (Int.natCast_emod cut (L + 1)).symm
  rw [e2, e3]
  generalize cut % (L + 1) = x at *
  unfold wrap64
  omega
theorem lens_small {L k : Nat} (h : L ≤ 62 * k) (hk : k ≤ 20) : L ≤ 10000 := by omega
theorem pos_succ (n : Nat) (R : List Th) (j : Nat) (h : j < R.length) : n + lens (R.take (j + 1)) = n + lens (R.take j) + lenT R[j].1 R[j].2.2 := by
  rw [List.take_succ_eq_append_getElem h, lens_snoc, Nat.add_assoc]
theorem split_at (l : List UInt8) (R : List Th) (j : Nat) (h : j < R.length) : l ++ encs R = (l ++ encs (R.take j)) ++ encT R[j].1 R[j].2.1 R[j].2.2 ++ encs (R.drop (j + 1)) := by
  have e : R = R.take j ++ (R[j] :: R.drop (j + 1)) := by rw [← List.drop_eq_getElem_cons h, List.take_append_drop]
  have e2 : encs R = encs (R.take j) ++ (encT R[j].1 R[j].2.1 R[j].2.2 ++ encs (R.drop (j + 1))) := by
    unfold encs
    conv => lhs; rw [e]
    rw [List.flatMap_append, List.flatMap_cons]
  rw [e2]
  simp
/-- Of a list that is cut behind m bytes: the thing stands whole, or none does. -/
theorem cut_case (wd N : Nat) (S : ByteArray) (p q : List UInt8) (m : Nat) (hN : N < 18446744073709551616) (hS : S.size ≤ 60) (hm : m ≤ (p ++ encT wd N S ++ q).length) :
    (p.length + lenT wd S ≤ m → okT wd ((p ++ encT wd N S ++ q).take m) m p.length = true ∧ sameT wd N S ((p ++ encT wd N S ++ q).take m) m p.length = true) ∧
    (m < p.length + lenT wd S → okT wd ((p ++ encT wd N S ++ q).take m) m p.length = false) := by
  refine ⟨fun h => ?_, fun h => stands_no wd N S p q m hS h⟩
  have hl : (p ++ encT wd N S).length = p.length + lenT wd S := by rw [List.length_append, encT_len]
  have e : (p ++ encT wd N S ++ q).take m = p ++ encT wd N S ++ q.take (m - (p.length + lenT wd S)) := by
    rw [List.take_append, hl, List.take_of_length_le (by omega)]
  rw [e]
  have := stands_yes wd N S p (q.take (m - (p.length + lenT wd S))) m hN hS (by
    rw [← e, List.length_take]; omega)
  exact ⟨this.1, this.2.1⟩
theorem take_isB {w : World} {B : Nat} {A : Option Addr} {n m c : Nat} {l : List UInt8} (h : IsBB w B A n c l) (hm : m ≤ n) : IsBB w B A m c (l.take m) := by
  have hl := h.len
  have h1 := h.cap
  have h2 := h.small
  refine ⟨⟨by rw [List.length_take]; omega, by omega, h.max, by omega, fun hp => ?_⟩, fun hp => h.low (by rw [List.length_take] at hp; omega)⟩
  have hp2 : 0 < l.length := by rw [List.length_take] at hp; omega
  obtain ⟨ad, e, hc⟩ := h.lies hp2
  refine ⟨ad, e, fun j hj => ?_⟩
  have hj2 : j < l.length := by rw [List.length_take] at hj; omega
  rw [hc j hj2, List.getElem_take]
theorem box_cells (wr w5 : World) (wd N : Nat) (S : ByteArray) (h : Below (wr.alloc (Obj.cells #[Value.int IntKind.u8 (wd : Int), Value.int IntKind.u64 (N : Int), Value.string S] 56)).heap.size (wr.alloc (Obj.cells #[Value.int IntKind.u8 (wd : Int), Value.int IntKind.u64 (N : Int), Value.string S] 56)).drew w5) :
    w5.cell? ⟨wr.heap.size, 0, none⟩ = some (.int .u8 wd) ∧ w5.cell? ⟨wr.heap.size, 1, none⟩ = some (.int .u64 N) ∧ w5.cell? ⟨wr.heap.size, 2, none⟩ = some (.string S) := by
  have hh : (wr.alloc (Obj.cells #[Value.int IntKind.u8 (wd : Int), Value.int IntKind.u64 (N : Int), Value.string S] 56)).heap[wr.heap.size]? = some (.cells #[Value.int IntKind.u8 (wd : Int), Value.int IntKind.u64 (N : Int), Value.string S] 56 (0, 0)) := heap_alloc_new wr _
  have h5 : w5.heap[wr.heap.size]? = some (.cells #[Value.int IntKind.u8 (wd : Int), Value.int IntKind.u64 (N : Int), Value.string S] 56 (0, 0)) := (h.block wr.heap.size (by simp)).trans hh
  exact ⟨row_cell h5 0, row_cell h5 1, row_cell h5 2⟩
theorem bel_trans {w a b : World} (h : Below w.heap.size w a) (k : Below a.heap.size a b) : Below w.heap.size w b := h.trans (k.mono h.size)
structure RowSt (w wr : World) (n : Nat) (l : List UInt8) (R : List Th) (vb vr vp : Value) : Prop where
  bytes : wr.ownsRow w.heap.size 5 1 vb (n + lens R) ((l ++ encs R).map bv)
  row : wr.ownsRow w.heap.size 56 3 vr R.length (R.flatMap cellsT)
  places : wr.ownsRow w.heap.size 3 1 vp (R.length + 1) ((posL n R).map fun p : Nat => Value.int .i64 (p : Int))
  bel : Below w.heap.size w wr
theorem own_slice {w : World} {base e s n : Nat} {v : Value} {xs : List Value} (h : w.ownsRow base e s v n xs) : ∃ A c, v = .slice A n c ∧ n ≤ c ∧ c ≤ maxLen := by
  rcases h.2 with ⟨rfl, rfl⟩ | ⟨g, cap, cur, rfl, _, _, hn, hm, _⟩
  · exact ⟨none, 0, rfl, Nat.le_refl _, Nat.zero_le _⟩
  · exact ⟨_, cap, rfl, hn, hm⟩

theorem exists_list {p : Nat → Th → Prop} : ∀ n : Nat, (∀ i, i < n → ∃ t, p i t) → ∃ Ts : List Th, Ts.length = n ∧ ∀ i (h : i < Ts.length), p i Ts[i] := by
  intro n
  induction n with
  | zero => intro _; exact ⟨[], rfl, fun i h => absurd h (by simp)⟩
  | succ n ih =>
    intro h
    obtain ⟨Ts, hl, hp⟩ := ih (fun i hi => h i (by omega))
    obtain ⟨t, ht⟩ := h n (by omega)
    refine ⟨Ts ++ [t], by simp [hl], fun i hi => ?_⟩
    by_cases hlt : i < Ts.length
    · rw [List.getElem_append_left hlt]; exact hp i hlt
    · have : i = n := by simp at hi; omega
      subst this
      rw [List.getElem_append_right (by omega)]
      simpa [hl] using ht
theorem cells56 : Try.prog.cellsOf 56 = 3 := by kernel_rfl
theorem cells5 : Try.prog.cellsOf 5 = 1 := by kernel_rfl
theorem cells25 : Try.prog.cellsOf 25 = 1 := by kernel_rfl
theorem cells9 : Try.prog.cellsOf 9 = 1 := by kernel_rfl
section
variable {H : Type} {enc : TypeId × Value → H} {w : World} {base : Nat} {sp : Nat → Bool} {held : Bool}
theorem thing_at {n : Nat} {cs : List Value} {y : DataW H × List MemPlace} (h : DataW.trod enc Try.prog w base sp held n 56 cs = some y) :
    ∃ t : Th, cs = cellsT t ∧ t.2.1 < 18446744073709551616 ∧ t.2.2.size ≤ maxLen := by
  obtain ⟨y0, y1, y2, n', _, hl, h0, h1, h2⟩ := Go.Deep.trod_struct3 Try.underlying56 h
  rw [cells56] at hl
  match cs, hl with
  | [c0, c1, c2], _ =>
    simp only [cells5, cells25, cells9] at h0 h1 h2
    obtain ⟨a, e0, _, wa⟩ := DataW.trod_int Try.underlying5 h0
    obtain ⟨b, e1, _, wb⟩ := DataW.trod_int Try.underlying25 h1
    obtain ⟨s, e2, _, hs⟩ := DataW.trod_string Try.underlying9 h2
    simp at e0 e1 e2
    subst e0 e1 e2
    have ba := wf_u8 wa
    obtain ⟨V, rfl, hV⟩ := u64_nat wb
    refine ⟨(a.toNat, V, s), ?_, hV, hs⟩
    have : ((a.toNat : Nat) : Int) = a := by omega
    simp [cellsT, this]
theorem open_things {fuel len cap : Nat} {a : Option Addr} {x : DataW H × List MemPlace} (h : DataW.trod enc Try.prog w base sp held fuel 54 [.slice a len cap] = some x) : ∃ Ts, IsT w w.heap.size a len cap Ts := by
  rcases Go.Deep.open_slice Try.underlying54 h with ⟨hcs, _⟩ | ⟨ad, l, c, m, n, D, Pl, hcs, _, hl, hm, hmm, hx, hi⟩
  · simp at hcs
    obtain ⟨rfl, rfl, rfl⟩ := hcs
    refine ⟨[], rfl, Nat.le_refl _, Nat.zero_le _, fun h0 => absurd h0 (by omega), fun _ _ h0 => absurd h0 (by omega), fun t ht => absurd ht (by simp), fun t ht => absurd ht (by simp)⟩
  · simp at hcs
    obtain ⟨rfl, rfl, rfl⟩ := hcs
    have hlm : len ≤ m := by rw [hmm]; split <;> omega
    have each : ∀ i, i < len → ∃ t : Th, (w.cell? (ad.add (i * 3)) = some (.int .u8 t.1) ∧ w.cell? (ad.add (i * 3 + 1)) = some (.int .u64 t.2.1) ∧ w.cell? (ad.add (i * 3 + 2)) = some (.string t.2.2)) ∧ t.2.1 < 18446744073709551616 ∧ t.2.2.size ≤ maxLen := by
      intro i hil
      obtain ⟨cs', hc, ht⟩ := hi i (by omega)
      rw [cells56] at hc
      obtain ⟨_, _, hat⟩ := World.cells?_some hc
      obtain ⟨t, rfl, h1, h2⟩ := thing_at ht
      have c0 := hat 0 (by omega)
      have c1 := hat 1 (by omega)
      have c2 := hat 2 (by omega)
      rw [add_of_add] at c0 c1 c2
      exact ⟨t, ⟨c0, c1, c2⟩, h1, h2⟩
    obtain ⟨Ts, hTl, hT⟩ := exists_list len each
    refine ⟨Ts, hTl, hl, hm, fun _ => ⟨ad, rfl⟩, fun ad' e h0 => ?_, fun t ht => ?_, fun t ht => ?_⟩
    · cases e
      refine ⟨?_, fun i hil => (hT i hil).1⟩
      have := lt_of_cell (hT 0 (by omega)).1.1
      rw [block_of_add] at this
      exact this
    · obtain ⟨i, hil, rfl⟩ := List.getElem_of_mem ht
      exact (hT i hil).2.1
    · obtain ⟨i, hil, rfl⟩ := List.getElem_of_mem ht
      exact (hT i hil).2.2
end

end Go.Proofs.Ytdaekdfogcgdfaa
