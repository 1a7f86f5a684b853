/-
  The parts of a blend at work (chapter 12) as plain data: their tables stay as long and within their ranges, whatever is learnt, and no part leans out of its range.
-/
import Derived.Test.YtkfdbibgjoaefaaDoorPrn
import Derived.Test.YtkfdbibgjoaefaaDoorSqn
import Derived.Test.YtkfdbibgjoaefaaDoorStn
namespace Go.Proofs.YtkfdbibgjoaefaaDoor

def into (n a b : Int) : Int := if n < a then a else if b < n then b else n
theorem into_range (n a b : Int) (h : a ≤ b) : a ≤ into n a b ∧ into n a b ≤ b := by
  unfold into
  split
  · omega
  · split <;> omega
/-- A context's place in a table of 2^size. -/
def placeN (h c : Nat) (size : Int) : Nat := if size = 0 then 0 else ((h ^^^ (c * 40503 % 4294967296)) * 2654435761 % 4294967296) / 2 ^ (32 - size).toNat
theorem placeN_lt (h c : Nat) (size : Int) (h0 : 0 ≤ size) (h1 : size ≤ 32) : placeN h c size < 2 ^ size.toNat := by
  unfold placeN
  split
  · exact Nat.two_pow_pos _
  · apply Nat.div_lt_of_lt_mul
    have e : (4294967296 : Nat) = 2 ^ (32 - size).toNat * 2 ^ size.toNat := by
      rw [← Nat.pow_add, show (32 - size).toNat + size.toNat = 32 from by omega]
    rw [← e]
    exact Nat.mod_lt _ (by decide)
/-- A part with its tables. -/
structure Un where
  p : Pt
  h : Nat := 0
  chance : List Int := []
  count : List Int := []
  state : List Nat := []
  weight : List Int := []
  number : List Nat := []
  ring : List Nat := []
  pos : Nat := 0
  len : Nat := 0
def pw (n : Int) : Nat := 2 ^ n.toNat
/-- A pair of each state. -/
def w8 : List Int := (List.replicate 256 [(65536 : Int), 0]).flatten
/-- The tables at first. -/
def begun (p : Pt) : Un :=
  if p.kind = 2 then { p := p, chance := List.replicate (pw p.size) 2097152, count := List.replicate (pw p.size) 0 }
  else if p.kind = 3 then { p := p, state := List.replicate (pw p.size) 0, chance := (List.range 256).map (fun s => (chN s : Int)) }
  else if p.kind = 4 then { p := p, ring := List.replicate (pw p.size) 0, number := List.replicate (pw p.size) 0 }
  else if p.kind = 6 then { p := p, weight := List.replicate (pw p.size) 32768 }
  else if p.kind = 7 then { p := p, weight := List.replicate (pw p.size * p.b.toNat) (65536 / p.b) }
  else if p.kind = 8 then { p := p, state := List.replicate (pw p.size) 0, weight := w8 }
  else if p.kind = 9 then { p := p, chance := (List.range (pw p.size * 32)).map (fun i => sq ((i % 32 : Nat) * 132 - 2047) * 1024), count := List.replicate (pw p.size * 32) 0 }
  else { p := p }
def Un.foretold (u : Un) (c bits : Nat) : Int :=
  if u.len = 0 then 0
  else if c ≠ (u.ring.getD u.pos 0 + 256) / 2 ^ (8 - bits) then 0
  else if u.ring.getD u.pos 0 / 2 ^ (7 - bits) % 2 = 0 then -((min u.len 15 * 64 : Nat) : Int) else ((min u.len 15 * 64 : Nat) : Int)
def at0 (l : List Int) (i : Int) : Int := l.getD i.toNat 0
def mixSum (w : List Int) (a : Nat) (l : List Int) (b : Int) : Nat → Int
  | 0 => 0
  | k + 1 => mixSum w a l b k + w.getD (a + k) 0 * at0 l (b + k)
/-- How it leans, by those ahead of it. -/
def Un.lean (u : Un) (c bits : Nat) (l : List Int) : Int :=
  let a := placeN u.h c u.p.size
  if u.p.kind = 1 then u.p.c
  else if u.p.kind = 2 then stz (u.chance.getD a 0 / 1024)
  else if u.p.kind = 3 then stz (u.chance.getD (u.state.getD a 0) 0 / 16)
  else if u.p.kind = 4 then u.foretold c bits
  else if u.p.kind = 5 then (u.p.c * at0 l u.p.a + (256 - u.p.c) * at0 l u.p.b) / 256
  else if u.p.kind = 6 then (u.weight.getD a 0 * at0 l u.p.a + (65536 - u.weight.getD a 0) * at0 l u.p.b) / 65536
  else if u.p.kind = 7 then into (mixSum u.weight (a * u.p.b.toNat) l u.p.a u.p.b.toNat / 65536) (-2047) 2047
  else if u.p.kind = 8 then into ((u.weight.getD (2 * u.state.getD a 0) 0 * at0 l u.p.a + u.weight.getD (2 * u.state.getD a 0 + 1) 0 * 64) / 65536) (-2047) 2047
  else stz (u.chance.getD (a * 32 + ((at0 l u.p.a + 2047) / 128).toNat) 0 / 1024)
/-- A chance with its count learns. -/
def Un.slow (u : Un) (i : Nat) (one : Bool) : Un :=
  { u with chance := u.chance.set i (u.chance.getD i 0 + Int.tdiv ((if one then 4194303 else 0) - u.chance.getD i 0) (u.count.getD i 0 + 2)), count := u.count.set i (into (u.count.getD i 0 + 1) 0 u.p.limit) }
def mixLearn (w : List Int) (a : Nat) (l : List Int) (b : Int) (e : Int) : Nat → List Int
  | 0 => w
  | k + 1 => (mixLearn w a l b e k).set (a + k) (into (w.getD (a + k) 0 + (e * at0 l (b + k) + 8192) / 16384) (-1048576) 1048576)
def Un.learn (u : Un) (c : Nat) (l : List Int) (lean : Int) (one : Bool) : Un :=
  let a := placeN u.h c u.p.size
  let e := (if one then 4095 else 0) - sq lean
  if u.p.kind = 2 then u.slow a one
  else if u.p.kind = 3 then
    { u with chance := u.chance.set (u.state.getD a 0) (u.chance.getD (u.state.getD a 0) 0 + Int.tdiv ((if one then 65535 else 0) - u.chance.getD (u.state.getD a 0) 0) 64), state := u.state.set a (nxN (u.state.getD a 0) one) }
  else if u.p.kind = 6 then { u with weight := u.weight.set a (into (u.weight.getD a 0 + (e * u.p.rate * (at0 l u.p.a - at0 l u.p.b) + 512) / 1024) 0 65535) }
  else if u.p.kind = 7 then { u with weight := mixLearn u.weight (a * u.p.b.toNat) l u.p.a (e * u.p.rate) u.p.b.toNat }
  else if u.p.kind = 8 then
    { u with weight := (u.weight.set (2 * u.state.getD a 0) (into (u.weight.getD (2 * u.state.getD a 0) 0 + (e * at0 l u.p.a + 4096) / 8192) (-1048576) 1048576)).set (2 * u.state.getD a 0 + 1) (into (u.weight.getD (2 * u.state.getD a 0 + 1) 0 + (e + 16) / 32) (-1048576) 1048576), state := u.state.set a (nxN (u.state.getD a 0) one) }
  else if u.p.kind = 9 then u.slow (a * 32 + ((at0 l u.p.a + 2047) / 128).toNat) one
  else u
/-- A match at a byte's end. -/
def Un.whole (u : Un) (c whole : Nat) : Un :=
  if u.p.kind = 4 then
    { u with
      len := if 0 < u.len ∧ u.ring.getD u.pos 0 = c % 256 then min (u.len + 1) 32 else 0,
      pos := if 0 < u.len ∧ u.ring.getD u.pos 0 = c % 256 then (u.pos + 1) % pw u.p.size else u.pos,
      ring := u.ring.set (whole % pw u.p.size) (c % 256) }
  else u
def mlen (ring : List Nat) (n q w : Nat) : Nat → Nat → Nat
  | 0, k => k
  | f + 1, k => if k < q ∧ ring.getD ((q - k - 1) % n) 0 = ring.getD ((w - k - 1) % n) 0 then mlen ring n q w f (k + 1) else k
/-- A match is looked for. -/
def Un.find (u : Un) (whole : Nat) : Un :=
  let a := placeN u.h 1 u.p.size
  { u with
    len := if u.len = 0 ∧ u.number.getD a 0 ≠ 0 then mlen u.ring (pw u.p.size) (u.number.getD a 0) whole 32 0 else u.len,
    pos := if u.len = 0 ∧ u.number.getD a 0 ≠ 0 then u.number.getD a 0 % pw u.p.size else u.pos,
    number := u.number.set a whole }
theorem gD_in {α : Type} (l : List α) (a : α) {i : Nat} (h : i < l.length) : l.getD i a = l[i] := by
  rw [List.getD_eq_getElem?_getD, List.getElem?_eq_getElem h, Option.getD_some]
theorem gD_out {α : Type} (l : List α) (a : α) {i : Nat} (h : l.length ≤ i) : l.getD i a = a := by
  rw [List.getD_eq_getElem?_getD, List.getElem?_eq_none h, Option.getD_none]
/-- All of a list lie in a range. -/
def InR (l : List Int) (a b : Int) : Prop := ∀ i, a ≤ l.getD i a ∧ l.getD i a ≤ b
theorem InR.get {l : List Int} {a b : Int} (h : InR l a b) (i : Nat) (hi : i < l.length) : a ≤ l.getD i 0 ∧ l.getD i 0 ≤ b := by
  have := h i
  rw [gD_in _ _ hi] at this ⊢
  exact this
theorem InR.of {l : List Int} {a b : Int} (hab : a ≤ b) (h : ∀ x ∈ l, a ≤ x ∧ x ≤ b) : InR l a b := by
  intro i
  by_cases hi : i < l.length
  · rw [gD_in _ _ hi]
    exact h _ (List.getElem_mem hi)
  · rw [gD_out _ _ (by omega)]
    exact ⟨Int.le_refl _, hab⟩
theorem InR.set {l : List Int} {a b : Int} (h : InR l a b) (i : Nat) (x : Int) (hx : a ≤ x ∧ x ≤ b) : InR (l.set i x) a b := by
  intro j
  by_cases hj : j < l.length
  · have hj2 : j < (l.set i x).length := by rw [List.length_set]; exact hj
    rw [gD_in _ _ hj2, List.getElem_set]
    split
    · exact hx
    · have := h j
      rw [gD_in _ _ hj] at this
      exact this
  · have := h j
    rw [gD_out _ _ (by omega)] at this
    rw [gD_out _ _ (by rw [List.length_set]; omega)]
    exact this
/-- The same, of small numbers. -/
def InN (l : List Nat) (b : Nat) : Prop := ∀ i, l.getD i 0 ≤ b
theorem InN.of {l : List Nat} {b : Nat} (h : ∀ x ∈ l, x ≤ b) : InN l b := by
  intro i
  by_cases hi : i < l.length
  · rw [gD_in _ _ hi]; exact h _ (List.getElem_mem hi)
  · rw [gD_out _ _ (by omega)]; exact Nat.zero_le _
theorem InN.set {l : List Nat} {b : Nat} (h : InN l b) (i x : Nat) (hx : x ≤ b) : InN (l.set i x) b := by
  intro j
  by_cases hj : j < l.length
  · have hj2 : j < (l.set i x).length := by rw [List.length_set]; exact hj
    rw [gD_in _ _ hj2, List.getElem_set]
    split
    · exact hx
    · have := h j
      rw [gD_in _ _ hj] at this
      exact this
  · rw [gD_out _ _ (by rw [List.length_set]; omega)]; exact Nat.zero_le _
/-- Its tables are as long as its kind says, and within their ranges; w: how many bytes were whole. -/
def Un.ok (u : Un) (w : Nat) : Prop :=
  if u.p.kind = 2 then u.chance.length = pw u.p.size ∧ u.count.length = pw u.p.size ∧ InR u.chance 0 4194303 ∧ InR u.count 0 1023
  else if u.p.kind = 3 then u.state.length = pw u.p.size ∧ InN u.state 255 ∧ u.chance.length = 256 ∧ InR u.chance 0 65535
  else if u.p.kind = 4 then u.ring.length = pw u.p.size ∧ u.number.length = pw u.p.size ∧ InN u.ring 255 ∧ InN u.number w ∧ u.pos < pw u.p.size ∧ u.len ≤ 32
  else if u.p.kind = 6 then u.weight.length = pw u.p.size ∧ InR u.weight 0 65535
  else if u.p.kind = 7 then u.weight.length = pw u.p.size * u.p.b.toNat ∧ InR u.weight (-1048576) 1048576
  else if u.p.kind = 8 then u.state.length = pw u.p.size ∧ InN u.state 255 ∧ u.weight.length = 512 ∧ InR u.weight (-1048576) 1048576
  else if u.p.kind = 9 then u.chance.length = pw u.p.size * 32 ∧ u.count.length = pw u.p.size * 32 ∧ InR u.chance 0 4194303 ∧ InR u.count 0 1023
  else True
theorem pw_pos (n : Int) : 1 ≤ pw n := Nat.one_le_two_pow
theorem rep_in (n : Nat) (x a b : Int) (h : a ≤ x ∧ x ≤ b) : InR (List.replicate n x) a b := InR.of (by omega) fun y hy => by rw [List.eq_of_mem_replicate hy]; exact h
theorem repN_in (n x b : Nat) (h : x ≤ b) : InN (List.replicate n x) b := InN.of fun y hy => by rw [List.eq_of_mem_replicate hy]; exact h
theorem w8_len : w8.length = 512 := by decide +kernel
theorem w8_in : InR w8 (-1048576) 1048576 := InR.of (by decide) fun x hx => by
  obtain ⟨l, hl, hx⟩ := List.mem_flatten.1 hx
  rw [List.eq_of_mem_replicate hl] at hx
  simp only [List.mem_cons, List.not_mem_nil, or_false] at hx
  rcases hx with e | e <;> subst e <;> decide
theorem begun_p (p : Pt) : (begun p).p = p := by
  unfold begun
  repeat' split
  all_goals rfl
theorem begun_ok (p : Pt) (i : Int) (h : p.one i) : (begun p).ok 0 := by
  have hk := one_kind p i h
  have hl := one_leans p i h
  unfold Un.ok
  rw [begun_p]
  by_cases k2 : p.kind = 2
  · rw [if_pos k2]
    unfold begun
    rw [if_pos k2]
    exact ⟨List.length_replicate, List.length_replicate, rep_in _ _ _ _ (by decide), rep_in _ _ _ _ (by decide)⟩
  rw [if_neg k2]
  by_cases k3 : p.kind = 3
  · rw [if_pos k3]
    unfold begun
    rw [if_neg k2, if_pos k3]
    refine ⟨List.length_replicate, repN_in _ _ _ (by decide), by simp, InR.of (by decide) fun x hx => ?_⟩
    obtain ⟨s, hs, e⟩ := List.mem_map.1 hx
    have := chN_range s (List.mem_range.1 hs)
    subst e
    omega
  rw [if_neg k3]
  by_cases k4 : p.kind = 4
  · rw [if_pos k4]
    unfold begun
    rw [if_neg k2, if_neg k3, if_pos k4]
    exact ⟨List.length_replicate, List.length_replicate, repN_in _ _ _ (by decide), repN_in _ _ _ (by decide), pw_pos _, Nat.zero_le _⟩
  rw [if_neg k4]
  by_cases k6 : p.kind = 6
  · rw [if_pos k6]
    unfold begun
    rw [if_neg k2, if_neg k3, if_neg k4, if_pos k6]
    exact ⟨List.length_replicate, rep_in _ _ _ _ (by decide)⟩
  rw [if_neg k6]
  by_cases k7 : p.kind = 7
  · rw [if_pos k7]
    unfold begun
    rw [if_neg k2, if_neg k3, if_neg k4, if_neg k6, if_pos k7]
    have hb : 1 ≤ p.b := by rcases hl with h | h | h <;> omega
    refine ⟨List.length_replicate, rep_in _ _ _ _ ⟨?_, ?_⟩⟩
    · have := Int.ediv_nonneg (a := 65536) (b := p.b) (by decide) (by omega)
      omega
    · have := Int.ediv_le_self (a := 65536) p.b (by decide)
      omega
  rw [if_neg k7]
  by_cases k8 : p.kind = 8
  · rw [if_pos k8]
    unfold begun
    rw [if_neg k2, if_neg k3, if_neg k4, if_neg k6, if_neg k7, if_pos k8]
    exact ⟨List.length_replicate, repN_in _ _ _ (by decide), w8_len, w8_in⟩
  rw [if_neg k8]
  by_cases k9 : p.kind = 9
  · rw [if_pos k9]
    unfold begun
    rw [if_neg k2, if_neg k3, if_neg k4, if_neg k6, if_neg k7, if_neg k8, if_pos k9]
    refine ⟨by simp, List.length_replicate, InR.of (by decide) fun x hx => ?_, rep_in _ _ _ _ (by decide)⟩
    obtain ⟨s, hs, e⟩ := List.mem_map.1 hx
    have := sq_range ((s % 32 : Nat) * 132 - 2047)
    subst e
    omega
  rw [if_neg k9]
  trivial
def Lean1 (d : Int) : Prop := -2047 ≤ d ∧ d ≤ 2047
/-- A mean of two numbers lies between them. -/
theorem mean_range (w n x y : Int) (hn : 0 < n) (hw : 0 ≤ w ∧ w ≤ n) (hx : Lean1 x) (hy : Lean1 y) : Lean1 ((w * x + (n - w) * y) / n) := by
  obtain ⟨x1, x2⟩ := hx
  obtain ⟨y1, y2⟩ := hy
  have a1 : w * x ≤ w * 2047 := Int.mul_le_mul_of_nonneg_left x2 hw.1
  have a2 : (n - w) * y ≤ (n - w) * 2047 := Int.mul_le_mul_of_nonneg_left y2 (by omega)
  have a3 : w * (-2047) ≤ w * x := Int.mul_le_mul_of_nonneg_left x1 hw.1
  have a4 : (n - w) * (-2047) ≤ (n - w) * y := Int.mul_le_mul_of_nonneg_left y1 (by omega)
  constructor
  · rw [Int.le_ediv_iff_mul_le hn]; omega
  · apply Int.lt_add_one_iff.1
    rw [Int.ediv_lt_iff_lt_mul hn]; omega
theorem at0_lean (l : List Int) (h : ∀ d ∈ l, Lean1 d) (i : Int) : Lean1 (at0 l i) := by
  unfold at0
  by_cases hi : i.toNat < l.length
  · rw [gD_in _ _ hi]; exact h _ (List.getElem_mem hi)
  · rw [gD_out _ _ (by omega)]; exact ⟨by decide, by decide⟩
/-- No part leans out of its range. -/
theorem lean_range (u : Un) (i : Int) (w c bits : Nat) (l : List Int) (hp : u.p.one i) (h : u.ok w) (hl : ∀ d ∈ l, Lean1 d) : Lean1 (u.lean c bits l) := by
  have hk := one_kind u.p i hp
  have hf := hp.2
  unfold Pt.fit inn at hf
  unfold Un.lean
  simp only
  by_cases k1 : u.p.kind = 1
  · rw [if_pos k1] at hf ⊢
    exact hf
  rw [if_neg k1] at hf ⊢
  by_cases k2 : u.p.kind = 2
  · rw [if_pos k2]; exact stz_range _
  rw [if_neg k2] at hf ⊢
  by_cases k3 : u.p.kind = 3
  · rw [if_pos k3]; exact stz_range _
  rw [if_neg k3]
  by_cases k4 : u.p.kind = 4
  · rw [if_pos k4]
    unfold Un.foretold Lean1
    have := Nat.min_le_right u.len 15
    split
    · omega
    · split
      · omega
      · split <;> omega
  rw [if_neg (by omega)] at hf
  rw [if_neg k4]
  by_cases k5 : u.p.kind = 5
  · rw [if_pos k5] at hf ⊢
    exact mean_range u.p.c 256 _ _ (by decide) ⟨hf.2.2.1, hf.2.2.2⟩ (at0_lean l hl _) (at0_lean l hl _)
  rw [if_neg k5]
  by_cases k6 : u.p.kind = 6
  · rw [if_pos k6]
    unfold Un.ok at h
    rw [if_neg k2, if_neg k3, if_neg k4, if_pos k6] at h
    rw [if_neg k5, if_pos k6] at hf
    have hs := places_size u.p hf.1
    have := h.2.get (placeN u.h c u.p.size) (by rw [h.1]; exact placeN_lt _ _ _ hs.1 (by omega))
    exact mean_range _ 65536 _ _ (by decide) ⟨this.1, by omega⟩ (at0_lean l hl _) (at0_lean l hl _)
  rw [if_neg k6]
  by_cases k7 : u.p.kind = 7
  · rw [if_pos k7]; exact into_range _ _ _ (by decide)
  rw [if_neg k7]
  by_cases k8 : u.p.kind = 8
  · rw [if_pos k8]; exact into_range _ _ _ (by decide)
  rw [if_neg k8]
  exact stz_range _
theorem step_range (x t n m : Int) (hx : 0 ≤ x ∧ x ≤ m) (ht : 0 ≤ t ∧ t ≤ m) (hn : 2 ≤ n) : 0 ≤ x + Int.tdiv (t - x) n ∧ x + Int.tdiv (t - x) n ≤ m := by
  by_cases h : x ≤ t
  · have h1 := Int.tdiv_nonneg (a := t - x) (b := n) (by omega) (by omega)
    have h2 := Int.tdiv_le_self (a := t - x) n (by omega)
    omega
  · have e : Int.tdiv (t - x) n = -(Int.tdiv (x - t) n) := by rw [← Int.neg_tdiv]; congr 1; omega
    have h1 := Int.tdiv_nonneg (a := x - t) (b := n) (by omega) (by omega)
    have h2 := Int.tdiv_le_self (a := x - t) n (by omega)
    omega
theorem slow_ok (u : Un) (i n : Nat) (one : Bool) (hi : i < n) (hlim : 0 ≤ u.p.limit ∧ u.p.limit ≤ 1023) (h : u.chance.length = n ∧ u.count.length = n ∧ InR u.chance 0 4194303 ∧ InR u.count 0 1023) :
    (u.slow i one).chance.length = n ∧ (u.slow i one).count.length = n ∧ InR (u.slow i one).chance 0 4194303 ∧ InR (u.slow i one).count 0 1023 := by
  obtain ⟨h1, h2, h3, h4⟩ := h
  have c1 := h3.get i (by omega)
  have c2 := h4.get i (by omega)
  refine ⟨by simp [Un.slow, h1], by simp [Un.slow, h2], h3.set i _ (step_range _ _ _ _ c1 (by cases one <;> decide) (by omega)), h4.set i _ ?_⟩
  have := into_range (u.count.getD i 0 + 1) 0 u.p.limit hlim.1
  omega
theorem mixLearn_len (w : List Int) (a : Nat) (l : List Int) (b e : Int) : ∀ k, (mixLearn w a l b e k).length = w.length
  | 0 => rfl
  | k + 1 => by unfold mixLearn; rw [List.length_set, mixLearn_len w a l b e k]
theorem mixLearn_in (w : List Int) (a : Nat) (l : List Int) (b e : Int) (h : InR w (-1048576) 1048576) : ∀ k, InR (mixLearn w a l b e k) (-1048576) 1048576
  | 0 => h
  | k + 1 => by unfold mixLearn; exact (mixLearn_in w a l b e h k).set _ _ (into_range _ _ _ (by decide))
theorem nx255 (s : Nat) (h : s ≤ 255) (one : Bool) : nxN s one ≤ 255 := by have := nxN_lt s (by omega) one; omega
theorem learn_p (u : Un) (c : Nat) (l : List Int) (d : Int) (one : Bool) : (u.learn c l d one).p = u.p := by
  unfold Un.learn
  simp only
  repeat' split
  all_goals rfl
/-- What learns stays right. -/
theorem learn_ok (u : Un) (i : Int) (w c : Nat) (l : List Int) (d : Int) (one : Bool) (hp : u.p.one i) (h : u.ok w) (hl : ∀ d ∈ l, Lean1 d) : (u.learn c l d one).ok w := by
  have hk := one_kind u.p i hp
  have hf := hp.2
  unfold Pt.fit inn at hf
  unfold Un.ok at h ⊢
  rw [learn_p]
  unfold Un.learn
  simp only
  by_cases k2 : u.p.kind = 2
  · rw [if_neg (by omega), if_pos k2] at hf
    rw [if_pos k2] at h ⊢
    rw [if_pos k2]
    have hs := places_size u.p hf.1
    exact slow_ok u _ _ one (placeN_lt _ _ _ hs.1 (by omega)) (by omega) h
  rw [if_neg k2] at h ⊢
  rw [if_neg k2]
  by_cases k3 : u.p.kind = 3
  · rw [if_pos k3] at h ⊢
    rw [if_pos k3]
    obtain ⟨h1, h2, h3, h4⟩ := h
    have hs := h2 (placeN u.h c u.p.size)
    have c1 := h4.get (u.state.getD (placeN u.h c u.p.size) 0) (by omega)
    exact ⟨by simp [h1], h2.set _ _ (nx255 _ hs one), by simp [h3], h4.set _ _ (step_range _ _ _ _ c1 (by cases one <;> decide) (by decide))⟩
  rw [if_neg k3] at h ⊢
  rw [if_neg k3]
  by_cases k4 : u.p.kind = 4
  · rw [if_pos k4] at h ⊢
    rw [if_neg (by omega), if_neg (by omega), if_neg (by omega), if_neg (by omega)]
    exact h
  rw [if_neg k4] at h ⊢
  by_cases k6 : u.p.kind = 6
  · rw [if_pos k6] at h ⊢
    rw [if_pos k6]
    exact ⟨by simp [h.1], h.2.set _ _ (into_range _ _ _ (by decide))⟩
  rw [if_neg k6] at h ⊢
  rw [if_neg k6]
  by_cases k7 : u.p.kind = 7
  · rw [if_pos k7] at h ⊢
    rw [if_pos k7]
    exact ⟨by simp [mixLearn_len, h.1], mixLearn_in _ _ _ _ _ h.2 _⟩
  rw [if_neg k7] at h ⊢
  rw [if_neg k7]
  by_cases k8 : u.p.kind = 8
  · rw [if_pos k8] at h ⊢
    rw [if_pos k8]
    obtain ⟨h1, h2, h3, h4⟩ := h
    have hs := h2 (placeN u.h c u.p.size)
    exact ⟨by simp [h1], h2.set _ _ (nx255 _ hs one), by simp [h3], (h4.set _ _ (into_range _ _ _ (by decide))).set _ _ (into_range _ _ _ (by decide))⟩
  rw [if_neg k8] at h ⊢
  rw [if_neg k8]
  by_cases k9 : u.p.kind = 9
  · rw [if_neg (by omega), if_neg (by omega), if_neg (by omega), if_neg (by omega), if_neg (by omega), if_neg (by omega), if_neg (by omega), if_pos k9] at hf
    rw [if_pos k9] at h ⊢
    rw [if_pos k9]
    have hs := places_size u.p hf.1
    have hd := at0_lean l hl u.p.a
    have ha := placeN_lt u.h c u.p.size hs.1 (by omega)
    exact slow_ok u _ _ one (by unfold pw; unfold Lean1 at hd; omega) (by omega) h
  rw [if_neg k9]
  trivial
theorem mlen_le (ring : List Nat) (n q w : Nat) : ∀ f k, mlen ring n q w f k ≤ k + f
  | 0, k => by unfold mlen; omega
  | f + 1, k => by
    unfold mlen
    split
    · have := mlen_le ring n q w f (k + 1); omega
    · omega
theorem InN.up {l : List Nat} {a b : Nat} (h : InN l a) (hab : a ≤ b) : InN l b := fun i => Nat.le_trans (h i) hab
theorem whole_ok (u : Un) (w c : Nat) (h : u.ok w) : (u.whole c w).ok (w + 1) := by
  unfold Un.whole
  by_cases k4 : u.p.kind = 4
  · rw [if_pos k4]
    unfold Un.ok at h ⊢
    simp only
    rw [if_neg (by omega), if_neg (by omega), if_pos k4] at h ⊢
    obtain ⟨h1, h2, h3, h4, h5, h6⟩ := h
    refine ⟨by simp [h1], h2, h3.set _ _ (by omega), h4.up (by omega), ?_, ?_⟩
    · split
      · exact Nat.mod_lt _ (pw_pos _)
      · exact h5
    · split <;> omega
  · rw [if_neg k4]
    unfold Un.ok at h ⊢
    rw [if_neg k4] at h ⊢
    exact h
theorem find_ok (u : Un) (w : Nat) (k4 : u.p.kind = 4) (h : u.ok w) : (u.find w).ok w := by
  unfold Un.find
  unfold Un.ok at h ⊢
  simp only
  rw [if_neg (by omega), if_neg (by omega), if_pos k4] at h ⊢
  obtain ⟨h1, h2, h3, h4, h5, h6⟩ := h
  refine ⟨h1, by simp [h2], h3, h4.set _ _ (Nat.le_refl _), ?_, ?_⟩
  · split
    · exact Nat.mod_lt _ (pw_pos _)
    · exact h5
  · split
    · have := mlen_le u.ring (pw u.p.size) (u.number.getD (placeN u.h 1 u.p.size) 0) w 32 0
      omega
    · exact h6
end Go.Proofs.YtkfdbibgjoaefaaDoor
