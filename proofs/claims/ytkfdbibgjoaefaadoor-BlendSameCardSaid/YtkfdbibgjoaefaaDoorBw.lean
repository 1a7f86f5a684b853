/-
  A whole blend in memory: how its parts lean, when they are asked.
-/
import Derived.Test.YtkfdbibgjoaefaaDoorKn
import Derived.Test.YtkfdbibgjoaefaaDoorZh
namespace Go.Proofs.YtkfdbibgjoaefaaDoor
open Go.RowKit

theorem at0_same {a b : List Int} {i : Nat} (h : ∀ j, j < i → a.getD j 0 = b.getD j 0) {k : Int} (h0 : 0 ≤ k) (h1 : k < i) : at0 a k = at0 b k := h _ (by omega)
theorem mixSum_same {a b : List Int} {i : Nat} (h : ∀ j, j < i → a.getD j 0 = b.getD j 0) (w : List Int) (p : Nat) (q : Int) (h0 : 0 ≤ q) : ∀ k : Nat, q + k ≤ i → mixSum w p a q k = mixSum w p b q k
  | 0, _ => rfl
  | k + 1, hk => by
    unfold mixSum
    rw [mixSum_same h w p q h0 k (by omega), at0_same h (k := q + k) (by omega) (by omega)]
/-- A part leans by those ahead of it alone. -/
theorem lean_same (u : Un) (i c bits : Nat) (a b : List Int) (ho : u.p.one (i : Nat)) (h : ∀ j, j < i → a.getD j 0 = b.getD j 0) : u.lean c bits a = u.lean c bits b := by
  unfold Un.lean
  simp only
  by_cases k1 : u.p.kind = 1
  · rw [if_pos k1, if_pos k1]
  rw [if_neg k1, if_neg k1]
  by_cases k2 : u.p.kind = 2
  · rw [if_pos k2, if_pos k2]
  rw [if_neg k2, if_neg k2]
  by_cases k3 : u.p.kind = 3
  · rw [if_pos k3, if_pos k3]
  rw [if_neg k3, if_neg k3]
  by_cases k4 : u.p.kind = 4
  · rw [if_pos k4, if_pos k4]
  rw [if_neg k4, if_neg k4]
  by_cases k5 : u.p.kind = 5
  · obtain ⟨⟨a0, a1⟩, ⟨b0, b1⟩, _⟩ := one_avg ho k5
    rw [if_pos k5, if_pos k5, at0_same h a0 a1, at0_same h b0 b1]
  rw [if_neg k5, if_neg k5]
  by_cases k6 : u.p.kind = 6
  · obtain ⟨_, ⟨a0, a1⟩, ⟨b0, b1⟩, _⟩ := one_mix2 ho k6
    rw [if_pos k6, if_pos k6, at0_same h a0 a1, at0_same h b0 b1]
  rw [if_neg k6, if_neg k6]
  by_cases k7 : u.p.kind = 7
  · obtain ⟨_, ⟨b0, b1⟩, a0, a1, _⟩ := one_mix ho k7
    rw [if_pos k7, if_pos k7, mixSum_same h _ _ _ a0 _ (by omega)]
  rw [if_neg k7, if_neg k7]
  by_cases k8 : u.p.kind = 8
  · obtain ⟨_, a0, a1⟩ := one_isse ho k8
    rw [if_pos k8, if_pos k8, at0_same h a0 a1]
  rw [if_neg k8, if_neg k8]
  have hk := one_kinds ho
  obtain ⟨_, ⟨a0, a1⟩, _⟩ := one_sse ho (by omega)
  rw [at0_same h a0 a1]
theorem leansGo_snoc (c bits : Nat) (u : Un) : ∀ (l : List Un) (a : List Int), leansGo c bits (l ++ [u]) a = leansGo c bits l a ++ [u.lean c bits (leansGo c bits l a)]
  | [], _a => rfl
  | x :: l, a => leansGo_snoc c bits u l (a ++ [x.lean c bits a])
def nth (l : List Un) (i : Nat) : Un := l.getD i { p := ⟨0, 0, 0, 0, 0, 0, 0⟩ }
theorem nth_at (l : List Un) (i : Nat) (h : i < l.length) : nth l i = l[i] := gD_in _ _ h
theorem take_snoc (l : List Un) (i : Nat) (h : i < l.length) : l.take (i + 1) = l.take i ++ [nth l i] := by
  rw [nth_at _ _ h, List.take_succ_eq_append_getElem h]
/-- The list of leans, the first i of them new. -/
def mid (c bits : Nat) (l : List Un) (L : List Int) (i : Nat) : List Int := leansGo c bits (l.take i) [] ++ L.drop i
theorem take_len (c bits : Nat) (l : List Un) (i : Nat) (h : i ≤ l.length) : (leansGo c bits (l.take i) []).length = i := by
  rw [leansGo_len, List.length_nil, List.length_take]; omega
theorem mid_len (c bits : Nat) (l : List Un) (L : List Int) (hl : L.length = l.length) (i : Nat) (h : i ≤ l.length) : (mid c bits l L i).length = l.length := by
  unfold mid
  rw [List.length_append, take_len _ _ _ _ h, List.length_drop]; omega
theorem mid_low (c bits : Nat) (l : List Un) (L : List Int) (i : Nat) (h : i ≤ l.length) (j : Nat) (hj : j < i) : (mid c bits l L i).getD j 0 = (leansGo c bits (l.take i) []).getD j 0 := by
  unfold mid
  rw [List.getD_eq_getElem?_getD, List.getD_eq_getElem?_getD, List.getElem?_append_left (by rw [take_len _ _ _ _ h]; exact hj)]
theorem mid_high (c bits : Nat) (l : List Un) (L : List Int) (i : Nat) (h : i ≤ l.length) (j : Nat) (hj : i ≤ j) : (mid c bits l L i).getD j 0 = L.getD j 0 := by
  unfold mid
  rw [List.getD_eq_getElem?_getD, List.getD_eq_getElem?_getD, List.getElem?_append_right (by rw [take_len _ _ _ _ h]; exact hj), take_len _ _ _ _ h, List.getElem?_drop]
  congr 2; omega
theorem go_succ (c bits : Nat) (l : List Un) (i : Nat) (h : i < l.length) : leansGo c bits (l.take (i + 1)) [] = leansGo c bits (l.take i) [] ++ [(nth l i).lean c bits (leansGo c bits (l.take i) [])] := by
  rw [take_snoc l i h, leansGo_snoc]
theorem mid_at (c bits : Nat) (l : List Un) (L : List Int) (i : Nat) (h : i < l.length) : (mid c bits l L (i + 1)).getD i 0 = (nth l i).lean c bits (leansGo c bits (l.take i) []) := by
  rw [mid_low _ _ _ _ _ (by omega) _ (by omega), go_succ _ _ _ _ h, List.getD_eq_getElem?_getD, List.getElem?_append_right (by rw [take_len _ _ _ _ (by omega)]; exact Nat.le_refl _), take_len _ _ _ _ (by omega), Nat.sub_self]
  rfl
theorem mid_old (c bits : Nat) (l : List Un) (L : List Int) (i : Nat) (h : i < l.length) (j : Nat) (hj : j ≠ i) : (mid c bits l L (i + 1)).getD j 0 = (mid c bits l L i).getD j 0 := by
  by_cases e : j < i
  · rw [mid_low _ _ _ _ _ (by omega) _ (by omega), mid_low _ _ _ _ _ (by omega) _ e, go_succ _ _ _ _ h, List.getD_eq_getElem?_getD, List.getElem?_append_left (by rw [take_len _ _ _ _ (by omega)]; exact e), ← List.getD_eq_getElem?_getD]
  · rw [mid_high _ _ _ _ _ (by omega) _ (by omega), mid_high _ _ _ _ _ (by omega) _ (by omega)]
theorem pick4 {n : Nat} {p : Nat → TypeId → Value → FuncId → Value → Prop} (h : ∀ i, i < n → ∃ T x M R, p i T x M R) : ∃ (T : Nat → TypeId) (x : Nat → Value) (K : Nat → FuncId) (R : Nat → Value), ∀ i, i < n → p i (T i) (x i) (K i) (R i) := by
  have h2 : ∀ i, ∃ q : TypeId × Value × FuncId × Value, i < n → p i q.1 q.2.1 q.2.2.1 q.2.2.2 := by
    intro i
    by_cases e : i < n
    · obtain ⟨T, x, M, R, hp⟩ := h i e
      exact ⟨(T, x, M, R), fun _ => hp⟩
    · exact ⟨(0, undef, 0, undef), fun h => absurd h e⟩
  obtain ⟨f, hf⟩ := Classical.axiomOfChoice h2
  exact ⟨fun i => (f i).1, fun i => (f i).2.1, fun i => (f i).2.2.1, fun i => (f i).2.2.2, hf⟩
/-- Parts that may be asked at a moment. -/
structure Rdy (l : List Un) (wh c bits : Nat) : Prop where
  right : rightP (l.map (·.p)) = 0
  ok : ∀ u ∈ l, u.ok wh
  hu : ∀ u ∈ l, u.h < 4294967296
  b7 : bits ≤ 7
  c0 : 2 ^ bits ≤ c
  c1 : c < 2 ^ (bits + 1)
theorem right_one {l : List Un} (h : rightP (l.map (·.p)) = 0) (i : Nat) (hi : i < l.length) : (nth l i).p.one (i : Nat) := by
  have := ((rightP_ok _).1 h).2.1 i (by rw [List.length_map]; exact hi)
  rw [List.getElem_map] at this
  rw [nth_at _ _ hi]
  exact this
theorem right_len {l : List Un} (h : rightP (l.map (·.p)) = 0) : 1 ≤ l.length ∧ l.length ≤ 16 := by
  have := ((rightP_ok _).1 h).1
  rw [List.length_map] at this
  omega
theorem nth_mem {l : List Un} {i : Nat} (hi : i < l.length) : nth l i ∈ l := by rw [nth_at _ _ hi]; exact List.getElem_mem hi
theorem Rdy.at1 {l : List Un} {wh c bits : Nat} (r : Rdy l wh c bits) (i : Nat) (hi : i < l.length) (L : List Int) (hl : L.length = l.length) (hr : ∀ d ∈ L, Lean1 d) : At1 (nth l i) wh i c bits l.length L :=
  ⟨right_one r.right i hi, r.ok _ (nth_mem hi), r.hu _ (nth_mem hi), hi, (right_len r.right).2, hl, hr, r.b7, r.c0, r.c1⟩
theorem Rdy.rng {l : List Un} {wh c bits : Nat} (r : Rdy l wh c bits) : ∀ d ∈ leansGo c bits l [], Lean1 d := leansGo_range c bits wh l [] (fun _ h => absurd h List.not_mem_nil) fun u hu => by
  obtain ⟨i, hi, e⟩ := List.getElem_of_mem hu
  refine ⟨r.ok u hu, i, ?_⟩
  have := right_one r.right i hi
  rw [nth_at _ _ hi, e] at this
  exact this
theorem leansGo_take_range {l : List Un} {wh c bits : Nat} (r : Rdy l wh c bits) (i : Nat) : ∀ d ∈ leansGo c bits (l.take i) [], Lean1 d := leansGo_range c bits wh (l.take i) [] (fun _ h => absurd h List.not_mem_nil) fun u hu => by
  have hu' := List.mem_of_mem_take hu
  obtain ⟨j, hj, e⟩ := List.getElem_of_mem hu'
  refine ⟨r.ok u hu', j, ?_⟩
  have := right_one r.right j hj
  rw [nth_at _ _ hj, e] at this
  exact this
/-- All parts are asked. -/
theorem bl_ask {w : World} {g pa ct le cap c bits wh : Nat} {v : Nat → Value} {l : List Un} {L : List Int} (b : Bx w g pa ct le l.length cap c v (l.map (·.h)) L) (kn : KnIs w) (S : Nat → Nat → Prop) (r : Rdy l wh c bits) (hL : ∀ d ∈ L, Lean1 d)
    (hu : ∀ i, i < l.length → UnAt w (S i) (v i) (nth l i) wh) (hS : ∀ i, i < l.length → ¬ S i le) (hk : ∀ u ∈ l, LeanK u.p.kind) :
    Calls Tryd.prog 17 #[pt g] w fun e w' => e = .returned (.tuple #[]) ∧ But (· = le) w w' ∧ Bx w' g pa ct le l.length cap c v (l.map (·.h)) (leansGo c bits l []) := by
  have hml := mid_len c bits l L b.lenL
  have hmr : ∀ i, ∀ d ∈ mid c bits l L i, Lean1 d := fun i d hd => by
    unfold mid at hd
    rcases List.mem_append.1 hd with h | h
    · exact leansGo_take_range r i d h
    · exact hL d (List.mem_of_mem_drop h)
  obtain ⟨T, x, K, R, hp⟩ := pick4 (n := l.length) (fun i hi => hk _ (nth_mem hi) (nth l i) (S i) (v i) wh i c bits le l.length (mid c bits l L i) w rfl (r.at1 i hi _ (hml i (by omega)) (hmr i)) (hu i hi))
  have hh : ∀ i, i < l.length → (l.map (·.h)).getD i 0 = (nth l i).h := fun i hi => by
    rw [gD_in _ _ (by rw [List.length_map]; exact hi), List.getElem_map, nth_at _ _ hi]
  have n0 : ¬ (0 : Nat) = le := Ne.symm b.ne.2.2.2.2.2.2.2.2.2
  refine (ask_any b T x K R (fun i hi => (hp i hi).1) (fun i hi => (hp i hi).2.1) (mid c bits l L) (by unfold mid; rw [List.take_zero, List.drop_zero]; rfl) (fun i hi w' => (hp i hi).2.2.1 w') (fun i hi w' bt ro => ?_) (fun i hi => ⟨hml _ (by omega), fun j hj => ?_⟩)).mono ?_
  · rw [hh i hi, mid_at _ _ _ _ _ hi, ← lean_same _ i c bits (mid c bits l L i) _ (right_one r.right i hi) (fun j hj => mid_low _ _ _ _ _ (by omega) _ hj)]
    exact (hp i hi).2.2.2 w' (kn.but bt n0) ((hu i hi).on bt (fun a ha e => hS i hi (e ▸ ha))) ro
  · by_cases e : j = i
    · rw [if_pos e, e]
    · rw [if_neg e, mid_old _ _ _ _ _ hi _ e]
  · rintro e w' ⟨rfl, bt, ro⟩
    have e1 : mid c bits l L l.length = leansGo c bits l [] := by
      unfold mid
      rw [List.take_length, ← b.lenL, List.drop_length, List.append_nil]
    rw [e1] at ro
    exact ⟨rfl, bt, b.setL bt ro (by rw [leansGo_len, List.length_nil, Nat.zero_add])⟩
end Go.Proofs.YtkfdbibgjoaefaaDoor
