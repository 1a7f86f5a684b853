/-
  A list of lists of statements that is cut from its front and appended to at its end.
-/
import Derived.Test.YtdachagkhjhggaaTre
import Derived.ArgAppend
namespace Go.Proofs.Ytdachagkhjhggaa
open Go.RowKit
set_option linter.unusedVariables false
set_option linter.unusedSimpArgs false

/-- The values L lie in the slice (A, n, c), its own up to c, in a block from base on. -/
structure Que (w : World) (base : Nat) (A : Option Addr) (n c : Nat) (L : List Value) : Prop where
  len : L.length = n
  cap : n ≤ c
  max : c ≤ maxLen
  nil : A = none → c = 0
  lies : 0 < c → ∃ g k, A = some ⟨g, k, none⟩ ∧ base ≤ g ∧ g < w.heap.size ∧ (∀ j u, L[j]? = some u → w.cell? ⟨g, k + j, none⟩ = some u) ∧ (∀ j, j < c → (w.cell? ⟨g, k + j, none⟩).isSome = true ∧ w.frozen? ⟨g, k + j, none⟩ = false)
theorem Que.below {w w' : World} {base : Nat} {A : Option Addr} {n c : Nat} {L : List Value} (h : Que w base A n c L) (hb : Below w.heap.size w w') : Que w' base A n c L := by
  refine ⟨h.len, h.cap, h.max, h.nil, fun h0 => ?_⟩
  obtain ⟨g, k, e, hg, hl, hc, hf⟩ := h.lies h0
  refine ⟨g, k, e, hg, Nat.lt_of_lt_of_le hl hb.size, fun j u hj => (hb.cell (p := ⟨g, k + j, none⟩) hl).trans (hc j u hj), fun j hj => ?_⟩
  rw [hb.cell (p := ⟨g, k + j, none⟩) hl, hb.frozen (p := ⟨g, k + j, none⟩) hl]
  exact hf j hj
theorem Que.head {w : World} {base : Nat} {A : Option Addr} {n c : Nat} {L : List Value} {v : Value} (h : Que w base A n c (v :: L)) : ∃ g k, A = some ⟨g, k, none⟩ ∧ w.cell? ⟨g, k, none⟩ = some v := by
  have hl := h.len
  simp at hl
  obtain ⟨g, k, e, _, _, hc, _⟩ := h.lies (by have := h.cap; omega)
  exact ⟨g, k, e, hc 0 v rfl⟩
/-- Cut from the front. -/
theorem Que.tail {w : World} {base : Nat} {A : Option Addr} {n c : Nat} {L : List Value} {v : Value} (h : Que w base A n c (v :: L)) :
    ∃ A', (∀ w' : World, (Instr.slice 34 (.slice A n c) (some (.int .i64 1)) none none).run Try.prog w' = .ok (.slice A' (n - 1) (c - 1)) w') ∧ Que w base A' (n - 1) (c - 1) L := by
  have hl := h.len
  simp at hl
  have hcap := h.cap
  obtain ⟨g, k, e, hg, hlt, hc, hf⟩ := h.lies (by omega)
  subst e
  refine ⟨if c = 1 then some ⟨g, k, none⟩ else (some ⟨g, k, none⟩ : Option Addr).map (·.add (1 * 1)), fun w' => ?_, ⟨by omega, by omega, by have := h.max; omega, fun e => ?_, fun h0 => ?_⟩⟩
  · have hs : (sizeOf (Try.prog.elem 34)).run Try.prog w' = .ok 1 w' := by kernel_rfl
    rw [run_slice_l (ht := by kernel_rfl) (h0 := by omega) (h1 := by omega), hs]
    simp [Result.andThen, sliced]
  · by_cases h1 : c = 1
    · omega
    · rw [if_neg h1] at e; cases e
  · rw [if_neg (by omega)]
    refine ⟨g, k + 1, by simp [Addr.add_lit], hg, hlt, fun j u hj => ?_, fun j hj => ?_⟩
    · have := hc (j + 1) u hj
      rwa [show k + (j + 1) = k + 1 + j by omega] at this
    · have := hf (j + 1) (by omega)
      rwa [show k + (j + 1) = k + 1 + j by omega] at this
theorem below_setCells {B : Nat} {w0 : World} (b : Nat) (hb : B ≤ b) : ∀ (vs : List Value) (o : Nat) (w : World), Below B w0 w → Below B w0 (w.setCells b o vs)
  | [], _, _, h => h
  | v :: vs, o, w, h => below_setCells b hb vs (o + 1) _ (below_set h _ _ hb)
theorem size_setCells (b : Nat) : ∀ (vs : List Value) (o : Nat) (w : World), (w.setCells b o vs).heap.size = w.heap.size
  | [], _, _ => rfl
  | v :: vs, o, w => (size_setCells b vs (o + 1) _).trans (World.size_setCell _ _ _)
theorem Try.info22 : (Try.prog.info? 22).map (fun i => (i.zero, i.size, i.bytes)) = some (some (.slice none 0 0), 1, 24) := by kernel_rfl
/-- What was made anew. -/
theorem que_own {w : World} {base n : Nat} {v : Value} {L : List Value} (h : w.ownsRow base 22 1 v n L) : ∃ A c, v = .slice A n c ∧ Que w base A n c L := by
  have hlen := h.1
  rcases h.2 with ⟨rfl, rfl⟩ | ⟨g, cap, cur, rfl, hg, hh, hn, hm, hs, ht⟩
  · exact ⟨none, 0, rfl, by simpa using hlen, Nat.le_refl _, Nat.zero_le _, fun _ => rfl, fun h => absurd h (by omega)⟩
  · have hc := h.cells (g := g) rfl
    refine ⟨_, cap, rfl, by simpa using hlen, hn, hm, fun e => (by cases e), fun h0 => ⟨g, 0, rfl, hg, lt_of_heap hh, fun j u hj => ?_, fun j hj => ⟨?_, row_free hh _⟩⟩⟩
    · have := hc j u hj
      rwa [Addr.add_lit] at this
    · rw [row_cell hh, Nat.zero_add, Array.getElem?_eq_getElem (by omega)]
      rfl
/-- Two lists more. -/
theorem que_append {w : World} {base : Nat} {ty : TypeId} {A : Option Addr} {n c : Nat} {L : List Value} (h : Que w base A n c L) (hbase : base ≤ w.heap.size) (a : Addr) (c2 : Nat) (x y : Value)
    (hnews : ∀ j u, ([x, y] : List Value)[j]? = some u → w.cell? (a.add j) = some u) (h1 : ∀ u ∈ ([x, y] : List Value), u.oneCell' = true) (h48 : n + 2 ≤ 1000000) :
    ∃ A' c' w', (Builtin.append_ #[34, 34] ty #[.slice A n c, .slice (some a) 2 c2]).run Try.prog w = .ok (.slice A' (n + 2) c') w' ∧ Que w' base A' (n + 2) c' (L ++ [x, y]) ∧ Below base w w' := by
  obtain ⟨i0, hi, hz0, hz1, hz2⟩ := info_parts Try.info22
  have hlen := h.len
  by_cases hroom : n + 2 ≤ c
  · obtain ⟨g, k, rfl, hg, hlt, hc, hf⟩ := h.lies (by omega)
    have hr := run_append_room_cells (P := Try.prog) w 34 ty 22 i0 Try.underlying34 hi g k n c a 2 c2 [x, y] (by rw [hz1]; rfl) hnews h1 hroom (fun j hj => by rw [hz1, Nat.mul_one, Nat.add_assoc]; exact (hf (n + j) (by simp at hj; omega)).1) (fun j hj => by rw [hz1, Nat.mul_one, Nat.add_assoc]; exact (hf (n + j) (by simp at hj; omega)).2)
    rw [hz1, Nat.mul_one] at hr
    refine ⟨_, _, _, hr, ⟨by simp [hlen], hroom, h.max, h.nil, fun _ => ⟨g, k, rfl, hg, by rw [size_setCells]; exact hlt, fun j u hj => ?_, fun j hj => ?_⟩⟩, below_setCells g hg _ _ _ (Below.refl _ _)⟩
    · by_cases hjn : j < n
      · rw [List.getElem?_append_left (by omega)] at hj
        rw [World.cell?_setCells_out g _ _ w ⟨g, k + j, none⟩ (fun _ _ => Or.inl (by simp; omega))]
        exact hc j u hj
      · rw [List.getElem?_append_right (by omega), hlen] at hj
        have hj2 := (List.getElem?_eq_some_iff.1 hj).1
        have hin := World.cell?_setCells_in g [x, y] (k + n) w (fun j hj => by rw [Nat.add_assoc]; exact (hf (n + j) (by simp at hj; omega)).1) (j - n) hj2
        rw [show k + n + (j - n) = k + j by omega] at hin
        rw [hin]
        rw [List.getElem?_eq_getElem hj2] at hj
        exact hj
    · rw [World.frozen?_setCells]
      refine ⟨?_, (hf j hj).2⟩
      by_cases hjo : j < n ∨ n + 2 ≤ j
      · rw [World.cell?_setCells_out g _ _ w ⟨g, k + j, none⟩ (fun _ _ => by simp; omega)]
        exact (hf j hj).1
      · have hin := World.cell?_setCells_in g [x, y] (k + n) w (fun j hj => by rw [Nat.add_assoc]; exact (hf (n + j) (by simp at hj; omega)).1) (j - n) (by simp; omega)
        rw [show k + n + (j - n) = k + j by omega] at hin
        rw [hin]; rfl
  · cases A with
    | some b =>
      have holds : ∀ j u, L[j]? = some u → w.cell? (b.add j) = some u := fun j u hj => by
        have hjl := (List.getElem?_eq_some_iff.1 hj).1
        have hcp := h.cap
        obtain ⟨g, k, e, _, _, hc, _⟩ := h.lies (by omega)
        injection e with e
        subst e
        rw [Addr.add_lit]
        exact hc j u hj
      obtain ⟨v', w', hr, ho, hg⟩ := run_append_arg_grows (P := Try.prog) w 34 ty 22 i0 (.slice none 0 0) 1 24 Try.underlying34 hi hz0 hz1 hz2 rfl (by decide) b n c L (by omega) holds a 2 c2 [x, y] rfl hnews (by omega) (by unfold maxLen; omega) (by omega)
      obtain ⟨A', c', rfl, hq⟩ := que_own ho
      exact ⟨A', c', w', hr, ⟨hq.len, hq.cap, hq.max, hq.nil, fun h0 => by obtain ⟨g, k, e, h1, h2⟩ := hq.lies h0; exact ⟨g, k, e, Nat.le_trans hbase h1, h2⟩⟩, (Below.refl _ w).grown hg hbase (fun k hk => by cases hk)⟩
    | none =>
      have hc0 := h.nil rfl
      have hcp := h.cap
      obtain rfl : n = 0 := by omega
      obtain rfl : c = 0 := hc0
      obtain rfl : L = [] := List.eq_nil_of_length_eq_zero hlen
      obtain ⟨v', w', hr, ho, hg, _⟩ := run_append_own (P := Try.prog) w base 34 ty 22 i0 (.slice none 0 0) 1 24 Try.underlying34 hi hz0 hz1 hz2 rfl (by decide) (.slice none 0 0) 0 [] (World.ownsRow_nil w _ 22 1) a 2 c2 [x, y] rfl hnews h1 (by unfold maxLen; omega) (by omega) hbase
      obtain ⟨A', c', rfl, hq⟩ := que_own ho
      exact ⟨A', c', w', hr, hq, (Below.refl _ w).grown hg hbase (fun k hk => by cases hk)⟩
theorem wpList_append_que {w : World} {ops : Array Oper} {rest : List Oper} {o : Oper} {a : Act} {Q : Exit → Act → World → Prop} (hgd : o.guard = none) (s x : Operand)
    (ho : o.op = .call { callee := .builtin .append, args := #[s, x], argTypes := #[34, 34] })
    (base : Nat) (A : Option Addr) (n c : Nat) (L : List Value) (hs : a.eval s = .slice A n c) (hq : Que w base A n c L) (hbase : base ≤ w.heap.size)
    (ad : Addr) (c2 : Nat) (y z : Value) (hx : a.eval x = .slice (some ad) 2 c2) (hnews : ∀ j u, ([y, z] : List Value)[j]? = some u → w.cell? (ad.add j) = some u) (h1 : ∀ u ∈ ([y, z] : List Value), u.oneCell' = true) (h48 : n + 2 ≤ 1000000)
    (h : ∀ A' c' w', Hid (Que w' base A' (n + 2) c' (L ++ [y, z])) → Hid (Below base w w') → wpList Try.prog ops Q rest (a.put o.dst (.slice A' (n + 2) c')) w') : wpList Try.prog ops Q (o :: rest) a w := by
  obtain ⟨A', c', w', hr, h2, h3⟩ := que_append (ty := o.type) hq hbase ad c2 y z hnews h1 h48
  refine wpList_plain hgd fun K hK => ?_
  unfold Oper.wp execOp
  simp only [ho, resolve, invoke, builtin, Sem.run_bind, Sem.run_pure, Result.andThen_ok, List.map_toArray, List.map_cons, List.map_nil, hs, hx, hr]
  exact hK _ _ (h A' c' w' h2 h3)
end Go.Proofs.Ytdachagkhjhggaa
