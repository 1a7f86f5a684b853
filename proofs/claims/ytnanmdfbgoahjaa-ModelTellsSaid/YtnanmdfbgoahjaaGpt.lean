/-
  Get's parts: 'getPart', field by field; 'owned'.
-/
import Derived.Test.YtnanmdfbgoahjaaGtn
import Derived.Test.YtnanmdfbgoahjaaFlf
namespace Go.Proofs.Ytnanmdfbgoahjaa
open Go.RowKit

set_option maxRecDepth 10000 in
set_option maxHeartbeats 1000000 in
theorem owned_any (A : Option Addr) (l : List UInt8) (n c : Nat) (w : World) (h : IsBB w w.heap.size A n c l) (hn : n ≤ 70000) :
    Calls Try.prog 26 #[.slice A n c] w fun e w' => ∃ v, e = .returned v ∧ w'.ownsRow w.heap.size 5 1 v n (l.map bv) ∧ Below w.heap.size w w' := by
  obtain ⟨i0, hi, hz0, hz1, hz2⟩ := info_parts Try.info5
  have Hlen := hid h.len
  by_cases h0 : n = 0
  · subst h0
    obtain rfl : l = [] := List.eq_nil_of_length_eq_zero Hlen.out
    clear h
    go_enter Try.func26, Try.ntmps26
    go_wp2_with fail
    go_ret
    exact ⟨_, rfl, World.ownsRow_nil _ _ _ _, Below.refl _ _⟩
  · have hz : ¬ (n : Int) = 0 := by omega
    have hs := h.small
    have hx := h.cap
    go_enter Try.func26, Try.ntmps26
    go_wp2_with (first
      | (at_make; refine wpList_make_full _ rfl _ _ 23 rfl w.heap.size 5 i0 (.int .u8 0) 1 Try.underlying23 hi hz0 hz1 _ _ _ _ n rfl rfl rfl rfl (by rw [hz2]; omega) (by unfold maxLen; omega) (Nat.le_refl _) ?_; intro w1 hown1 hgrow1; have Hrow := hid (own_row hown1); have hb1 : Below w.heap.size w w1 := (Below.refl _ _).grown hgrow1 (Nat.le_refl _) (by simp); clear hown1 hgrow1)
      | (with_reducible refine wpList_copy_splice rfl (.tmp 10) (.tmp 11) 23 23 rfl 5 Try.underlying23 Try.size5 _ _ _ _ _ _ rfl rfl w.heap.size 0 (List.replicate n (.int .u8 0)) 5 ?g1 (l.map bv) ?g2 ?g3 ?g4 (bv_one l) w.heap.size w hb1 (Nat.le_refl _) ?_))
    case g1 => rw [← made_cells]; exact Hrow.out
    case g2 => rw [List.length_map, Hlen.out]; exact (Nat.min_eq_left (by omega)).symm
    case g3 => intro hp; first | exact ⟨rfl, h.src hb1 hp⟩ | exact h.src2 hb1 (by simpa using hp)
    case g4 => rw [List.length_map, Hlen.out, List.length_replicate]; omega
    intro w2 Hr2 hb2
    go_wp2_with fail
    go_ret
    have e := Hr2.out
    rw [show List.replicate n (Value.int .u8 0) = List.replicate (n + 0) (Value.int .u8 0) from rfl, splice_zero _ n 0 _ (by rw [List.length_map, Hlen.out]), List.replicate_zero, List.append_nil] at e
    have h1 := row_own e (Nat.le_refl _) (by rw [Hlen.out]; omega) hb2
    have h2 := h1.own
    rw [Hlen.out] at h2
    exact ⟨_, rfl, h2, hb2⟩
/-- Blocks but three stay. -/
structure But3 (a e g : Nat) (w w' : World) : Prop where
  size : w.heap.size ≤ w'.heap.size
  block : ∀ k, k < w.heap.size → k ≠ a → k ≠ e → k ≠ g → w'.heap[k]? = w.heap[k]?
theorem But3.refl (a e g : Nat) (w : World) : But3 a e g w w := ⟨Nat.le_refl _, fun _ _ _ _ _ => rfl⟩
theorem But3.trans {a e g : Nat} {w w' w'' : World} (h : But3 a e g w w') (k : But3 a e g w' w'') : But3 a e g w w'' :=
  ⟨Nat.le_trans h.size k.size, fun i hi ha he hg => (k.block i (Nat.lt_of_lt_of_le hi h.size) ha he hg).trans (h.block i hi ha he hg)⟩
theorem But3.of2 {a e g : Nat} {w w' : World} (h : But2 a e w w') : But3 a e g w w' := ⟨h.size, fun k hk ha he _ => h.block k hk ha he⟩
theorem But3.of_below {a e g : Nat} {w w' : World} (h : Below w.heap.size w w') : But3 a e g w w' := ⟨h.size, fun k hk _ _ _ => h.block k hk⟩
theorem But3.of_set (a e g i : Nat) (u : Value) (w : World) : But3 a e g w (w.setCell ⟨g, i, none⟩ u) := ⟨by rw [World.size_setCell]; exact Nat.le_refl _, fun _ _ _ _ hg => set_block hg⟩
/-- A list of parts in block g. -/
def PtsAt (w : World) (g : Nat) (L : List Pt) : Prop := w.heap[g]? = some (.cells (L.flatMap cellsP).toArray 41 (0, 0))
theorem cellsP_len (p : Pt) : (cellsP p).length = 7 := rfl
theorem flat_set : ∀ (L : List Pt) (i f : Nat) (u : Value) (q : Pt) (h : i < L.length) (_ : f < 7), cellsP q = (cellsP L[i]).set f u → (L.flatMap cellsP).set (i * 7 + f) u = (L.set i q).flatMap cellsP
  | [], i, f, u, q, h, _, _ => by simp at h
  | p :: L, 0, f, u, q, _, hf, e => by
    rw [List.flatMap_cons, List.set_cons_zero, List.flatMap_cons, e, Nat.zero_mul, Nat.zero_add, List.set_append_left _ _ (by rw [cellsP_len]; exact hf)]
    rfl
  | p :: L, i + 1, f, u, q, h, hf, e => by
    rw [List.flatMap_cons, List.set_cons_succ, List.flatMap_cons, List.set_append_right _ _ (by rw [cellsP_len]; omega), cellsP_len, show (i + 1) * 7 + f - 7 = i * 7 + f by omega,
      flat_set L i f u q (by simpa using h) hf (by simpa using e)]
theorem PtsAt.cell {w : World} {g : Nat} {L : List Pt} (h : PtsAt w g L) (i j : Nat) (hi : i < L.length) (hj : j < 7) : w.cell? ⟨g, i * 7 + j, none⟩ = (cellsP L[i])[j]? := by
  rw [row_cell h (i * 7 + j), List.getElem?_toArray, flat7 L i j hi hj]
theorem PtsAt.set {w : World} {g : Nat} {L : List Pt} (h : PtsAt w g L) (i f : Nat) (u : Value) (q : Pt) (hi : i < L.length) (hf : f < 7) (e : cellsP q = (cellsP L[i]).set f u) : PtsAt (w.setCell ⟨g, i * 7 + f, none⟩ u) g (L.set i q) := by
  unfold PtsAt
  rw [row_set h (i * 7 + f) u, set_toArray, flat_set L i f u q hi hf e]
theorem put1_cells (p : Pt) (f : Nat) (v : Int) (hf : 1 ≤ f ∧ f ≤ 6) : cellsP (p.put1 f v) = (cellsP p).set f (.int .i64 v) := by
  rcases (by omega : f = 1 ∨ f = 2 ∨ f = 3 ∨ f = 4 ∨ f = 5 ∨ f = 6) with e | e | e | e | e | e <;> subst e <;> rfl
section
variable {w0 w : World} {p : Gp} {A : Option Addr} {n c : Nat} {l : List UInt8} {s : St}
/-- A cell of the parts' block is set: Get's variables stay. -/
theorem GtAt.other (h : GtAt w0 w p A n c l s) {g : Nat} {cs : Array Value} {fl : Nat × Nat} (hg : w.heap[g]? = some (.cells cs 41 fl)) (hl : w0.heap.size ≤ g) (i : Nat) (u : Value) : GtAt w0 (w.setCell ⟨g, i, none⟩ u) p A n c l s := by
  have e1 : p.b ≠ g := row_ne h.rb hg (by decide)
  have e2 : p.a ≠ g := row_ne h.ra hg (by decide)
  have e3 : p.e ≠ g := row_ne h.re hg (by decide)
  have e4 : p.f ≠ g := row_ne h.rf hg (by decide)
  have e5 : p.t ≠ g := row_ne h.rt hg (by decide)
  exact ⟨h.src.below (set_bel (Below.refl _ w) g i _ hl), by rw [set_block e1]; exact h.rb, by rw [set_block e2]; exact h.ra, by rw [set_block e3]; exact h.re, by rw [set_block e4]; exact h.rf, by rw [set_block e5]; exact h.rt, h.la, h.le, set_bel h.bel g i u hl, h.rng⟩
theorem PtsAt.on2 (h : GtAt w0 w p A n c l s) {g : Nat} {L : List Pt} {w' : World} (hp : PtsAt w g L) (b : But2 p.a p.e w w') : PtsAt w' g L :=
  b.row hp (fun e => row_ne hp h.ra (by decide) e) (fun e => row_ne hp h.re (by decide) e)
/-- What getPart is handed and leaves: Get's variables, the parts, a frame. -/
structure GpAt (w0 w w' : World) (p : Gp) (g : Nat) (A : Option Addr) (n c : Nat) (l : List UInt8) (s : St) (L : List Pt) : Prop where
  gt : GtAt w0 w' p A n c l s
  pts : PtsAt w' g L
  but : But3 p.a p.e g w w'
theorem flat3 (b o : Nat) : ∀ (F : List (Nat × Nat × Nat)) (j i : Nat) (h : j < F.length), i < 3 → (F.flatMap (fieldC b o))[j * 3 + i]? = (fieldC b o F[j])[i]?
  | [], j, i, h, _ => by simp at h
  | t :: F, 0, i, _, hi => by
    rw [List.flatMap_cons, Nat.zero_mul, Nat.zero_add, List.getElem?_append_left (by simp [fieldC]; omega)]
    rfl
  | t :: F, j + 1, i, h, hi => by
    have hl : (fieldC b o t).length = 3 := rfl
    rw [List.flatMap_cons, List.getElem?_append_right (by rw [hl]; omega), hl, show (j + 1) * 3 + i - 3 = j * 3 + i by omega, flat3 b o F j i (by simpa using h) hi]
    rfl
theorem fldS_app (l : List UInt8) : ∀ (F : List (Nat × Nat × Nat)) (x : Nat × Nat × Nat) (s : St) (q : Pt), fldS l (F ++ [x]) s q = (takeS l x.2.1 (fldS l F s q).1, (fldS l F s q).2.put1 x.1 ((numV l x.2.1 (fldS l F s q).1 : Nat) - (x.2.2 : Int)))
  | [], _x, _s, _q => rfl
  | y :: F, x, s, q => fldS_app l F x (takeS l y.2.1 s) (q.put1 y.1 ((numV l y.2.1 s : Nat) - (y.2.2 : Int)))
theorem fldL_ok (k : Nat) : (fldL k).length ≤ 4 ∧ ∀ x ∈ fldL k, (1 ≤ x.1 ∧ x.1 ≤ 6) ∧ (x.2.1 = 1 ∨ x.2.1 = 2) ∧ x.2.2 ≤ 2048 := by
  unfold fldL
  repeat' split
  all_goals exact ⟨by decide, by decide⟩
end
end Go.Proofs.Ytnanmdfbgoahjaa
