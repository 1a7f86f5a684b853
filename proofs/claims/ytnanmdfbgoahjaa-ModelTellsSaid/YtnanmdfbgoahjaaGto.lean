/-
  Get's closures: the first error is kept, bytes are taken, a number is read.
-/
import Derived.Test.YtnanmdfbgoahjaaPto
import Derived.Test.YtnanmdfbgoahjaaMdg
namespace Go.Proofs.Ytnanmdfbgoahjaa
open Go.RowKit

/-- All but two blocks stay. -/
structure But2 (a e : Nat) (w w' : World) : Prop where
  size : w.heap.size ≤ w'.heap.size
  block : ∀ k, k < w.heap.size → k ≠ a → k ≠ e → w'.heap[k]? = w.heap[k]?
theorem But2.refl (a e : Nat) (w : World) : But2 a e w w := ⟨Nat.le_refl _, fun _ _ _ _ => rfl⟩
theorem But2.trans {a e : Nat} {w w' w'' : World} (h : But2 a e w w') (k : But2 a e w' w'') : But2 a e w w'' :=
  ⟨Nat.le_trans h.size k.size, fun i hi ha he => (k.block i (Nat.lt_of_lt_of_le hi h.size) ha he).trans (h.block i hi ha he)⟩
theorem But2.of_below {a e : Nat} {w w' : World} (h : Below w.heap.size w w') : But2 a e w w' := ⟨h.size, fun k hk _ _ => h.block k hk⟩
theorem But2.row {a e k : Nat} {w w' : World} {o : Obj} (h : But2 a e w w') (hk : w.heap[k]? = some o) (ha : k ≠ a) (he : k ≠ e) : w'.heap[k]? = some o :=
  (h.block k (lt_of_heap hk) ha he).trans hk
/-- The blocks of Get's variables: the bytes, the place, the error, the two closures. -/
structure Gp where
  b : Nat
  a : Nat
  e : Nat
  f : Nat
  t : Nat
def vFail (p : Gp) : Value := .func (.func 22) #[] #[.pointer (some ⟨p.e, 0, none⟩)]
def vTake (p : Gp) : Value := .func (.func 23) #[] #[.pointer (some ⟨p.b, 0, none⟩), .pointer (some ⟨p.a, 0, none⟩), .pointer (some ⟨p.f, 0, none⟩), .pointer (some ⟨p.e, 0, none⟩)]
def vNum (p : Gp) : Value := .func (.func 24) #[] #[.pointer (some ⟨p.t, 0, none⟩)]
/-- Get's variables in memory: the bytes l, from w0 on; the state s. -/
structure GtAt (w0 w : World) (p : Gp) (A : Option Addr) (n c : Nat) (l : List UInt8) (s : St) : Prop where
  src : IsBB w w0.heap.size A n c l
  rb : w.heap[p.b]? = some (.cells #[.slice A n c] 23 (0, 0))
  ra : w.heap[p.a]? = some (.cells #[.int .i64 (s.at_ : Nat)] 3 (0, 0))
  re : w.heap[p.e]? = some (.cells #[.int .i64 s.e] 29 (0, 0))
  rf : w.heap[p.f]? = some (.cells #[vFail p] 56 (0, 0))
  rt : w.heap[p.t]? = some (.cells #[vTake p] 57 (0, 0))
  la : w0.heap.size ≤ p.a
  le : w0.heap.size ≤ p.e
  bel : Below w0.heap.size w0 w
  rng : s.at_ ≤ l.length
theorem row_ne {w : World} {g k : Nat} {cs cs' : Array Value} {t t' : TypeId} {fl fl' : Nat × Nat} (h : w.heap[g]? = some (.cells cs t fl)) (h' : w.heap[k]? = some (.cells cs' t' fl')) (ht : t ≠ t') : g ≠ k := by
  intro e
  subst e
  rw [h] at h'
  injection h' with h'
  injection h' with _ h2
  exact ht h2
theorem set_block {w : World} {g i k : Nat} {u : Value} (h : k ≠ g) : (w.setCell ⟨g, i, none⟩ u).heap[k]? = w.heap[k]? := heap_setCell_other _ _ _ _ h
section
variable {w0 w : World} {p : Gp} {A : Option Addr} {n c : Nat} {l : List UInt8} {s : St}
theorem set_bel {B : Nat} {w0 w : World} (h : Below B w0 w) (g i : Nat) (u : Value) (hg : B ≤ g) : Below B w0 (w.setCell ⟨g, i, none⟩ u) :=
  ⟨h.os, h.tape, h.output, by rw [World.size_setCell]; exact h.size, fun k hk => by rw [set_block (by omega)]; exact h.block k hk⟩
theorem GtAt.below {w' : World} (h : GtAt w0 w p A n c l s) (b : Below w.heap.size w w') : GtAt w0 w' p A n c l s := by
  have q := fun (k : Nat) (o : Obj) (hk : w.heap[k]? = some o) => (b.block k (lt_of_heap hk)).trans hk
  exact ⟨h.src.below (b.mono h.bel.size), q _ _ h.rb, q _ _ h.ra, q _ _ h.re, q _ _ h.rf, q _ _ h.rt, h.la, h.le, h.bel.trans (b.mono h.bel.size), h.rng⟩
theorem GtAt.drew (h : GtAt w0 w p A n c l s) : GtAt w0 w.drew p A n c l s := ⟨h.src.drew, h.rb, h.ra, h.re, h.rf, h.rt, h.la, h.le, h.bel.drew, h.rng⟩
/-- The error is set. -/
theorem GtAt.err (h : GtAt w0 w p A n c l s) (x : Int) : GtAt w0 (w.setCell ⟨p.e, 0, none⟩ (.int .i64 x)) p A n c l ⟨s.at_, x⟩ ∧ But2 p.a p.e w (w.setCell ⟨p.e, 0, none⟩ (.int .i64 x)) := by
  have hb := set_bel (B := w0.heap.size) h.bel p.e 0 (.int .i64 x) h.le
  have e1 : p.b ≠ p.e := row_ne h.rb h.re (by decide)
  have e2 : p.a ≠ p.e := row_ne h.ra h.re (by decide)
  have e3 : p.f ≠ p.e := row_ne h.rf h.re (by decide)
  have e4 : p.t ≠ p.e := row_ne h.rt h.re (by decide)
  refine ⟨⟨?_, by rw [set_block e1]; exact h.rb, by rw [set_block e2]; exact h.ra, by rw [row_set h.re 0]; rfl, by rw [set_block e3]; exact h.rf, by rw [set_block e4]; exact h.rt, h.la, h.le, hb, h.rng⟩, ?_⟩
  · exact h.src.below (set_bel (Below.refl _ w) p.e 0 _ h.le)
  · exact ⟨by rw [World.size_setCell]; exact Nat.le_refl _, fun k _ _ he => set_block he⟩
/-- The place is set. -/
theorem GtAt.place (h : GtAt w0 w p A n c l s) (x : Nat) (hx : x ≤ l.length) : GtAt w0 (w.setCell ⟨p.a, 0, none⟩ (.int .i64 (x : Nat))) p A n c l ⟨x, s.e⟩ ∧ But2 p.a p.e w (w.setCell ⟨p.a, 0, none⟩ (.int .i64 (x : Nat))) := by
  have hb := set_bel (B := w0.heap.size) h.bel p.a 0 (.int .i64 (x : Nat)) h.la
  have e1 : p.b ≠ p.a := row_ne h.rb h.ra (by decide)
  have e2 : p.e ≠ p.a := row_ne h.re h.ra (by decide)
  have e3 : p.f ≠ p.a := row_ne h.rf h.ra (by decide)
  have e4 : p.t ≠ p.a := row_ne h.rt h.ra (by decide)
  refine ⟨⟨?_, by rw [set_block e1]; exact h.rb, by rw [row_set h.ra 0]; rfl, by rw [set_block e2]; exact h.re, by rw [set_block e3]; exact h.rf, by rw [set_block e4]; exact h.rt, h.la, h.le, hb, hx⟩, ?_⟩
  · exact h.src.below (set_bel (Below.refl _ w) p.a 0 _ h.la)
  · exact ⟨by rw [World.size_setCell]; exact Nat.le_refl _, fun k _ ha _ => set_block ha⟩
set_option maxRecDepth 10000 in
set_option maxHeartbeats 1000000 in
theorem fail_any (h : GtAt w0 w p A n c l s) (x : Int) : Calls Try.prog 22 #[.int .i64 x, .pointer (some ⟨p.e, 0, none⟩)] w fun r w' => r = .returned noResult ∧ GtAt w0 w' p A n c l (failS s x) ∧ But2 p.a p.e w w' := by
  have H := hid h
  have c0 : w.cell? ⟨p.e, 0, none⟩ = some (.int .i64 s.e) := row_cell h.re 0
  have f0 := row_free h.re 0
  have e1 := hid (h.err x)
  clear h
  by_cases hs : s.e = 0
  · have hf : failS s x = ⟨s.at_, x⟩ := if_pos hs
    rw [hf]
    rw [hs] at c0
    clear hf hs
    go_enter Try.func22, Try.ntmps22
    go_wp2_with fail
    go_end0
    exact ⟨rfl, e1.out⟩
  · have hf : failS s x = s := if_neg hs
    rw [hf]
    obtain ⟨e, he⟩ : ∃ e, s.e = e := ⟨_, rfl⟩
    rw [he] at c0 hs
    clear hf he e1
    go_enter Try.func22, Try.ntmps22
    go_wp2_with fail
    go_end0
    exact ⟨rfl, H.out, But2.refl _ _ _⟩
end
end Go.Proofs.Ytnanmdfbgoahjaa
