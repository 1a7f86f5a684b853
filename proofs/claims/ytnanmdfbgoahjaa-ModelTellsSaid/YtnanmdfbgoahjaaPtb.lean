/-
  The bytes of a model as Put puts them, number by number; append of a list as an equation.
-/
import Derived.Test.YtnanmdfbgoahjaaPto
import Derived.Test.YtnanmdfbgoahjaaFlf
namespace Go.Proofs.Ytnanmdfbgoahjaa
open Go.RowKit

def fieldB (p : Pt) (f : Nat × Nat × Nat) : List UInt8 := nb (p.get1 f.1 + ((f.2.2 : Nat) : Int)) f.2.1
def prtB (p : Pt) : List UInt8 := nb (p.kind : Nat) 1 ++ (fldL p.kind).flatMap (fieldB p)
def numsM (x : Md) : List Int := [x.h, x.m, x.ph, x.pm, (x.parts.length : Int)]
def hdrB (x : Md) : List UInt8 := (numsM x).flatMap (fun n => nb n 1)
def putB (x : Md) : List UInt8 := hdrB x ++ x.parts.flatMap prtB ++ (nb (x.code.length : Nat) 2 ++ x.code) ++ (nb (x.post.length : Nat) 2 ++ x.post)
theorem b8_by1 (n : Int) (h : 0 ≤ n ∧ n ≤ 255) : b8 n = by1 n := by
  unfold b8 by1
  congr 1
  omega
theorem b8_mod (n : Int) : b8 n = by1 (n % 256) := by
  unfold b8 by1
  congr 1
  omega
theorem nb_one (n : Int) (h : 0 ≤ n ∧ n ≤ 255) : nb n 1 = [by1 n] := by
  unfold nb
  rw [if_pos rfl, b8_by1 n h]
theorem nb_two (n : Int) (h : 0 ≤ n ∧ n ≤ 65535) : nb n 2 = [by1 (n / 256), by1 (n % 256)] := by
  unfold nb
  rw [if_neg (by decide), b8_by1 (n / 256) (by omega), b8_mod n]
theorem nb_kind (k : Nat) (h : k ≤ 255) : nb (k : Nat) 1 = [UInt8.ofNat k] := by
  rw [nb_one _ (by omega)]
  unfold by1
  congr 2
  omega
theorem prtB_put (p : Pt) (h : p.vp) : prtB p = p.put := by
  obtain ⟨⟨hk, hv⟩, _⟩ := h
  unfold prtB Pt.put
  rw [nb_kind _ (by omega)]
  obtain ⟨k, s, a, b, c, r, l⟩ := p
  simp only at hk hv ⊢
  have : k = 1 ∨ k = 2 ∨ k = 3 ∨ k = 4 ∨ k = 5 ∨ k = 6 ∨ k = 7 ∨ k = 8 ∨ k = 9 := by omega
  rcases this with e | e | e | e | e | e | e | e | e <;> subst e <;>
    simp [vSix, vField, hasK, ofPt] at hv <;>
    simp [fldL, fieldB, Pt.get1, pSix, pField, hasK, ofPt] <;>
    (first | skip) <;>
    repeat (first | rw [nb_one _ (by omega)] | rw [nb_two _ (by omega)]) <;> simp
theorem flat_congr {α β : Type} {f g : α → List β} : ∀ (L : List α), (∀ p ∈ L, f p = g p) → L.flatMap f = L.flatMap g
  | [], _ => rfl
  | p :: L, h => by rw [List.flatMap_cons, List.flatMap_cons, h p List.mem_cons_self, flat_congr L fun q hq => h q (List.mem_cons_of_mem _ hq)]
theorem putB_put (x : Md) (h : x.vp) : putB x = x.put := by
  obtain ⟨h1, h2, h3, h4, h5, h6, h7, h8⟩ := h
  have hp : x.parts.flatMap prtB = x.parts.flatMap Pt.put := by
    exact flat_congr _ fun p hp => prtB_put p (h6.2 p hp)
  have q1 : 0 ≤ x.h ∧ x.h ≤ 255 := h1
  have q2 : 0 ≤ x.m ∧ x.m ≤ 255 := h2
  have q3 : 0 ≤ x.ph ∧ x.ph ≤ 255 := h3
  have q4 : 0 ≤ x.pm ∧ x.pm ≤ 255 := h4
  have q5 : 0 ≤ (x.parts.length : Int) ∧ (x.parts.length : Int) ≤ 255 := h5
  have q7 : x.code.length ≤ 65535 := h7
  have q8 : x.post.length ≤ 65535 := h8
  unfold putB hdrB numsM Md.put pRaw ofMd pBytes
  simp only [List.flatMap_cons, List.flatMap_nil, List.append_nil]
  rw [nb_one _ q1, nb_one _ q2, nb_one _ q3, nb_one _ q4, nb_one _ q5, nb_two _ (by omega), nb_two _ (by omega), hp]
  simp only [List.append_assoc, List.cons_append, List.nil_append]
/-- append of a list that lies in memory to one of the call's own. -/
theorem run_put_bytes {w0 w : World} {g : Nat} {v : Value} {X : List UInt8} (h : PuAt w0 w g v X) (A : Option Addr) (m c : Nat) (l2 : List UInt8) (hB : IsB w A m c l2) (h48 : X.length + m ≤ 140737488355328) :
    ∃ A' n' c' w', (∀ ty, (Builtin.append_ #[23, 23] ty #[v, .slice A m c]).run Try.prog w = .ok (.slice A' n' c') w') ∧ (w'.cell? ⟨g, 0, none⟩ = some v ∧ w'.frozen? ⟨g, 0, none⟩ = false) ∧
      PuAt w0 (w'.setCell ⟨g, 0, none⟩ (.slice A' n' c')) g (.slice A' n' c') (X ++ l2) ∧ Sty g w (w'.setCell ⟨g, 0, none⟩ (.slice A' n' c')) := by
  have hlt := lt_of_heap h.row
  have hne : some g ≠ v.ownBlock := fun e => own_ne h.own h.row (by decide) e.symm
  have key : ∃ v' w', (∀ ty, (Builtin.append_ #[23, 23] ty #[v, .slice A m c]).run Try.prog w = .ok v' w') ∧ w'.ownsRow w0.heap.size 5 1 v' (X.length + m) ((X ++ l2).map bv) ∧ w.grownBy w' v.ownBlock := by
    rcases A with _ | ad
    · have hm : m = 0 := by
        rcases Nat.eq_zero_or_pos m with h0 | h0
        · exact h0
        · obtain ⟨ad, e, _⟩ := hB.lies (by rw [hB.len]; exact h0)
          cases e
      subst hm
      obtain rfl : l2 = [] := List.eq_nil_of_length_eq_zero hB.len
      exact ⟨v, w, fun ty => run_append_nilc c h.own, by simpa using h.own, World.grownBy.refl w _⟩
    · have hc : ∀ j u, (l2.map bv)[j]? = some u → w.cell? (ad.add j) = some u := by
        intro j u hu
        have hj : j < l2.length := by have e := (List.getElem?_eq_some_iff.1 hu).1; simpa using e
        obtain ⟨ad', e, hc⟩ := hB.lies (by omega)
        cases e
        rw [map_bv_getElem? l2 j hj] at hu
        cases hu
        exact hc j hj
      obtain ⟨v', w', hr, h2, h3, _, _⟩ := run_append_fresh (ty := 23) h.own ad m c (l2.map bv) (by rw [List.length_map, hB.len]) hc (bv_one l2) h48 h.bel.size
      exact ⟨v', w', fun ty => hr, by rw [List.map_append]; exact h2, h3⟩
  obtain ⟨v', w', hr, ho, hg⟩ := key
  obtain ⟨A', c', rfl, _⟩ := own_slice ho
  have r2 : w'.heap[g]? = some (.cells #[v] 23 (0, 0)) := (hg.block g hlt hne).trans h.row
  have hb2 : Below w0.heap.size w0 w' := h.bel.grown hg h.bel.size (fun q hq => (h.own.lt q hq).1)
  refine ⟨A', _, c', w', hr, ⟨row_cell r2 0, row_free r2 0⟩, ⟨?_, by rw [row_set r2 0]; rfl, h.low, ?_⟩, ?_, ?_⟩
  · have e : (X ++ l2).length = X.length + m := by rw [List.length_append, hB.len]
    rw [e]
    exact own_set ho (own_ne ho r2 (by decide)) 0
  · exact ⟨hb2.os, hb2.tape, hb2.output, by rw [World.size_setCell]; exact hb2.size, fun i hi => by
      rw [heap_setCell_other _ _ _ _ (by show i ≠ g; have := h.low; omega)]; exact hb2.block i hi⟩
  · rw [World.size_setCell]; exact hg.size
  · intro k hk hkg h5
    rw [heap_setCell_other _ _ _ _ (by show k ≠ g; exact hkg)]
    refine hg.block k hk ?_
    intro e
    rcases h.own.2 with ⟨rfl, _⟩ | ⟨g', cap, cur, rfl, _, hh, _⟩
    · simp [Value.ownBlock] at e
    · have : k = g' := by simpa [Value.ownBlock] using e
      subst this
      exact h5 _ _ hh
end Go.Proofs.Ytnanmdfbgoahjaa
