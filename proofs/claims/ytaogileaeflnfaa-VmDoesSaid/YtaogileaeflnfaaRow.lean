/-
  A list of bytes of the call's own that grows byte by byte; the contracts of 'row' and of the document's Table.
-/
import Derived.Test.YtaogileaeflnfaaMem
import Derived.OwnWalk
import Derived.Deep.Cut
namespace Go.Proofs.Ytaogileaeflnfaa
open Go.RowKit

theorem lt_of_heap {w : World} {g : Nat} {o : Obj} (h : w.heap[g]? = some o) : g < w.heap.size := by
  rcases Nat.lt_or_ge g w.heap.size with hlt | hge
  · exact hlt
  · rw [Array.getElem?_eq_none hge] at h; cases h
/-- The slice v, of the call's own, holds these bytes. -/
structure OwnB (w wr : World) (v : Value) (X : List UInt8) : Prop where
  own : wr.ownsRow w.heap.size 5 1 v X.length (X.map bv)
  bel : Below w.heap.size w wr
theorem OwnB.nil (w wr : World) (h : Below w.heap.size w wr) : OwnB w wr (.slice none 0 0) [] := ⟨World.ownsRow_nil wr _ _ _, h⟩
theorem OwnB.drewN {w wr : World} {v : Value} {X : List UInt8} (h : OwnB w wr v X) (n : Nat) : OwnB w (wr.drewN n) v X := ⟨h.own, below_drewN h.bel n⟩
theorem OwnB.drew {w wr : World} {v : Value} {X : List UInt8} (h : OwnB w wr v X) : OwnB w wr.drew v X := ⟨h.own, ⟨h.bel.os, h.bel.tape, h.bel.output, h.bel.size, h.bel.block⟩⟩
theorem OwnB.isBB {w wr : World} {v : Value} {X : List UInt8} (h : OwnB w wr v X) (hs : X.length ≤ 1000000) : ∃ A c, v = .slice A X.length c ∧ IsBB wr wr.heap.size A X.length c X := own_isBB h.own (by omega)
theorem OwnB.new {w wr : World} {v : Value} {X : List UInt8} (h : OwnB w wr v X) (hs : X.length ≤ 1000000) (h0 : 0 < X.length) : ∃ g c, v = .slice (some ⟨g, 0, none⟩) X.length c ∧ New w wr g X.length c X := by
  obtain ⟨g, c, rfl⟩ := own_nil h.own h0
  exact ⟨g, c, rfl, h.own, h.bel, by omega⟩
theorem OwnB.below {w wr w' : World} {v : Value} {X : List UInt8} (h : OwnB w wr v X) (hb : Below wr.heap.size wr w') : OwnB w w' v X := by
  refine ⟨?_, h.bel.trans (hb.mono h.bel.size)⟩
  rcases h.own with ⟨h1, h2⟩
  refine ⟨h1, ?_⟩
  rcases h2 with h2 | ⟨g, cap, cur, rfl, hg, hh, r⟩
  · exact .inl h2
  · exact .inr ⟨g, cap, cur, rfl, hg, (hb.block g (lt_of_heap hh)).trans hh, r⟩
/-- Bytes that lie below an append's base stay. -/
theorem wpList_app1 {ops : Array Oper} {rest : List Oper} {o : Oper} {a : Act} {Q : Exit → Act → World → Prop} (hgd : o.guard = none) (s x : Operand)
    (ho : o.op = .call { callee := .builtin .append, args := #[s, x], argTypes := #[28, 28] }) (w wr : World) (v : Value) (X : List UInt8) (b : Nat) (hs : a.eval s = v) (hx : a.eval x = .slice (some ⟨wr.heap.size, 0, none⟩) 1 1)
    (h : OwnB w wr v X) (hl : X.length ≤ 1000000) (hb : b < 256)
    (hK : ∀ v' W, Hid (OwnB w W v' (X ++ [UInt8.ofNat b])) → wpList Try.prog ops Q rest (a.put o.dst v') W) : wpList Try.prog ops Q (o :: rest) a (wr.alloc (.cells #[.int .u8 (b : Nat)] 5)) := by
  obtain ⟨i0, hi, hz0, hz1, hz2⟩ := info_parts Try.info5
  refine wpList_append_own _ hgd s x 28 ho w.heap.size 5 i0 (.int .u8 0) 1 1 Try.underlying28 hi hz0 hz1 hz2 rfl (by decide) v X.length (X.map bv) hs (h.own.alloc _) ⟨wr.heap.size, 0, none⟩ 1 1 [bv (UInt8.ofNat b)] hx rfl ?_ ?_ ?_ ?_ ?_ ?_
  · exact one_cell wr _ _ (by simp; omega)
  · intro u hu; simp at hu; subst hu; rfl
  · unfold maxLen; omega
  · omega
  · have := h.bel.size; simp; omega
  · intro v2 W2 hown2 hgrow2 _
    refine hK v2 W2 ⟨by simpa using hown2, ?_⟩
    exact (h.bel.alloc h.bel.size _).grown hgrow2 (by have := h.bel.size; simp; omega) (fun q hq => (h.own.lt q hq).1)
end Go.Proofs.Ytaogileaeflnfaa
