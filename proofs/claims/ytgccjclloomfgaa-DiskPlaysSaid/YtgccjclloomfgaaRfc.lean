/-
  The document's disk: copied; what a call leaves of its lists; Append and Sync.
-/
import Derived.Test.YtgccjclloomfgaaRfo
import Derived.Laws.Tables
namespace Go.Proofs.Ytgccjclloomfgaa
open Go.RowKit

/-- A list of bytes as it was, or a new one. -/
def RL (w w' : World) (N N' : Value) (l l' : List UInt8) : Prop := (N' = N ∧ l' = l) ∨ ∃ A c, N' = .slice A l'.length c ∧ IsBB w' w'.heap.size A l'.length c l' ∧ (0 < l'.length → ∀ ad, A = some ad → w.heap.size ≤ ad.block)
theorem RL.same {w w' : World} {N : Value} {l : List UInt8} : RL w w' N N l l := .inl ⟨rfl, rfl⟩
theorem RL.own {w w0 w' : World} {N N' : Value} {l l' : List UInt8} (h : w'.ownsRow w0.heap.size 5 1 N' l'.length (l'.map bv)) (hs : l'.length ≤ 140737488355328) (hb : w.heap.size ≤ w0.heap.size) : RL w w' N N' l l' := by
  obtain ⟨A, c, rfl, hB⟩ := own_isBB h hs
  refine .inr ⟨A, c, rfl, hB, fun hp ad e => ?_⟩
  subst e
  obtain ⟨g, c2, e2⟩ := own_nil h hp
  cases e2
  exact Nat.le_trans hb (h.lt _ rfl).1
theorem RL.on {w w1 w' : World} {N N' : Value} {l l' : List UInt8} (h : RL w w1 N N' l l') (hb : Below w1.heap.size w1 w') : RL w w' N N' l l' := by
  rcases h with h | ⟨A, c, rfl, h1, h2⟩
  · exact .inl h
  · exact .inr ⟨A, c, rfl, h1.on hb, h2⟩
theorem RL.out {S : Nat → Prop} {w w' : World} {A : Option Addr} {c : Nat} {N' : Value} {l l' : List UInt8} (h : RL w w' (.slice A l.length c) N' l l') (hN : Out S w A l.length c l) (hS : ∀ i, S i → i < w.heap.size) (hb : Below w.heap.size w w') :
    ∃ A' c', N' = .slice A' l'.length c' ∧ Out S w' A' l'.length c' l' := by
  rcases h with ⟨rfl, rfl⟩ | ⟨A', c', rfl, h1, h2⟩
  · exact ⟨A, c, rfl, hN.stp (.of_below hb)⟩
  · exact ⟨A', c', rfl, h1.out_new h2 hS⟩
/-- The blocks of a call's box and of its result. -/
theorem two_rows {w W1 : World} {A B : Array Value} (b : Below ((w.alloc (.cells A 43)).alloc (.cells B 43)).heap.size ((w.alloc (.cells A 43)).alloc (.cells B 43)) W1) :
    W1.heap[w.heap.size]? = some (.cells A 43 (0, 0)) ∧ W1.heap[w.heap.size + 1]? = some (.cells B 43 (0, 0)) ∧ Below w.heap.size w W1 ∧ w.heap.size + 1 < W1.heap.size := by
  have hz : ((w.alloc (.cells A 43)).alloc (.cells B 43)).heap.size = w.heap.size + 2 := by simp
  have h0 : ((w.alloc (.cells A 43)).alloc (.cells B 43)).heap[w.heap.size]? = some (.cells A 43 (0, 0)) := (heap_alloc_old _ _ (by simp)).trans (heap_alloc_new w _)
  have h1 := heap_alloc2_new w (.cells A 43) (.cells B 43)
  have hs := b.size
  rw [hz] at hs
  refine ⟨(b.block _ (by rw [hz]; omega)).trans h0, (b.block _ (by rw [hz]; omega)).trans h1, (fr2 w _ _).trans (b.mono (by rw [hz]; omega)), by omega⟩
theorem wpList_store_d {ops : Array Oper} {rest : List Oper} {o : Oper} {a : Act} {w : World} {Q : Exit → Act → World → Prop} (hgd : o.guard = none) (x y : Operand) (ho : o.op = .store 43 x y)
    (g : Nat) (cs : Array Value) (hx : a.eval x = .pointer (some ⟨g, 0, none⟩)) (hy : a.eval y = .agg cs) (old : Array Value) (hg : w.heap[g]? = some (.cells old 43 (0, 0))) (h8 : cs.size = 8) (ho8 : old.size = 8) (h1 : cs.all (·.oneCell') = true)
    (h : ∀ w', Hid (w'.heap[g]? = some (.cells cs 43 (0, 0))) → Hid (But (· = g) w w') → wpList Try.prog ops Q rest (a.put o.dst undef) w') : wpList Try.prog ops Q (o :: rest) a w := by
  refine wpList_store_row hgd 43 x y ho g cs hx hy 43 old hg (by rw [h8]; kernel_rfl) (by rw [h8, ho8]) h1 (h _ (setRow_heap w g _ _ 43 _ hg) ⟨rfl, rfl, rfl, by simp [World.setRow], fun i _ hn => setRow_other w g i cs (fun e => hn e)⟩)
theorem copied_any (A : Option Addr) (l : List UInt8) (c : Nat) (w : World) (h : IsBB w w.heap.size A l.length c l) :
    Calls Try.prog 50 #[.slice A l.length c] w fun e w' => ∃ v, e = .returned v ∧ w'.ownsRow w.heap.size 5 1 v l.length (l.map bv) ∧ Below w.heap.size w w' := by
  have hs := h.small
  have H := hid h
  clear h
  go_enter Try.func50, Try.ntmps50
  go_upto_region 2 with fail
  go_wp2_with (at_builtin; refine wpList_append_bytes rfl (.tmp 4) (.tmp 5) rfl w.heap.size w (.slice none 0 0) 0 [] rfl (World.ownsRow_nil _ _ _ _) A l.length c l rfl H.out.toIsB (by omega) (Below.refl _ _) (Nat.le_refl _) ?_; intro v' w' ho hb hk)
  go_ret
  exact ⟨v', rfl, by simpa using ho.out, hb.out⟩
end Go.Proofs.Ytgccjclloomfgaa
