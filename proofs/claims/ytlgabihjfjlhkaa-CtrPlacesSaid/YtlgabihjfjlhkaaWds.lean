/-
  A list of a key's words in memory, that grows word by word.
-/
import Derived.Test.YtlgabihjfjlhkaaRefTab
import Derived.Test.YtlgabihjfjlhkaaCi
namespace Go.Proofs.Ytlgabihjfjlhkaa
open Go.RowKit

theorem Try.info26 : (Try.prog.info? 26).map (fun i => (i.zero, i.size, i.bytes)) = some (some (.slice none 0 0), 1, 24) := by kernel_rfl
/-- s is a slice that has word i of the key; it lies below B, or in a block of bytes. -/
def WdAt (w : World) (B : Nat) (s : Value) (K : Nat → Nat) (i : Nat) : Prop :=
  ∃ ad c, s = .slice (some ad) 4 c ∧ ad.block < w.heap.size ∧ (ad.block < B ∨ ∃ cur, w.heap[ad.block]? = some (.cells cur 5 (0, 0))) ∧ ∀ j, j < 4 → w.cell? (ad.add j) = some (.int .u8 (wordF K i j : Nat))
theorem WdAt.one {w : World} {B : Nat} {s : Value} {K : Nat → Nat} {i : Nat} (h : WdAt w B s K i) : s.oneCell' = true := by
  obtain ⟨ad, c, rfl, _⟩ := h; rfl
theorem WdAt.same {w w' : World} {B : Nat} {s : Value} {K : Nat → Nat} {i : Nat} (h : WdAt w B s K i) (hs : w.heap.size ≤ w'.heap.size) (hb : ∀ k, k < w.heap.size → (k < B ∨ ∃ cur, w.heap[k]? = some (.cells cur 5 (0, 0))) → w'.heap[k]? = w.heap[k]?) : WdAt w' B s K i := by
  obtain ⟨ad, c, rfl, h1, h2, h3⟩ := h
  have e := hb ad.block h1 h2
  refine ⟨ad, c, rfl, by omega, ?_, fun j hj => ?_⟩
  · rcases h2 with h2 | ⟨cur, h2⟩
    · exact .inl h2
    · exact .inr ⟨cur, e.trans h2⟩
  · rw [World.cell?_of_block (w := w) (w' := w') (by rw [block_of_add]; exact e)]
    exact h3 j hj
theorem WdAt.on {w w' : World} {B : Nat} {s : Value} {K : Nat → Nat} {i : Nat} (h : WdAt w B s K i) (hb : Below w.heap.size w w') : WdAt w' B s K i := h.same hb.size (fun k hk _ => hb.block k hk)
/-- The slice v, of the call's own, is the list of the key's first n words. -/
structure Wds (w wr : World) (v : Value) (vs : List Value) (K : Nat → Nat) (n : Nat) : Prop where
  own : wr.ownsRow w.heap.size 26 1 v n vs
  wd : ∀ i, i < n → ∃ s, vs[i]? = some s ∧ WdAt wr w.heap.size s K i
  bel : Below w.heap.size w wr
theorem Wds.nil (w wr : World) (K : Nat → Nat) (h : Below w.heap.size w wr) : Wds w wr (.slice none 0 0) [] K 0 := ⟨World.ownsRow_nil wr _ _ _, fun i hi => by omega, h⟩
theorem own_belowG {w w' : World} {base e s n : Nat} {v : Value} {xs : List Value} (h : w.ownsRow base e s v n xs) (hb : Below w.heap.size w w') : w'.ownsRow base e s v n xs := own_below h hb
theorem Wds.on {w wr w' : World} {v : Value} {vs : List Value} {K : Nat → Nat} {n : Nat} (h : Wds w wr v vs K n) (hb : Below wr.heap.size wr w') : Wds w w' v vs K n :=
  ⟨own_below h.own hb, fun i hi => by obtain ⟨s, h1, h2⟩ := h.wd i hi; exact ⟨s, h1, h2.on hb⟩, h.bel.trans (hb.mono h.bel.size)⟩
theorem wpList_appW {ops : Array Oper} {rest : List Oper} {o : Oper} {a : Act} {Q : Exit → Act → World → Prop} (hgd : o.guard = none) (s x : Operand)
    (ho : o.op = .call { callee := .builtin .append, args := #[s, x], argTypes := #[61, 61] }) (w wr : World) (v : Value) (vs : List Value) (K : Nat → Nat) (n : Nat) (u : Value) (hs : a.eval s = v) (hx : a.eval x = .slice (some ⟨wr.heap.size, 0, none⟩) 1 1)
    (h : Wds w wr v vs K n) (hu : WdAt wr w.heap.size u K n) (hl : n ≤ 1000000)
    (hK : ∀ v' vs' W, Hid (Wds w W v' vs' K (n + 1)) → wpList Try.prog ops Q rest (a.put o.dst v') W) : wpList Try.prog ops Q (o :: rest) a (wr.alloc (.cells #[u] 26)) := by
  obtain ⟨i0, hi, hz0, hz1, hz2⟩ := info_parts Try.info26
  have hlen : vs.length = n := by simpa using h.own.1
  refine wpList_append_own _ hgd s x 61 ho w.heap.size 26 i0 (.slice none 0 0) 1 24 Try.underlying61 hi hz0 hz1 hz2 rfl (by decide) v n vs hs (h.own.alloc _) ⟨wr.heap.size, 0, none⟩ 1 1 [u] hx rfl ?_ ?_ ?_ ?_ ?_ ?_
  · intro j y hy
    have hh : (wr.alloc (.cells #[u] 26)).heap[wr.heap.size]? = some (.cells #[u] 26 (0, 0)) := heap_alloc_new wr _
    match j, hy with
    | 0, hy => simp at hy; subst hy; rw [Addr.add_lit, Nat.zero_add, row_cell hh 0]; rfl
    | j + 1, hy => simp at hy
  · intro y hy; simp at hy; subst hy; exact hu.one
  · unfold maxLen; omega
  · omega
  · have := h.bel.size; simp; omega
  · intro v2 W2 hown2 hgrow2 _
    have hsz : wr.heap.size ≤ W2.heap.size := Nat.le_trans (by simp) hgrow2.size
    have keep : ∀ i y, WdAt wr w.heap.size y K i → WdAt W2 w.heap.size y K i := by
      intro i y hy
      refine hy.same hsz (fun k hk hor => ?_)
      refine (hgrow2.block k (by simp; omega) ?_).trans (heap_alloc_old _ _ hk)
      intro e
      rcases h.own.2 with ⟨rfl, _⟩ | ⟨g, cap, cur, rfl, hg, hh, _⟩
      · cases e
      · have e2 : k = g := Option.some.inj e
        subst e2
        rcases hor with hor | ⟨cur2, hor⟩
        · omega
        · rw [hh] at hor
          injection hor with hor
          injection hor with _ ht
          cases ht
    refine hK v2 (vs ++ [u]) W2 ⟨hown2, fun i hi => ?_, ?_⟩
    · by_cases h1 : i < n
      · obtain ⟨y, hy1, hy2⟩ := h.wd i h1
        exact ⟨y, by rw [List.getElem?_append_left (by omega)]; exact hy1, keep i y hy2⟩
      · obtain rfl : i = n := by omega
        exact ⟨u, by rw [List.getElem?_append_right (by omega), hlen, Nat.sub_self]; rfl, keep i u hu⟩
    · exact (h.bel.alloc h.bel.size _).grown hgrow2 (by have := h.bel.size; simp; omega) (fun q hq => (h.own.lt q hq).1)
/-- Where the list lies, and what its cells are. -/
theorem Wds.cells {w wr : World} {v : Value} {vs : List Value} {K : Nat → Nat} {n : Nat} (h : Wds w wr v vs K n) (hn : 0 < n) : ∃ g c, v = .slice (some ⟨g, 0, none⟩) n c ∧ g < wr.heap.size ∧ ∀ i, i < n → ∃ s, wr.cell? ⟨g, i, none⟩ = some s ∧ WdAt wr w.heap.size s K i := by
  have hc := fun g (hg : v.ownBlock = some g) => h.own.cells hg
  rcases h.own.2 with ⟨_, h0⟩ | ⟨g, cap, cur, rfl, hg, hh, _⟩
  · omega
  · refine ⟨g, cap, rfl, lt_of_heap hh, fun i hi => ?_⟩
    obtain ⟨s, h1, h2⟩ := h.wd i hi
    refine ⟨s, ?_, h2⟩
    have := hc g rfl i s h1
    rw [Addr.add_lit, Nat.zero_add] at this
    exact this
/-- A part of four bytes of a list of 32. -/
theorem cut4 (kad : Addr) (kc q : Nat) (hq : 4 * q + 4 ≤ 32) (hc : 32 ≤ kc) (w : World) : (Instr.slice 26 (.slice (some kad) 32 kc) (some (.int .i64 (4 * (q : Int)))) (some (.int .i64 (4 * (q : Int) + 4))) none).run Try.prog w = .ok (.slice (some (kad.add (4 * q))) 4 (kc - 4 * q)) w := by
  have hs : (sizeOf (Try.prog.elem 26)).run Try.prog w = .ok 1 w := by kernel_rfl
  rw [run_slice_lh (ht := by kernel_rfl) (h0 := by omega) (h1 := by omega) (h2 := by omega), hs]
  have e1 : (4 * (q : Int)).toNat = 4 * q := by omega
  have e2 : (4 * (q : Int) + 4).toNat = 4 * q + 4 := by omega
  simp only [Result.andThen, sliced, e1, e2, Nat.mul_one]
  rw [if_neg (by omega), show 4 * q + 4 - 4 * q = 4 by omega]
  rfl
end Go.Proofs.Ytlgabihjfjlhkaa
