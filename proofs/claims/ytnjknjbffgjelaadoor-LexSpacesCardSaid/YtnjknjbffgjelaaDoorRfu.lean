/-
  The document's Tokens: what lies in memory, what each branch comes to (written by tools/stage18/gen_rft.py).
-/
import Derived.Test.YtnjknjbffgjelaaDoorRff
set_option linter.unusedVariables false
set_option linter.unusedSimpArgs false
namespace Go.Proofs.YtnjknjbffgjelaaDoor
open Go.RowKit

theorem isStr9 : Tryd.prog.underlying 9 = some .string := by kernel_rfl
theorem ixs (s : ByteArray) (j : Nat) (h : j < (bl s).length) (w : World) : (Instr.index 9 (.string s) (.int .i64 (j : Int))).run Tryd.prog w = .ok (.int .u8 ((bl s)[j].toNat : Nat)) w := by
  have hs := bl_len s
  rw [run_index_string w 9 _ .i64 _ isStr9, dif_pos (by omega)]
  have e : (s[((j : Nat) : Int).toNat]'(by omega)) = (bl s)[j] := get_bl s j (by omega)
  rw [e]
/-- The document's side on its way. -/
structure RSt (w wr : World) (v : Value) (ts : List TD) : Prop where
  fb : wr.heap[w.heap.size]? = some (.cells #[.int .i64 0, .int .i64 0] 25 (0, 0))
  own : wr.ownsRow (w.heap.size + 1) 33 4 v ts.length (ts.flatMap c4)
  bel : Below w.heap.size w wr
section
variable {w wr V : World} {v : Value} {ts : List TD}
theorem RSt.ge (h : RSt w wr v ts) : w.heap.size + 1 ≤ wr.heap.size := lt_of_heap h.fb
theorem RSt.below (h : RSt w wr v ts) (b : Below wr.heap.size wr V) : RSt w V v ts :=
  ⟨(b.block _ (lt_of_heap h.fb)).trans h.fb, own_below h.own b, bel_trans h.bel b⟩
theorem RSt.grown {v' : Value} {t : TD} (h : RSt w wr v ts) (b : Below wr.heap.size wr V) {V' : World} (hg : V.grownBy V' v.ownBlock) (ho : V'.ownsRow (w.heap.size + 1) 33 4 v' (ts.length + 1) (ts.flatMap c4 ++ c4 t)) : RSt w V' v' (ts ++ [t]) := by
  have h1 := h.below b
  have hlt : ∀ g, v.ownBlock = some g → w.heap.size + 1 ≤ g := fun g hh => (h.own.lt g hh).1
  refine ⟨?_, ?_, Below.grown h1.bel hg (by have := h1.ge; omega) (fun j hj => by have := hlt j hj; omega)⟩
  · rw [hg.block _ (lt_of_heap h1.fb) (fun e => by have := hlt _ e.symm; omega)]; exact h1.fb
  · rw [List.length_append, List.flatMap_append]
    simpa using ho
theorem RSt.fin (h : RSt w wr v ts) (a b : Value) : (wr.setRow w.heap.size #[a, b]).heap[w.heap.size]? = some (.cells #[a, b] 25 (0, 0)) ∧ (wr.setRow w.heap.size #[a, b]).ownsRow w.heap.size 33 4 v ts.length (ts.flatMap c4) ∧ Below w.heap.size w (wr.setRow w.heap.size #[a, b]) := by
  refine ⟨setRow_heap _ _ _ _ _ _ h.fb, ⟨h.own.1, ?_⟩, h.bel.os, h.bel.tape, h.bel.output, by rw [size_setRow]; exact h.bel.size, fun i hi => ?_⟩
  · rcases h.own.2 with h2 | ⟨g, cap, cur, e, hg, c, d⟩
    · exact .inl h2
    · exact .inr ⟨g, cap, cur, e, by omega, by rw [setRow_other _ _ _ _ (by omega)]; exact c, d⟩
  · rw [setRow_other _ _ _ _ (by omega)]
    exact h.bel.block i hi
end
/-- A run of bytes from b on, up to p. -/
theorem run_end {p : UInt8 → Bool} {L : List UInt8} {b q : Nat} (hb : b ≤ q) (hq : q ≤ L.length) (h1 : ∀ j (h : j < L.length), b ≤ j → j < q → p L[j] = true) (h2 : ∀ h : q < L.length, p L[q] = false) : ((L.drop b).takeWhile p).length = q - b := by
  refine tw_len (L.drop b) (q - b) (by rw [List.length_drop]; omega) (fun j h hj => ?_) (fun h => ?_)
  · rw [List.getElem_drop]
    exact h1 _ _ (by omega) (by omega)
  · rw [List.getElem_drop]
    have e : b + (q - b) = q := by omega
    simp only [e]
    exact h2 _
theorem ext_tw (s : ByteArray) {p : UInt8 → Bool} {b q : Nat} (hb : b ≤ q) (hq : q ≤ s.size) (h : (((bl s).drop b).takeWhile p).length = q - b) : s.extract b q = str (((bl s).drop b).takeWhile p) := by
  rw [ext_str s b q hq, List.drop_take, ← h, take_tw]
theorem step_nl {L : List UInt8} {b line : Nat} {ts : List (Tk × Nat)} (h : b < L.length) (hx : lexL 1 L = comb ts (lexL line (L.drop b))) (hc : L[b].toNat = 10) : lexL 1 L = comb ts (lexL (line + 1) (L.drop (b + 1))) := by
  rw [hx, List.drop_eq_getElem_cons h]
  have e : nx L[b] (L.drop (b + 1)) = .skip 0 1 := by unfold nx; rw [if_pos hc]
  rw [comb_skip ts e, List.drop_zero]
theorem step_blank {L : List UInt8} {b line : Nat} {ts : List (Tk × Nat)} (h : b < L.length) (hx : lexL 1 L = comb ts (lexL line (L.drop b))) (h10 : L[b].toNat ≠ 10) (hc : isBlank L[b] = true) : lexL 1 L = comb ts (lexL line (L.drop (b + 1))) := by
  rw [hx, List.drop_eq_getElem_cons h]
  have e : nx L[b] (L.drop (b + 1)) = .skip 0 0 := by unfold nx; rw [if_neg h10, if_pos hc]
  rw [comb_skip ts e, List.drop_zero]
  rfl
theorem step_remark {L : List UInt8} {b q line : Nat} {ts : List (Tk × Nat)} (h : b < L.length) (hx : lexL 1 L = comb ts (lexL line (L.drop b))) (hb : isBlank L[b] = false) (hc : L[b].toNat = 35) (hq : b ≤ q) (ht : ((L.drop b).takeWhile noNl).length = q - b) : lexL 1 L = comb ts (lexL line (L.drop q)) ∧ b < q := by
  have hn : noNl L[b] = true := by unfold noNl; rw [hc]; rfl
  rw [List.drop_eq_getElem_cons h, List.takeWhile_cons_of_pos hn, List.length_cons] at ht
  have e : nx L[b] (L.drop (b + 1)) = .skip ((L.drop (b + 1)).takeWhile noNl).length 0 := by unfold nx; rw [if_neg (n10 hb), hb, if_neg (by decide), if_pos hc]; rfl
  refine ⟨?_, by omega⟩
  rw [hx, List.drop_eq_getElem_cons h, comb_skip ts e, List.drop_drop, show b + 1 + ((L.drop (b + 1)).takeWhile noNl).length = q by omega]
  rfl
theorem step_word {L : List UInt8} {b q line : Nat} {ts : List (Tk × Nat)} (h : b < L.length) (hx : lexL 1 L = comb ts (lexL line (L.drop b))) (hc : isLetter L[b] = true) (hq : b ≤ q) (ht : ((L.drop b).takeWhile isLetter).length = q - b) : lexL 1 L = comb (ts ++ [(.word ((L.drop b).takeWhile isLetter), line)]) (lexL line (L.drop q)) ∧ b < q := by
  obtain ⟨a1, a2, a3⟩ := letter_byte _ hc
  have e2 : (L.drop b).takeWhile isLetter = L[b] :: (L.drop (b + 1)).takeWhile isLetter := by rw [List.drop_eq_getElem_cons h, List.takeWhile_cons_of_pos hc]
  rw [e2, List.length_cons] at ht
  have e : nx L[b] (L.drop (b + 1)) = .tok (.word ((L.drop b).takeWhile isLetter)) ((L.drop (b + 1)).takeWhile isLetter).length := by rw [e2]; unfold nx; rw [if_neg a1, a2, if_neg (by decide), if_neg a3, if_pos hc]
  refine ⟨?_, by omega⟩
  rw [hx]
  conv => lhs; rw [List.drop_eq_getElem_cons h, comb_tok ts e, List.drop_drop, show b + 1 + ((L.drop (b + 1)).takeWhile isLetter).length = q by omega]
theorem step_num {L : List UInt8} {b q line : Nat} {ts : List (Tk × Nat)} (h : b < L.length) (hx : lexL 1 L = comb ts (lexL line (L.drop b))) (hc : isDigit L[b] = true) (hq : b ≤ q) (ht : ((L.drop b).takeWhile isDigit).length = q - b) :
    (q - b ≤ 5 ∧ valD ((L.drop b).takeWhile isDigit) ≤ 65535 → lexL 1 L = comb (ts ++ [(.num (valD ((L.drop b).takeWhile isDigit)), line)]) (lexL line (L.drop q))) ∧ (¬ (q - b ≤ 5 ∧ valD ((L.drop b).takeWhile isDigit) ≤ 65535) → lexL 1 L = .error line) ∧ b < q := by
  obtain ⟨a1, a2, a3, a4⟩ := digit_byte _ hc
  have e2 : (L.drop b).takeWhile isDigit = L[b] :: (L.drop (b + 1)).takeWhile isDigit := by rw [List.drop_eq_getElem_cons h, List.takeWhile_cons_of_pos hc]
  have hl : (L[b] :: (L.drop (b + 1)).takeWhile isDigit).length = q - b := by rw [← e2, ht]
  refine ⟨fun hv => ?_, fun hv => ?_, by rw [List.length_cons] at hl; omega⟩
  · have e : nx L[b] (L.drop (b + 1)) = .tok (.num (valD ((L.drop b).takeWhile isDigit))) ((L.drop (b + 1)).takeWhile isDigit).length := by
      rw [e2] at hv ⊢
      unfold nx
      rw [if_neg a1, a2, if_neg (by decide), if_neg a3, a4, if_neg (by decide), if_pos hc, if_pos ⟨by rw [hl]; exact hv.1, hv.2⟩]
    rw [hx]
    rw [List.length_cons] at hl
    conv => lhs; rw [List.drop_eq_getElem_cons h, comb_tok ts e, List.drop_drop, show b + 1 + ((L.drop (b + 1)).takeWhile isDigit).length = q by omega]
  · have e : nx L[b] (L.drop (b + 1)) = .bad := by
      rw [e2] at hv
      unfold nx
      rw [if_neg a1, a2, if_neg (by decide), if_neg a3, a4, if_neg (by decide), if_pos hc, if_neg (fun q => hv ⟨by rw [← hl]; exact q.1, q.2⟩)]
    rw [hx, List.drop_eq_getElem_cons h, comb_bad ts e]
theorem step_sign {L : List UInt8} {b line : Nat} {ts : List (Tk × Nat)} (h : b < L.length) (hx : lexL 1 L = comb ts (lexL line (L.drop b))) (hb : isBlank L[b] = false) (h35 : L[b].toNat ≠ 35) (h3 : isLetter L[b] = false) (h4 : isDigit L[b] = false) :
    (sgLen (L.drop b) = 0 → lexL 1 L = .error line) ∧ (sgLen (L.drop b) ≠ 0 → lexL 1 L = comb (ts ++ [(.sign ((L.drop b).take (sgLen (L.drop b))), line)]) (lexL line (L.drop (b + sgLen (L.drop b)))) ∧ b + sgLen (L.drop b) ≤ L.length) := by
  have e0 := List.drop_eq_getElem_cons h
  refine ⟨fun hs => ?_, fun hs => ?_⟩
  · have e : nx L[b] (L.drop (b + 1)) = .bad := by
      unfold nx
      rw [if_neg (n10 hb), hb, if_neg (by decide), if_neg h35, h3, if_neg (by decide), h4, if_neg (by decide), ← e0, if_pos hs]
    rw [hx, e0, comb_bad ts e]
  · have e : nx L[b] (L.drop (b + 1)) = .tok (.sign ((L.drop b).take (sgLen (L.drop b)))) (sgLen (L.drop b) - 1) := by
      unfold nx
      rw [if_neg (n10 hb), hb, if_neg (by decide), if_neg h35, h3, if_neg (by decide), h4, if_neg (by decide), ← e0, if_neg hs]
    have hle := (sgLen_low _ hs).2
    rw [List.length_drop] at hle
    refine ⟨?_, by omega⟩
    rw [hx]
    conv => lhs; rw [e0, comb_tok ts e, List.drop_drop, show b + 1 + (sgLen (L.drop b) - 1) = b + sgLen (L.drop b) by omega]
theorem val_snoc (l : List UInt8) (q : Nat) (h : q < l.length) : valD (l.take (q + 1)) = valD (l.take q) * 10 + (l[q].toNat - 48) := by
  unfold valD
  rw [List.take_succ_eq_append_getElem h, List.foldl_append]
  rfl
theorem val_bound (l : List UInt8) (n : Nat) (h : ∀ c ∈ l.take n, isDigit c = true) (hn : n ≤ 6) : valD (l.take n) < 1000000 := by
  refine Nat.lt_of_lt_of_le (val_key _ 0 h) ?_
  rw [Nat.zero_add, Nat.one_mul]
  exact Nat.le_trans (Nat.pow_le_pow_right (by omega) (by rw [List.length_take]; omega : (l.take n).length ≤ 6)) (by decide)
end Go.Proofs.YtnjknjbffgjelaaDoor
