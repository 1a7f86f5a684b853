/-
  LexSpaces as plain data: what is said of tokens, and what is told of it (written by tools/stage18/gen_spn.py).
-/
import Derived.Test.YtnjknjbffgjelaaDoorTelW
import Derived.Lib.ItoaNum
set_option linter.unusedVariables false
set_option linter.unusedSimpArgs false
namespace Go.Proofs.YtnjknjbffgjelaaDoor
open Go.RowKit

def say1 (t : TD) (bt : List UInt8) : List UInt8 := if t.k = 2 then Lib.decDigits t.n ++ bt else if t.k = 4 then [] else t.s ++ bt
def saidL (D : List TD) (bt : List UInt8) : List UInt8 := D.flatMap (fun t => say1 t bt)
theorem said_snoc (D : List TD) (bt : List UInt8) (k : Nat) (h : k < D.length) : saidL (D.take (k + 1)) bt = saidL (D.take k) bt ++ say1 D[k] bt := by
  unfold saidL
  rw [List.take_succ_eq_append_getElem h, List.flatMap_append]
  simp
theorem dig_all : ∀ (n : Nat), Lib.decDigits n ≠ [] ∧ (∀ c ∈ Lib.decDigits n, isDigit c = true) ∧ valD (Lib.decDigits n) = n := by
  intro n
  induction n using Nat.strongRecOn with
  | ind n ih =>
    have hd : ∀ q, q < 10 → isDigit (UInt8.ofNat (48 + q)) = true ∧ (UInt8.ofNat (48 + q)).toNat = 48 + q := by
      intro q hq
      have e : (UInt8.ofNat (48 + q)).toNat = 48 + q := by rw [UInt8.toNat_ofNat']; omega
      refine ⟨?_, e⟩
      unfold isDigit
      rw [e]
      simp
      omega
    rw [Lib.decDigits]
    by_cases h : n < 10
    · rw [dif_pos h]
      refine ⟨by simp, fun c hc => ?_, ?_⟩
      · rw [List.mem_singleton] at hc; subst hc; exact (hd n h).1
      · unfold valD
        rw [List.foldl_cons, List.foldl_nil, (hd n h).2]; omega
    · rw [dif_neg h]
      obtain ⟨a, b, d⟩ := ih (n / 10) (by omega)
      refine ⟨by simp, fun c hc => ?_, ?_⟩
      · rcases List.mem_append.1 hc with hc | hc
        · exact b c hc
        · rw [List.mem_singleton] at hc; subst hc; exact (hd _ (by omega)).1
      · unfold valD at d ⊢
        rw [List.foldl_append, d, List.foldl_cons, List.foldl_nil, (hd _ (by omega)).2]
        omega
theorem dig_len : ∀ (k n : Nat), n < 10 ^ (k + 1) → (Lib.decDigits n).length ≤ k + 1
  | 0, n, h => by rw [Lib.decDigits, dif_pos (by simpa using h)]; simp
  | k + 1, n, h => by
    rw [Lib.decDigits]
    by_cases h1 : n < 10
    · rw [dif_pos h1]; simp
    · rw [dif_neg h1, List.length_append]
      have := dig_len k (n / 10) (by rw [Nat.pow_succ] at h; omega)
      simp
      omega
/-- The bytes that say a token. -/
def sayW : Tk → List UInt8
  | .word s => s
  | .num n => Lib.decDigits n
  | .sign s => s
theorem says_W (t : Tk) (h : t.good) : t.says (sayW t) := by
  cases t with
  | word s => exact ⟨rfl, h⟩
  | num n =>
    obtain ⟨a, b, d⟩ := dig_all n
    have hn : n ≤ 65535 := h
    exact ⟨⟨a, b⟩, dig_len 4 n (by omega), d, hn⟩
  | sign s => exact ⟨rfl, h⟩
theorem said_map (ts : List (Tk × Nat)) (e : Nat) (bt : List UInt8) : saidL (ts.map tkL ++ [⟨4, [], 0, e⟩]) bt = (ts.map (fun z => sayW z.1)).flatMap (· ++ bt) := by
  unfold saidL
  induction ts with
  | nil => rfl
  | cons z ts ih =>
    rw [List.map_cons, List.map_cons, List.cons_append, List.flatMap_cons, List.flatMap_cons, ih]
    congr 1
    obtain ⟨t, ln⟩ := z
    cases t <;> rfl
/-- The strings that only part. -/
def bts (i : Nat) : List UInt8 := [[32], [10], [32, 35, 32, 97, 32, 125, 10], [9, 13]].getD i []
theorem bts_parts (i : Nat) (h : i < 4) : ∃ nl, Parts (bts i) nl := by
  rcases (by omega : i = 0 ∨ i = 1 ∨ i = 2 ∨ i = 3) with rfl | rfl | rfl | rfl
  · exact ⟨0, parts_1⟩
  · exact ⟨1, parts_2⟩
  · exact ⟨1, parts_3⟩
  · exact ⟨0, parts_4⟩
theorem bts_len (i : Nat) : (bts i).length ≤ 10 := by
  by_cases h : i < 4
  · rcases (by omega : i = 0 ∨ i = 1 ∨ i = 2 ∨ i = 3) with rfl | rfl | rfl | rfl <;> decide
  · have e : bts i = [] := by
      unfold bts
      rw [List.getD_eq_getElem?_getD, List.getElem?_eq_none (by simp; omega)]; rfl
    rw [e]; exact Nat.zero_le _
/-- Two lists of tokens are the same, but for their lines. -/
def Alike (D E : List TD) : Prop := D.length = E.length ∧ ∀ i (h : i < D.length) (h' : i < E.length), D[i].k = E[i].k ∧ D[i].s = E[i].s ∧ D[i].n = E[i].n
theorem alike_map : ∀ (a b : List (Tk × Nat)) (e e' : Nat), a.map (·.1) = b.map (·.1) → Alike (a.map tkL ++ [⟨4, [], 0, e⟩]) (b.map tkL ++ [⟨4, [], 0, e'⟩])
  | [], [], e, e', _ => ⟨rfl, fun i h h' => by
    have : i = 0 := by simp at h; omega
    subst this
    exact ⟨rfl, rfl, rfl⟩⟩
  | x :: a, y :: b, e, e', h => by
    rw [List.map_cons, List.map_cons] at h
    injection h with h1 h2
    obtain ⟨g1, g2⟩ := alike_map a b e e' h2
    refine ⟨by simpa using g1, fun i hi hi' => ?_⟩
    cases i with
    | zero =>
      show (tkL x).k = (tkL y).k ∧ (tkL x).s = (tkL y).s ∧ (tkL x).n = (tkL y).n
      unfold tkL
      rw [h1]
      exact ⟨rfl, rfl, rfl⟩
    | succ i => exact g2 i (by simpa using hi) (by simpa using hi')
  | [], _ :: _, _, _, h => absurd h (by simp)
  | _ :: _, [], _, _, h => absurd h (by simp)
theorem nx_words (c : UInt8) (r : List UInt8) (t : Tk) (k : Nat) (h : nx c r = .tok t k) : (tkD t).s.length ≤ r.length + 1 := by
  unfold nx at h
  split at h
  · exact absurd h (by simp)
  split at h
  · exact absurd h (by simp)
  split at h
  · exact absurd h (by simp)
  split at h
  · injection h with h1 h2
    subst h1
    have := tw_le (p := isLetter) r
    show (c :: r.takeWhile isLetter).length ≤ _
    rw [List.length_cons]; omega
  split at h
  · split at h
    · injection h with h1 h2
      subst h1
      exact Nat.zero_le _
    · exact absurd h (by simp)
  split at h
  · exact absurd h (by simp)
  · injection h with h1 h2
    subst h1
    show ((c :: r).take _).length ≤ _
    rw [List.length_take, List.length_cons]; omega
theorem lex_words : ∀ (n : Nat) (b : List UInt8), b.length ≤ n → ∀ (line : Nat) (l : List (Tk × Nat)) (e : Nat), lexL line b = .ok (l, e) → ∀ z ∈ l, (tkD z.1).s.length ≤ b.length
  | n, [], _, line, l, e, h => by
    rw [lexL_nil] at h
    injection h with h
    injection h with h1 h2
    subst h1
    exact fun _ h => absurd h List.not_mem_nil
  | 0, c :: r, hn, _, _, _, _ => absurd hn (by simp)
  | n + 1, c :: r, hn, line, l, e, h => by
    rw [List.length_cons] at hn
    rw [lexL_cons] at h
    split at h
    · exact absurd h (by simp)
    next k nl hx =>
      intro z hz
      have := lex_words n (r.drop k) (by rw [List.length_drop]; omega) _ _ _ h z hz
      rw [List.length_drop] at this
      rw [List.length_cons]; omega
    next t k hx =>
      split at h
      · exact absurd h (by simp)
      next l' e' h' =>
        injection h with h
        injection h with h1 h2
        subst h1
        intro z hz
        rcases List.mem_cons.1 hz with e2 | e2
        · subst e2
          exact nx_words c r t k hx
        · have := lex_words n (r.drop k) (by rw [List.length_drop]; omega) _ _ _ h' z e2
          rw [List.length_drop] at this
          rw [List.length_cons]; omega
/-- All that the law wants of a text's tokens. -/
structure Good (D : List TD) : Prop where
  len : D.length ≤ 4001
  one : 0 < D.length
  each : ∀ i (h : i < D.length), D[i].s.length ≤ 4000 ∧ D[i].n ≤ 65535 ∧ 1 ≤ D[i].k ∧ D[i].k ≤ 4 ∧ 1 ≤ D[i].line
  rise : ∀ i j (h : i < D.length) (h' : j < D.length), i ≤ j → D[i].line ≤ D[j].line
  back : ∀ q, q < 4 → (saidL D (bts q)).length ≤ 16384 → ∃ E, lexR (saidL D (bts q)) = (E, 0, 0) ∧ Alike D E
theorem lexR_good (l : List UInt8) (hl : l.length ≤ 4000) : (∃ e, lexR l = ([], 120, e) ∧ 1 ≤ e) ∨ ∃ D, lexR l = (D, 0, 0) ∧ Good D := by
  cases h : lexL 1 l with
  | error e => exact .inl ⟨e, lexR_err (by omega) h, lex_line l.length l (Nat.le_refl _) 1 e h⟩
  | ok q =>
    obtain ⟨ts, e⟩ := q
    refine .inr ⟨_, lexR_ok (by omega) h, ?_⟩
    obtain ⟨g1, g2, g3⟩ := lex_good l.length l (Nat.le_refl _) 1 ts e h
    have hlen := lexL_len l.length l (Nat.le_refl _) 1 ts e h
    have hw := lex_words l.length l (Nat.le_refl _) 1 ts e h
    have hat : ∀ i (hi : i < (ts.map tkL ++ [⟨4, [], 0, e⟩] : List TD).length), (∃ hi' : i < ts.length, ((ts.map tkL ++ [⟨4, [], 0, e⟩] : List TD)[i]'hi) = tkL (ts[i]'hi')) ∨ (i = ts.length ∧ ((ts.map tkL ++ [⟨4, [], 0, e⟩] : List TD)[i]'hi) = ⟨4, [], 0, e⟩) := by
      intro i hi
      by_cases hi' : i < ts.length
      · exact .inl ⟨hi', by rw [List.getElem_append_left (by simpa using hi')]; simp⟩
      · have : i = ts.length := by simp at hi; omega
        refine .inr ⟨this, ?_⟩
        rw [List.getElem_append_right (by simp; omega)]
        simp
    refine ⟨by simp; omega, by simp, fun i hi => ?_, fun i j hi hj hij => ?_, fun q hq hs => ?_⟩
    · rcases hat i hi with ⟨hi', ee⟩ | ⟨_, ee⟩
      · rw [ee]
        have hm : ts[i] ∈ ts := List.getElem_mem hi'
        obtain ⟨a, b, c⟩ := g1 _ hm
        have hs := hw _ hm
        refine ⟨Nat.le_trans hs hl, ?_, ?_, ?_, b⟩
        · show (tkD ts[i].1).n ≤ 65535
          revert a
          cases ts[i].1 with
          | word s => intro _; exact Nat.zero_le _
          | num n => intro h; exact h
          | sign s => intro _; exact Nat.zero_le _
        · show 1 ≤ (tkD ts[i].1).k
          cases ts[i].1 <;> simp [tkD]
        · show (tkD ts[i].1).k ≤ 4
          cases ts[i].1 <;> simp [tkD]
      · rw [ee]
        exact ⟨Nat.zero_le _, Nat.zero_le _, by show 1 ≤ 4; omega, Nat.le_refl _, g2⟩
    · rcases hat i hi with ⟨hi', ee⟩ | ⟨e0, ee⟩
      · rcases hat j hj with ⟨hj', ej⟩ | ⟨_, ej⟩
        · rw [ee, ej]
          by_cases e2 : i = j
          · subst e2; exact Nat.le_refl _
          · exact List.pairwise_iff_getElem.1 g3 i j hi' hj' (by omega)
        · rw [ee, ej]
          exact (g1 _ (List.getElem_mem hi')).2.2
      · rcases hat j hj with ⟨hj', ej⟩ | ⟨_, ej⟩
        · omega
        · rw [ee, ej]; exact Nat.le_refl _
    · obtain ⟨nl, hB⟩ := bts_parts q hq
      rw [said_map] at hs ⊢
      obtain ⟨m, e2, h1, h2⟩ := lex_said (bts q) nl hB (ts.map (·.1)) (ts.map (fun z => sayW z.1)) (by simp) (fun i h h' => by
        simp only [List.getElem_map]
        exact says_W _ (g1 _ (List.getElem_mem (by simpa using h))).1) 1
      exact ⟨_, lexR_ok (by omega) h1, alike_map ts m e e2 h2.symm⟩
end Go.Proofs.YtnjknjbffgjelaaDoor
