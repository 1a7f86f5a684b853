/-
  A text's tokens (chapter 18) as plain data: what parts them says nothing else.
-/
namespace Go.Proofs.YtnjknjbffgjelaaDoor

inductive Tk where
  | word (s : List UInt8)
  | num (n : Nat)
  | sign (s : List UInt8)
deriving DecidableEq
/-- What stands at a place: nothing that may; something that is passed over (so many bytes behind the first, so many line ends); a token (so many bytes behind its first). -/
inductive Nx where
  | bad
  | skip (k nl : Nat)
  | tok (t : Tk) (k : Nat)
def isLetter (c : UInt8) : Bool := 97 ≤ c.toNat && c.toNat ≤ 122
def isDigit (c : UInt8) : Bool := 48 ≤ c.toNat && c.toNat ≤ 57
def isBlank (c : UInt8) : Bool := c.toNat = 32 || c.toNat = 9 || c.toNat = 13 || c.toNat = 10
def valD (w : List UInt8) : Nat := w.foldl (fun n c => n * 10 + (c.toNat - 48)) 0
/-- &~= <<= >>= -/
def sg3 : List (List UInt8) := [[38, 126, 61], [60, 60, 61], [62, 62, 61]]
/-- == += -= *= /= %= &= |= ^= ++ -- -/
def sg2 : List (List UInt8) := [[61, 61], [43, 61], [45, 61], [42, 61], [47, 61], [37, 61], [38, 61], [124, 61], [94, 61], [43, 43], [45, 45]]
/-- { } = < > ~ * -/
def sg1 : List (List UInt8) := [[123], [125], [61], [60], [62], [126], [42]]
def sgLen (b : List UInt8) : Nat := if b.take 3 ∈ sg3 then 3 else if b.take 2 ∈ sg2 then 2 else if b.take 1 ∈ sg1 then 1 else 0
def nx (c : UInt8) (r : List UInt8) : Nx :=
  if c.toNat = 10 then .skip 0 1
  else if isBlank c then .skip 0 0
  else if c.toNat = 35 then .skip (r.takeWhile (fun x => x.toNat != 10)).length 0
  else if isLetter c then .tok (.word (c :: r.takeWhile isLetter)) (r.takeWhile isLetter).length
  else if isDigit c then
    if (c :: r.takeWhile isDigit).length ≤ 5 ∧ valD (c :: r.takeWhile isDigit) ≤ 65535 then .tok (.num (valD (c :: r.takeWhile isDigit))) (r.takeWhile isDigit).length else .bad
  else if sgLen (c :: r) = 0 then .bad
  else .tok (.sign ((c :: r).take (sgLen (c :: r)))) (sgLen (c :: r) - 1)
/-- The tokens, each with its line, and the last line; or the line of the fault. -/
def lexL (line : Nat) : List UInt8 → Except Nat (List (Tk × Nat) × Nat)
  | [] => .ok ([], line)
  | c :: r => match nx c r with
    | .bad => .error line
    | .skip k nl => lexL (line + nl) (r.drop k)
    | .tok t k => match lexL line (r.drop k) with
      | .error e => .error e
      | .ok (l, e) => .ok ((t, line) :: l, e)
termination_by b => b.length
decreasing_by all_goals (simp only [List.length_drop, List.length_cons]; omega)
theorem lexL_nil (line : Nat) : lexL line [] = .ok ([], line) := by rw [lexL]
theorem lexL_cons (line : Nat) (c : UInt8) (r : List UInt8) : lexL line (c :: r) = match nx c r with
    | .bad => .error line
    | .skip k nl => lexL (line + nl) (r.drop k)
    | .tok t k => match lexL line (r.drop k) with
      | .error e => .error e
      | .ok (l, e) => .ok ((t, line) :: l, e) := by rw [lexL]
/-- A token that may be. -/
def Tk.good : Tk → Prop
  | .word s => s ≠ [] ∧ ∀ c ∈ s, isLetter c = true
  | .num n => n ≤ 65535
  | .sign s => s ∈ sg3 ∨ s ∈ sg2 ∨ s ∈ sg1
/-- Bytes that say a token. -/
def Tk.says (t : Tk) (w : List UInt8) : Prop :=
  match t with
  | .word s => w = s ∧ s ≠ [] ∧ ∀ c ∈ s, isLetter c = true
  | .num n => (w ≠ [] ∧ ∀ c ∈ w, isDigit c = true) ∧ w.length ≤ 5 ∧ valD w = n ∧ n ≤ 65535
  | .sign s => w = s ∧ (s ∈ sg3 ∨ s ∈ sg2 ∨ s ∈ sg1)
theorem nx_good (c : UInt8) (r : List UInt8) (t : Tk) (k : Nat) (h : nx c r = .tok t k) : t.good := by
  unfold nx at h
  split at h
  · exact absurd h (by simp)
  split at h
  · exact absurd h (by simp)
  split at h
  · exact absurd h (by simp)
  split at h
  next hl =>
    injection h with h1 h2
    subst h1
    refine ⟨by simp, fun x hx => ?_⟩
    rcases List.mem_cons.1 hx with e | e
    · rw [e]; exact hl
    · exact (List.all_eq_true.1 (List.all_takeWhile (p := isLetter) (l := r))) x e
  split at h
  next =>
    split at h
    next hd =>
      injection h with h1 h2
      subst h1
      exact hd.2
    next => exact absurd h (by simp)
  split at h
  · exact absurd h (by simp)
  next hs =>
    injection h with h1 h2
    subst h1
    unfold sgLen at hs ⊢
    split
    next h3 => exact .inl h3
    next h3 =>
      rw [if_neg h3] at hs
      split
      next h2 => exact .inr (.inl h2)
      next h2 =>
        rw [if_neg h2] at hs
        split
        next h1 => exact .inr (.inr h1)
        next h1 => rw [if_neg h1] at hs; exact absurd rfl hs
theorem tk_says (t : Tk) (h : t.good) : match t with | .word s => t.says s | .num _ => True | .sign s => t.says s := by
  cases t
  · exact ⟨rfl, h⟩
  · trivial
  · exact ⟨rfl, h⟩
/-- All tokens may be; their lines rise, from the first one on to the last. -/
theorem lex_good : ∀ (n : Nat) (b : List UInt8), b.length ≤ n → ∀ (line : Nat) (l : List (Tk × Nat)) (e : Nat), lexL line b = .ok (l, e) → (∀ z ∈ l, z.1.good ∧ line ≤ z.2 ∧ z.2 ≤ e) ∧ line ≤ e ∧ l.Pairwise (fun x y => x.2 ≤ y.2)
  | n, [], _, line, l, e, h => by
    rw [lexL_nil] at h
    injection h with h
    injection h with h1 h2
    subst h1 h2
    exact ⟨fun _ h => absurd h List.not_mem_nil, Nat.le_refl _, List.Pairwise.nil⟩
  | 0, c :: r, hn, _, _, _, _ => absurd hn (by simp)
  | n + 1, c :: r, hn, line, l, e, h => by
    rw [List.length_cons] at hn
    rw [lexL_cons] at h
    split at h
    · exact absurd h (by simp)
    next k nl hx =>
      have := lex_good n (r.drop k) (by rw [List.length_drop]; omega) _ _ _ h
      exact ⟨fun z hz => by have := this.1 z hz; exact ⟨this.1, by omega, this.2.2⟩, by omega, this.2.2⟩
    next t k hx =>
      split at h
      · exact absurd h (by simp)
      next l' e' h' =>
        injection h with h
        injection h with h1 h2
        subst h1 h2
        have := lex_good n (r.drop k) (by rw [List.length_drop]; omega) _ _ _ h'
        refine ⟨fun z hz => ?_, this.2.1, List.Pairwise.cons (fun z hz => (this.1 z hz).2.1) this.2.2⟩
        rcases List.mem_cons.1 hz with e2 | e2
        · rw [e2]; exact ⟨nx_good _ _ _ _ hx, Nat.le_refl _, this.2.1⟩
        · exact this.1 z e2
theorem lex_line : ∀ (n : Nat) (b : List UInt8), b.length ≤ n → ∀ (line e : Nat), lexL line b = .error e → line ≤ e
  | n, [], _, line, e, h => by rw [lexL_nil] at h; exact absurd h (by simp)
  | 0, c :: r, hn, _, _, _ => absurd hn (by simp)
  | n + 1, c :: r, hn, line, e, h => by
    rw [List.length_cons] at hn
    rw [lexL_cons] at h
    split at h
    · injection h with h; omega
    next k nl hx =>
      have := lex_line n (r.drop k) (by rw [List.length_drop]; omega) _ _ h
      omega
    next t k hx =>
      split at h
      next e' h' =>
        injection h with h
        subst h
        exact lex_line n (r.drop k) (by rw [List.length_drop]; omega) _ _ h'
      · exact absurd h (by simp)
theorem takeWhile_stop {p : UInt8 → Bool} (w : List UInt8) (x : UInt8) (r : List UInt8) (hw : ∀ c ∈ w, p c = true) (hx : p x = false) : (w ++ x :: r).takeWhile p = w := by
  rw [List.takeWhile_append_of_pos hw, List.takeWhile_cons_of_neg (by rw [hx]; decide), List.append_nil]
theorem letter_byte (c : UInt8) (h : isLetter c = true) : c.toNat ≠ 10 ∧ isBlank c = false ∧ c.toNat ≠ 35 := by
  unfold isLetter at h
  simp at h
  unfold isBlank
  simp
  omega
theorem digit_byte (c : UInt8) (h : isDigit c = true) : c.toNat ≠ 10 ∧ isBlank c = false ∧ c.toNat ≠ 35 ∧ isLetter c = false := by
  unfold isDigit at h
  simp at h
  unfold isBlank isLetter
  simp
  omega
theorem blank_byte (c : UInt8) (h : isBlank c = true) : isLetter c = false ∧ isDigit c = false := by
  unfold isBlank at h
  simp at h
  unfold isLetter isDigit
  simp
  omega
theorem sg_bytes : (∀ s ∈ sg3, s.length = 3 ∧ s.all (fun c => !isBlank c) = true ∧ (s.headD 0).toNat ≠ 10 ∧ (s.headD 0).toNat ≠ 35 ∧ isLetter (s.headD 0) = false ∧ isDigit (s.headD 0) = false) ∧ (∀ s ∈ sg2, s.length = 2 ∧ s.all (fun c => !isBlank c) = true ∧ (s.headD 0).toNat ≠ 10 ∧ (s.headD 0).toNat ≠ 35 ∧ isLetter (s.headD 0) = false ∧ isDigit (s.headD 0) = false) ∧ (∀ s ∈ sg1, s.length = 1 ∧ s.all (fun c => !isBlank c) = true ∧ (s.headD 0).toNat ≠ 10 ∧ (s.headD 0).toNat ≠ 35 ∧ isLetter (s.headD 0) = false ∧ isDigit (s.headD 0) = false) := by
  refine ⟨?_, ?_, ?_⟩ <;> intro s hs <;> simp only [sg3, sg2, sg1, List.mem_cons, List.not_mem_nil, or_false] at hs
  · rcases hs with e | e | e <;> subst e <;> decide
  · rcases hs with e | e | e | e | e | e | e | e | e | e | e <;> subst e <;> decide
  · rcases hs with e | e | e | e | e | e | e <;> subst e <;> decide
/-- Behind a sign and a blank byte no longer sign stands. -/
theorem take_blank (s : List UInt8) (x : UInt8) (r : List UInt8) (n : Nat) (hx : isBlank x = true) (hn : s.length < n) (t : List UInt8) (ht : (s ++ x :: r).take n = t) : t.all (fun c => !isBlank c) = false := by
  subst ht
  have hm : x ∈ (s ++ x :: r).take n := by
    rw [List.take_append, List.take_of_length_le (by omega)]
    obtain ⟨m, e⟩ : ∃ m, n - s.length = m + 1 := ⟨n - s.length - 1, by omega⟩
    rw [e, List.take_succ_cons]
    exact List.mem_append_right _ List.mem_cons_self
  apply Bool.eq_false_iff.2
  intro h
  have := List.all_eq_true.1 h x hm
  rw [hx] at this
  exact absurd this (by decide)
theorem sgLen_at (s : List UInt8) (x : UInt8) (r : List UInt8) (hx : isBlank x = true) (h : s ∈ sg3 ∨ s ∈ sg2 ∨ s ∈ sg1) : sgLen (s ++ x :: r) = s.length ∧ s.length ≠ 0 := by
  have hb := sg_bytes
  unfold sgLen
  rcases h with h | h | h
  · have hl := (hb.1 s h).1
    rw [List.take_append_of_le_length (by omega), List.take_of_length_le (by omega), if_pos h]
    omega
  · have hl := (hb.2.1 s h).1
    have h3 : (s ++ x :: r).take 3 ∉ sg3 := fun hm => by
      have h1 := (hb.1 _ hm).2.1
      have h2 := take_blank s x r 3 hx (by omega) _ rfl
      rw [h2] at h1
      exact absurd h1 (by decide)
    rw [if_neg h3, List.take_append_of_le_length (by omega), List.take_of_length_le (by omega), if_pos h]
    omega
  · have hl := (hb.2.2 s h).1
    have h3 : (s ++ x :: r).take 3 ∉ sg3 := fun hm => by
      have h1 := (hb.1 _ hm).2.1
      have h2 := take_blank s x r 3 hx (by omega) _ rfl
      rw [h2] at h1
      exact absurd h1 (by decide)
    have h2 : (s ++ x :: r).take 2 ∉ sg2 := fun hm => by
      have h1 := (hb.2.1 _ hm).2.1
      have h2 := take_blank s x r 2 hx (by omega) _ rfl
      rw [h2] at h1
      exact absurd h1 (by decide)
    rw [if_neg h3, if_neg h2, List.take_append_of_le_length (by omega), List.take_of_length_le (by omega), if_pos h]
    omega
/-- A token that is said, and a blank byte behind it: it is told. -/
theorem lex_tok (t : Tk) (w : List UInt8) (h : t.says w) (x : UInt8) (r : List UInt8) (hx : isBlank x = true) (line : Nat) : lexL line (w ++ x :: r) = match lexL line (x :: r) with
      | .error e => .error e
      | .ok (l, e) => .ok ((t, line) :: l, e) := by
  obtain ⟨hxl, hxd⟩ := blank_byte x hx
  have key : ∃ c v, w = c :: v ∧ nx c (v ++ x :: r) = .tok t v.length := by
    cases t with
    | word s =>
      obtain ⟨h1, h2, h3⟩ := h
      subst h1
      match w, h2, h3 with
      | c :: v, _, h3 =>
        refine ⟨c, v, rfl, ?_⟩
        have hc := h3 c List.mem_cons_self
        obtain ⟨a1, a2, a3⟩ := letter_byte c hc
        unfold nx
        rw [if_neg a1, a2, if_neg (by decide), if_neg a3, if_pos hc, takeWhile_stop v x r (fun y hy => h3 y (List.mem_cons_of_mem _ hy)) hxl]
    | num n =>
      obtain ⟨⟨h1, h2⟩, h3, h4, h5⟩ := h
      match w, h1, h2, h3, h4 with
      | c :: v, _, h2, h3, h4 =>
        refine ⟨c, v, rfl, ?_⟩
        have hc := h2 c List.mem_cons_self
        obtain ⟨a1, a2, a3, a4⟩ := digit_byte c hc
        unfold nx
        rw [if_neg a1, a2, if_neg (by decide), if_neg a3, a4, if_neg (by decide), if_pos hc, takeWhile_stop v x r (fun y hy => h2 y (List.mem_cons_of_mem _ hy)) hxd, if_pos ⟨h3, by omega⟩, h4]
    | sign s =>
      obtain ⟨h1, h2⟩ := h
      subst h1
      have hl := sgLen_at w x r hx h2
      match w, h2, hl with
      | [], _, hl => exact absurd rfl hl.2
      | c :: v, h2, hl =>
        refine ⟨c, v, rfl, ?_⟩
        have hb : (isBlank c = false) ∧ c.toNat ≠ 10 ∧ c.toNat ≠ 35 ∧ isLetter c = false ∧ isDigit c = false := by
          have hs := sg_bytes
          have go : ∀ n, ((c :: v).length = n ∧ (c :: v).all (fun c => !isBlank c) = true ∧ ((c :: v).headD 0).toNat ≠ 10 ∧ ((c :: v).headD 0).toNat ≠ 35 ∧ isLetter ((c :: v).headD 0) = false ∧ isDigit ((c :: v).headD 0) = false) → (isBlank c = false) ∧ c.toNat ≠ 10 ∧ c.toNat ≠ 35 ∧ isLetter c = false ∧ isDigit c = false := by
            intro n h
            have h1 := List.all_eq_true.1 h.2.1 c List.mem_cons_self
            exact ⟨by simpa using h1, h.2.2⟩
          rcases h2 with h2 | h2 | h2
          · exact go _ (hs.1 _ h2)
          · exact go _ (hs.2.1 _ h2)
          · exact go _ (hs.2.2 _ h2)
        obtain ⟨a1, a2, a3, a4, a5⟩ := hb
        have hl1 : sgLen (c :: (v ++ x :: r)) = v.length + 1 := hl.1
        unfold nx
        rw [if_neg a2, a1, if_neg (by decide), if_neg a3, a4, if_neg (by decide), a5, if_neg (by decide), hl1, if_neg (by omega), ← List.cons_append, List.take_append_of_le_length (by rw [List.length_cons]; omega), List.take_of_length_le (by rw [List.length_cons]; omega), Nat.add_sub_cancel]
  obtain ⟨c, v, e, hn⟩ := key
  subst e
  rw [List.cons_append, lexL_cons, hn]
  simp only
  rw [List.drop_append_of_le_length (Nat.le_refl _), List.drop_of_length_le (Nat.le_refl _), List.nil_append]
/-- Bytes that only part: passed over, so many lines; the first one is blank. -/
def Parts (B : List UInt8) (nl : Nat) : Prop := (∃ x v, B = x :: v ∧ isBlank x = true) ∧ ∀ line r, lexL line (B ++ r) = lexL (line + nl) r
theorem lex_blank (line : Nat) (c : UInt8) (r : List UInt8) (h : c.toNat = 32 ∨ c.toNat = 9 ∨ c.toNat = 13) : lexL line (c :: r) = lexL line r := by
  rw [lexL_cons]
  have e : nx c r = .skip 0 0 := by
    unfold nx
    rw [if_neg (by omega), if_pos (by unfold isBlank; simp; omega)]
  rw [e]
  rfl
theorem lex_nl (line : Nat) (r : List UInt8) : lexL line (10 :: r) = lexL (line + 1) r := by
  rw [lexL_cons]
  have e : nx 10 r = .skip 0 1 := by
    unfold nx
    rw [if_pos (by decide)]
  rw [e]
  rfl
theorem lex_remark (line : Nat) (v r : List UInt8) (h : ∀ c ∈ v, c.toNat ≠ 10) : lexL line (35 :: (v ++ 10 :: r)) = lexL line (10 :: r) := by
  rw [lexL_cons]
  have e : nx 35 (v ++ 10 :: r) = .skip v.length 0 := by
    unfold nx
    rw [if_neg (by decide), if_neg (by decide), if_pos (by decide), takeWhile_stop v 10 r (fun c hc => by have := h c hc; simpa using this) (by decide)]
  rw [e]
  simp only
  rw [List.drop_append_of_le_length (Nat.le_refl _), List.drop_of_length_le (Nat.le_refl _), List.nil_append]
  rfl
/-- " " -/
theorem parts_1 : Parts [32] 0 := ⟨⟨32, [], rfl, by decide⟩, fun line r => lex_blank line 32 r (by decide)⟩
/-- "\n" -/
theorem parts_2 : Parts [10] 1 := ⟨⟨10, [], rfl, by decide⟩, fun line r => lex_nl line r⟩
/-- " # a }\n" -/
theorem parts_3 : Parts [32, 35, 32, 97, 32, 125, 10] 1 := ⟨⟨32, _, rfl, by decide⟩, fun line r => by
  show lexL line (32 :: 35 :: ([32, 97, 32, 125] ++ 10 :: r)) = _
  rw [lex_blank line 32 _ (by decide), lex_remark line _ r (by decide), lex_nl]⟩
/-- "\t\r" -/
theorem parts_4 : Parts [9, 13] 0 := ⟨⟨9, _, rfl, by decide⟩, fun line r => by
  show lexL line (9 :: 13 :: r) = _
  rw [lex_blank line 9 _ (by decide), lex_blank line 13 _ (by decide)]
  rfl⟩
/-- Said one by one, with what only parts them between, they are the same. -/
theorem lex_said (B : List UInt8) (nl : Nat) (hB : Parts B nl) : ∀ (l : List Tk) (w : List (List UInt8)), l.length = w.length → (∀ i (h : i < l.length) (h' : i < w.length), l[i].says w[i]) → ∀ line, ∃ m e, lexL line (w.flatMap (· ++ B)) = .ok (m, e) ∧ m.map (·.1) = l
  | [], [], _, _, line => ⟨[], line, lexL_nil line, rfl⟩
  | t :: l, v :: w, hl, h, line => by
    obtain ⟨m, e2, h1, h2⟩ := lex_said B nl hB l w (by rw [List.length_cons, List.length_cons] at hl; omega) (fun i h3 h4 => h (i + 1) (by rw [List.length_cons]; omega) (by rw [List.length_cons]; omega)) (line + nl)
    obtain ⟨⟨x, u, e, hx⟩, hp⟩ := hB
    have h3 := lex_tok t v (h 0 (by rw [List.length_cons]; omega) (by rw [List.length_cons]; omega)) x (u ++ w.flatMap (· ++ B)) hx line
    have h4 := hp line (w.flatMap (· ++ B))
    have h5 : ∀ q, B ++ q = x :: (u ++ q) := fun q => by rw [e, List.cons_append]
    rw [h1, h5] at h4
    refine ⟨(t, line) :: m, e2, ?_, by rw [List.map_cons, h2]⟩
    rw [List.flatMap_cons, List.append_assoc, h5, h3, h4]
  | [], _ :: _, hl, _, _ => absurd hl (by simp)
  | _ :: _, [], hl, _, _ => absurd hl (by simp)
end Go.Proofs.YtnjknjbffgjelaaDoor
