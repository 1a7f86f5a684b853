/-
  Values and their bytes, read from the front: a reader that gives back what was put, that finds bytes that end early short, and that takes nothing that was not put. Such readers one behind the other are one again.
-/
namespace Go.Proofs.Ytnanmdfbgoahjaa

/-- What a reader tells: a value and the bytes behind it, or an error. -/
abbrev Rd (α : Type) := List UInt8 → Except Int (α × List UInt8)
/-- P reads what f puts, of those that V says may be; ends early: the error 12. -/
structure Codes {α : Type} (P : Rd α) (f : α → List UInt8) (V : α → Prop) : Prop where
  there : ∀ x r, V x → P (f x ++ r) = .ok (x, r)
  short : ∀ x i, V x → i < (f x).length → P ((f x).take i) = .error 12
  back : ∀ b x r, P b = .ok (x, r) → b = f x ++ r ∧ V x
def Rd.pair {α β : Type} (P : Rd α) (Q : α → Rd β) : Rd (α × β) := fun b =>
  match P b with
  | .error e => .error e
  | .ok (x, r) => match Q x r with
    | .error e => .error e
    | .ok (y, s) => .ok ((x, y), s)
def Rd.map {α β : Type} (P : Rd α) (g : α → β) : Rd β := fun b =>
  match P b with
  | .error e => .error e
  | .ok (x, r) => .ok (g x, r)
theorem Codes.pair {α β : Type} {P : Rd α} {f : α → List UInt8} {V : α → Prop} {Q : α → Rd β} {g : α → β → List UInt8} {W : α → β → Prop} (h : Codes P f V) (k : ∀ x, V x → Codes (Q x) (g x) (W x)) : Codes (P.pair Q) (fun z => f z.1 ++ g z.1 z.2) (fun z => V z.1 ∧ W z.1 z.2) where
  there := by
    intro ⟨x, y⟩ r ⟨hx, hy⟩
    simp only [Rd.pair, List.append_assoc, h.there x _ hx, (k x hx).there y r hy]
  short := by
    intro ⟨x, y⟩ i ⟨hx, hy⟩ hi
    rw [List.length_append] at hi
    simp only at hi
    by_cases e : i < (f x).length
    · simp only [Rd.pair]
      rw [List.take_append_of_le_length (Nat.le_of_lt e), h.short x i hx e]
    · simp only [Rd.pair]
      rw [List.take_append, List.take_of_length_le (by omega), h.there x _ hx]
      simp only
      rw [(k x hx).short y _ hy (by omega)]
  back := by
    intro b ⟨x, y⟩ r e
    unfold Rd.pair at e
    split at e
    · exact absurd e (by simp)
    · next x' r' e1 =>
      split at e
      · exact absurd e (by simp)
      · next y' s' e2 =>
        injection e with e
        injection e with e3 e4
        injection e3 with e5 e6
        subst e5 e6 e4
        obtain ⟨h1, h2⟩ := h.back _ _ _ e1
        obtain ⟨h3, h4⟩ := (k _ h2).back _ _ _ e2
        exact ⟨by rw [h1, h3, List.append_assoc], h2, h4⟩
theorem Codes.pair0 {α β : Type} {P : Rd α} {f : α → List UInt8} {V : α → Prop} {Q : Rd β} {g : β → List UInt8} {W : β → Prop} (h : Codes P f V) (k : Codes Q g W) : Codes (P.pair fun _ => Q) (fun z => f z.1 ++ g z.2) (fun z => V z.1 ∧ W z.2) := h.pair (g := fun _ => g) (W := fun _ => W) fun _ _ => k
theorem Codes.map {α β : Type} {P : Rd α} {f : α → List UInt8} {V : α → Prop} (h : Codes P f V) (g : α → β) (k : β → α) (he : ∀ x, V x → k (g x) = x) : Codes (P.map g) (fun y => f (k y)) (fun y => V (k y) ∧ g (k y) = y) where
  there := by
    intro y r ⟨hy, e⟩
    simp only [Rd.map, h.there _ r hy, e]
  short := by
    intro y i ⟨hy, _⟩ hi
    simp only [Rd.map, h.short _ i hy hi]
  back := by
    intro b y r e
    unfold Rd.map at e
    split at e
    · exact absurd e (by simp)
    · next x' r' e1 =>
      injection e with e
      injection e with e3 e4
      subst e3 e4
      obtain ⟨h1, h2⟩ := h.back _ _ _ e1
      have := he _ h2
      refine ⟨by rw [this]; exact h1, by rw [this]; exact h2, by rw [this]⟩
/-- The same put, said otherwise. -/
theorem Codes.to {α : Type} {P P' : Rd α} {f f' : α → List UInt8} {V V' : α → Prop} (h : Codes P f V) (hP : ∀ b, P' b = P b) (hV : ∀ x, V' x ↔ V x) (hf : ∀ x, V x → f' x = f x) : Codes P' f' V' where
  there := by
    intro x r hx
    have := (hV x).1 hx
    rw [hP, hf x this]
    exact h.there x r this
  short := by
    intro x i hx hi
    have := (hV x).1 hx
    rw [hf x this] at hi ⊢
    rw [hP]
    exact h.short x i this hi
  back := by
    intro b x r e
    rw [hP] at e
    obtain ⟨h1, h2⟩ := h.back b x r e
    exact ⟨by rw [hf x h2]; exact h1, (hV x).2 h2⟩
/-- Nothing is read. -/
def rNone {α : Type} (a : α) : Rd α := fun b => .ok (a, b)
theorem codes_none {α : Type} (a : α) : Codes (rNone a) (fun _ => []) (fun x => x = a) where
  there := by intro x r e; subst e; rfl
  short := by intro x i _ hi; exact absurd hi (Nat.not_lt_zero i)
  back := by
    intro b x r e
    unfold rNone at e
    injection e with e
    injection e with e1 e2
    exact ⟨e2, e1.symm⟩
def by1 (n : Int) : UInt8 := UInt8.ofNat (n.toNat % 256)
/-- One byte. -/
def rOne : Rd Int := fun b => match b with
  | [] => .error 12
  | x :: r => .ok ((x.toNat : Int), r)
theorem by1_nat (n : Int) (h : 0 ≤ n ∧ n ≤ 255) : ((by1 n).toNat : Int) = n := by
  unfold by1
  rw [UInt8.toNat_ofNat']
  omega
theorem by1_of (x : UInt8) : by1 (x.toNat : Int) = x := by
  unfold by1
  apply UInt8.toNat_inj.1
  rw [UInt8.toNat_ofNat']
  have := x.toNat_lt
  omega
theorem codes_one : Codes rOne (fun n => [by1 n]) (fun n => 0 ≤ n ∧ n ≤ 255) where
  there := by
    intro n r h
    show Except.ok (((by1 n).toNat : Int), r) = _
    rw [by1_nat n h]
  short := by
    intro n i _ hi
    have : i = 0 := by simp only [List.length_cons, List.length_nil] at hi; omega
    subst this
    rfl
  back := by
    intro b n r e
    match b, e with
    | x :: b, e =>
      injection e with e
      injection e with e1 e2
      subst e1 e2
      refine ⟨by rw [by1_of]; rfl, ?_⟩
      have := x.toNat_lt
      omega
/-- Two bytes, the high one first. -/
def rTwo : Rd Int := fun b => match b with
  | x :: y :: r => .ok ((x.toNat : Int) * 256 + y.toNat, r)
  | _ => .error 12
theorem codes_two : Codes rTwo (fun n => [by1 (n / 256), by1 (n % 256)]) (fun n => 0 ≤ n ∧ n ≤ 65535) where
  there := by
    intro n r h
    show Except.ok (((by1 (n / 256)).toNat : Int) * 256 + ((by1 (n % 256)).toNat : Int), r) = _
    rw [by1_nat (n / 256) (by omega), by1_nat (n % 256) (by omega)]
    have : n / 256 * 256 + n % 256 = n := by omega
    rw [this]
  short := by
    intro n i _ hi
    have : i = 0 ∨ i = 1 := by simp only [List.length_cons, List.length_nil] at hi; omega
    rcases this with e | e <;> subst e <;> rfl
  back := by
    intro b n r e
    match b, e with
    | x :: y :: b, e =>
      injection e with e
      injection e with e1 e2
      subst e1 e2
      have hx := x.toNat_lt
      have hy := y.toNat_lt
      have e3 : ((x.toNat : Int) * 256 + y.toNat) / 256 = x.toNat := by omega
      have e4 : ((x.toNat : Int) * 256 + y.toNat) % 256 = y.toNat := by omega
      refine ⟨by rw [e3, e4, by1_of, by1_of]; rfl, by omega⟩
/-- So many of them. -/
def rMany {α : Type} (P : Rd α) : Nat → Rd (List α)
  | 0 => rNone []
  | n + 1 => (Rd.pair P (fun _ => rMany P n)).map (fun z => z.1 :: z.2)
theorem codes_many {α : Type} [Inhabited α] {P : Rd α} {f : α → List UInt8} {V : α → Prop} (h : Codes P f V) : ∀ n, Codes (rMany P n) (fun l => l.flatMap f) (fun l => l.length = n ∧ ∀ x ∈ l, V x)
  | 0 => (codes_none []).to (fun _ => rfl) (fun l => ⟨fun e => List.length_eq_zero_iff.1 e.1, fun e => by subst e; exact ⟨rfl, fun _ h => absurd h (List.not_mem_nil)⟩⟩) (fun l e => by subst e; rfl)
  | n + 1 => by
    have k := (h.pair (Q := fun _ => rMany P n) (g := fun _ l => l.flatMap f) (W := fun _ l => l.length = n ∧ ∀ x ∈ l, V x) (fun _ _ => codes_many h n)).map (fun z => z.1 :: z.2) (fun l => (l.headD default, l.tail)) (fun z _ => rfl)
    refine k.to (fun _ => rfl) (fun l => ?_) (fun l hl => ?_)
    · match l with
      | [] => exact ⟨fun e => absurd e.1 (by simp), fun e => absurd e.2 (by simp)⟩
      | x :: l => exact ⟨fun e => ⟨⟨e.2 x (List.mem_cons_self), by have h3 : l.length + 1 = n + 1 := e.1; show l.length = n; omega, fun y hy => e.2 y (List.mem_cons_of_mem _ hy)⟩, rfl⟩, fun e => ⟨by rw [List.length_cons]; have h3 : l.length = n := e.1.2.1; omega, fun y hy => by
          rcases List.mem_cons.1 hy with e2 | e2
          · rw [e2]; exact e.1.1
          · exact e.1.2.2 y e2⟩⟩
    · match l, hl with
      | [], hl => exact absurd hl.2 (by simp)
      | x :: l, _ => rw [List.flatMap_cons]; rfl
/-- So many bytes. -/
def rRun (n : Nat) : Rd (List UInt8) := fun b => if n ≤ b.length then .ok (b.take n, b.drop n) else .error 12
theorem codes_run (n : Nat) : Codes (rRun n) (fun l => l) (fun l => l.length = n) where
  there := by
    intro l r h
    unfold rRun
    rw [if_pos (by rw [List.length_append]; omega), List.take_append_of_le_length (by omega), List.drop_append_of_le_length (by omega), List.take_of_length_le (by omega), List.drop_of_length_le (by omega), List.nil_append]
  short := by
    intro l i h hi
    unfold rRun
    rw [if_neg (by rw [List.length_take]; omega)]
  back := by
    intro b l r e
    unfold rRun at e
    split at e
    · injection e with e
      injection e with e1 e2
      subst e1 e2
      exact ⟨(List.take_append_drop n b).symm, by rw [List.length_take]; omega⟩
    · exact absurd e (by simp)
/-- A length in two bytes, then the bytes. -/
def rBytes : Rd (List UInt8) := (Rd.pair rTwo (fun n => rRun n.toNat)).map (fun z => z.2)
theorem codes_bytes : Codes rBytes (fun l => [by1 ((l.length : Int) / 256), by1 ((l.length : Int) % 256)] ++ l) (fun l => l.length ≤ 65535) := by
  have k := (codes_two.pair (Q := fun n => rRun n.toNat) (g := fun _ l => l) (W := fun n l => l.length = n.toNat) (fun n _ => codes_run n.toNat)).map (fun z => z.2) (fun l => ((l.length : Int), l)) (fun z hz => by
    obtain ⟨n, l⟩ := z
    have h1 := hz.1.1
    have h2 := hz.2
    simp only at h1 h2 ⊢
    rw [h2, Int.toNat_of_nonneg h1])
  refine k.to (fun _ => rfl) (fun l => ?_) (fun l _ => rfl)
  constructor
  · intro h
    exact ⟨⟨by constructor <;> omega, by simp⟩, rfl⟩
  · intro h
    have := h.1.1.2
    simp only at this
    omega
end Go.Proofs.Ytnanmdfbgoahjaa
