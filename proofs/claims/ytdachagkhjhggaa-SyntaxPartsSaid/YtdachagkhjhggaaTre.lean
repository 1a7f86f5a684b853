/-
  Trees of statements: as plain data, and as they lie in memory.
-/
import Derived.Test.YtdachagkhjhggaaBtw
namespace Go.Proofs.Ytdachagkhjhggaa
open Go.RowKit
set_option linter.unusedVariables false
set_option linter.unusedSimpArgs false

/-- A statement without the lists within it. -/
structure Sd where
  k : Int
  o : Int
  d : Int
  s : Int
  n : Int
  nt : Bool
  co : Int
  cd : Int
  cs : Int
  cn : Int
  ln : Int
/-- A list of statements: each bears those behind it. -/
inductive Tr where
  | nil
  | st (x : Sd) (b e q : Tr)
def Tr.len : Tr → Nat
  | .nil => 0
  | .st _ _ _ q => q.len + 1
/-- All statements, down to the deepest. -/
def Tr.sz : Tr → Nat
  | .nil => 0
  | .st _ b e q => 1 + b.sz + e.sz + q.sz
theorem Tr.len_sz : ∀ t : Tr, t.len ≤ t.sz
  | .nil => Nat.le_refl _
  | .st _ b e q => by have := q.len_sz; simp only [Tr.len, Tr.sz]; omega
theorem Tr.len_nil {t : Tr} (h : t.len = 0) : t = .nil := by
  cases t
  · rfl
  · simp [Tr.len] at h
def Tr.app : Tr → Tr → Tr
  | .nil, u => u
  | .st x b e q, u => .st x b e (q.app u)
theorem Tr.app_snoc (p : Tr) (x : Sd) (b e q : Tr) : (p.app (.st x b e .nil)).app q = p.app (.st x b e q) := by
  induction p with
  | nil => rfl
  | st x b e q _ _ ih => simp only [Tr.app, ih]
theorem Tr.app_nil (p : Tr) : p.app .nil = p := by
  induction p with
  | nil => rfl
  | st x b e q _ _ ih => simp only [Tr.app, ih]
theorem Tr.app_len (p u : Tr) : (p.app u).len = p.len + u.len := by
  induction p with
  | nil => simp [Tr.app, Tr.len]
  | st x b e q _ _ ih => simp only [Tr.app, Tr.len, ih]; omega
/-- The cells of a statement: its own, and the slices of its lists. -/
def cells13 (x : Sd) (vb ve : Value) : List Value :=
  [.int .u8 x.k, .int .u8 x.o, .int .i64 x.d, .int .i64 x.s, .int .i64 x.n, .bool x.nt, .int .u8 x.co, .int .i64 x.cd, .int .i64 x.cs, .int .i64 x.cn, vb, ve, .int .i64 x.ln]
structure At13 (w : World) (p : Addr) (x : Sd) (vb ve : Value) : Prop where
  c0 : w.cell? p = some (.int .u8 x.k)
  c1 : w.cell? ⟨p.block, p.off + 1, none⟩ = some (.int .u8 x.o)
  c2 : w.cell? ⟨p.block, p.off + 2, none⟩ = some (.int .i64 x.d)
  c3 : w.cell? ⟨p.block, p.off + 3, none⟩ = some (.int .i64 x.s)
  c4 : w.cell? ⟨p.block, p.off + 4, none⟩ = some (.int .i64 x.n)
  c5 : w.cell? ⟨p.block, p.off + 5, none⟩ = some (.bool x.nt)
  c6 : w.cell? ⟨p.block, p.off + 6, none⟩ = some (.int .u8 x.co)
  c7 : w.cell? ⟨p.block, p.off + 7, none⟩ = some (.int .i64 x.cd)
  c8 : w.cell? ⟨p.block, p.off + 8, none⟩ = some (.int .i64 x.cs)
  c9 : w.cell? ⟨p.block, p.off + 9, none⟩ = some (.int .i64 x.cn)
  c10 : w.cell? ⟨p.block, p.off + 10, none⟩ = some vb
  c11 : w.cell? ⟨p.block, p.off + 11, none⟩ = some ve
  c12 : w.cell? ⟨p.block, p.off + 12, none⟩ = some (.int .i64 x.ln)
theorem At13.to {w w' : World} {p : Addr} {x : Sd} {vb ve : Value} (h : At13 w p x vb ve) (hb : ∀ a : Addr, a.block = p.block → w'.cell? a = w.cell? a) : At13 w' p x vb ve :=
  ⟨(hb _ rfl).trans h.c0, (hb ⟨p.block, p.off + 1, none⟩ rfl).trans h.c1, (hb ⟨p.block, p.off + 2, none⟩ rfl).trans h.c2, (hb ⟨p.block, p.off + 3, none⟩ rfl).trans h.c3, (hb ⟨p.block, p.off + 4, none⟩ rfl).trans h.c4, (hb ⟨p.block, p.off + 5, none⟩ rfl).trans h.c5, (hb ⟨p.block, p.off + 6, none⟩ rfl).trans h.c6, (hb ⟨p.block, p.off + 7, none⟩ rfl).trans h.c7, (hb ⟨p.block, p.off + 8, none⟩ rfl).trans h.c8, (hb ⟨p.block, p.off + 9, none⟩ rfl).trans h.c9, (hb ⟨p.block, p.off + 10, none⟩ rfl).trans h.c10, (hb ⟨p.block, p.off + 11, none⟩ rfl).trans h.c11, (hb ⟨p.block, p.off + 12, none⟩ rfl).trans h.c12⟩
/-- The statements t lie from p on, all below block B, and so do the lists within them. -/
def Row (w : World) (B : Nat) : Tr → Addr → Prop
  | .nil, _ => True
  | .st x b e q, p => p.block < B ∧ (∃ (Ab : Option Addr) (nb cb : Nat) (Ae : Option Addr) (ne ce : Nat), At13 w p x (.slice Ab nb cb) (.slice Ae ne ce) ∧
      (b.len = nb ∧ nb ≤ cb ∧ cb ≤ maxLen ∧ nb ≤ 140737488355328 ∧ (0 < nb → ∃ ad, Ab = some ad ∧ Row w B b ad)) ∧
      (e.len = ne ∧ ne ≤ ce ∧ ce ≤ maxLen ∧ ne ≤ 140737488355328 ∧ (0 < ne → ∃ ad, Ae = some ad ∧ Row w B e ad))) ∧ Row w B q (p.add 13)
/-- The list t lies in the slice (A, n, c). -/
structure Sl (w : World) (B : Nat) (t : Tr) (A : Option Addr) (n c : Nat) : Prop where
  len : t.len = n
  cap : n ≤ c
  max : c ≤ maxLen
  sml : n ≤ 140737488355328
  lies : 0 < n → ∃ ad, A = some ad ∧ Row w B t ad
theorem row_st {w : World} {B : Nat} {x : Sd} {b e q : Tr} {p : Addr} : Row w B (.st x b e q) p ↔ p.block < B ∧ (∃ (Ab : Option Addr) (nb cb : Nat) (Ae : Option Addr) (ne ce : Nat), At13 w p x (.slice Ab nb cb) (.slice Ae ne ce) ∧ Sl w B b Ab nb cb ∧ Sl w B e Ae ne ce) ∧ Row w B q (p.add 13) := by
  constructor
  · rintro ⟨h1, ⟨Ab, nb, cb, Ae, ne, ce, h2, ⟨b1, b2, b3, b4, b5⟩, ⟨e1, e2, e3, e4, e5⟩⟩, h3⟩
    exact ⟨h1, ⟨Ab, nb, cb, Ae, ne, ce, h2, ⟨b1, b2, b3, b4, b5⟩, ⟨e1, e2, e3, e4, e5⟩⟩, h3⟩
  · rintro ⟨h1, ⟨Ab, nb, cb, Ae, ne, ce, h2, ⟨b1, b2, b3, b4, b5⟩, ⟨e1, e2, e3, e4, e5⟩⟩, h3⟩
    exact ⟨h1, ⟨Ab, nb, cb, Ae, ne, ce, h2, ⟨b1, b2, b3, b4, b5⟩, ⟨e1, e2, e3, e4, e5⟩⟩, h3⟩
theorem Row.to {w w' : World} {B B' : Nat} (hB : B ≤ B') (hb : ∀ a : Addr, a.block < B → w'.cell? a = w.cell? a) : ∀ (t : Tr) (p : Addr), Row w B t p → Row w' B' t p
  | .nil, _, _ => trivial
  | .st x b e q, p, h => by
    obtain ⟨h1, ⟨Ab, nb, cb, Ae, ne, ce, h2, ⟨b1, b2, b3, b4, b5⟩, ⟨e1, e2, e3, e4, e5⟩⟩, h3⟩ := h
    refine ⟨Nat.lt_of_lt_of_le h1 hB, ⟨Ab, nb, cb, Ae, ne, ce, h2.to (fun a ha => hb a (ha ▸ h1)), ⟨b1, b2, b3, b4, fun h => ?_⟩, ⟨e1, e2, e3, e4, fun h => ?_⟩⟩, Row.to hB hb q _ h3⟩
    · obtain ⟨ad, e, r⟩ := b5 h
      exact ⟨ad, e, Row.to hB hb b ad r⟩
    · obtain ⟨ad, e', r⟩ := e5 h
      exact ⟨ad, e', Row.to hB hb e ad r⟩
theorem Sl.to {w w' : World} {B B' : Nat} {t : Tr} {A : Option Addr} {n c : Nat} (h : Sl w B t A n c) (hB : B ≤ B') (hb : ∀ a : Addr, a.block < B → w'.cell? a = w.cell? a) : Sl w' B' t A n c :=
  ⟨h.len, h.cap, h.max, h.sml, fun h0 => by obtain ⟨ad, e, r⟩ := h.lies h0; exact ⟨ad, e, Row.to hB hb t ad r⟩⟩
theorem Row.below {w w' : World} {B : Nat} {t : Tr} {p : Addr} (h : Row w B t p) (hb : Below B w w') : Row w' B t p := Row.to (Nat.le_refl _) (fun _ ha => hb.cell ha) t p h
theorem Sl.below {w w' : World} {B : Nat} {t : Tr} {A : Option Addr} {n c : Nat} (h : Sl w B t A n c) (hb : Below B w w') : Sl w' B t A n c := h.to (Nat.le_refl _) (fun _ ha => hb.cell ha)
theorem Sl.up {w : World} {B B' : Nat} {t : Tr} {A : Option Addr} {n c : Nat} (h : Sl w B t A n c) (hB : B ≤ B') : Sl w B' t A n c := h.to hB (fun _ _ => rfl)
/-- Whatever has been made since. -/
theorem Sl.later {w w' : World} {t : Tr} {A : Option Addr} {n c : Nat} (h : Sl w w.heap.size t A n c) (hb : Below w.heap.size w w') : Sl w' w'.heap.size t A n c := (h.below hb).up hb.size
theorem sl_nil (w : World) (B : Nat) : Sl w B .nil none 0 0 := ⟨rfl, Nat.le_refl _, Nat.zero_le _, Nat.zero_le _, fun h => absurd h (by omega)⟩
/-- What is left of a list from place i on. -/
structure Rest (w : World) (B : Nat) (t : Tr) (A : Option Addr) (i n : Nat) : Prop where
  len : i + t.len = n
  lies : 0 < t.len → ∃ ad, A = some ad ∧ Row w B t (ad.add (i * 13))
theorem Sl.rest {w : World} {B : Nat} {t : Tr} {A : Option Addr} {n c : Nat} (h : Sl w B t A n c) : Rest w B t A 0 n :=
  ⟨by rw [Nat.zero_add]; exact h.len, fun h0 => by
    obtain ⟨ad, e, r⟩ := h.lies (by rw [← h.len]; exact h0)
    exact ⟨ad, e, by rw [Nat.zero_mul]; exact r⟩⟩
theorem Rest.at {w : World} {B : Nat} {t : Tr} {A : Option Addr} {i n : Nat} (h : Rest w B t A i n) (hi : i < n) : ∃ x b e q ad Ab nb cb Ae ne ce, t = .st x b e q ∧ A = some ad ∧ ad.block < B ∧ At13 w (ad.add (i * 13)) x (.slice Ab nb cb) (.slice Ae ne ce) ∧ Sl w B b Ab nb cb ∧ Sl w B e Ae ne ce ∧ Rest w B q A (i + 1) n := by
  cases t with
  | nil => have := h.len; simp [Tr.len] at this; omega
  | st x b e q =>
    obtain ⟨ad, hA, r⟩ := h.lies (by simp [Tr.len])
    obtain ⟨h1, ⟨Ab, nb, cb, Ae, ne, ce, h2, hb, he⟩, h3⟩ := row_st.1 r
    refine ⟨x, b, e, q, ad, Ab, nb, cb, Ae, ne, ce, rfl, hA, by rw [block_of_add] at h1; exact h1, h2, hb, he, ?_, fun _ => ⟨ad, hA, ?_⟩⟩
    · have := h.len
      simp only [Tr.len] at this
      omega
    · rw [add_of_add] at h3
      rw [show (i + 1) * 13 = i * 13 + 13 by omega]
      exact h3
theorem Rest.end {w : World} {B : Nat} {t : Tr} {A : Option Addr} {n : Nat} (h : Rest w B t A n n) : t = .nil := Tr.len_nil (by have := h.len; omega)
theorem Rest.le {w : World} {B : Nat} {t : Tr} {A : Option Addr} {i n : Nat} (h : Rest w B t A i n) : i ≤ n := by have := h.len; omega
theorem Rest.below {w w' : World} {B : Nat} {t : Tr} {A : Option Addr} {i n : Nat} (h : Rest w B t A i n) (hb : Below B w w') : Rest w' B t A i n :=
  ⟨h.len, fun h0 => by obtain ⟨ad, e, r⟩ := h.lies h0; exact ⟨ad, e, r.below hb⟩⟩
/-- A statement as a value. -/
def vS (x : Sd) (vb ve : Value) : Value := .agg #[.int .u8 x.k, .int .u8 x.o, .int .i64 x.d, .int .i64 x.s, .int .i64 x.n, .bool x.nt, .int .u8 x.co, .int .i64 x.cd, .int .i64 x.cs, .int .i64 x.cn, vb, ve, .int .i64 x.ln]
def vC (nt : Bool) (o d s n : Int) : Value := .agg #[.bool nt, .int .u8 o, .int .i64 d, .int .i64 s, .int .i64 n]
end Go.Proofs.Ytdachagkhjhggaa
