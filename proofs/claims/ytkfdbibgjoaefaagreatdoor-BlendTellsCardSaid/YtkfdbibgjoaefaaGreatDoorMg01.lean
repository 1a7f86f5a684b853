/-
  Merged: Zb Ra Rb Zd.
-/
import Derived.Test.YtkfdbibgjoaefaaGreatDoorMg00
import Derived.WalkKit
import Derived.WalkSpells
import Derived.WalkLawsBesides
import Derived.RegionTactic
import Derived.BigRegion
import Derived.BigQuiet
import Derived.Laws.Rows
import Derived.Below
import Derived.Shelf.Abstract
import Derived.IntWalk
import Derived.Deep.RegionHeld3
import Derived.Deep.Slices
import Derived.Deep.Strs
import Derived.Laws.AppendOwn
import Derived.OwnWalk
import Derived.ProofKit
import Derived.OpenShut
import Derived.Laws.BitsAllLaws
import Derived.Deep.Cut
/-
  Merged: Prn Btw Pl Bln Bls Rp Ls.
-/
/-
  The parts of chapter 11 as plain data: which may be, how many places they have; what is right leans on earlier parts alone, and so does each beginning of it.
-/
namespace Go.Proofs.YtkfdbibgjoaefaaGreatDoor

structure Pt where
  kind : Nat
  size : Int
  a : Int
  b : Int
  c : Int
  rate : Int
  limit : Int
deriving DecidableEq, Inhabited
def mostP (k : Nat) : Int := if k = 2 ∨ k = 3 ∨ k = 4 ∨ k = 6 ∨ k = 8 then 16 else if k = 7 then 12 else if k = 9 then 10 else -1
def leastP (k : Nat) : Int := if k = 4 then 4 else 0
def pow2 (n : Int) : Int := 2 ^ n.toNat
/-- How many places its tables have. -/
def Pt.places (p : Pt) : Int :=
  if leastP p.kind ≤ p.size ∧ p.size ≤ mostP p.kind then
    if p.kind = 3 then pow2 p.size + 256
    else if p.kind = 4 then 2 * pow2 p.size
    else if p.kind = 7 then (if 1 ≤ p.b ∧ p.b ≤ 8 then p.b * pow2 p.size else 0)
    else if p.kind = 8 then pow2 p.size + 512
    else if p.kind = 9 then 32 * pow2 p.size
    else pow2 p.size
  else 0
def memP (l : List Pt) : Int := (l.map Pt.places).sum
/-- The fields that its kind has. -/
def Pt.fields (p : Pt) : Pt :=
  if p.kind = 1 then ⟨1, 0, 0, 0, p.c, 0, 0⟩
  else if p.kind = 2 then ⟨2, p.size, 0, 0, 0, 0, p.limit⟩
  else if p.kind = 3 ∨ p.kind = 4 then ⟨p.kind, p.size, 0, 0, 0, 0, 0⟩
  else if p.kind = 5 then ⟨5, 0, p.a, p.b, p.c, 0, 0⟩
  else if p.kind = 6 ∨ p.kind = 7 then ⟨p.kind, p.size, p.a, p.b, 0, p.rate, 0⟩
  else if p.kind = 8 then ⟨8, p.size, p.a, 0, 0, 0, 0⟩
  else if p.kind = 9 then ⟨9, p.size, p.a, 0, 0, 0, p.limit⟩
  else ⟨p.kind, 0, 0, 0, 0, 0, 0⟩
def inn (n a b : Int) : Prop := a ≤ n ∧ n ≤ b
instance (n a b : Int) : Decidable (inn n a b) := by unfold inn; infer_instance
/-- What each kind's numbers must be, at the place i. -/
def Pt.fit (p : Pt) (i : Int) : Prop :=
  if p.kind = 1 then inn p.c (-2047) 2047
  else if p.kind = 2 then 0 < p.places ∧ inn p.limit 1 1023
  else if p.kind = 3 ∨ p.kind = 4 then 0 < p.places
  else if p.kind = 5 then inn p.a 0 (i - 1) ∧ inn p.b 0 (i - 1) ∧ inn p.c 0 256
  else if p.kind = 6 then 0 < p.places ∧ inn p.a 0 (i - 1) ∧ inn p.b 0 (i - 1) ∧ inn p.rate 1 64
  else if p.kind = 7 then 0 < p.places ∧ inn p.a 0 (i - 1) ∧ p.a + p.b ≤ i ∧ inn p.rate 1 64
  else if p.kind = 8 then 0 < p.places ∧ inn p.a 0 (i - 1)
  else if p.kind = 9 then 0 < p.places ∧ inn p.a 0 (i - 1) ∧ inn p.limit 1 1023
  else False
instance (p : Pt) (i : Int) : Decidable (p.fit i) := by unfold Pt.fit; infer_instance
def Pt.one (p : Pt) (i : Int) : Prop := p.fields = p ∧ p.fit i
instance (p : Pt) (i : Int) : Decidable (p.one i) := by unfold Pt.one; infer_instance
def allOne (l : List Pt) : Prop := ∀ i (h : i < l.length), l[i].one i
instance (l : List Pt) : Decidable (allOne l) := by unfold allOne; infer_instance
/-- 0, or the error. -/
def rightP (l : List Pt) : Int := if l.length < 1 ∨ 16 < l.length then 100 else if ¬ allOne l then 100 else if 1048576 < memP l then 101 else 0

theorem pow2_pos (n : Int) : 1 ≤ pow2 n := by
  unfold pow2
  have := Nat.one_le_two_pow (n := n.toNat)
  exact_mod_cast this
theorem pow2_le (n : Int) (k : Nat) (h : n ≤ k) : pow2 n ≤ 2 ^ k := by
  unfold pow2
  have : 2 ^ n.toNat ≤ 2 ^ k := Nat.pow_le_pow_right (by decide) (by omega)
  exact_mod_cast this
theorem mostP_le (k : Nat) : mostP k ≤ 16 := by
  unfold mostP
  split
  · decide
  · split
    · decide
    · split <;> decide
theorem places_range (p : Pt) : 0 ≤ p.places ∧ p.places ≤ 131072 := by
  have h0 := pow2_pos p.size
  unfold Pt.places
  split
  next h =>
    have hm := mostP_le p.kind
    have h1 : pow2 p.size ≤ 65536 := pow2_le p.size 16 (by omega)
    split
    · omega
    · split
      · omega
      · split
        next h7 =>
          split
          next hb =>
            have h2 : pow2 p.size ≤ 4096 := pow2_le p.size 12 (by rw [h7] at h; have := h.2; simp [mostP] at this; omega)
            constructor
            · exact Int.mul_nonneg (by omega) (by omega)
            · have : p.b * pow2 p.size ≤ 8 * 4096 := Int.mul_le_mul hb.2 h2 (by omega) (by omega)
              omega
          · omega
        · split
          · omega
          · split
            next h9 =>
              have h2 : pow2 p.size ≤ 1024 := pow2_le p.size 10 (by rw [h9] at h; have := h.2; simp [mostP] at this; omega)
              omega
            · omega
  · omega
theorem memP_cons (p : Pt) (l : List Pt) : memP (p :: l) = p.places + memP l := by simp [memP]
theorem memP_app (l r : List Pt) : memP (l ++ r) = memP l + memP r := by simp [memP]
theorem memP_range (l : List Pt) : 0 ≤ memP l ∧ memP l ≤ 131072 * l.length := by
  induction l with
  | nil => simp [memP]
  | cons p l ih =>
    have := places_range p
    rw [memP_cons, List.length_cons]
    omega
theorem memP_take (l : List Pt) (k : Nat) : memP (l.take k) ≤ memP l := by
  conv => rhs; rw [← List.take_append_drop k l, memP_app]
  have := memP_range (l.drop k)
  omega
theorem memP_succ (l : List Pt) (i : Nat) (h : i < l.length) : memP (l.take (i + 1)) = memP (l.take i) + l[i].places := by
  rw [← List.take_append_getElem h, memP_app]
  simp [memP]
theorem rightP_ok (l : List Pt) : rightP l = 0 ↔ (1 ≤ l.length ∧ l.length ≤ 16) ∧ allOne l ∧ memP l ≤ 1048576 := by
  unfold rightP
  split
  next h => constructor
            · intro e; exact absurd e (by decide)
            · intro e; omega
  next h =>
    split
    next h2 => constructor
               · intro e; exact absurd e (by decide)
               · intro e; exact absurd e.2.1 h2
    next h2 =>
      split
      next h3 => constructor
                 · intro e; exact absurd e (by decide)
                 · intro e; omega
      next h3 => exact ⟨fun _ => ⟨by omega, Classical.not_not.1 h2, by omega⟩, fun _ => rfl⟩
/-- A beginning of a right list, but none, is right. -/
theorem rightP_take (l : List Pt) (h : rightP l = 0) (k : Nat) (h1 : 1 ≤ k) : rightP (l.take k) = 0 := by
  rw [rightP_ok] at h ⊢
  obtain ⟨hn, ha, hm⟩ := h
  refine ⟨by rw [List.length_take]; omega, ?_, Int.le_trans (memP_take l k) hm⟩
  intro i hi
  rw [List.length_take] at hi
  rw [List.getElem_take]
  exact ha i (by omega)
/-- What a right part leans on. -/
theorem one_leans (p : Pt) (i : Int) (h : p.one i) : (p.kind = 1 ∨ p.kind = 2 ∨ p.kind = 3 ∨ p.kind = 4) ∨ (p.kind = 7 ∧ 0 ≤ p.a ∧ 1 ≤ p.b ∧ p.a + p.b ≤ i) ∨ ((p.kind = 5 ∨ p.kind = 6 ∨ p.kind = 8 ∨ p.kind = 9) ∧ 0 ≤ p.a ∧ p.a < i ∧ 0 ≤ p.b ∧ p.b < i) := by
  obtain ⟨hf, h⟩ := h
  unfold Pt.fit inn at h
  by_cases e : p.kind = 1 ∨ p.kind = 2 ∨ p.kind = 3 ∨ p.kind = 4
  · exact .inl e
  · right
    rw [if_neg (by omega), if_neg (by omega), if_neg (by omega)] at h
    split at h
    · right; omega
    · split at h
      · right; omega
      · split at h
        next h7 =>
          left
          refine ⟨h7, h.2.1.1, ?_, h.2.2.1⟩
          have hp := h.1
          unfold Pt.places at hp
          rw [h7] at hp
          simp only [show (7 : Nat) ≠ 3 from by decide, show (7 : Nat) ≠ 4 from by decide, if_false, if_true] at hp
          split at hp
          · split at hp
            · omega
            · omega
          · omega
        · split at h
          next h8 =>
            right
            have hb : p.b = 0 := by rw [← hf]; unfold Pt.fields; simp [h8]
            omega
          · split at h
            next h9 =>
              right
              have hb : p.b = 0 := by rw [← hf]; unfold Pt.fields; simp [h9]
              omega
            · exact h.elim
theorem one_kind (p : Pt) (i : Int) (h : p.one i) : 1 ≤ p.kind ∧ p.kind ≤ 9 := by
  rcases one_leans p i h with h | ⟨h, _⟩ | ⟨h, _⟩ <;> omega
/-- Of a right part that has a table: its size. -/
theorem places_size (p : Pt) (h : 0 < p.places) : 0 ≤ p.size ∧ p.size ≤ 16 := by
  unfold Pt.places at h
  split at h
  next e =>
    have := mostP_le p.kind
    have : 0 ≤ leastP p.kind := by unfold leastP; split <;> decide
    omega
  · omega
/-- The first one stands by itself. -/
theorem one_first (p : Pt) (h : p.one 0) : p.kind = 1 ∨ p.kind = 2 ∨ p.kind = 3 ∨ p.kind = 4 := by
  rcases one_leans p 0 h with h | ⟨_, h⟩ | ⟨_, h⟩
  · exact h
  · omega
  · omega
end Go.Proofs.YtkfdbibgjoaefaaGreatDoor
/-
  Ranges asked by closures: between, what it makes, sizes; within and most, the document's.
-/
namespace Go.Proofs.YtkfdbibgjoaefaaGreatDoor
open Go.RowKit

/-- A closure that asks whether a number is from a to b. -/
def Bt (w : World) (f : Value) (a b : Int) : Prop := ∃ g1 g2, f = .func (.func 74) #[] #[.pointer (some ⟨g1, 0, none⟩), .pointer (some ⟨g2, 0, none⟩)] ∧ w.cell? ⟨g1, 0, none⟩ = some (.int .i64 a) ∧ w.cell? ⟨g2, 0, none⟩ = some (.int .i64 b)
theorem lt_cell {w : World} {p : Addr} {v : Value} (h : w.cell? p = some v) : p.block < w.heap.size := by
  unfold World.cell? at h
  rcases Nat.lt_or_ge p.block w.heap.size with hlt | hge
  · exact hlt
  · rw [Array.getElem?_eq_none hge] at h; simp at h
theorem keeps {w w' : World} {p : Addr} {v : Value} (hb : Below w.heap.size w w') (h : w.cell? p = some v) : w'.cell? p = some v := (hb.cell (lt_cell h)).trans h
theorem Bt.below {w w' : World} {f : Value} {a b : Int} (h : Bt w f a b) (hb : Below w.heap.size w w') : Bt w' f a b := by
  obtain ⟨g1, g2, rfl, h1, h2⟩ := h
  exact ⟨g1, g2, rfl, (hb.cell (lt_cell h1)).trans h1, (hb.cell (lt_cell h2)).trans h2⟩
set_option maxRecDepth 10000 in
theorem asks_any (w : World) (g1 g2 : Nat) (a b n : Int) (h1 : w.cell? ⟨g1, 0, none⟩ = some (.int .i64 a)) (h2 : w.cell? ⟨g2, 0, none⟩ = some (.int .i64 b)) :
    Calls Tryz.prog 74 #[.int .i64 n, .pointer (some ⟨g1, 0, none⟩), .pointer (some ⟨g2, 0, none⟩)] w fun e w' => e = .returned (.bool (decide (inn n a b))) ∧ w' = w := by
  unfold inn
  by_cases h : a ≤ n
  · by_cases h' : n ≤ b
    · have e : decide (a ≤ n ∧ n ≤ b) = true := decide_eq_true ⟨h, h'⟩
      rw [e]
      go_enter Tryz.func74, Tryz.ntmps74
      go_wp2_with fail
      go_ret
      exact ⟨rfl, rfl⟩
    · have e : decide (a ≤ n ∧ n ≤ b) = false := decide_eq_false (fun hh => h' hh.2)
      rw [e]
      go_enter Tryz.func74, Tryz.ntmps74
      go_wp2_with fail
      go_ret
      exact ⟨rfl, rfl⟩
  · have e : decide (a ≤ n ∧ n ≤ b) = false := decide_eq_false (fun hh => h hh.1)
    rw [e]
    go_enter Tryz.func74, Tryz.ntmps74
    go_wp2_with fail
    go_ret
    exact ⟨rfl, rfl⟩
set_option maxRecDepth 10000 in
theorem between_any (a b : Int) (w : World) :
    Calls Tryz.prog 65 #[.int .i64 a, .int .i64 b] w fun e w' => ∃ f, e = .returned f ∧ Bt w' f a b ∧ Below w.heap.size w w' := by
  go_enter Tryz.func65, Tryz.ntmps65
  go_wp2_with fail
  go_ret
  exact ⟨_, rfl, ⟨_, _, rfl, by go_simp, by go_simp⟩, ((Below.refl _ _).alloc (Nat.le_refl _) _).alloc (by simp) _⟩
def leastS (k : Int) : Int := if k = 4 then 4 else 0
def mostS (k : Int) : Int := if k = 2 ∨ k = 3 ∨ k = 4 ∨ k = 6 ∨ k = 8 then 16 else if k = 7 then 12 else if k = 9 then 10 else 0
set_option maxRecDepth 10000 in
theorem sizes_any (k : Int) (w : World) :
    Calls Tryz.prog 64 #[.int .u8 k] w fun e w' => ∃ f, e = .returned f ∧ Bt w' f (leastS k) (mostS k) ∧ Below w.heap.size w w' := by
  have H0 := hid (fun a b w => between_any a b w)
  have fin : ∀ a b, leastS k = a → mostS k = b → ∀ (f : Value) (w' : World), Bt w' f a b → Below w.heap.size w w' → ∃ f', Ending.returned f = .returned f' ∧ Bt w' f' (leastS k) (mostS k) ∧ Below w.heap.size w w' := by
    intro a b h1 h2 f w' h3 h4
    rw [h1, h2]
    exact ⟨f, rfl, h3, h4⟩
  have FIN := hid fin
  clear fin
  rcases (by omega : k = 2 ∨ k = 3 ∨ k = 6 ∨ k = 8 ∨ k = 4 ∨ k = 7 ∨ k = 9 ∨ (k ≠ 2 ∧ k ≠ 3 ∧ k ≠ 6 ∧ k ≠ 8 ∧ k ≠ 4 ∧ k ≠ 7 ∧ k ≠ 9)) with h | h | h | h | h | h | h | ⟨h1, h2, h3, h4, h5, h6, h7⟩
  iterate 7
    · subst h
      go_enter Tryz.func64, Tryz.ntmps64
      go_wp2_with fail
      refine (H0.out _ _ _).mono ?_
      rintro e w1 ⟨f, rfl, h1, b1⟩
      go_wp2_with fail
      go_ret
      exact FIN.out _ _ rfl rfl _ _ h1 b1
  · have HF := hid (FIN.out 0 0 (by unfold leastS; rw [if_neg h5]) (by unfold mostS; rw [if_neg (by omega), if_neg h6, if_neg h7]))
    go_enter Tryz.func64, Tryz.ntmps64
    go_wp2_with fail
    refine (H0.out _ _ _).mono ?_
    rintro e w1 ⟨f, rfl, h1, b1⟩
    go_wp2_with fail
    go_ret
    exact HF.out _ _ h1 b1
end Go.Proofs.YtkfdbibgjoaefaaGreatDoor
/-
  The places of a part: the program's.
-/
namespace Go.Proofs.YtkfdbibgjoaefaaGreatDoor
open Go.RowKit

/-- A part as it is handed on. -/
def vP (k s a b c r m : Int) : Value := .agg #[.int .u8 k, .int .i64 s, .int .i64 a, .int .i64 b, .int .i64 c, .int .i64 r, .int .i64 m]
/-- A part in block g. -/
structure BoxAt (w : World) (g : Nat) (k s a b c r m : Int) : Prop where
  c0 : w.cell? ⟨g, 0, none⟩ = some (.int .u8 k)
  c1 : w.cell? ⟨g, 1, none⟩ = some (.int .i64 s)
  c2 : w.cell? ⟨g, 2, none⟩ = some (.int .i64 a)
  c3 : w.cell? ⟨g, 3, none⟩ = some (.int .i64 b)
  c4 : w.cell? ⟨g, 4, none⟩ = some (.int .i64 c)
  c5 : w.cell? ⟨g, 5, none⟩ = some (.int .i64 r)
  c6 : w.cell? ⟨g, 6, none⟩ = some (.int .i64 m)
theorem BoxAt.below {w w' : World} {g : Nat} {k s a b c r m : Int} (h : BoxAt w g k s a b c r m) (hb : Below w.heap.size w w') : BoxAt w' g k s a b c r m :=
  have hl := lt_cell h.c0
  ⟨(hb.cell hl).trans h.c0, (hb.cell (p := ⟨g, 1, none⟩) hl).trans h.c1, (hb.cell (p := ⟨g, 2, none⟩) hl).trans h.c2, (hb.cell (p := ⟨g, 3, none⟩) hl).trans h.c3, (hb.cell (p := ⟨g, 4, none⟩) hl).trans h.c4,
    (hb.cell (p := ⟨g, 5, none⟩) hl).trans h.c5, (hb.cell (p := ⟨g, 6, none⟩) hl).trans h.c6⟩
theorem boxed (w : World) (k s a b c r m : Int) : BoxAt (w.alloc (.cells #[.int .u8 k, .int .i64 s, .int .i64 a, .int .i64 b, .int .i64 c, .int .i64 r, .int .i64 m] 38)) w.heap.size k s a b c r m := by
  constructor <;> go_simp
def plI (k s b : Int) : Int :=
  if inn s (leastS k) (mostS k) then
    (if k = 3 then pow2 s + 256 else if k = 4 then 2 * pow2 s else if k = 7 then (if inn b 1 8 then b * pow2 s else 0) else if k = 8 then pow2 s + 512 else if k = 9 then 32 * pow2 s else if k = 2 ∨ k = 6 then pow2 s else 0)
  else 0
set_option maxRecDepth 10000 in
set_option maxHeartbeats 1000000 in
theorem places_no (k s a b c r m : Int) (h : ¬ inn s (leastS k) (mostS k)) (w : World) :
    Calls Tryz.prog 41 #[vP k s a b c r m] w fun e w' => e = .returned (.int .i64 0) ∧ Below w.heap.size w w' := by
  have he : ∀ args w, (callFunc 74 args).run Tryz.prog w = .ok (.enter 74 args) w := enters_of Tryz.func74 (by kernel_rfl) rfl
  have B := boxed w k s a b c r m
  obtain ⟨W, hW⟩ : ∃ W, W = w.alloc (.cells #[.int .u8 k, .int .i64 s, .int .i64 a, .int .i64 b, .int .i64 c, .int .i64 r, .int .i64 m] 38) := ⟨_, rfl⟩
  have HS := hid (fun w => sizes_any k w)
  have b0 : Below w.heap.size w W := by rw [hW]; exact (Below.refl _ _).alloc (Nat.le_refl _) _
  rw [← hW] at B
  have e : decide (inn s (leastS k) (mostS k)) = false := decide_eq_false h
  have HB := hid (fun w g1 g2 h1 h2 => asks_any w g1 g2 (leastS k) (mostS k) s h1 h2)
  rw [e] at HB
  have H0 := hid B.c0
  have H1 := hid B.c1
  unfold vP
  clear h e B
  go_enter Tryz.func41, Tryz.ntmps41
  go_wp2_with fail
  rw [← hW]
  clear hW
  go_region_held3 (fun w' => w'.cell? ⟨w.heap.size, 0, none⟩ = some (.int .u8 k) ∧ w'.cell? ⟨w.heap.size, 1, none⟩ = some (.int .i64 s)) (first | exact ⟨H0.out, H1.out⟩ | exact ⟨k0, k1⟩ | go_keep)
    (first
    | (go_at_call 64; (refine (HS.out _).mono ?_); rintro r w1 ⟨f, rfl, ⟨g1, g2, rfl, h1, h2⟩, b1⟩; have k0 := keeps b1 H0.out; have k1 := keeps b1 H1.out; have B1 := hid b1; have Q1 := hid h1; have Q2 := hid h2)
    | (go_at_call 74; (refine (HB.out _ _ _ Q1.out Q2.out).mono ?_); rintro r w2 ⟨rfl, rfl⟩))
  all_goals
    go_wp2_with fail
    go_ret
    exact ⟨rfl, b0.drew.trans (B1.out.mono b0.size)⟩
theorem mostS_le (k : Int) : mostS k ≤ 16 := by
  unfold mostS
  split
  · omega
  · split
    · omega
    · split <;> omega
theorem leastS_ge (k : Int) : 0 ≤ leastS k := by unfold leastS; split <;> omega
theorem ret_int {a b : Int} (h : a = b) : Ending.returned (.int .i64 a) = .returned (.int .i64 b) := by rw [h]
theorem wrap64_in (x : Int) (h0 : 0 ≤ x) (h1 : x ≤ 1000000) : wrap64 x = x := by unfold wrap64; omega
set_option maxRecDepth 10000 in
set_option maxHeartbeats 4000000 in
theorem places_yes (k s a b c r m : Int) (h : inn s (leastS k) (mostS k)) (w : World) :
    Calls Tryz.prog 41 #[vP k s a b c r m] w fun e w' => e = .returned (.int .i64 (plI k s b)) ∧ Below w.heap.size w w' := by
  have he : ∀ args w, (callFunc 74 args).run Tryz.prog w = .ok (.enter 74 args) w := enters_of Tryz.func74 (by kernel_rfl) rfl
  have B := boxed w k s a b c r m
  obtain ⟨W, hW⟩ : ∃ W, W = w.alloc (.cells #[.int .u8 k, .int .i64 s, .int .i64 a, .int .i64 b, .int .i64 c, .int .i64 r, .int .i64 m] 38) := ⟨_, rfl⟩
  have HS := hid (fun w => sizes_any k w)
  have b0 : Below w.heap.size w W := by rw [hW]; exact (Below.refl _ _).alloc (Nat.le_refl _) _
  rw [← hW] at B
  have e : decide (inn s (leastS k) (mostS k)) = true := decide_eq_true h
  have HB := hid (fun w g1 g2 h1 h2 => asks_any w g1 g2 (leastS k) (mostS k) s h1 h2)
  rw [e] at HB
  have HC := hid (fun w g1 g2 h1 h2 => asks_any w g1 g2 1 8 b h1 h2)
  have HT := hid (fun w => between_any 1 8 w)
  have H0 := hid B.c0
  have H1 := hid B.c1
  have H3 := hid B.c3
  have b0 := hid b0
  have HE : Hid (plI k s b = (if k = 3 then pow2 s + 256 else if k = 4 then 2 * pow2 s else if k = 7 then (if inn b 1 8 then b * pow2 s else 0) else if k = 8 then pow2 s + 512 else if k = 9 then 32 * pow2 s else if k = 2 ∨ k = 6 then pow2 s else 0)) := by
    unfold Hid plI; rw [if_pos h]
  have s0 : 0 ≤ s := by have := leastS_ge k; have := h.1; omega
  have s1 : s ≤ 16 := by have := mostS_le k; have := h.2; omega
  obtain ⟨t, ht⟩ : ∃ t, pow2 s = t := ⟨_, rfl⟩
  have t1 : 1 ≤ t := by rw [← ht]; exact pow2_pos s
  have t2 : t ≤ 65536 := by rw [← ht]; exact pow2_le s 16 (by omega)
  have t7 : Hid (k = 7 → t ≤ 4096) := by
    intro e7
    subst e7
    rw [← ht]; exact pow2_le s 12 (by have := h.2; unfold mostS at this; simp at this; omega)
  rw [ht] at HE
  have hw : wrap64 (2 ^ s.toNat) = t := by
    have : (2 : Int) ^ s.toNat = t := ht
    rw [this]; exact wrap64_in _ (by omega) (by omega)
  unfold vP
  clear h e B ht
  go_enter Tryz.func41, Tryz.ntmps41
  go_wp2_with fail
  rw [← hW]
  clear hW
  go_region_held3 (fun w' => w'.cell? ⟨w.heap.size, 0, none⟩ = some (.int .u8 k) ∧ w'.cell? ⟨w.heap.size, 1, none⟩ = some (.int .i64 s)) (first | exact ⟨H0.out, H1.out⟩ | exact ⟨k0, k1⟩ | go_keep)
    (first
    | (go_at_call 64; (refine (HS.out _).mono ?_); rintro r w1 ⟨f, rfl, ⟨g1, g2, rfl, h1, h2⟩, b1⟩; have k0 := keeps b1 H0.out; have k1 := keeps b1 H1.out; have k3 := keeps b1 H3.out; have B1 := hid b1; have Q1 := hid h1; have Q2 := hid h2)
    | (go_at_call 74; (refine (HB.out _ _ _ Q1.out Q2.out).mono ?_); rintro r w2 ⟨rfl, rfl⟩))
  have B2 := hid (b0.out.drew.trans (B1.out.mono b0.out.size))
  clear Q1 Q2 HB HS B1 b0 b1 h1 h2 H0 H1 H3
  rename World => w2
  rcases (by omega : k = 2 ∨ k = 3 ∨ k = 4 ∨ k = 6 ∨ k = 8 ∨ k = 9 ∨ k = 7 ∨ (k ≠ 2 ∧ k ≠ 3 ∧ k ≠ 4 ∧ k ≠ 6 ∧ k ≠ 8 ∧ k ≠ 9 ∧ k ≠ 7)) with h | h | h | h | h | h | h | ⟨x2, x3, x4, x6, x8, x9, x7⟩
  iterate 6
    · subst h
      clear HC HT he t7
      go_wp2_with fail
      go_ret
      exact ⟨ret_int (by rw [HE.out]; simp; try omega), B2.out⟩
  · have t4 := t7.out h
    clear t7
    subst h
    have K3 := hid k3
    clear k3
    by_cases hb : inn b 1 8
    · have e2 : decide (inn b 1 8) = true := decide_eq_true hb
      rw [e2] at HC
      obtain ⟨q, hq⟩ : ∃ q, b * t = q := ⟨_, rfl⟩
      have hm : wrap64 (b * t) = q := by
        rw [wrap64_in _ (Int.mul_nonneg (by have := hb.1; omega) (by omega)) (by
          have : b * t ≤ 8 * 4096 := Int.mul_le_mul hb.2 t4 (by omega) (by omega)
          omega), hq]
      have HF : Hid (plI 7 s b = q) := by
        unfold Hid; rw [HE.out]; simp only [hb, if_true, hq]; rfl
      clear hq e2 hb HE
      have Hm := hid hm
      clear hm
      go_wp2_with fail
      go_region_held3 (fun w' => w'.cell? ⟨w.heap.size, 3, none⟩ = some (.int .i64 b)) (first | exact K3.out | exact q3 | go_keep)
        (first
        | (go_at_call 65; (refine (HT.out _).mono ?_); rintro r w3 ⟨f, rfl, ⟨g3, g4, rfl, h3, h4⟩, b3⟩; have q3 := keeps b3 K3.out; have B3 := hid b3; have Q3 := hid h3; have Q4 := hid h4)
        | (go_at_call 74; (refine (HC.out _ _ _ Q3.out Q4.out).mono ?_); rintro r w4 ⟨rfl, rfl⟩))
      go_wp2_with fail
      go_ret
      exact ⟨ret_int (Hm.out.trans HF.out.symm), B2.out.drew.trans (B3.out.mono B2.out.size)⟩
    · have e2 : decide (inn b 1 8) = false := decide_eq_false hb
      rw [e2] at HC
      have HF : Hid (plI 7 s b = 0) := by
        unfold Hid; rw [HE.out]; simp only [hb, if_true, if_false]; rfl
      clear e2 hb HE
      go_wp2_with fail
      go_region_held3 (fun w' => w'.cell? ⟨w.heap.size, 3, none⟩ = some (.int .i64 b)) (first | exact K3.out | exact q3 | go_keep)
        (first
        | (go_at_call 65; (refine (HT.out _).mono ?_); rintro r w3 ⟨f, rfl, ⟨g3, g4, rfl, h3, h4⟩, b3⟩; have q3 := keeps b3 K3.out; have B3 := hid b3; have Q3 := hid h3; have Q4 := hid h4)
        | (go_at_call 74; (refine (HC.out _ _ _ Q3.out Q4.out).mono ?_); rintro r w4 ⟨rfl, rfl⟩))
      go_wp2_with fail
      go_ret
      exact ⟨ret_int HF.out.symm, B2.out.drew.trans (B3.out.mono B2.out.size)⟩
  · clear HC HT he t7
    go_wp2_with fail
    go_ret
    exact ⟨ret_int (by rw [HE.out, if_neg x3, if_neg x4, if_neg x7, if_neg x8, if_neg x9, if_neg (by omega)]), B2.out⟩
theorem places_any (k s a b c r m : Int) (w : World) :
    Calls Tryz.prog 41 #[vP k s a b c r m] w fun e w' => e = .returned (.int .i64 (plI k s b)) ∧ Below w.heap.size w w' := by
  by_cases h : inn s (leastS k) (mostS k)
  · exact places_yes k s a b c r m h w
  · have e : plI k s b = 0 := if_neg h
    rw [e]
    exact places_no k s a b c r m h w
/-- The document's reckoning and the program's are one. -/
theorem places_plI (p : Pt) : p.places = plI p.kind p.size p.b := by
  obtain ⟨k, s, a, b, c, r, m⟩ := p
  unfold Pt.places plI inn leastP leastS mostP mostS
  dsimp only
  rcases (by omega : k = 2 ∨ k = 3 ∨ k = 4 ∨ k = 6 ∨ k = 8 ∨ k = 9 ∨ k = 7 ∨ (k ≠ 2 ∧ k ≠ 3 ∧ k ≠ 4 ∧ k ≠ 6 ∧ k ≠ 8 ∧ k ≠ 9 ∧ k ≠ 7)) with h | h | h | h | h | h | h | ⟨x2, x3, x4, x6, x8, x9, x7⟩
  iterate 7
    · subst h
      simp
  · have n2 : ¬ (k : Int) = 2 := by omega
    have n3 : ¬ (k : Int) = 3 := by omega
    have n4 : ¬ (k : Int) = 4 := by omega
    have n6 : ¬ (k : Int) = 6 := by omega
    have n7 : ¬ (k : Int) = 7 := by omega
    have n8 : ¬ (k : Int) = 8 := by omega
    have n9 : ¬ (k : Int) = 9 := by omega
    simp only [x2, x3, x4, x6, x8, x9, x7, n2, n3, n4, n6, n7, n8, n9, if_false, or_self]
    rw [if_neg (by omega)]
    split <;> rfl
end Go.Proofs.YtkfdbibgjoaefaaGreatDoor
/-
  The parts of a blend at work (chapter 12) as plain data: their tables stay as long and within their ranges, whatever is learnt, and no part leans out of its range.
-/
namespace Go.Proofs.YtkfdbibgjoaefaaGreatDoor

def into (n a b : Int) : Int := if n < a then a else if b < n then b else n
theorem into_range (n a b : Int) (h : a ≤ b) : a ≤ into n a b ∧ into n a b ≤ b := by
  unfold into
  split
  · omega
  · split <;> omega
/-- A context's place in a table of 2^size. -/
def placeN (h c : Nat) (size : Int) : Nat := if size = 0 then 0 else ((h ^^^ (c * 40503 % 4294967296)) * 2654435761 % 4294967296) / 2 ^ (32 - size).toNat
theorem placeN_lt (h c : Nat) (size : Int) (h0 : 0 ≤ size) (h1 : size ≤ 32) : placeN h c size < 2 ^ size.toNat := by
  unfold placeN
  split
  · exact Nat.two_pow_pos _
  · apply Nat.div_lt_of_lt_mul
    have e : (4294967296 : Nat) = 2 ^ (32 - size).toNat * 2 ^ size.toNat := by
      rw [← Nat.pow_add, show (32 - size).toNat + size.toNat = 32 from by omega]
    rw [← e]
    exact Nat.mod_lt _ (by decide)
/-- A part with its tables. -/
structure Un where
  p : Pt
  h : Nat := 0
  chance : List Int := []
  count : List Int := []
  state : List Nat := []
  weight : List Int := []
  number : List Nat := []
  ring : List Nat := []
  pos : Nat := 0
  len : Nat := 0
def pw (n : Int) : Nat := 2 ^ n.toNat
/-- A pair of each state. -/
def w8 : List Int := (List.replicate 256 [(65536 : Int), 0]).flatten
/-- The tables at first. -/
def begun (p : Pt) : Un :=
  if p.kind = 2 then { p := p, chance := List.replicate (pw p.size) 2097152, count := List.replicate (pw p.size) 0 }
  else if p.kind = 3 then { p := p, state := List.replicate (pw p.size) 0, chance := (List.range 256).map (fun s => (chN s : Int)) }
  else if p.kind = 4 then { p := p, ring := List.replicate (pw p.size) 0, number := List.replicate (pw p.size) 0 }
  else if p.kind = 6 then { p := p, weight := List.replicate (pw p.size) 32768 }
  else if p.kind = 7 then { p := p, weight := List.replicate (pw p.size * p.b.toNat) (65536 / p.b) }
  else if p.kind = 8 then { p := p, state := List.replicate (pw p.size) 0, weight := w8 }
  else if p.kind = 9 then { p := p, chance := (List.range (pw p.size * 32)).map (fun i => sq ((i % 32 : Nat) * 132 - 2047) * 1024), count := List.replicate (pw p.size * 32) 0 }
  else { p := p }
def Un.foretold (u : Un) (c bits : Nat) : Int :=
  if u.len = 0 then 0
  else if c ≠ (u.ring.getD u.pos 0 + 256) / 2 ^ (8 - bits) then 0
  else if u.ring.getD u.pos 0 / 2 ^ (7 - bits) % 2 = 0 then -((min u.len 15 * 64 : Nat) : Int) else ((min u.len 15 * 64 : Nat) : Int)
def at0 (l : List Int) (i : Int) : Int := l.getD i.toNat 0
def mixSum (w : List Int) (a : Nat) (l : List Int) (b : Int) : Nat → Int
  | 0 => 0
  | k + 1 => mixSum w a l b k + w.getD (a + k) 0 * at0 l (b + k)
/-- How it leans, by those ahead of it. -/
def Un.lean (u : Un) (c bits : Nat) (l : List Int) : Int :=
  let a := placeN u.h c u.p.size
  if u.p.kind = 1 then u.p.c
  else if u.p.kind = 2 then stz (u.chance.getD a 0 / 1024)
  else if u.p.kind = 3 then stz (u.chance.getD (u.state.getD a 0) 0 / 16)
  else if u.p.kind = 4 then u.foretold c bits
  else if u.p.kind = 5 then (u.p.c * at0 l u.p.a + (256 - u.p.c) * at0 l u.p.b) / 256
  else if u.p.kind = 6 then (u.weight.getD a 0 * at0 l u.p.a + (65536 - u.weight.getD a 0) * at0 l u.p.b) / 65536
  else if u.p.kind = 7 then into (mixSum u.weight (a * u.p.b.toNat) l u.p.a u.p.b.toNat / 65536) (-2047) 2047
  else if u.p.kind = 8 then into ((u.weight.getD (2 * u.state.getD a 0) 0 * at0 l u.p.a + u.weight.getD (2 * u.state.getD a 0 + 1) 0 * 64) / 65536) (-2047) 2047
  else stz (u.chance.getD (a * 32 + ((at0 l u.p.a + 2047) / 128).toNat) 0 / 1024)
/-- A chance with its count learns. -/
def Un.slow (u : Un) (i : Nat) (one : Bool) : Un :=
  { u with chance := u.chance.set i (u.chance.getD i 0 + Int.tdiv ((if one then 4194303 else 0) - u.chance.getD i 0) (u.count.getD i 0 + 2)), count := u.count.set i (into (u.count.getD i 0 + 1) 0 u.p.limit) }
def mixLearn (w : List Int) (a : Nat) (l : List Int) (b : Int) (e : Int) : Nat → List Int
  | 0 => w
  | k + 1 => (mixLearn w a l b e k).set (a + k) (into (w.getD (a + k) 0 + (e * at0 l (b + k) + 8192) / 16384) (-1048576) 1048576)
def Un.learn (u : Un) (c : Nat) (l : List Int) (lean : Int) (one : Bool) : Un :=
  let a := placeN u.h c u.p.size
  let e := (if one then 4095 else 0) - sq lean
  if u.p.kind = 2 then u.slow a one
  else if u.p.kind = 3 then
    { u with chance := u.chance.set (u.state.getD a 0) (u.chance.getD (u.state.getD a 0) 0 + Int.tdiv ((if one then 65535 else 0) - u.chance.getD (u.state.getD a 0) 0) 64), state := u.state.set a (nxN (u.state.getD a 0) one) }
  else if u.p.kind = 6 then { u with weight := u.weight.set a (into (u.weight.getD a 0 + (e * u.p.rate * (at0 l u.p.a - at0 l u.p.b) + 512) / 1024) 0 65535) }
  else if u.p.kind = 7 then { u with weight := mixLearn u.weight (a * u.p.b.toNat) l u.p.a (e * u.p.rate) u.p.b.toNat }
  else if u.p.kind = 8 then
    { u with weight := (u.weight.set (2 * u.state.getD a 0) (into (u.weight.getD (2 * u.state.getD a 0) 0 + (e * at0 l u.p.a + 4096) / 8192) (-1048576) 1048576)).set (2 * u.state.getD a 0 + 1) (into (u.weight.getD (2 * u.state.getD a 0 + 1) 0 + (e + 16) / 32) (-1048576) 1048576), state := u.state.set a (nxN (u.state.getD a 0) one) }
  else if u.p.kind = 9 then u.slow (a * 32 + ((at0 l u.p.a + 2047) / 128).toNat) one
  else u
/-- A match at a byte's end. -/
def Un.whole (u : Un) (c whole : Nat) : Un :=
  if u.p.kind = 4 then
    { u with
      len := if 0 < u.len ∧ u.ring.getD u.pos 0 = c % 256 then min (u.len + 1) 32 else 0,
      pos := if 0 < u.len ∧ u.ring.getD u.pos 0 = c % 256 then (u.pos + 1) % pw u.p.size else u.pos,
      ring := u.ring.set (whole % pw u.p.size) (c % 256) }
  else u
def mlen (ring : List Nat) (n q w : Nat) : Nat → Nat → Nat
  | 0, k => k
  | f + 1, k => if k < q ∧ ring.getD ((q - k - 1) % n) 0 = ring.getD ((w - k - 1) % n) 0 then mlen ring n q w f (k + 1) else k
/-- A match is looked for. -/
def Un.find (u : Un) (whole : Nat) : Un :=
  let a := placeN u.h 1 u.p.size
  { u with
    len := if u.len = 0 ∧ u.number.getD a 0 ≠ 0 then mlen u.ring (pw u.p.size) (u.number.getD a 0) whole 32 0 else u.len,
    pos := if u.len = 0 ∧ u.number.getD a 0 ≠ 0 then u.number.getD a 0 % pw u.p.size else u.pos,
    number := u.number.set a whole }
theorem gD_in {α : Type} (l : List α) (a : α) {i : Nat} (h : i < l.length) : l.getD i a = l[i] := by
  rw [List.getD_eq_getElem?_getD, List.getElem?_eq_getElem h, Option.getD_some]
theorem gD_out {α : Type} (l : List α) (a : α) {i : Nat} (h : l.length ≤ i) : l.getD i a = a := by
  rw [List.getD_eq_getElem?_getD, List.getElem?_eq_none h, Option.getD_none]
/-- All of a list lie in a range. -/
def InR (l : List Int) (a b : Int) : Prop := ∀ i, a ≤ l.getD i a ∧ l.getD i a ≤ b
theorem InR.get {l : List Int} {a b : Int} (h : InR l a b) (i : Nat) (hi : i < l.length) : a ≤ l.getD i 0 ∧ l.getD i 0 ≤ b := by
  have := h i
  rw [gD_in _ _ hi] at this ⊢
  exact this
theorem InR.of {l : List Int} {a b : Int} (hab : a ≤ b) (h : ∀ x ∈ l, a ≤ x ∧ x ≤ b) : InR l a b := by
  intro i
  by_cases hi : i < l.length
  · rw [gD_in _ _ hi]
    exact h _ (List.getElem_mem hi)
  · rw [gD_out _ _ (by omega)]
    exact ⟨Int.le_refl _, hab⟩
theorem InR.set {l : List Int} {a b : Int} (h : InR l a b) (i : Nat) (x : Int) (hx : a ≤ x ∧ x ≤ b) : InR (l.set i x) a b := by
  intro j
  by_cases hj : j < l.length
  · have hj2 : j < (l.set i x).length := by rw [List.length_set]; exact hj
    rw [gD_in _ _ hj2, List.getElem_set]
    split
    · exact hx
    · have := h j
      rw [gD_in _ _ hj] at this
      exact this
  · have := h j
    rw [gD_out _ _ (by omega)] at this
    rw [gD_out _ _ (by rw [List.length_set]; omega)]
    exact this
/-- The same, of small numbers. -/
def InN (l : List Nat) (b : Nat) : Prop := ∀ i, l.getD i 0 ≤ b
theorem InN.of {l : List Nat} {b : Nat} (h : ∀ x ∈ l, x ≤ b) : InN l b := by
  intro i
  by_cases hi : i < l.length
  · rw [gD_in _ _ hi]; exact h _ (List.getElem_mem hi)
  · rw [gD_out _ _ (by omega)]; exact Nat.zero_le _
theorem InN.set {l : List Nat} {b : Nat} (h : InN l b) (i x : Nat) (hx : x ≤ b) : InN (l.set i x) b := by
  intro j
  by_cases hj : j < l.length
  · have hj2 : j < (l.set i x).length := by rw [List.length_set]; exact hj
    rw [gD_in _ _ hj2, List.getElem_set]
    split
    · exact hx
    · have := h j
      rw [gD_in _ _ hj] at this
      exact this
  · rw [gD_out _ _ (by rw [List.length_set]; omega)]; exact Nat.zero_le _
/-- Its tables are as long as its kind says, and within their ranges; w: how many bytes were whole. -/
def Un.ok (u : Un) (w : Nat) : Prop :=
  if u.p.kind = 2 then u.chance.length = pw u.p.size ∧ u.count.length = pw u.p.size ∧ InR u.chance 0 4194303 ∧ InR u.count 0 1023
  else if u.p.kind = 3 then u.state.length = pw u.p.size ∧ InN u.state 255 ∧ u.chance.length = 256 ∧ InR u.chance 0 65535
  else if u.p.kind = 4 then u.ring.length = pw u.p.size ∧ u.number.length = pw u.p.size ∧ InN u.ring 255 ∧ InN u.number w ∧ u.pos < pw u.p.size ∧ u.len ≤ 32
  else if u.p.kind = 6 then u.weight.length = pw u.p.size ∧ InR u.weight 0 65535
  else if u.p.kind = 7 then u.weight.length = pw u.p.size * u.p.b.toNat ∧ InR u.weight (-1048576) 1048576
  else if u.p.kind = 8 then u.state.length = pw u.p.size ∧ InN u.state 255 ∧ u.weight.length = 512 ∧ InR u.weight (-1048576) 1048576
  else if u.p.kind = 9 then u.chance.length = pw u.p.size * 32 ∧ u.count.length = pw u.p.size * 32 ∧ InR u.chance 0 4194303 ∧ InR u.count 0 1023
  else True
theorem pw_pos (n : Int) : 1 ≤ pw n := Nat.one_le_two_pow
theorem rep_in (n : Nat) (x a b : Int) (h : a ≤ x ∧ x ≤ b) : InR (List.replicate n x) a b := InR.of (by omega) fun y hy => by rw [List.eq_of_mem_replicate hy]; exact h
theorem repN_in (n x b : Nat) (h : x ≤ b) : InN (List.replicate n x) b := InN.of fun y hy => by rw [List.eq_of_mem_replicate hy]; exact h
theorem w8_len : w8.length = 512 := by decide +kernel
theorem w8_in : InR w8 (-1048576) 1048576 := InR.of (by decide) fun x hx => by
  obtain ⟨l, hl, hx⟩ := List.mem_flatten.1 hx
  rw [List.eq_of_mem_replicate hl] at hx
  simp only [List.mem_cons, List.not_mem_nil, or_false] at hx
  rcases hx with e | e <;> subst e <;> decide
theorem begun_p (p : Pt) : (begun p).p = p := by
  unfold begun
  repeat' split
  all_goals rfl
theorem begun_ok (p : Pt) (i : Int) (h : p.one i) : (begun p).ok 0 := by
  have hk := one_kind p i h
  have hl := one_leans p i h
  unfold Un.ok
  rw [begun_p]
  by_cases k2 : p.kind = 2
  · rw [if_pos k2]
    unfold begun
    rw [if_pos k2]
    exact ⟨List.length_replicate, List.length_replicate, rep_in _ _ _ _ (by decide), rep_in _ _ _ _ (by decide)⟩
  rw [if_neg k2]
  by_cases k3 : p.kind = 3
  · rw [if_pos k3]
    unfold begun
    rw [if_neg k2, if_pos k3]
    refine ⟨List.length_replicate, repN_in _ _ _ (by decide), by simp, InR.of (by decide) fun x hx => ?_⟩
    obtain ⟨s, hs, e⟩ := List.mem_map.1 hx
    have := chN_range s (List.mem_range.1 hs)
    subst e
    omega
  rw [if_neg k3]
  by_cases k4 : p.kind = 4
  · rw [if_pos k4]
    unfold begun
    rw [if_neg k2, if_neg k3, if_pos k4]
    exact ⟨List.length_replicate, List.length_replicate, repN_in _ _ _ (by decide), repN_in _ _ _ (by decide), pw_pos _, Nat.zero_le _⟩
  rw [if_neg k4]
  by_cases k6 : p.kind = 6
  · rw [if_pos k6]
    unfold begun
    rw [if_neg k2, if_neg k3, if_neg k4, if_pos k6]
    exact ⟨List.length_replicate, rep_in _ _ _ _ (by decide)⟩
  rw [if_neg k6]
  by_cases k7 : p.kind = 7
  · rw [if_pos k7]
    unfold begun
    rw [if_neg k2, if_neg k3, if_neg k4, if_neg k6, if_pos k7]
    have hb : 1 ≤ p.b := by rcases hl with h | h | h <;> omega
    refine ⟨List.length_replicate, rep_in _ _ _ _ ⟨?_, ?_⟩⟩
    · have := Int.ediv_nonneg (a := 65536) (b := p.b) (by decide) (by omega)
      omega
    · have := Int.ediv_le_self (a := 65536) p.b (by decide)
      omega
  rw [if_neg k7]
  by_cases k8 : p.kind = 8
  · rw [if_pos k8]
    unfold begun
    rw [if_neg k2, if_neg k3, if_neg k4, if_neg k6, if_neg k7, if_pos k8]
    exact ⟨List.length_replicate, repN_in _ _ _ (by decide), w8_len, w8_in⟩
  rw [if_neg k8]
  by_cases k9 : p.kind = 9
  · rw [if_pos k9]
    unfold begun
    rw [if_neg k2, if_neg k3, if_neg k4, if_neg k6, if_neg k7, if_neg k8, if_pos k9]
    refine ⟨by simp, List.length_replicate, InR.of (by decide) fun x hx => ?_, rep_in _ _ _ _ (by decide)⟩
    obtain ⟨s, hs, e⟩ := List.mem_map.1 hx
    have := sq_range ((s % 32 : Nat) * 132 - 2047)
    subst e
    omega
  rw [if_neg k9]
  trivial
def Lean1 (d : Int) : Prop := -2047 ≤ d ∧ d ≤ 2047
/-- A mean of two numbers lies between them. -/
theorem mean_range (w n x y : Int) (hn : 0 < n) (hw : 0 ≤ w ∧ w ≤ n) (hx : Lean1 x) (hy : Lean1 y) : Lean1 ((w * x + (n - w) * y) / n) := by
  obtain ⟨x1, x2⟩ := hx
  obtain ⟨y1, y2⟩ := hy
  have a1 : w * x ≤ w * 2047 := Int.mul_le_mul_of_nonneg_left x2 hw.1
  have a2 : (n - w) * y ≤ (n - w) * 2047 := Int.mul_le_mul_of_nonneg_left y2 (by omega)
  have a3 : w * (-2047) ≤ w * x := Int.mul_le_mul_of_nonneg_left x1 hw.1
  have a4 : (n - w) * (-2047) ≤ (n - w) * y := Int.mul_le_mul_of_nonneg_left y1 (by omega)
  constructor
  · rw [Int.le_ediv_iff_mul_le hn]; omega
  · apply Int.lt_add_one_iff.1
    rw [Int.ediv_lt_iff_lt_mul hn]; omega
theorem at0_lean (l : List Int) (h : ∀ d ∈ l, Lean1 d) (i : Int) : Lean1 (at0 l i) := by
  unfold at0
  by_cases hi : i.toNat < l.length
  · rw [gD_in _ _ hi]; exact h _ (List.getElem_mem hi)
  · rw [gD_out _ _ (by omega)]; exact ⟨by decide, by decide⟩
/-- No part leans out of its range. -/
theorem lean_range (u : Un) (i : Int) (w c bits : Nat) (l : List Int) (hp : u.p.one i) (h : u.ok w) (hl : ∀ d ∈ l, Lean1 d) : Lean1 (u.lean c bits l) := by
  have hk := one_kind u.p i hp
  have hf := hp.2
  unfold Pt.fit inn at hf
  unfold Un.lean
  simp only
  by_cases k1 : u.p.kind = 1
  · rw [if_pos k1] at hf ⊢
    exact hf
  rw [if_neg k1] at hf ⊢
  by_cases k2 : u.p.kind = 2
  · rw [if_pos k2]; exact stz_range _
  rw [if_neg k2] at hf ⊢
  by_cases k3 : u.p.kind = 3
  · rw [if_pos k3]; exact stz_range _
  rw [if_neg k3]
  by_cases k4 : u.p.kind = 4
  · rw [if_pos k4]
    unfold Un.foretold Lean1
    have := Nat.min_le_right u.len 15
    split
    · omega
    · split
      · omega
      · split <;> omega
  rw [if_neg (by omega)] at hf
  rw [if_neg k4]
  by_cases k5 : u.p.kind = 5
  · rw [if_pos k5] at hf ⊢
    exact mean_range u.p.c 256 _ _ (by decide) ⟨hf.2.2.1, hf.2.2.2⟩ (at0_lean l hl _) (at0_lean l hl _)
  rw [if_neg k5]
  by_cases k6 : u.p.kind = 6
  · rw [if_pos k6]
    unfold Un.ok at h
    rw [if_neg k2, if_neg k3, if_neg k4, if_pos k6] at h
    rw [if_neg k5, if_pos k6] at hf
    have hs := places_size u.p hf.1
    have := h.2.get (placeN u.h c u.p.size) (by rw [h.1]; exact placeN_lt _ _ _ hs.1 (by omega))
    exact mean_range _ 65536 _ _ (by decide) ⟨this.1, by omega⟩ (at0_lean l hl _) (at0_lean l hl _)
  rw [if_neg k6]
  by_cases k7 : u.p.kind = 7
  · rw [if_pos k7]; exact into_range _ _ _ (by decide)
  rw [if_neg k7]
  by_cases k8 : u.p.kind = 8
  · rw [if_pos k8]; exact into_range _ _ _ (by decide)
  rw [if_neg k8]
  exact stz_range _
theorem step_range (x t n m : Int) (hx : 0 ≤ x ∧ x ≤ m) (ht : 0 ≤ t ∧ t ≤ m) (hn : 2 ≤ n) : 0 ≤ x + Int.tdiv (t - x) n ∧ x + Int.tdiv (t - x) n ≤ m := by
  by_cases h : x ≤ t
  · have h1 := Int.tdiv_nonneg (a := t - x) (b := n) (by omega) (by omega)
    have h2 := Int.tdiv_le_self (a := t - x) n (by omega)
    omega
  · have e : Int.tdiv (t - x) n = -(Int.tdiv (x - t) n) := by rw [← Int.neg_tdiv]; congr 1; omega
    have h1 := Int.tdiv_nonneg (a := x - t) (b := n) (by omega) (by omega)
    have h2 := Int.tdiv_le_self (a := x - t) n (by omega)
    omega
theorem slow_ok (u : Un) (i n : Nat) (one : Bool) (hi : i < n) (hlim : 0 ≤ u.p.limit ∧ u.p.limit ≤ 1023) (h : u.chance.length = n ∧ u.count.length = n ∧ InR u.chance 0 4194303 ∧ InR u.count 0 1023) :
    (u.slow i one).chance.length = n ∧ (u.slow i one).count.length = n ∧ InR (u.slow i one).chance 0 4194303 ∧ InR (u.slow i one).count 0 1023 := by
  obtain ⟨h1, h2, h3, h4⟩ := h
  have c1 := h3.get i (by omega)
  have c2 := h4.get i (by omega)
  refine ⟨by simp [Un.slow, h1], by simp [Un.slow, h2], h3.set i _ (step_range _ _ _ _ c1 (by cases one <;> decide) (by omega)), h4.set i _ ?_⟩
  have := into_range (u.count.getD i 0 + 1) 0 u.p.limit hlim.1
  omega
theorem mixLearn_len (w : List Int) (a : Nat) (l : List Int) (b e : Int) : ∀ k, (mixLearn w a l b e k).length = w.length
  | 0 => rfl
  | k + 1 => by unfold mixLearn; rw [List.length_set, mixLearn_len w a l b e k]
theorem mixLearn_in (w : List Int) (a : Nat) (l : List Int) (b e : Int) (h : InR w (-1048576) 1048576) : ∀ k, InR (mixLearn w a l b e k) (-1048576) 1048576
  | 0 => h
  | k + 1 => by unfold mixLearn; exact (mixLearn_in w a l b e h k).set _ _ (into_range _ _ _ (by decide))
theorem nx255 (s : Nat) (h : s ≤ 255) (one : Bool) : nxN s one ≤ 255 := by have := nxN_lt s (by omega) one; omega
theorem learn_p (u : Un) (c : Nat) (l : List Int) (d : Int) (one : Bool) : (u.learn c l d one).p = u.p := by
  unfold Un.learn
  simp only
  repeat' split
  all_goals rfl
/-- What learns stays right. -/
theorem learn_ok (u : Un) (i : Int) (w c : Nat) (l : List Int) (d : Int) (one : Bool) (hp : u.p.one i) (h : u.ok w) (hl : ∀ d ∈ l, Lean1 d) : (u.learn c l d one).ok w := by
  have hk := one_kind u.p i hp
  have hf := hp.2
  unfold Pt.fit inn at hf
  unfold Un.ok at h ⊢
  rw [learn_p]
  unfold Un.learn
  simp only
  by_cases k2 : u.p.kind = 2
  · rw [if_neg (by omega), if_pos k2] at hf
    rw [if_pos k2] at h ⊢
    rw [if_pos k2]
    have hs := places_size u.p hf.1
    exact slow_ok u _ _ one (placeN_lt _ _ _ hs.1 (by omega)) (by omega) h
  rw [if_neg k2] at h ⊢
  rw [if_neg k2]
  by_cases k3 : u.p.kind = 3
  · rw [if_pos k3] at h ⊢
    rw [if_pos k3]
    obtain ⟨h1, h2, h3, h4⟩ := h
    have hs := h2 (placeN u.h c u.p.size)
    have c1 := h4.get (u.state.getD (placeN u.h c u.p.size) 0) (by omega)
    exact ⟨by simp [h1], h2.set _ _ (nx255 _ hs one), by simp [h3], h4.set _ _ (step_range _ _ _ _ c1 (by cases one <;> decide) (by decide))⟩
  rw [if_neg k3] at h ⊢
  rw [if_neg k3]
  by_cases k4 : u.p.kind = 4
  · rw [if_pos k4] at h ⊢
    rw [if_neg (by omega), if_neg (by omega), if_neg (by omega), if_neg (by omega)]
    exact h
  rw [if_neg k4] at h ⊢
  by_cases k6 : u.p.kind = 6
  · rw [if_pos k6] at h ⊢
    rw [if_pos k6]
    exact ⟨by simp [h.1], h.2.set _ _ (into_range _ _ _ (by decide))⟩
  rw [if_neg k6] at h ⊢
  rw [if_neg k6]
  by_cases k7 : u.p.kind = 7
  · rw [if_pos k7] at h ⊢
    rw [if_pos k7]
    exact ⟨by simp [mixLearn_len, h.1], mixLearn_in _ _ _ _ _ h.2 _⟩
  rw [if_neg k7] at h ⊢
  rw [if_neg k7]
  by_cases k8 : u.p.kind = 8
  · rw [if_pos k8] at h ⊢
    rw [if_pos k8]
    obtain ⟨h1, h2, h3, h4⟩ := h
    have hs := h2 (placeN u.h c u.p.size)
    exact ⟨by simp [h1], h2.set _ _ (nx255 _ hs one), by simp [h3], (h4.set _ _ (into_range _ _ _ (by decide))).set _ _ (into_range _ _ _ (by decide))⟩
  rw [if_neg k8] at h ⊢
  rw [if_neg k8]
  by_cases k9 : u.p.kind = 9
  · rw [if_neg (by omega), if_neg (by omega), if_neg (by omega), if_neg (by omega), if_neg (by omega), if_neg (by omega), if_neg (by omega), if_pos k9] at hf
    rw [if_pos k9] at h ⊢
    rw [if_pos k9]
    have hs := places_size u.p hf.1
    have hd := at0_lean l hl u.p.a
    have ha := placeN_lt u.h c u.p.size hs.1 (by omega)
    exact slow_ok u _ _ one (by unfold pw; unfold Lean1 at hd; omega) (by omega) h
  rw [if_neg k9]
  trivial
theorem mlen_le (ring : List Nat) (n q w : Nat) : ∀ f k, mlen ring n q w f k ≤ k + f
  | 0, k => by unfold mlen; omega
  | f + 1, k => by
    unfold mlen
    split
    · have := mlen_le ring n q w f (k + 1); omega
    · omega
theorem InN.up {l : List Nat} {a b : Nat} (h : InN l a) (hab : a ≤ b) : InN l b := fun i => Nat.le_trans (h i) hab
theorem whole_ok (u : Un) (w c : Nat) (h : u.ok w) : (u.whole c w).ok (w + 1) := by
  unfold Un.whole
  by_cases k4 : u.p.kind = 4
  · rw [if_pos k4]
    unfold Un.ok at h ⊢
    simp only
    rw [if_neg (by omega), if_neg (by omega), if_pos k4] at h ⊢
    obtain ⟨h1, h2, h3, h4, h5, h6⟩ := h
    refine ⟨by simp [h1], h2, h3.set _ _ (by omega), h4.up (by omega), ?_, ?_⟩
    · split
      · exact Nat.mod_lt _ (pw_pos _)
      · exact h5
    · split <;> omega
  · rw [if_neg k4]
    unfold Un.ok at h ⊢
    rw [if_neg k4] at h ⊢
    exact h
theorem find_ok (u : Un) (w : Nat) (k4 : u.p.kind = 4) (h : u.ok w) : (u.find w).ok w := by
  unfold Un.find
  unfold Un.ok at h ⊢
  simp only
  rw [if_neg (by omega), if_neg (by omega), if_pos k4] at h ⊢
  obtain ⟨h1, h2, h3, h4, h5, h6⟩ := h
  refine ⟨h1, by simp [h2], h3, h4.set _ _ (Nat.le_refl _), ?_, ?_⟩
  · split
    · exact Nat.mod_lt _ (pw_pos _)
    · exact h5
  · split
    · have := mlen_le u.ring (pw u.p.size) (u.number.getD (placeN u.h 1 u.p.size) 0) w 32 0
      omega
    · exact h6
end Go.Proofs.YtkfdbibgjoaefaaGreatDoor
/-
  A whole blend (chapter 12) as plain data: it stays right, whatever it is handed; its guess lies in its range; a part that counts comes to expect what always comes.
-/
namespace Go.Proofs.YtkfdbibgjoaefaaGreatDoor

structure Bl where
  l : List Un
  c : Nat := 1
  bits : Nat := 0
  whole : Nat := 0
def leansGo (c bits : Nat) : List Un → List Int → List Int
  | [], a => a
  | u :: us, a => leansGo c bits us (a ++ [u.lean c bits a])
/-- How all parts lean, in order. -/
def Bl.leans (b : Bl) : List Int := leansGo b.c b.bits b.l []
def Bl.guess (b : Bl) : Int := 16 * sq (b.leans.getLastD 0)
def Bl.new (l : List Pt) : Bl := { l := l.map begun }
def Bl.contexts (b : Bl) (h : List Nat) : Bl :=
  { b with l := b.l.mapIdx fun i u => if u.p.kind = 4 then ({ u with h := h.getD i 0 } : Un).find b.whole else { u with h := h.getD i 0 } }
def Bl.each (b : Bl) (one : Bool) : List Un := b.l.mapIdx fun i u => u.learn b.c b.leans (b.leans.getD i 0) one
def Bl.learn (b : Bl) (one : Bool) : Bl :=
  if b.bits = 7 then { l := (b.each one).map (fun u => u.whole (b.c * 2 + if one then 1 else 0) b.whole), c := 1, bits := 0, whole := b.whole + 1 }
  else { l := b.each one, c := b.c * 2 + (if one then 1 else 0), bits := b.bits + 1, whole := b.whole }
/-- A right blend. -/
structure Bl.Ok (b : Bl) : Prop where
  parts : rightP (b.l.map (·.p)) = 0
  each : ∀ u ∈ b.l, u.ok b.whole
  bits : b.bits ≤ 7
  c : 2 ^ b.bits ≤ b.c ∧ b.c < 2 ^ (b.bits + 1)
theorem Bl.Ok.one {b : Bl} (h : b.Ok) (i : Nat) (hi : i < b.l.length) : b.l[i].p.one i := by
  have := ((rightP_ok _).1 h.parts).2.1 i (by rw [List.length_map]; exact hi)
  rw [List.getElem_map] at this
  exact this
theorem leansGo_len (c bits : Nat) : ∀ (l : List Un) (a : List Int), (leansGo c bits l a).length = a.length + l.length
  | [], a => rfl
  | u :: us, a => by
    unfold leansGo
    rw [leansGo_len c bits us, List.length_append, List.length_cons, List.length_cons, List.length_nil]
    omega
theorem leansGo_range (c bits w : Nat) : ∀ (l : List Un) (a : List Int), (∀ d ∈ a, Lean1 d) → (∀ u ∈ l, u.ok w ∧ ∃ i : Nat, u.p.one i) → ∀ d ∈ leansGo c bits l a, Lean1 d
  | [], _, ha, _ => ha
  | u :: us, a, ha, hl => by
    unfold leansGo
    refine leansGo_range c bits w us _ (fun d hd => ?_) (fun v hv => hl v (List.mem_cons_of_mem _ hv))
    rcases List.mem_append.1 hd with e | e
    · exact ha d e
    · rw [List.mem_singleton] at e
      subst e
      obtain ⟨h1, i, h2⟩ := hl u List.mem_cons_self
      exact lean_range u i w c bits a h2 h1 ha
theorem Bl.leans_len (b : Bl) : b.leans.length = b.l.length := by
  unfold Bl.leans
  rw [leansGo_len, List.length_nil, Nat.zero_add]
theorem Bl.Ok.range {b : Bl} (h : b.Ok) : ∀ d ∈ b.leans, Lean1 d := leansGo_range b.c b.bits b.whole b.l [] (fun _ h => absurd h List.not_mem_nil) fun u hu => by
  obtain ⟨i, hi, e⟩ := List.getElem_of_mem hu
  refine ⟨h.each u hu, i, ?_⟩
  have := h.one i hi
  rw [e] at this
  exact this
theorem Bl.guess_range (b : Bl) : 16 ≤ b.guess ∧ b.guess ≤ 65520 := by
  have := sq_range (b.leans.getLastD 0)
  unfold Bl.guess
  omega
theorem new_ok (l : List Pt) (h : rightP l = 0) : (Bl.new l).Ok where
  parts := by
    have : ((l.map begun).map (·.p)) = l := by
      rw [List.map_map]
      conv => rhs; rw [← List.map_id l]
      exact List.map_congr_left fun p _ => begun_p p
    show rightP ((l.map begun).map (·.p)) = 0
    rw [this]
    exact h
  each := by
    intro u hu
    obtain ⟨p, hp, e⟩ := List.mem_map.1 hu
    obtain ⟨i, hi, e2⟩ := List.getElem_of_mem hp
    subst e
    exact begun_ok p i (by rw [← e2]; exact ((rightP_ok _).1 h).2.1 i hi)
  bits := by show 0 ≤ 7; decide
  c := by show 2 ^ 0 ≤ 1 ∧ 1 < 2 ^ (0 + 1); decide
theorem map_p {l : List Un} {f : Nat → Un → Un} (h : ∀ (i : Nat) (u : Un), (f i u).p = u.p) : (l.mapIdx f).map (·.p) = l.map (·.p) := by
  apply List.ext_getElem
  · simp
  · intro i h1 h2
    simp [h]
theorem find_p (u : Un) (w : Nat) : (u.find w).p = u.p := rfl
theorem whole_p (u : Un) (c w : Nat) : (u.whole c w).p = u.p := by
  unfold Un.whole
  split <;> rfl
theorem contexts_ok (b : Bl) (g : List Nat) (h : b.Ok) : (b.contexts g).Ok where
  parts := by
    show rightP ((b.l.mapIdx _).map Un.p) = 0
    rw [map_p (fun _ u => by split <;> rfl)]
    exact h.parts
  each := by
    intro u hu
    obtain ⟨i, hi, e⟩ := List.getElem_of_mem hu
    have hi2 : i < b.l.length := by simpa [Bl.contexts] using hi
    have e2 : (b.contexts g).l[i] = if b.l[i].p.kind = 4 then ({ b.l[i] with h := g.getD i 0 } : Un).find b.whole else { b.l[i] with h := g.getD i 0 } := by
      simp [Bl.contexts]
    rw [← e, e2]
    have := h.each b.l[i] (List.getElem_mem hi2)
    show Un.ok _ b.whole
    split
    next k => exact find_ok _ _ k this
    next => exact this
  bits := h.bits
  c := h.c
theorem each_p (b : Bl) (one : Bool) : (b.each one).map (·.p) = b.l.map (·.p) := map_p (fun _ u => learn_p u _ _ _ _)
theorem each_ok (b : Bl) (one : Bool) (h : b.Ok) : ∀ u ∈ b.each one, u.ok b.whole := by
  intro u hu
  obtain ⟨i, hi, e⟩ := List.getElem_of_mem hu
  have hi2 : i < b.l.length := by simpa [Bl.each] using hi
  have e2 : (b.each one)[i] = b.l[i].learn b.c b.leans (b.leans.getD i 0) one := by simp [Bl.each]
  rw [← e, e2]
  exact learn_ok _ i _ _ _ _ one (h.one i hi2) (h.each _ (List.getElem_mem hi2)) h.range
theorem Bl.learn_ok (b : Bl) (one : Bool) (h : b.Ok) : (b.learn one).Ok := by
  unfold Bl.learn
  split
  next e7 =>
    refine ⟨?_, ?_, by show 0 ≤ 7; decide, by show 2 ^ 0 ≤ 1 ∧ 1 < 2 ^ (0 + 1); decide⟩
    · show rightP (((b.each one).map _).map Un.p) = 0
      rw [List.map_map]
      have : (b.each one).map ((fun u : Un => u.p) ∘ fun u => u.whole (b.c * 2 + if one then 1 else 0) b.whole) = (b.each one).map (·.p) := List.map_congr_left fun u _ => whole_p u _ _
      rw [this, each_p]
      exact h.parts
    · intro u hu
      obtain ⟨v, hv, e⟩ := List.mem_map.1 hu
      subst e
      exact whole_ok v _ _ (each_ok b one h v hv)
  next e7 =>
    have hb := h.bits
    have hc := h.c
    refine ⟨?_, each_ok b one h, by show b.bits + 1 ≤ 7; omega, ?_⟩
    · show rightP ((b.each one).map (·.p)) = 0
      rw [each_p]
      exact h.parts
    · show 2 ^ (b.bits + 1) ≤ b.c * 2 + (if one then 1 else 0) ∧ b.c * 2 + (if one then 1 else 0) < 2 ^ (b.bits + 1 + 1)
      rw [Nat.pow_succ] at hc
      rw [Nat.pow_succ, Nat.pow_succ]
      cases one <;> simp <;> omega

/-- One part alone, with no context, that learns the same bit again and again. -/
def same (one : Bool) (b : Bl) : Nat → Bl
  | 0 => b
  | n + 1 => (same one b n).learn one
theorem learn_h (u : Un) (c : Nat) (l : List Int) (d : Int) (one : Bool) : (u.learn c l d one).h = u.h := by
  unfold Un.learn
  simp only
  repeat' split
  all_goals rfl
/-- Inv u m: what holds of it when its first place was met m times, at least. -/
theorem same_inv (p : Pt) (one : Bool) (h4 : p.kind ≠ 4) (Inv : Un → Nat → Prop) (h0 : Inv (begun p) 0)
    (hf : ∀ u m l d, u.p = p → u.h = 0 → Inv u m → Inv (u.learn 1 l d one) (m + 1))
    (ho : ∀ u m c l d, u.p = p → u.h = 0 → Inv u m → Inv (u.learn c l d one) m) :
    ∀ n, ∃ u, (same one (Bl.new [p]) n).l = [u] ∧ u.p = p ∧ u.h = 0 ∧ (same one (Bl.new [p]) n).bits = n % 8 ∧ (n % 8 = 0 → (same one (Bl.new [p]) n).c = 1) ∧ Inv u ((n + 7) / 8)
  | 0 => ⟨begun p, rfl, begun_p p, by unfold begun; repeat' split
                                      all_goals rfl, rfl, fun _ => rfl, h0⟩
  | n + 1 => by
    obtain ⟨u, e1, e2, e3, e4, e5, e6⟩ := same_inv p one h4 Inv h0 hf ho n
    have hu : ∀ c l d, (u.learn c l d one).p = p ∧ (u.learn c l d one).h = 0 := fun c l d => ⟨by rw [learn_p, e2], by rw [learn_h, e3]⟩
    have he : ∃ l d, (same one (Bl.new [p]) n).each one = [u.learn (same one (Bl.new [p]) n).c l d one] := ⟨_, _, by unfold Bl.each; rw [e1]; rfl⟩
    obtain ⟨l, d, he⟩ := he
    have hi : Inv (u.learn (same one (Bl.new [p]) n).c l d one) ((n + 1 + 7) / 8) := by
      by_cases e : n % 8 = 0
      · rw [e5 e, show (n + 1 + 7) / 8 = (n + 7) / 8 + 1 from by omega]
        exact hf u _ l d e2 e3 e6
      · rw [show (n + 1 + 7) / 8 = (n + 7) / 8 from by omega]
        exact ho u _ _ l d e2 e3 e6
    show ∃ u, ((same one (Bl.new [p]) n).learn one).l = [u] ∧ _ ∧ _ ∧ ((same one (Bl.new [p]) n).learn one).bits = _ ∧ (_ → ((same one (Bl.new [p]) n).learn one).c = 1) ∧ _
    unfold Bl.learn
    by_cases e7 : (same one (Bl.new [p]) n).bits = 7
    · rw [if_pos e7]
      refine ⟨u.learn (same one (Bl.new [p]) n).c l d one, ?_, (hu _ _ _).1, (hu _ _ _).2, ?_, fun _ => rfl, hi⟩
      · show ((same one (Bl.new [p]) n).each one).map _ = _
        rw [he, List.map_cons, List.map_nil]
        congr 1
        unfold Un.whole
        rw [if_neg (by rw [(hu _ _ _).1]; exact h4)]
      · show 0 = (n + 1) % 8
        omega
    · rw [if_neg e7]
      refine ⟨u.learn (same one (Bl.new [p]) n).c l d one, he, (hu _ _ _).1, (hu _ _ _).2, ?_, fun e => ?_, hi⟩
      · show (same one (Bl.new [p]) n).bits + 1 = (n + 1) % 8
        omega
      · omega
theorem guess_one (b : Bl) (u : Un) (h : b.l = [u]) : b.guess = 16 * sq (u.lean b.c b.bits []) := by
  unfold Bl.guess Bl.leans
  rw [h]
  rfl
/-- A chance and its count, of so many bits of a kind. -/
def cmRun (one : Bool) : Nat → Int × Int
  | 0 => (2097152, 0)
  | k + 1 => ((cmRun one k).1 + Int.tdiv ((if one then 4194303 else 0) - (cmRun one k).1) ((cmRun one k).2 + 2), into ((cmRun one k).2 + 1) 0 255)
theorem cmRun_in (one : Bool) : ∀ k, (0 ≤ (cmRun one k).1 ∧ (cmRun one k).1 ≤ 4194303) ∧ 0 ≤ (cmRun one k).2
  | 0 => ⟨⟨(by decide : (0 : Int) ≤ 2097152), (by decide : (2097152 : Int) ≤ 4194303)⟩, (by decide : (0 : Int) ≤ 0)⟩
  | k + 1 => by
    have h := cmRun_in one k
    exact ⟨step_range _ _ _ _ h.1 (by cases one <;> decide) (by omega), (into_range _ _ _ (by decide)).1⟩
theorem cmRun_up (k : Nat) : (cmRun true k).1 ≤ (cmRun true (k + 1)).1 := by
  have h := cmRun_in true k
  have := Int.tdiv_nonneg (a := 4194303 - (cmRun true k).1) (b := (cmRun true k).2 + 2) (by omega) (by omega)
  show _ ≤ (cmRun true k).1 + Int.tdiv (4194303 - (cmRun true k).1) ((cmRun true k).2 + 2)
  omega
theorem cmRun_down (k : Nat) : (cmRun false (k + 1)).1 ≤ (cmRun false k).1 := by
  have h := cmRun_in false k
  have := Int.tdiv_nonneg (a := (cmRun false k).1) (b := (cmRun false k).2 + 2) (by omega) (by omega)
  show (cmRun false k).1 + Int.tdiv (0 - (cmRun false k).1) ((cmRun false k).2 + 2) ≤ _
  rw [Int.zero_sub, Int.neg_tdiv]
  omega
theorem cmRun_mono (k : Nat) : ∀ m, (cmRun true k).1 ≤ (cmRun true (k + m)).1 ∧ (cmRun false (k + m)).1 ≤ (cmRun false k).1
  | 0 => ⟨Int.le_refl _, Int.le_refl _⟩
  | m + 1 => by
    have := cmRun_mono k m
    exact ⟨Int.le_trans this.1 (cmRun_up (k + m)), Int.le_trans (cmRun_down (k + m)) this.2⟩
theorem cm_up200 : (4096000 : Int) ≤ (cmRun true 200).1 := by decide +kernel
theorem cm_down200 : (cmRun false 200).1 ≤ 102400 := by decide +kernel
theorem sq_stz100 : 16 * sq (stz 100) < 5000 := by decide +kernel
theorem sq_stz128 : 16 * sq (stz 128) < 5000 := by decide +kernel
theorem sq_stz3968 : 60000 < 16 * sq (stz 3968) := by decide +kernel
/-- A part that counts, its chances so. -/
def CmInv (p : Pt) (one : Bool) (u : Un) (m : Nat) : Prop :=
  u.chance.length = pw p.size ∧ u.count.length = pw p.size ∧ ∀ i, i < pw p.size → ∃ k, u.chance.getD i 0 = (cmRun one k).1 ∧ u.count.getD i 0 = (cmRun one k).2 ∧ (i = placeN 0 1 p.size → m ≤ k)
theorem getD_set {α : Type} (l : List α) (i j : Nat) (x a : α) (hj : j < l.length) : (l.set i x).getD j a = if i = j then x else l.getD j a := by
  rw [gD_in _ _ (by rw [List.length_set]; exact hj), List.getElem_set, gD_in _ _ hj]
theorem cm_learn (p : Pt) (one : Bool) (hk : p.kind = 2) (hl : p.limit = 255) (hs : 0 ≤ p.size ∧ p.size ≤ 16) (u : Un) (m c : Nat) (l : List Int) (d : Int) (hp : u.p = p) (hh : u.h = 0) (h : CmInv p one u m) : CmInv p one (u.learn c l d one) m ∧ (c = 1 → CmInv p one (u.learn c l d one) (m + 1)) := by
  obtain ⟨h1, h2, h3⟩ := h
  have e : u.learn c l d one = u.slow (placeN 0 c p.size) one := by
    unfold Un.learn
    simp only
    rw [if_pos (by rw [hp]; exact hk), hh, hp]
  have ha : placeN 0 c p.size < pw p.size := placeN_lt 0 c p.size hs.1 (by omega)
  rw [e]
  have key : ∀ i, i < pw p.size → ∃ k, (u.slow (placeN 0 c p.size) one).chance.getD i 0 = (cmRun one k).1 ∧ (u.slow (placeN 0 c p.size) one).count.getD i 0 = (cmRun one k).2 ∧ (i = placeN 0 1 p.size → m ≤ k ∧ (c = 1 → m + 1 ≤ k)) := by
    intro i hi
    obtain ⟨k, k1, k2, k3⟩ := h3 i hi
    unfold Un.slow
    simp only
    rw [getD_set _ _ _ _ _ (by omega), getD_set _ _ _ _ _ (by omega)]
    by_cases ei : placeN 0 c p.size = i
    · rw [if_pos ei, if_pos ei, ei, k1, k2, hp, hl]
      exact ⟨k + 1, rfl, rfl, fun e => by have := k3 e; omega⟩
    · rw [if_neg ei, if_neg ei]
      exact ⟨k, k1, k2, fun ee => ⟨k3 ee, fun e1 => absurd (by rw [e1]; exact ee.symm) ei⟩⟩
  have l1 : (u.slow (placeN 0 c p.size) one).chance.length = pw p.size := by simp [Un.slow, h1]
  have l2 : (u.slow (placeN 0 c p.size) one).count.length = pw p.size := by simp [Un.slow, h2]
  refine ⟨⟨l1, l2, fun i hi => ?_⟩, fun e1 => ⟨l1, l2, fun i hi => ?_⟩⟩
  · obtain ⟨k, k1, k2, k3⟩ := key i hi
    exact ⟨k, k1, k2, fun e => (k3 e).1⟩
  · obtain ⟨k, k1, k2, k3⟩ := key i hi
    exact ⟨k, k1, k2, fun e => (k3 e).2 e1⟩
/-- Behind 1600 bits of a kind a PCm is nearly sure of it. -/
theorem cm_sure (p : Pt) (one : Bool) (hk : p.kind = 2) (hl : p.limit = 255) (hs : 0 ≤ p.size ∧ p.size ≤ 16) : if one then 60000 < (same one (Bl.new [p]) 1600).guess else (same one (Bl.new [p]) 1600).guess < 5000 := by
  have h0 : CmInv p one (begun p) 0 := by
    unfold begun
    rw [if_pos hk]
    refine ⟨List.length_replicate, List.length_replicate, fun i hi => ⟨0, ?_, ?_, fun _ => Nat.le_refl _⟩⟩
    · show (List.replicate _ _).getD i 0 = 2097152
      rw [gD_in _ _ (by rw [List.length_replicate]; exact hi), List.getElem_replicate]
    · show (List.replicate _ _).getD i 0 = 0
      rw [gD_in _ _ (by rw [List.length_replicate]; exact hi), List.getElem_replicate]
  obtain ⟨u, e1, e2, e3, e4, e5, _, _, h3⟩ := same_inv p one (by omega) (CmInv p one) h0 (fun u m l d hp hh h => (cm_learn p one hk hl hs u m 1 l d hp hh h).2 rfl) (fun u m c l d hp hh h => (cm_learn p one hk hl hs u m c l d hp hh h).1) 1600
  have hc := e5 (by decide)
  obtain ⟨k, k1, _, k3⟩ := h3 _ (placeN_lt 0 1 p.size hs.1 (by omega))
  have k3 : 200 ≤ k := k3 rfl
  obtain ⟨m, em⟩ : ∃ m, k = 200 + m := ⟨k - 200, by omega⟩
  rw [guess_one _ u e1, hc]
  have el : u.lean 1 (same one (Bl.new [p]) 1600).bits [] = stz ((cmRun one k).1 / 1024) := by
    unfold Un.lean
    simp only
    rw [if_neg (by rw [e2]; omega), if_pos (by rw [e2]; exact hk), e2, e3, k1]
  rw [el, em]
  have hm := cmRun_mono 200 m
  cases one
  · have h1 := cm_down200
    have h2 := stz_mono ((cmRun false (200 + m)).1 / 1024) 100 (by omega)
    have h3 := sq_mono _ _ h2
    have := sq_stz100
    show 16 * sq (stz ((cmRun false (200 + m)).1 / 1024)) < 5000
    omega
  · have h1 := cm_up200
    have h2 := stz_mono 3968 ((cmRun true (200 + m)).1 / 1024) (by omega)
    have h3 := sq_mono _ _ h2
    have := sq_stz3968
    show 60000 < 16 * sq (stz ((cmRun true (200 + m)).1 / 1024))
    omega
/-- The state behind fifteen of a kind. -/
def endS (one : Bool) : Nat := if one then 15 else 240
theorem run_end (one : Bool) : ∀ m, runN one (15 + m) 0 = endS one
  | 0 => by cases one <;> decide +kernel
  | m + 1 => by
    rw [show 15 + (m + 1) = (15 + m) + 1 from by omega, runN_succ, run_end one m]
    cases one <;> decide +kernel
def IcInv (p : Pt) (one : Bool) (u : Un) (m : Nat) : Prop :=
  u.state.length = pw p.size ∧ u.chance.length = 256 ∧ InN u.state 255 ∧ (∀ i, i < pw p.size → ∃ k, u.state.getD i 0 = runN one k 0 ∧ (i = placeN 0 1 p.size → m ≤ k)) ∧
  (if one then 63488 ≤ u.chance.getD 15 0 ∧ u.chance.getD 15 0 ≤ 65535 else 0 ≤ u.chance.getD 240 0 ∧ u.chance.getD 240 0 ≤ 2048)
theorem ic_learn (p : Pt) (one : Bool) (hk : p.kind = 3) (hs : 0 ≤ p.size ∧ p.size ≤ 16) (u : Un) (m c : Nat) (l : List Int) (d : Int) (hp : u.p = p) (hh : u.h = 0) (h : IcInv p one u m) : IcInv p one (u.learn c l d one) m ∧ (c = 1 → IcInv p one (u.learn c l d one) (m + 1)) := by
  obtain ⟨h1, h2, hn, h3, h4⟩ := h
  have ha : placeN 0 c p.size < pw p.size := placeN_lt 0 c p.size hs.1 (by omega)
  have e : u.learn c l d one = { u with chance := u.chance.set (u.state.getD (placeN 0 c p.size) 0) (u.chance.getD (u.state.getD (placeN 0 c p.size) 0) 0 + Int.tdiv ((if one then 65535 else 0) - u.chance.getD (u.state.getD (placeN 0 c p.size) 0) 0) 64), state := u.state.set (placeN 0 c p.size) (nxN (u.state.getD (placeN 0 c p.size) 0) one) } := by
    unfold Un.learn
    simp only
    rw [if_neg (by rw [hp]; omega), if_pos (by rw [hp]; exact hk), hh, hp]
  rw [e]
  have key : ∀ i, i < pw p.size → ∃ k, (u.state.set (placeN 0 c p.size) (nxN (u.state.getD (placeN 0 c p.size) 0) one)).getD i 0 = runN one k 0 ∧ (i = placeN 0 1 p.size → m ≤ k ∧ (c = 1 → m + 1 ≤ k)) := by
    intro i hi
    obtain ⟨k, k1, k3⟩ := h3 i hi
    rw [getD_set _ _ _ _ _ (by omega)]
    by_cases ei : placeN 0 c p.size = i
    · rw [if_pos ei, ei, k1]
      exact ⟨k + 1, (runN_succ one k 0).symm, fun e => by have := k3 e; omega⟩
    · rw [if_neg ei]
      exact ⟨k, k1, fun ee => ⟨k3 ee, fun e1 => absurd (by rw [e1]; exact ee.symm) ei⟩⟩
  have hch : if one then 63488 ≤ (u.chance.set (u.state.getD (placeN 0 c p.size) 0) (u.chance.getD (u.state.getD (placeN 0 c p.size) 0) 0 + Int.tdiv ((if one then 65535 else 0) - u.chance.getD (u.state.getD (placeN 0 c p.size) 0) 0) 64)).getD 15 0 ∧ (u.chance.set (u.state.getD (placeN 0 c p.size) 0) (u.chance.getD (u.state.getD (placeN 0 c p.size) 0) 0 + Int.tdiv ((if one then 65535 else 0) - u.chance.getD (u.state.getD (placeN 0 c p.size) 0) 0) 64)).getD 15 0 ≤ 65535 else 0 ≤ (u.chance.set (u.state.getD (placeN 0 c p.size) 0) (u.chance.getD (u.state.getD (placeN 0 c p.size) 0) 0 + Int.tdiv ((if one then 65535 else 0) - u.chance.getD (u.state.getD (placeN 0 c p.size) 0) 0) 64)).getD 240 0 ∧ (u.chance.set (u.state.getD (placeN 0 c p.size) 0) (u.chance.getD (u.state.getD (placeN 0 c p.size) 0) 0 + Int.tdiv ((if one then 65535 else 0) - u.chance.getD (u.state.getD (placeN 0 c p.size) 0) 0) 64)).getD 240 0 ≤ 2048 := by
    cases one
    · simp only [Bool.false_eq_true, if_false] at h4 ⊢
      rw [getD_set _ _ _ _ _ (by omega)]
      split
      next es =>
        rw [es]
        have e0 : Int.tdiv (0 - u.chance.getD 240 0) 64 = -(Int.tdiv (u.chance.getD 240 0) 64) := by rw [Int.zero_sub, Int.neg_tdiv]
        have t1 := Int.tdiv_nonneg (a := u.chance.getD 240 0) (b := 64) (by omega) (by omega)
        have t2 := Int.tdiv_le_self (a := u.chance.getD 240 0) 64 (by omega)
        rw [e0]
        omega
      next => exact h4
    · simp only [if_true] at h4 ⊢
      rw [getD_set _ _ _ _ _ (by omega)]
      split
      next es =>
        rw [es]
        have t1 := Int.tdiv_nonneg (a := 65535 - u.chance.getD 15 0) (b := 64) (by omega) (by omega)
        have t2 := Int.tdiv_le_self (a := 65535 - u.chance.getD 15 0) 64 (by omega)
        omega
      next => exact h4
  have hnn : InN (u.state.set (placeN 0 c p.size) (nxN (u.state.getD (placeN 0 c p.size) 0) one)) 255 := hn.set _ _ (nx255 _ (hn _) one)
  refine ⟨⟨by simp [h1], by simp [h2], hnn, fun i hi => ?_, hch⟩, fun e1 => ⟨by simp [h1], by simp [h2], hnn, fun i hi => ?_, hch⟩⟩
  · obtain ⟨k, k1, k3⟩ := key i hi
    exact ⟨k, k1, fun e => (k3 e).1⟩
  · obtain ⟨k, k1, k3⟩ := key i hi
    exact ⟨k, k1, fun e => (k3 e).2 e1⟩
theorem ch15 : (chN 15 : Int) = 63488 := by decide +kernel
theorem ch240 : (chN 240 : Int) = 2048 := by decide +kernel
/-- Behind 1600 bits of a kind a PIcm is nearly sure of it. -/
theorem ic_sure (p : Pt) (one : Bool) (hk : p.kind = 3) (hs : 0 ≤ p.size ∧ p.size ≤ 16) : if one then 60000 < (same one (Bl.new [p]) 1600).guess else (same one (Bl.new [p]) 1600).guess < 5000 := by
  have hget : ∀ j, j < 256 → ((List.range 256).map (fun s => (chN s : Int))).getD j 0 = chN j := fun j hj => by
    rw [gD_in _ _ (by rw [List.length_map, List.length_range]; exact hj), List.getElem_map, List.getElem_range]
  have h0 : IcInv p one (begun p) 0 := by
    unfold begun
    rw [if_neg (by omega), if_pos hk]
    refine ⟨List.length_replicate, by simp, repN_in _ _ _ (by decide), fun i hi => ⟨0, ?_, fun _ => Nat.le_refl _⟩, ?_⟩
    · show (List.replicate _ _).getD i 0 = 0
      rw [gD_in _ _ (by rw [List.length_replicate]; exact hi), List.getElem_replicate]
    · simp only
      rw [hget 15 (by decide), hget 240 (by decide), ch15, ch240]
      cases one <;> decide
  obtain ⟨u, e1, e2, e3, e4, e5, _, _, _, h3, h4⟩ := same_inv p one (by omega) (IcInv p one) h0 (fun u m l d hp hh h => (ic_learn p one hk hs u m 1 l d hp hh h).2 rfl) (fun u m c l d hp hh h => (ic_learn p one hk hs u m c l d hp hh h).1) 1600
  have hc := e5 (by decide)
  obtain ⟨k, k1, k3⟩ := h3 _ (placeN_lt 0 1 p.size hs.1 (by omega))
  have k3 : 200 ≤ k := k3 rfl
  obtain ⟨m, em⟩ : ∃ m, k = 15 + m := ⟨k - 15, by omega⟩
  rw [guess_one _ u e1, hc]
  have el : u.lean 1 (same one (Bl.new [p]) 1600).bits [] = stz (u.chance.getD (endS one) 0 / 16) := by
    unfold Un.lean
    simp only
    rw [if_neg (by rw [e2]; omega), if_neg (by rw [e2]; omega), if_pos (by rw [e2]; exact hk), e2, e3, k1, em, run_end]
  rw [el]
  cases one
  · simp only [Bool.false_eq_true, if_false] at h4 ⊢
    have h2 := stz_mono (u.chance.getD 240 0 / 16) 128 (by omega)
    have h3 := sq_mono _ _ h2
    have := sq_stz128
    show 16 * sq (stz (u.chance.getD 240 0 / 16)) < 5000
    omega
  · simp only [if_true] at h4 ⊢
    have h2 := stz_mono 3968 (u.chance.getD 15 0 / 16) (by omega)
    have h3 := sq_mono _ _ h2
    have := sq_stz3968
    show 60000 < 16 * sq (stz (u.chance.getD 15 0 / 16))
    omega
end Go.Proofs.YtkfdbibgjoaefaaGreatDoor
/-
  The document's places: within, most, power, Places.
-/
namespace Go.Proofs.YtkfdbibgjoaefaaGreatDoor
open Go.RowKit

def mostR (k : Int) : Int := if k = 2 ∨ k = 3 ∨ k = 4 ∨ k = 6 ∨ k = 8 then 16 else if k = 7 then 12 else if k = 9 then 10 else -1
theorem pow2_nat (i : Nat) : pow2 ((i : Nat) : Int) = 2 ^ i := by unfold pow2; rw [Int.toNat_natCast]
end Go.Proofs.YtkfdbibgjoaefaaGreatDoor
/-
  Lists of parts in memory: what came in, what is one's own; CopyParts, SameParts.
-/
namespace Go.Proofs.YtkfdbibgjoaefaaGreatDoor
open Go.RowKit Go.ChangeShapes Go.WideShapes Go.ChangeAt

theorem add_of_add (a : Addr) (i j : Nat) : (a.add i).add j = a.add (i + j) := by
  unfold Addr.add
  by_cases hi : i = 0 <;> by_cases hj : j = 0 <;> simp [hi, hj, Nat.add_assoc]
theorem block_of_add (a : Addr) (i : Nat) : (a.add i).block = a.block := by unfold Addr.add; split <;> rfl
def cellsP (p : Pt) : List Value := [.int .u8 p.kind, .int .i64 p.size, .int .i64 p.a, .int .i64 p.b, .int .i64 p.c, .int .i64 p.rate, .int .i64 p.limit]
def vPt (p : Pt) : Value := vP p.kind p.size p.a p.b p.c p.rate p.limit
/-- A part's cells from x on. -/
structure At7 (w : World) (x : Addr) (p : Pt) : Prop where
  c0 : w.cell? x = some (.int .u8 p.kind)
  c1 : w.cell? ⟨x.block, x.off + 1, none⟩ = some (.int .i64 p.size)
  c2 : w.cell? ⟨x.block, x.off + 2, none⟩ = some (.int .i64 p.a)
  c3 : w.cell? ⟨x.block, x.off + 3, none⟩ = some (.int .i64 p.b)
  c4 : w.cell? ⟨x.block, x.off + 4, none⟩ = some (.int .i64 p.c)
  c5 : w.cell? ⟨x.block, x.off + 5, none⟩ = some (.int .i64 p.rate)
  c6 : w.cell? ⟨x.block, x.off + 6, none⟩ = some (.int .i64 p.limit)
theorem At7.below {w w' : World} {x : Addr} {p : Pt} {B : Nat} (h : At7 w x p) (hb : Below B w w') (hx : x.block < B) : At7 w' x p :=
  ⟨(hb.cell hx).trans h.c0, (hb.cell (p := ⟨x.block, x.off + 1, none⟩) hx).trans h.c1, (hb.cell (p := ⟨x.block, x.off + 2, none⟩) hx).trans h.c2, (hb.cell (p := ⟨x.block, x.off + 3, none⟩) hx).trans h.c3,
    (hb.cell (p := ⟨x.block, x.off + 4, none⟩) hx).trans h.c4, (hb.cell (p := ⟨x.block, x.off + 5, none⟩) hx).trans h.c5, (hb.cell (p := ⟨x.block, x.off + 6, none⟩) hx).trans h.c6⟩
/-- A slice of parts. -/
structure IsP (w : World) (B : Nat) (A : Option Addr) (n c : Nat) (L : List Pt) : Prop where
  len : L.length = n
  cap : n ≤ c
  max : c ≤ maxLen
  lies : 0 < n → ∃ ad, A = some ad ∧ ad.block < B ∧ ∀ i (h : i < L.length), At7 w (ad.add (i * 7)) L[i]
theorem IsP.below {w w' : World} {B : Nat} {A : Option Addr} {n c : Nat} {L : List Pt} (h : IsP w B A n c L) (hb : Below B w w') : IsP w' B A n c L := by
  refine ⟨h.len, h.cap, h.max, fun h0 => ?_⟩
  obtain ⟨ad, e, hl, ha⟩ := h.lies h0
  exact ⟨ad, e, hl, fun i hi => (ha i hi).below hb (by rw [block_of_add]; exact hl)⟩
theorem IsP.at {w : World} {B : Nat} {A : Option Addr} {n c : Nat} {L : List Pt} (h : IsP w B A n c L) (i : Nat) (hi : i < n) : ∃ ad p, A = some ad ∧ ad.block < B ∧ L[i]? = some p ∧ At7 w (ad.add (i * 7)) p := by
  obtain ⟨ad, e, hl, ha⟩ := h.lies (by omega)
  have hL : i < L.length := by rw [h.len]; exact hi
  exact ⟨ad, L[i], e, hl, List.getElem?_eq_getElem hL, ha i hL⟩
theorem IsP.take {w : World} {B : Nat} {A : Option Addr} {n c : Nat} {L : List Pt} (h : IsP w B A n c L) (k : Nat) (hk : k ≤ n) : IsP w B A k c (L.take k) := by
  have hl := h.len
  refine ⟨by rw [List.length_take]; omega, Nat.le_trans hk h.cap, h.max, fun h0 => ?_⟩
  obtain ⟨ad, e, hl, ha⟩ := h.lies (by omega)
  refine ⟨ad, e, hl, fun i hi => ?_⟩
  rw [List.length_take] at hi
  rw [List.getElem_take]
  exact ha i (by omega)
theorem isP_nil (w : World) (B : Nat) : IsP w B none 0 0 [] := ⟨rfl, Nat.le_refl _, Nat.zero_le _, fun h => absurd h (by omega)⟩
theorem flat7 : ∀ (R : List Pt) (j i : Nat) (h : j < R.length), i < 7 → (R.flatMap cellsP)[j * 7 + i]? = (cellsP R[j])[i]?
  | [], j, i, h, _ => by simp at h
  | t :: R, 0, i, _, hi => by
    rw [List.flatMap_cons, Nat.zero_mul, Nat.zero_add, List.getElem?_append_left (by simp [cellsP]; omega)]
    rfl
  | t :: R, j + 1, i, h, hi => by
    have hl : (cellsP t).length = 7 := rfl
    have e : (j + 1) * 7 + i - (cellsP t).length = j * 7 + i := by rw [hl]; omega
    rw [List.flatMap_cons, List.getElem?_append_right (by rw [hl]; omega), e, flat7 R j i (by simpa using h) hi]
    rfl
theorem own_isP {w : World} {base n : Nat} {v : Value} {L : List Pt} (hL : L.length = n) (h : w.ownsRow base 38 7 v n (L.flatMap cellsP)) : ∃ A c, v = .slice A n c ∧ IsP w w.heap.size A n c L ∧ ∀ g, v.ownBlock = some g → base ≤ g := by
  rcases h.2 with ⟨rfl, rfl⟩ | ⟨g, cap, cur, rfl, hg, hh, hn, hm, _, _⟩
  · obtain rfl := List.eq_nil_of_length_eq_zero hL
    exact ⟨none, 0, rfl, isP_nil _ _, fun g hg => by simp [Value.ownBlock] at hg⟩
  · have hc := h.cells (g := g) rfl
    refine ⟨_, cap, rfl, ⟨hL, hn, hm, fun h0 => ⟨⟨g, 0, none⟩, rfl, ?_, fun i hi => ?_⟩⟩, fun g' hg' => ?_⟩
    · show g < w.heap.size
      rcases Nat.lt_or_ge g w.heap.size with hlt | hge
      · exact hlt
      · rw [Array.getElem?_eq_none hge] at hh; cases hh
    · have q := fun (k : Nat) (hk : k < 7) => hc (i * 7 + k) _ ((flat7 L i k hi hk).trans (List.getElem?_eq_getElem (l := cellsP L[i]) (i := k) hk))
      have e : ∀ k, (({ block := g, off := 0 } : Addr).add (i * 7 + k)) = ⟨g, i * 7 + k, none⟩ := fun k => by rw [Addr.add_lit, Nat.zero_add]
      have e0 : (({ block := g, off := 0 } : Addr).add (i * 7)) = ⟨g, i * 7, none⟩ := by rw [Addr.add_lit, Nat.zero_add]
      rw [e0]
      have q0 := q 0 (by omega)
      have q1 := q 1 (by omega)
      have q2 := q 2 (by omega)
      have q3 := q 3 (by omega)
      have q4 := q 4 (by omega)
      have q5 := q 5 (by omega)
      have q6 := q 6 (by omega)
      rw [e] at q0 q1 q2 q3 q4 q5 q6
      exact ⟨q0, q1, q2, q3, q4, q5, q6⟩
    · have : g = g' := by simpa [Value.ownBlock] using hg'
      omega
theorem exists_list {p : Nat → Pt → Prop} : ∀ n : Nat, (∀ i, i < n → ∃ t, p i t) → ∃ Ts : List Pt, Ts.length = n ∧ ∀ i (h : i < Ts.length), p i Ts[i] := by
  intro n
  induction n with
  | zero => intro _; exact ⟨[], rfl, fun i h => absurd h (by simp)⟩
  | succ n ih =>
    intro h
    obtain ⟨Ts, hl, hp⟩ := ih (fun i hi => h i (by omega))
    obtain ⟨t, ht⟩ := h n (by omega)
    refine ⟨Ts ++ [t], by simp [hl], fun i hi => ?_⟩
    by_cases hlt : i < Ts.length
    · rw [List.getElem_append_left hlt]; exact hp i hlt
    · have : i = n := by simp at hi; omega
      subst this
      rw [List.getElem_append_right (by omega)]
      simpa [hl] using ht
theorem u32 : Tryz.prog.underlying 38 = some (.struct #[⟨"Kind", 36, 0, false, "", "", 0⟩, ⟨"Size", 3, 1, false, "", "", 8⟩, ⟨"A", 3, 2, false, "", "", 16⟩, ⟨"B", 3, 3, false, "", "", 24⟩, ⟨"C", 3, 4, false, "", "", 32⟩, ⟨"Rate", 3, 5, false, "", "", 40⟩, ⟨"Limit", 3, 6, false, "", "", 48⟩]) := by kernel_rfl
theorem u30 : Tryz.prog.underlying 36 = some (.int .u8) := by kernel_rfl
theorem cells32 : Tryz.prog.cellsOf 38 = 7 := by kernel_rfl
theorem cells30 : Tryz.prog.cellsOf 36 = 1 := by kernel_rfl
theorem cells3 : Tryz.prog.cellsOf 3 = 1 := by kernel_rfl
section
variable {H : Type} {enc : TypeId × Value → H} {w : World} {base : Nat} {sp : Nat → Bool} {held : Bool}
set_option maxRecDepth 10000 in
theorem part_at {fuel : Nat} {cs : List Value} {x : DataW H × List MemPlace} (h : DataW.trod enc Tryz.prog w base sp held fuel 38 cs = some x) : ∃ p : Pt, cs = cellsP p := by
  obtain ⟨xs, n, _, rfl, hl, hlen, hf⟩ := DataW.trod_struct u32 h
  match xs, hlen with
  | [y0, y1, y2, y3, y4, y5, y6], _ =>
    have h0 := hf 0 _ rfl
    have h1 := hf 1 _ rfl
    have h2 := hf 2 _ rfl
    have h3 := hf 3 _ rfl
    have h4 := hf 4 _ rfl
    have h5 := hf 5 _ rfl
    have h6 := hf 6 _ rfl
    rw [cells32] at hl
    match cs, hl with
    | [c0, c1, c2, c3, c4, c5, c6], _ =>
      simp [cells3, cells30] at h0 h1 h2 h3 h4 h5 h6
      obtain ⟨K, e0, _, w0⟩ := DataW.trod_int u30 h0
      obtain ⟨S, e1, _, _⟩ := DataW.trod_int Tryz.underlying3 h1
      obtain ⟨A, e2, _, _⟩ := DataW.trod_int Tryz.underlying3 h2
      obtain ⟨B, e3, _, _⟩ := DataW.trod_int Tryz.underlying3 h3
      obtain ⟨C, e4, _, _⟩ := DataW.trod_int Tryz.underlying3 h4
      obtain ⟨R, e5, _, _⟩ := DataW.trod_int Tryz.underlying3 h5
      obtain ⟨M, e6, _, _⟩ := DataW.trod_int Tryz.underlying3 h6
      simp at e0 e1 e2 e3 e4 e5 e6
      subst e0 e1 e2 e3 e4 e5 e6
      have b0 := bounds_u8 w0
      refine ⟨⟨K.toNat, S, A, B, C, R, M⟩, ?_⟩
      have : ((K.toNat : Nat) : Int) = K := by omega
      simp [cellsP, this]
theorem open_parts {fuel len cap : Nat} {a : Option Addr} {x : DataW H × List MemPlace} (h : DataW.trod enc Tryz.prog w base sp held fuel 22 [.slice a len cap] = some x) : ∃ L, IsP w w.heap.size a len cap L := by
  rcases Go.Deep.open_slice Tryz.underlying22 h with ⟨hcs, _⟩ | ⟨ad, l, c, m, n, D, Pl, hcs, _, hl, hm, hmm, hx, hi⟩
  · simp at hcs
    obtain ⟨rfl, rfl, rfl⟩ := hcs
    exact ⟨[], isP_nil _ _⟩
  · simp at hcs
    obtain ⟨rfl, rfl, rfl⟩ := hcs
    have hlm : len ≤ m := by rw [hmm]; split <;> omega
    have each : ∀ i, i < len → ∃ p : Pt, At7 w (ad.add (i * 7)) p := by
      intro i hil
      obtain ⟨cs', hc, ht⟩ := hi i (by omega)
      rw [cells32] at hc
      obtain ⟨_, _, hat⟩ := World.cells?_some hc
      obtain ⟨p, rfl⟩ := part_at ht
      exact ⟨p, hat 0 (by decide), hat 1 (by decide), hat 2 (by decide), hat 3 (by decide), hat 4 (by decide), hat 5 (by decide), hat 6 (by decide)⟩
    obtain ⟨L, hTl, hT⟩ := exists_list len each
    refine ⟨L, hTl, hl, hm, fun h0 => ⟨ad, rfl, ?_, hT⟩⟩
    have := lt_cell (hT 0 (by omega)).c0
    rw [block_of_add] at this
    exact this
end
theorem Tryz.info38 : (Tryz.prog.info? 38).map (fun i => (i.zero, i.size, i.bytes)) = some (some (.agg #[.int .u8 0, .int .i64 0, .int .i64 0, .int .i64 0, .int .i64 0, .int .i64 0, .int .i64 0]), 7, 56) := by kernel_rfl
theorem row_cell {w : World} {g : Nat} {t : TypeId} {cs : Array Value} (h : w.heap[g]? = some (.cells cs t (0, 0))) (i : Nat) : w.cell? ⟨g, i, none⟩ = cs[i]? := cell_of_row w g i cs t (0, 0) h
theorem seven_cells (W : World) (p : Pt) : ∀ (j : Nat) (u : Value), (cellsP p)[j]? = some u →
    (W.alloc (.cells #[.int .u8 p.kind, .int .i64 p.size, .int .i64 p.a, .int .i64 p.b, .int .i64 p.c, .int .i64 p.rate, .int .i64 p.limit] 38)).cell? (({ block := W.heap.size, off := 0 } : Addr).add j) = some u := by
  intro j u hu
  have hh : (W.alloc (.cells #[.int .u8 p.kind, .int .i64 p.size, .int .i64 p.a, .int .i64 p.b, .int .i64 p.c, .int .i64 p.rate, .int .i64 p.limit] 38)).heap[W.heap.size]? = some (.cells #[.int .u8 p.kind, .int .i64 p.size, .int .i64 p.a, .int .i64 p.b, .int .i64 p.c, .int .i64 p.rate, .int .i64 p.limit] 38 (0, 0)) := heap_alloc_new W _
  rw [Addr.add_lit, Nat.zero_add, row_cell hh j]
  simpa [cellsP] using hu
theorem own_slice {w : World} {base e s n : Nat} {v : Value} {xs : List Value} (h : w.ownsRow base e s v n xs) : ∃ A c, v = .slice A n c ∧ n ≤ c ∧ c ≤ maxLen := by
  rcases h.2 with ⟨rfl, rfl⟩ | ⟨g, cap, cur, rfl, _, _, hn, hm, _⟩
  · exact ⟨none, 0, rfl, Nat.le_refl _, Nat.zero_le _⟩
  · exact ⟨_, cap, rfl, hn, hm⟩
/-- The sum of the places, the first i parts'. -/
theorem places_i (p : Pt) : 0 ≤ plI p.kind p.size p.b ∧ plI p.kind p.size p.b ≤ 131072 := by
  rw [← places_plI]; exact places_range p
set_option maxRecDepth 10000 in
set_option maxHeartbeats 1000000 in
theorem Memory_any (A : Option Addr) (n c : Nat) (L : List Pt) (w : World) (h : IsP w w.heap.size A n c L) (hn : n ≤ 5000) :
    Calls Tryz.prog 22 #[.slice A n c] w fun e w' => e = .returned (.int .i64 (memP L)) ∧ Below w.heap.size w w' := by
  have hm := h.max
  have hcp := h.cap
  unfold maxLen at hm
  go_enter Tryz.func22, Tryz.ntmps22
  go_wp2_with fail
  go_loopw [3, 8] (fun vo vi wr => ∃ i : Nat, i ≤ n ∧ vi = .int .i64 i ∧ vo = .int .i64 (memP (L.take i)) ∧ Below w.heap.size w wr) (fun _ vi _ => n - (intOf vi).toNat)
  case atStart => exact ⟨0, Nat.zero_le _, rfl, rfl, Below.refl _ _⟩
  case round =>
    obtain ⟨i, hi, rfl, rfl, hw⟩ := hrel
    by_cases hgo : i < n
    · have hz : (i : Int) < (n : Int) := by omega
      obtain ⟨ad, p, rfl, hl, hp, a1⟩ := h.at i hgo
      obtain ⟨k0, k1, k2, k3, k4, k5, k6⟩ := a1.below hw (by rw [block_of_add]; exact hl)
      have hL : i < L.length := by rw [h.len]; exact hgo
      have HT : Hid (memP (L.take (i + 1)) = memP (L.take i) + plI p.kind p.size p.b) := by
        unfold Hid
        rw [memP_succ L i hL, places_plI]
        rw [List.getElem?_eq_getElem hL] at hp
        injection hp with hp
        rw [hp]
      have hr := memP_range (L.take i)
      rw [List.length_take] at hr
      have hpr := places_i p
      have HP := hid (fun w => places_any p.kind p.size p.a p.b p.c p.rate p.limit w)
      unfold vP at HP
      obtain ⟨S, hS⟩ : ∃ S, memP (L.take i) = S := ⟨_, rfl⟩
      obtain ⟨q, hq⟩ : ∃ q, plI p.kind p.size p.b = q := ⟨_, rfl⟩
      rw [hq] at HP HT hpr
      rw [hS] at HT hr ⊢
      obtain ⟨T, hT⟩ : ∃ T, memP (L.take (i + 1)) = T := ⟨_, rfl⟩
      rw [hT] at HT
      have HT2 := hid hT
      have s1 : S ≤ 700000000 := by omega
      have s0 := hr.1
      have q0 := hpr.1
      have q1 := hpr.2
      clear hp a1 h hS hq hT hr hpr
      go_wp2_with fail
      refine (HP.out _).mono ?_
      rintro e w2 ⟨rfl, b2⟩
      have B2 : Below w.heap.size w w2 := (hw.alloc hw.size _).trans (b2.mono (by have := hw.size; simp; omega))
      go_wp2_with fail
      go_roundw
      case rel => exact ⟨i + 1, by omega, by go_num, by rw [HT2.out, HT.out], B2⟩
      case measure => simp [intOf]; omega
    · obtain rfl : i = n := by omega
      have hL : L.take i = L := List.take_of_length_le (by rw [h.len]; omega)
      rw [hL]
      go_wp2_with fail
      go_ret
      exact ⟨rfl, hw⟩
end Go.Proofs.YtkfdbibgjoaefaaGreatDoor
/-
  The document's blend: power, into, down, Place.
-/
namespace Go.Proofs.YtkfdbibgjoaefaaGreatDoor
open Go.RowKit
set_option linter.unusedVariables false
set_option linter.unusedSimpArgs false

set_option maxRecDepth 10000 in
theorem r_into (n a b : Int) (w : World) : Calls Tryz.prog 59 #[.int .i64 n, .int .i64 a, .int .i64 b] w fun e w' => e = .returned (.int .i64 (into n a b)) ∧ w' = w := by
  by_cases h1 : n < a
  · have d1 : decide (n < a) = true := decide_eq_true h1
    rw [show into n a b = a from if_pos h1]
    clear h1
    go_enter Tryz.func59, Tryz.ntmps59
    go_wp2
    go_ret
    exact ⟨rfl, rfl⟩
  have d1 : decide (n < a) = false := decide_eq_false h1
  by_cases h2 : b < n
  · have d2 : decide (b < n) = true := decide_eq_true h2
    rw [show into n a b = b by unfold into; rw [if_neg h1, if_pos h2]]
    clear h1 h2
    go_enter Tryz.func59, Tryz.ntmps59
    go_wp2
    go_ret
    exact ⟨rfl, rfl⟩
  have d2 : decide (b < n) = false := decide_eq_false h2
  rw [show into n a b = n by unfold into; rw [if_neg h1, if_neg h2]]
  clear h1 h2
  go_enter Tryz.func59, Tryz.ntmps59
  go_wp2
  go_ret
  exact ⟨rfl, rfl⟩
theorem down_cases (a b : Int) (hb : 0 < b) (ha : -1152921504606846976 ≤ a ∧ a ≤ 1152921504606846976) :
    ∃ q r : Int, a.tdiv b = q ∧ a.tmod b = r ∧ -1152921504606846976 ≤ q ∧ q ≤ 1152921504606846976 ∧ (r = 0 → a / b = q) ∧ (r ≠ 0 → 0 ≤ a → a / b = q) ∧ (r ≠ 0 → a < 0 → a / b = q - 1) := by
  by_cases h : 0 ≤ a
  · have e1 : a.tdiv b = a / b := Int.tdiv_eq_ediv_of_nonneg h
    have e2 : a.tmod b = a % b := Int.tmod_eq_emod_of_nonneg h
    have h1 : 0 ≤ a / b := Int.ediv_nonneg h (by omega)
    have h2 : a / b ≤ a := Int.ediv_le_self b h
    exact ⟨_, _, rfl, rfl, by omega, by omega, fun _ => e1.symm, fun _ _ => e1.symm, fun _ h3 => by omega⟩
  · obtain ⟨c, hc⟩ : ∃ c, a = -c := ⟨-a, by omega⟩
    subst hc
    have hc0 : 0 < c := by omega
    have e1 : (-c).tdiv b = -(c / b) := by rw [Int.neg_tdiv, Int.tdiv_eq_ediv_of_nonneg (by omega)]
    have e2 : (-c).tmod b = -(c % b) := by rw [Int.neg_tmod, Int.tmod_eq_emod_of_nonneg (by omega)]
    have h1 : 0 ≤ c / b := Int.ediv_nonneg (by omega) (by omega)
    have h2 : c / b ≤ c := Int.ediv_le_self b (by omega)
    have h3 := Int.emod_nonneg c (show b ≠ 0 by omega)
    have h4 := Int.emod_lt_of_pos c hb
    have h5 := Int.mul_ediv_add_emod c b
    refine ⟨_, _, rfl, rfl, by rw [e1]; omega, by rw [e1]; omega, fun hr => ?_, fun _ h => by omega, fun hr _ => ?_⟩
    · rw [e2] at hr
      rw [e1]
      have hm : c % b = 0 := by omega
      rw [hm] at h5
      refine Int.ediv_eq_of_eq_mul_left (by omega) ?_
      rw [Int.neg_mul, Int.mul_comm (c / b) b]
      omega
    · rw [e2] at hr
      rw [e1]
      have h6 : (-c) / b = -(c / b) - 1 := by
        have h7 : b * (-(c / b) - 1) = -(b * (c / b)) - b := by rw [Int.mul_sub, Int.mul_neg, Int.mul_one]
        exact ((Int.ediv_emod_unique (a := -c) (b := b) (r := b - c % b) (q := -(c / b) - 1) hb).2 ⟨by omega, by omega, by omega⟩).1
      exact h6
set_option maxRecDepth 10000 in
set_option maxHeartbeats 2000000 in
theorem r_down (a b : Int) (hb : 0 < b) (hb2 : b ≤ 1000000) (ha : -1152921504606846976 ≤ a ∧ a ≤ 1152921504606846976) (w : World) :
    Calls Tryz.prog 60 #[.int .i64 a, .int .i64 b] w fun e w' => e = .returned (.int .i64 (a / b)) ∧ w' = w := by
  obtain ⟨q, r, hq, hr, q1, q2, f1, f2, f3⟩ := down_cases a b hb ha
  have d1 : decide (b < 0) = false := decide_eq_false (by omega)
  have hb0 : ¬ b = 0 := by omega
  have hz : (a / b) = (if r = 0 then q else if 0 ≤ a then q else q - 1) := by
    by_cases h : r = 0
    · rw [if_pos h, f1 h]
    · rw [if_neg h]
      by_cases h2 : 0 ≤ a
      · rw [if_pos h2, f2 h h2]
      · rw [if_neg h2, f3 h (by omega)]
  have e1 : wrap64 q = q := by unfold wrap64; omega
  have e2 : wrap64 (q - 1) = q - 1 := by unfold wrap64; omega
  rw [hz]
  clear f1 f2 f3 hz ha hb hb2 q1 q2
  by_cases h0 : r = 0
  · subst h0
    rw [if_pos rfl]
    go_enter Tryz.func60, Tryz.ntmps60
    go_wp2
    go_ret
    exact ⟨by rw [e1]; rfl, rfl⟩
  rw [if_neg h0]
  have r0 : (r != 0) = true := by simpa using h0
  by_cases h1 : 0 ≤ a
  · rw [if_pos h1]
    have d2 : decide (a < 0) = false := decide_eq_false (by omega)
    clear h0 h1
    go_enter Tryz.func60, Tryz.ntmps60
    go_wp2
    go_ret
    exact ⟨by rw [e1]; rfl, rfl⟩
  · rw [if_neg h1]
    have d2 : decide (a < 0) = true := decide_eq_true (by omega)
    clear h0 h1
    go_enter Tryz.func60, Tryz.ntmps60
    go_wp2
    go_ret
    exact ⟨by rw [e1, e2]; rfl, rfl⟩
end Go.Proofs.YtkfdbibgjoaefaaGreatDoor
/-
  The document's blend: power, Place.
-/
namespace Go.Proofs.YtkfdbibgjoaefaaGreatDoor
open Go.RowKit
set_option linter.unusedVariables false
set_option linter.unusedSimpArgs false

set_option maxRecDepth 10000 in
theorem r_power (n : Nat) (hn : n ≤ 32) (w : World) : Calls Tryz.prog 54 #[.int .i64 (n : Int)] w fun e w' => e = .returned (.int .i64 ((2 ^ n : Nat) : Int)) ∧ w' = w := by
  have hnz : (n : Int) ≤ 32 := by omega
  go_enter Tryz.func54, Tryz.ntmps54
  go_wp2_with fail
  go_loopw [3, 4] (fun vp vi wr => ∃ i : Nat, i ≤ n ∧ vi = .int .i64 i ∧ vp = .int .i64 ((2 ^ i : Nat) : Int) ∧ wr = w) (fun _ vi _ => 40 - (intOf vi).toNat)
  case atStart => exact ⟨0, Nat.zero_le _, rfl, rfl, rfl⟩
  case round =>
    obtain ⟨i, hi, rfl, rfl, rfl⟩ := hrel
    by_cases hgo : i < n
    · have hz : (i : Int) < (n : Int) := by omega
      have hq := hid (Nat.pow_succ (m := i) (n := 2))
      have hb := Nat.pow_le_pow_right (n := 2) (by decide) (show i ≤ 32 by omega)
      obtain ⟨p, hp⟩ : ∃ p, 2 ^ i = p := ⟨_, rfl⟩
      rw [hp] at hq hb ⊢
      have hb2 : (p : Int) ≤ 4294967296 := by have : (2 : Nat) ^ 32 = 4294967296 := by decide
                                              omega
      clear hp hb
      go_wp2_with fail
      go_roundw
      case rel => exact ⟨i + 1, by omega, by go_num, by rw [hq.out]; simp, trivial⟩
      case measure => simp [intOf]; omega
    · obtain rfl : i = n := by omega
      go_wp2_with fail
      go_ret
      exact ⟨rfl, rfl⟩
set_option maxRecDepth 10000 in
set_option maxHeartbeats 2000000 in
theorem r_place (h c s : Nat) (hh : h < 4294967296) (hc : c ≤ 1024) (hs : s ≤ 16) (w : World) :
    Calls Tryz.prog 56 #[.int .u32 (h : Int), .int .i64 (c : Int), .int .i64 (s : Int)] w fun e w' => e = .returned (.int .i64 (placeN h c (s : Int) : Nat)) ∧ w' = w := by
  by_cases h0 : s = 0
  · subst h0
    rw [show placeN h c ((0 : Nat) : Int) = 0 from if_pos rfl]
    go_enter Tryz.func56, Tryz.ntmps56
    go_wp2
    go_ret
    exact ⟨rfl, rfl⟩
  have hs0 : ((s : Int) == 0) = false := by simpa using h0
  have hsz : (s : Int) ≤ 16 := by omega
  obtain ⟨d, hd⟩ : ∃ d : Nat, d = 32 - s := ⟨_, rfl⟩
  have e0 : (32 : Int) - (s : Int) = (d : Int) := by omega
  have HP := hid (fun w => r_power d (by omega) w)
  obtain ⟨X, hX⟩ : ∃ X, h ^^^ (c * 40503) = X := ⟨_, rfl⟩
  have e1 : bits BinOp.xor IntKind.u32 (h : Int) ((c : Int) * 40503) = (X : Int) := by
    rw [show (c : Int) * 40503 = ((c * 40503 : Nat) : Int) from by omega, u32_xor_nat h (c * 40503) hh (by omega), hX]
  obtain ⟨x, hx⟩ : ∃ x, X * 2654435761 % 4294967296 = x := ⟨_, rfl⟩
  have e2 : (X : Int) * 2654435761 % 4294967296 = (x : Int) := by omega
  have hx1 : x < 4294967296 := by omega
  obtain ⟨p, hp⟩ : ∃ p, 2 ^ d = p := ⟨_, rfl⟩
  rw [hp] at HP
  have hp1 : 1 ≤ p := by rw [← hp]; exact Nat.one_le_two_pow
  have ep : placeN h c (s : Int) = x / p := by
    unfold placeN
    rw [if_neg (by omega), Nat.mod_eq_of_lt (by omega : c * 40503 < 4294967296), hX, hx, show ((32 : Int) - (s : Int)).toNat = d by omega, hp]
  rw [ep]
  obtain ⟨k, hk⟩ : ∃ k, x / p = k := ⟨_, rfl⟩
  have e3 : (x : Int) / (p : Int) = (k : Int) := by rw [← hk, Int.natCast_ediv]
  have e4 : (x : Int).tdiv (p : Int) = (k : Int) := by rw [Int.tdiv_eq_ediv_of_nonneg (by omega), e3]
  have hk1 : k ≤ 4294967296 := by rw [← hk]; exact Nat.le_trans (Nat.div_le_self x p) (by omega)
  have hk2 : (k : Int) ≤ 4294967296 := by omega
  have hpz : ¬ ((p : Int) = 0) := by omega
  have hcz : (c : Int) ≤ 1024 := by omega
  have hxz : (x : Int) < 4294967296 := by omega
  rw [hk]
  clear hX hx hk hd ep hp h0 hk1 hp1 hs hc hx1
  go_enter Tryz.func56, Tryz.ntmps56
  go_wp2_with (go_at_call 54; (with_reducible refine (HP.out _).mono ?_); rintro r wj ⟨rfl, ej⟩; rw [ej]; clear ej wj)
  go_ret
  exact ⟨by first | rfl | simp [e3, e4], rfl⟩
end Go.Proofs.YtkfdbibgjoaefaaGreatDoor
/-
  Merged: Ft Rt.
-/
/-
  The program's 'fits', kind by kind.
-/
namespace Go.Proofs.YtkfdbibgjoaefaaGreatDoor
open Go.RowKit

instance (k s a b c r m k' s' a' b' c' r' m' : Int) : Decidable (vP k s a b c r m = vP k' s' a' b' c' r' m') :=
  decidable_of_iff (k = k' ∧ s = s' ∧ a = a' ∧ b = b' ∧ c = c' ∧ r = r' ∧ m = m') (by unfold vP; simp)
theorem asks_T (w : World) (g1 g2 : Nat) (a b n : Int) (T : Bool) (hT : decide (inn n a b) = T) (h1 : w.cell? ⟨g1, 0, none⟩ = some (.int .i64 a)) (h2 : w.cell? ⟨g2, 0, none⟩ = some (.int .i64 b)) :
    Calls Tryz.prog 74 #[.int .i64 n, .pointer (some ⟨g1, 0, none⟩), .pointer (some ⟨g2, 0, none⟩)] w fun e w' => e = .returned (.bool T) ∧ w' = w := by
  rw [← hT]; exact asks_any w g1 g2 a b n h1 h2
theorem asks_Q (W : World) (g1 g2 : Nat) (a b n : Int) (T : Bool) (hT : decide (inn n a b) = T) (h1 : W.cell? ⟨g1, 0, none⟩ = some (.int .i64 a)) (h2 : W.cell? ⟨g2, 0, none⟩ = some (.int .i64 b)) (q : Nat) :
    Calls Tryz.prog 74 #[.int .i64 n, .pointer (some ⟨g1, 0, none⟩), .pointer (some ⟨g2, 0, none⟩)] (W.drewN q) fun e w' => e = .returned (.bool T) ∧ ∃ m, w' = W.drewN m :=
  (asks_T (W.drewN q) g1 g2 a b n T hT h1 h2).mono fun _ _ h => ⟨h.1, q, h.2⟩
end Go.Proofs.YtkfdbibgjoaefaaGreatDoor
/-
  The document's 'one' and the program's 'fits' as plain data.
-/
namespace Go.Proofs.YtkfdbibgjoaefaaGreatDoor
open Go.RowKit

theorem plI7 (s b : Int) (h : 0 < plI 7 s b) : 1 ≤ b ∧ b ≤ 8 := by
  unfold plI at h
  split at h
  · simp only [show ¬ (7 : Int) = 3 from by decide, show ¬ (7 : Int) = 4 from by decide, if_false, if_true] at h
    split at h
    next hb => exact hb
    · omega
  · omega
theorem vP_inj {k s a b c r m k' s' a' b' c' r' m' : Int} : vP k s a b c r m = vP k' s' a' b' c' r' m' ↔ k = k' ∧ s = s' ∧ a = a' ∧ b = b' ∧ c = c' ∧ r = r' ∧ m = m' := by unfold vP; simp
theorem kinds (k : Nat) : k = 1 ∨ k = 2 ∨ k = 3 ∨ k = 4 ∨ k = 5 ∨ k = 6 ∨ k = 7 ∨ k = 8 ∨ k = 9 ∨ (¬ (k : Int) = 1 ∧ ¬ (k : Int) = 2 ∧ ¬ (k : Int) = 3 ∧ ¬ (k : Int) = 4 ∧ ¬ (k : Int) = 5 ∧ ¬ (k : Int) = 6 ∧ ¬ (k : Int) = 7 ∧ ¬ (k : Int) = 8 ∧ ¬ (k : Int) = 9) := by omega
theorem ret_bool {a b : Bool} (h : a = b) : Ending.returned (.bool a) = .returned (.bool b) := by rw [h]
theorem oneP_1 (s a b c r m i : Int) : Pt.one ⟨1, s, a, b, c, r, m⟩ i ↔ (s = 0 ∧ a = 0 ∧ b = 0 ∧ r = 0 ∧ m = 0) ∧ -2047 ≤ c ∧ c ≤ 2047 := by
  have hp : Pt.places ⟨1, s, a, b, c, r, m⟩ = plI 1 s b := places_plI _
  unfold Pt.one Pt.fields Pt.fit inn
  rw [hp]
  simp
  omega
theorem oneP_2 (s a b c r m i : Int) : Pt.one ⟨2, s, a, b, c, r, m⟩ i ↔ (a = 0 ∧ b = 0 ∧ c = 0 ∧ r = 0) ∧ 0 < plI 2 s b ∧ 1 ≤ m ∧ m ≤ 1023 := by
  have hp : Pt.places ⟨2, s, a, b, c, r, m⟩ = plI 2 s b := places_plI _
  unfold Pt.one Pt.fields Pt.fit inn
  rw [hp]
  simp
  omega
theorem oneP_3 (s a b c r m i : Int) : Pt.one ⟨3, s, a, b, c, r, m⟩ i ↔ (a = 0 ∧ b = 0 ∧ c = 0 ∧ r = 0 ∧ m = 0) ∧ 0 < plI 3 s b := by
  have hp : Pt.places ⟨3, s, a, b, c, r, m⟩ = plI 3 s b := places_plI _
  unfold Pt.one Pt.fields Pt.fit inn
  rw [hp]
  simp
  omega
theorem oneP_4 (s a b c r m i : Int) : Pt.one ⟨4, s, a, b, c, r, m⟩ i ↔ (a = 0 ∧ b = 0 ∧ c = 0 ∧ r = 0 ∧ m = 0) ∧ 0 < plI 4 s b := by
  have hp : Pt.places ⟨4, s, a, b, c, r, m⟩ = plI 4 s b := places_plI _
  unfold Pt.one Pt.fields Pt.fit inn
  rw [hp]
  simp
  omega
theorem oneP_5 (s a b c r m i : Int) : Pt.one ⟨5, s, a, b, c, r, m⟩ i ↔ (s = 0 ∧ r = 0 ∧ m = 0) ∧ (0 ≤ a ∧ a ≤ i - 1) ∧ (0 ≤ b ∧ b ≤ i - 1) ∧ 0 ≤ c ∧ c ≤ 256 := by
  have hp : Pt.places ⟨5, s, a, b, c, r, m⟩ = plI 5 s b := places_plI _
  unfold Pt.one Pt.fields Pt.fit inn
  rw [hp]
  simp
  omega
theorem oneP_6 (s a b c r m i : Int) : Pt.one ⟨6, s, a, b, c, r, m⟩ i ↔ (c = 0 ∧ m = 0) ∧ 0 < plI 6 s b ∧ (0 ≤ a ∧ a ≤ i - 1) ∧ (0 ≤ b ∧ b ≤ i - 1) ∧ 1 ≤ r ∧ r ≤ 64 := by
  have hp : Pt.places ⟨6, s, a, b, c, r, m⟩ = plI 6 s b := places_plI _
  unfold Pt.one Pt.fields Pt.fit inn
  rw [hp]
  simp
  omega
theorem oneP_7 (s a b c r m i : Int) : Pt.one ⟨7, s, a, b, c, r, m⟩ i ↔ (c = 0 ∧ m = 0) ∧ 0 < plI 7 s b ∧ (0 ≤ a ∧ a ≤ i - 1) ∧ a + b ≤ i ∧ 1 ≤ r ∧ r ≤ 64 := by
  have hp : Pt.places ⟨7, s, a, b, c, r, m⟩ = plI 7 s b := places_plI _
  unfold Pt.one Pt.fields Pt.fit inn
  rw [hp]
  simp
  omega
theorem oneP_8 (s a b c r m i : Int) : Pt.one ⟨8, s, a, b, c, r, m⟩ i ↔ (b = 0 ∧ c = 0 ∧ r = 0 ∧ m = 0) ∧ 0 < plI 8 s b ∧ 0 ≤ a ∧ a ≤ i - 1 := by
  have hp : Pt.places ⟨8, s, a, b, c, r, m⟩ = plI 8 s b := places_plI _
  unfold Pt.one Pt.fields Pt.fit inn
  rw [hp]
  simp
  omega
theorem oneP_9 (s a b c r m i : Int) : Pt.one ⟨9, s, a, b, c, r, m⟩ i ↔ (b = 0 ∧ c = 0 ∧ r = 0) ∧ 0 < plI 9 s b ∧ (0 ≤ a ∧ a ≤ i - 1) ∧ 1 ≤ m ∧ m ≤ 1023 := by
  have hp : Pt.places ⟨9, s, a, b, c, r, m⟩ = plI 9 s b := places_plI _
  unfold Pt.one Pt.fields Pt.fit inn
  rw [hp]
  simp
  omega
theorem oneP_x (k : Nat) (s a b c r m i : Int) (h1 : ¬ (k : Int) = 1) (h2 : ¬ (k : Int) = 2) (h3 : ¬ (k : Int) = 3) (h4 : ¬ (k : Int) = 4) (h5 : ¬ (k : Int) = 5) (h6 : ¬ (k : Int) = 6) (h7 : ¬ (k : Int) = 7) (h8 : ¬ (k : Int) = 8) (h9 : ¬ (k : Int) = 9) : ¬ Pt.one ⟨k, s, a, b, c, r, m⟩ i := by
  intro h
  have := one_kind _ _ h
  simp only at this
  omega
theorem plI_pos (k s b : Int) (hk : k = 2 ∨ k = 3 ∨ k = 4 ∨ k = 6 ∨ k = 8 ∨ k = 9) : 0 < plI k s b ↔ leastS k ≤ s ∧ s ≤ mostS k := by
  have h0 := pow2_pos s
  unfold plI
  by_cases h : inn s (leastS k) (mostS k)
  · rw [if_pos h]
    refine ⟨fun _ => h, fun _ => ?_⟩
    rcases hk with h | h | h | h | h | h <;> subst h <;> simp <;> omega
  · rw [if_neg h]
    exact ⟨fun x => absurd x (by omega), fun x => absurd x h⟩
theorem plI_pos7 (s b : Int) : 0 < plI 7 s b ↔ (0 ≤ s ∧ s ≤ 12) ∧ 1 ≤ b ∧ b ≤ 8 := by
  constructor
  · intro h
    refine ⟨?_, plI7 s b h⟩
    unfold plI at h
    split at h
    next hs => exact hs
    · omega
  · intro h
    have h0 := pow2_pos s
    unfold plI
    rw [if_pos (show inn s (leastS 7) (mostS 7) from h.1)]
    simp only [show ¬ (7 : Int) = 3 from by decide, show ¬ (7 : Int) = 4 from by decide, if_false, if_true]
    rw [if_pos (show inn b 1 8 from h.2)]
    exact Int.mul_pos (by omega) (by omega)
end Go.Proofs.YtkfdbibgjoaefaaGreatDoor
