/-
  One contract for all that may be asked and may not: Stream, Turn, the document's Stream.
-/
import Derived.Test.YtlgabihjfjlhkaaTrn
import Derived.Test.YtlgabihjfjlhkaaRfs
namespace Go.Proofs.Ytlgabihjfjlhkaa
open Go.RowKit

/-- The first bytes of a slice of any length that came in. -/
theorem isBB_cut {w : World} {a : Option Addr} {len cap : Nat} {zs : List Int} (h : IsRow w a len cap zs) (m : Nat) (hm : m ≤ 1000) : ∃ l, IsBB w w.heap.size a (min len m) cap l := by
  refine isBB_of_row (zs := zs) ?_ (by omega)
  rcases h with ⟨rfl, rfl, rfl, rfl⟩ | ⟨x, rfl, hl, hx, hz, hc, hw⟩
  · exact .inl ⟨rfl, by omega, rfl, rfl⟩
  · exact .inr ⟨x, rfl, by omega, hx, hz, hc, hw⟩
theorem row_cap {w : World} {a : Option Addr} {len cap : Nat} {zs : List Int} (h : IsRow w a len cap zs) : len ≤ cap ∧ cap ≤ maxLen := by
  rcases h with ⟨rfl, rfl, rfl, rfl⟩ | ⟨x, rfl, hl, hx, _⟩
  · exact ⟨Nat.le_refl _, Nat.zero_le _⟩
  · exact ⟨hl, hx⟩
def mayB (m : Nat) (a n : Int) : Bool := decide (m = 8 ∧ 0 ≤ a ∧ a ≤ 1099511627776 ∧ 0 ≤ n ∧ n ≤ 4194304)
theorem mayB_yes {m : Nat} {a n : Int} (h : mayB m a n = true) : May m a n := by unfold mayB at h; unfold May; simpa using h
theorem mayB_no {m : Nat} {a n : Int} (h : ¬ mayB m a n = true) : ¬ May m a n := fun k => h (by unfold mayB; unfold May at k; simpa using k)
def sE (m : Nat) (a n : Int) : Int := if mayB m a n = true then 0 else 2
def sA (K : Nat → Nat) (non : List UInt8) (m : Nat) (a n : Int) : List UInt8 := if mayB m a n = true then stL K non a.toNat n.toNat else []
def tA (K : Nat → Nat) (non : List UInt8) (m : Nat) (a : Int) (l : List UInt8) : List UInt8 := if mayB m a l.length = true then turnL K non a.toNat l else []
theorem tA_len (K : Nat → Nat) (non : List UInt8) (m : Nat) (a : Int) (l : List UInt8) : (tA K non m a l).length = (sA K non m a l.length).length := by
  unfold tA sA
  split
  · rw [turnL_len, stL_len]; omega
  · rfl
theorem tA_le (K : Nat → Nat) (non : List UInt8) (m : Nat) (a : Int) (l : List UInt8) : (tA K non m a l).length ≤ l.length := by
  unfold tA
  split
  · rw [turnL_len]; exact Nat.le_refl _
  · exact Nat.zero_le _
theorem tA_get (K : Nat → Nat) (non : List UInt8) (m : Nat) (a : Int) (l : List UInt8) (j : Nat) (h1 : j < (tA K non m a l).length) (h2 : j < (sA K non m a l.length).length) (h3 : j < l.length) : (tA K non m a l)[j] = (sA K non m a l.length)[j] ^^^ l[j] := by
  by_cases h : mayB m a l.length = true
  · have e1 : tA K non m a l = turnL K non a.toNat l := by unfold tA; rw [if_pos h]
    have e2 : sA K non m a l.length = stL K non a.toNat l.length := by unfold sA; rw [if_pos h]; simp
    simp only [e1, e2]
    rw [turnL_get, stL_get, UInt8.xor_comm]
  · have e1 : tA K non m a l = [] := by unfold tA; rw [if_neg h]
    rw [e1] at h1
    exact absurd h1 (by simp)
theorem Stream_all (gc : Nat) (K : Nat → Nat) (A : Option Addr) (m c : Nat) (non : List UInt8) (a n : Int) (w : World) (hc : Ci w gc K) (hk : ∀ j, j < 32 → K j < 256) (hn : IsBB w w.heap.size A m c non) :
    Calls Try.prog 8 #[.pointer (some ⟨gc, 0, none⟩), .slice A m c, .int .i64 a, .int .i64 n] w fun e w' => ∃ A' c', e = .returned (.tuple #[.slice A' (sA K non m a n).length c', .int .i64 (sE m a n)]) ∧ IsBB w' w'.heap.size A' (sA K non m a n).length c' (sA K non m a n) ∧ Below w.heap.size w w' := by
  by_cases h : mayB m a n = true
  · obtain ⟨rfl, h2, h3, h4, h5⟩ := mayB_yes h
    obtain ⟨a', rfl⟩ : ∃ a' : Nat, a = (a' : Int) := ⟨a.toNat, by omega⟩
    obtain ⟨n', rfl⟩ : ∃ n' : Nat, n = (n' : Int) := ⟨n.toNat, by omega⟩
    have e1 : sA K non 8 a' n' = stL K non a' n' := by unfold sA; rw [if_pos h]; simp
    have e2 : sE 8 a' n' = 0 := by unfold sE; rw [if_pos h]
    rw [e1, e2, stL_len]
    refine (Stream_any gc K A c non a' n' w hc hk hn (by omega) (by omega)).mono ?_
    rintro e w' ⟨g, rfl, hN⟩
    exact ⟨_, _, rfl, hN.isBB, hN.bel⟩
  · have e1 : sA K non m a n = [] := by unfold sA; rw [if_neg h]
    have e2 : sE m a n = 2 := by unfold sE; rw [if_neg h]
    rw [e1, e2]
    refine (Stream_bad gc K A m c a n w hc (mayB_no h)).mono ?_
    rintro e w' ⟨rfl, rfl⟩
    exact ⟨_, _, rfl, isBB_nil w _, Below.refl _ _⟩
theorem Turn_all (gc : Nat) (K : Nat → Nat) (A B : Option Addr) (m c n d : Nat) (non l : List UInt8) (a : Int) (w : World) (hc : Ci w gc K) (hk : ∀ j, j < 32 → K j < 256) (hn : IsBB w w.heap.size A m c non) (hb : IsBB w w.heap.size B n d l) :
    Calls Try.prog 10 #[.pointer (some ⟨gc, 0, none⟩), .slice A m c, .int .i64 a, .slice B n d] w fun e w' => ∃ A' c', e = .returned (.tuple #[.slice A' (tA K non m a l).length c', .int .i64 (sE m a n)]) ∧ IsBB w' w'.heap.size A' (tA K non m a l).length c' (tA K non m a l) ∧ Below w.heap.size w w' := by
  have hl := hb.len
  by_cases h : mayB m a n = true
  · obtain ⟨rfl, h2, h3, h4, h5⟩ := mayB_yes h
    obtain ⟨a', rfl⟩ : ∃ a' : Nat, a = (a' : Int) := ⟨a.toNat, by omega⟩
    have e1 : tA K non 8 a' l = turnL K non a' l := by unfold tA; rw [hl, if_pos h]; simp
    have e2 : sE 8 a' n = 0 := by unfold sE; rw [if_pos h]
    rw [e1, e2, turnL_len, hl]
    refine (Turn_any gc K A B c d non l a' n w hc hk hn hb (by omega) (by omega)).mono ?_
    rintro e w' ⟨g, rfl, hN⟩
    exact ⟨_, _, rfl, hN.isBB, hN.bel⟩
  · have e1 : tA K non m a l = [] := by unfold tA; rw [hl, if_neg h]
    have e2 : sE m a n = 2 := by unfold sE; rw [if_neg h]
    rw [e1, e2]
    refine (Turn_bad gc K A B m c n d a w hc (mayB_no h)).mono ?_
    rintro e w' ⟨rfl, rfl⟩
    exact ⟨_, _, rfl, isBB_nil w _, Below.refl _ _⟩
theorem RefStream_all (A B : Option Addr) (m c d : Nat) (k non : List UInt8) (a n : Int) (w : World) (hk : IsBB w w.heap.size A 32 c k) (hn : IsBB w w.heap.size B m d non) (hs : n ≤ 1000 ∨ 4194304 < n) :
    Calls Try.prog 11 #[.slice A 32 c, .slice B m d, .int .i64 a, .int .i64 n] w fun e w' => ∃ A' c', e = .returned (.tuple #[.slice A' (sA (fnOf k) non m a n).length c', .int .i64 (sE m a n)]) ∧ IsBB w' w'.heap.size A' (sA (fnOf k) non m a n).length c' (sA (fnOf k) non m a n) ∧ Below w.heap.size w w' := by
  by_cases h : mayB m a n = true
  · obtain ⟨rfl, h2, h3, h4, h5⟩ := mayB_yes h
    obtain ⟨a', rfl⟩ : ∃ a' : Nat, a = (a' : Int) := ⟨a.toNat, by omega⟩
    obtain ⟨n', rfl⟩ : ∃ n' : Nat, n = (n' : Int) := ⟨n.toNat, by omega⟩
    have e1 : sA (fnOf k) non 8 a' n' = stL (fnOf k) non a' n' := by unfold sA; rw [if_pos h]; simp
    have e2 : sE 8 a' n' = 0 := by unfold sE; rw [if_pos h]
    rw [e1, e2, stL_len]
    exact RefStream_any A B c d k non a' n' w hk hn (by omega) (by omega)
  · have e1 : sA (fnOf k) non m a n = [] := by unfold sA; rw [if_neg h]
    have e2 : sE m a n = 2 := by unfold sE; rw [if_neg h]
    rw [e1, e2]
    refine (RefStream_bad A B m c d a n w (mayB_no h)).mono ?_
    rintro e w' ⟨rfl, rfl⟩
    exact ⟨_, _, rfl, isBB_nil w _, Below.refl _ _⟩
end Go.Proofs.Ytlgabihjfjlhkaa
