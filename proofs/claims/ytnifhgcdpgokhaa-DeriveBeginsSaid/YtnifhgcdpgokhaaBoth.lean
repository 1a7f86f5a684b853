/-
  Pbkdf2 and the document's, for any rounds and length: one contract each.
-/
import Derived.Test.YtnifhgcdpgokhaaPbk
import Derived.Test.YtnifhgcdpgokhaaRefP
namespace Go.Proofs.Ytnifhgcdpgokhaa
open Go.RowKit

/-- The first bytes of a slice of any length that came in. -/
theorem isBB_cut {w : World} {a : Option Addr} {len cap : Nat} {zs : List Int} (h : IsRow w a len cap zs) (m : Nat) (hm : m ≤ 1000) : ∃ l, IsBB w w.heap.size a (min len m) cap l := by
  refine isBB_of_row (zs := zs) ?_ (by omega)
  rcases h with ⟨rfl, rfl, rfl, rfl⟩ | ⟨x, rfl, hl, hx, hz, hc, hw⟩
  · exact .inl ⟨rfl, by omega, rfl, rfl⟩
  · exact .inr ⟨x, rfl, by omega, hx, hz, hc, hw⟩
theorem row_cap {w : World} {a : Option Addr} {len cap : Nat} {zs : List Int} (h : IsRow w a len cap zs) : len ≤ cap ∧ cap ≤ maxLen := by
  rcases h with ⟨rfl, rfl, rfl, rfl⟩ | ⟨x, rfl, hl, hx, _⟩
  · exact ⟨Nat.le_refl _, Nat.zero_le _⟩
  · exact ⟨hl, hx⟩
def okB (r N : Int) : Bool := decide (1 ≤ r ∧ r ≤ 1000 ∧ 0 ≤ N ∧ N ≤ 1024)
def pE (r N : Int) : Int := if okB r N = true then 0 else 2
def pA (l s : List UInt8) (r N : Int) : List UInt8 := if okB r N = true then pbk l s r.toNat N.toNat else []
theorem pE_yes {r N : Int} (h : okB r N = true) : pE r N = 0 := by unfold pE; rw [if_pos h]
theorem pE_no {r N : Int} (h : ¬ okB r N = true) : pE r N = 2 := by unfold pE; rw [if_neg h]
theorem pA_yes {l s : List UInt8} {r N : Int} (h : okB r N = true) : pA l s r N = pbk l s r.toNat N.toNat := by unfold pA; rw [if_pos h]
theorem pA_no {l s : List UInt8} {r N : Int} (h : ¬ okB r N = true) : pA l s r N = [] := by unfold pA; rw [if_neg h]

theorem Pbkdf2_all (A B : Option Addr) (l s : List UInt8) (n c m d : Nat) (r N : Int) (w : World) (h : IsBB w w.heap.size A n c l) (hb : IsBB w w.heap.size B m d s) :
    Calls Try.prog 6 #[.slice A n c, .slice B m d, .int .i64 r, .int .i64 N] w fun e w' => ∃ A2 c2, e = .returned (.tuple #[.slice A2 (pA l s r N).length c2, .int .i64 (pE r N)]) ∧ IsBB w' w'.heap.size A2 (pA l s r N).length c2 (pA l s r N) ∧ Below w.heap.size w w' := by
  by_cases h0 : okB r N = true
  · have h1 := of_decide_eq_true h0
    obtain ⟨r', rfl⟩ : ∃ r' : Nat, r = (r' : Int) := ⟨r.toNat, by omega⟩
    obtain ⟨N', rfl⟩ : ∃ N' : Nat, N = (N' : Int) := ⟨N.toNat, by omega⟩
    rw [pE_yes h0, pA_yes h0, Int.toNat_natCast, Int.toNat_natCast, pbk_len _ _ _ _ (by omega)]
    exact (Pbkdf2_yes A B l s n c m d r' N' w h hb (by omega) (by omega) (by omega)).mono fun e w' ⟨g, he, hN⟩ => ⟨_, _, he, hN.isBB, hN.bel⟩
  · have h1 : ¬ (1 ≤ r ∧ r ≤ 1000 ∧ 0 ≤ N ∧ N ≤ 1024) := fun q => h0 (decide_eq_true q)
    rw [pE_no h0, pA_no h0]
    exact (Pbkdf2_no A B n c m d r N w (by omega)).mono fun e w' ⟨he, hb⟩ => ⟨_, _, he, isBB_nil _ _, hb⟩
theorem RefPbk_all (A B : Option Addr) (l s : List UInt8) (n c m d : Nat) (r N : Int) (w : World) (h : IsBB w w.heap.size A n c l) (hb : IsBB w w.heap.size B m d s) (hn : n ≤ 1000000) (hm : m ≤ 1000000) :
    Calls Try.prog 7 #[.slice A n c, .slice B m d, .int .i64 r, .int .i64 N] w fun e w' => ∃ A2 c2, e = .returned (.tuple #[.slice A2 (pA l s r N).length c2, .int .i64 (pE r N)]) ∧ IsBB w' w'.heap.size A2 (pA l s r N).length c2 (pA l s r N) ∧ Below w.heap.size w w' := by
  by_cases h0 : okB r N = true
  · have h1 := of_decide_eq_true h0
    obtain ⟨r', rfl⟩ : ∃ r' : Nat, r = (r' : Int) := ⟨r.toNat, by omega⟩
    obtain ⟨N', rfl⟩ : ∃ N' : Nat, N = (N' : Int) := ⟨N.toNat, by omega⟩
    rw [pE_yes h0, pA_yes h0, Int.toNat_natCast, Int.toNat_natCast, pbk_len _ _ _ _ (by omega)]
    exact (RefPbk_yes A B l s n c m d r' N' w h hb hn hm (by omega) (by omega) (by omega)).mono fun e w' ⟨A2, c2, he, hI, hb⟩ => ⟨_, _, he, hI, hb⟩
  · have h1 : ¬ (1 ≤ r ∧ r ≤ 1000 ∧ 0 ≤ N ∧ N ≤ 1024) := fun q => h0 (decide_eq_true q)
    rw [pE_no h0, pA_no h0]
    exact (RefPbk_no A B n c m d r N w (by omega)).mono fun e w' ⟨he, hb⟩ => ⟨_, _, he, isBB_nil _ _, hb⟩
end Go.Proofs.Ytnifhgcdpgokhaa
