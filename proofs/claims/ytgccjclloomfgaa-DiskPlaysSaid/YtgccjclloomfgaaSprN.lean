/-
  What DiskSpares' walk wants: lists in intervals of blocks, CopyBytes, ApartBytes of five lists.
-/
import Derived.Test.YtgccjclloomfgaaSeg
import Derived.Test.YtgccjclloomfgaaApart
namespace Go.Proofs.Ytgccjclloomfgaa
open Go.RowKit

set_option maxHeartbeats 400000 in
theorem CopyBytes_any (A : Option Addr) (l : List UInt8) (n c : Nat) (w : World) (h : IsBB w w.heap.size A n c l) :
    Calls Try.prog 37 #[.slice A n c] w fun e w' => ∃ v, e = .returned v ∧ w'.ownsRow w.heap.size 5 1 v n (l.map bv) ∧ Below w.heap.size w w' := by
  go_enter Try.func37, Try.ntmps37
  go_wp2_with (go_at_call 54; refine (own_any _ _ _ _ _ h).mono ?_; rintro e w1 ⟨v, rfl, hown, hbel⟩)
  go_ret
  exact ⟨_, rfl, hown, hbel⟩
/-- A list of n bytes in a block of its own, from lo on and below hi; or none. -/
def LsI (w : World) (A : Option Addr) (n c lo hi : Nat) : Prop := (∃ g, A = some ⟨g, 0, none⟩ ∧ RowAt w g c ∧ n ≤ c ∧ c ≤ maxLen ∧ lo ≤ g ∧ g < hi) ∨ (A = none ∧ n = 0 ∧ c = 0)
theorem LsI.of_own {w : World} {A : Option Addr} {n c lo : Nat} {xs : List Value} (h : w.ownsRow lo 5 1 (.slice A n c) n xs) : LsI w A n c lo w.heap.size := by
  rcases h.2 with ⟨h1, h2⟩ | ⟨g, cap, cur, hv, hg, hh, hc, hm, hs, _⟩
  · injection h1 with e1 e2 e3
    exact .inr ⟨e1, h2, e3⟩
  · injection hv with e1 e2 e3
    subst e3
    exact .inl ⟨g, e1, ⟨cur, hh, by omega⟩, hc, hm, hg, lt_of_heap hh⟩
theorem LsI.but {w w' : World} {T : Nat → Prop} {A : Option Addr} {n c lo hi : Nat} (h : LsI w A n c lo hi) (b : But T w w') (hT : ∀ i, lo ≤ i → i < hi → ¬ T i) (hh : hi ≤ w.heap.size) : LsI w' A n c lo hi := by
  rcases h with ⟨g, h1, h2, h3, h4, h5, h6⟩ | h
  · exact .inl ⟨g, h1, h2.to (b.block g (by omega) (hT g h5 h6)), h3, h4, h5, h6⟩
  · exact .inr h
theorem LsI.below {w w' : World} {A : Option Addr} {n c lo hi : Nat} (h : LsI w A n c lo hi) (b : Below w.heap.size w w') (hh : hi ≤ w.heap.size) : LsI w' A n c lo hi := h.but (T := fun _ => False) (.of_below b) (fun _ _ _ h => h) hh
def five {α : Type} (z a b c d e : α) : Nat → α := fun k => [a, b, c, d, e].getD k z
theorem five_cases (k : Nat) (h : k < 5) : k = 0 ∨ k = 1 ∨ k = 2 ∨ k = 3 ∨ k = 4 := by omega
theorem LsI.pick {w : World} {A : Option Addr} {n c lo hi : Nat} (h : LsI w A n c lo hi) (dummy : Nat) : ∃ g, (A = some ⟨g, 0, none⟩ ∨ (A = none ∧ n = 0 ∧ c = 0)) ∧ (n ≤ c ∧ c ≤ maxLen) ∧ ((lo ≤ g ∧ g < hi) ∨ g = dummy) ∧ (A ≠ none → RowAt w g c ∧ lo ≤ g ∧ g < hi) := by
  rcases h with ⟨g, h1, h2, h3, h4, h5, h6⟩ | ⟨h1, h2, h3⟩
  · exact ⟨g, .inl h1, ⟨h3, h4⟩, .inl ⟨h5, h6⟩, fun _ => ⟨h2, h5, h6⟩⟩
  · exact ⟨dummy, .inr ⟨h1, h2, h3⟩, ⟨by omega, by omega⟩, .inr rfl, fun e => absurd h1 e⟩
theorem spares_apart (n G : Nat) (A0 A1 A2 A3 A4 : Option Addr) (c0 c1 c2 c3 c4 l0 h0 l1 h1 l2 h2 l3 h3 l4 h4 : Nat) (W : World) (hn : n ≤ 3000)
    (L0 : LsI W A0 n c0 l0 h0) (L1 : LsI W A1 n c1 l1 h1) (L2 : LsI W A2 n c2 l2 h2) (L3 : LsI W A3 n c3 l3 h3) (L4 : LsI W A4 n c4 l4 h4)
    (ho : h0 ≤ l1 ∧ h1 ≤ l2 ∧ h2 ≤ l3 ∧ h3 ≤ l4 ∧ h4 ≤ G) (ho2 : l0 ≤ h0 ∧ l1 ≤ h1 ∧ l2 ≤ h2 ∧ l3 ≤ h3 ∧ l4 ≤ h4) (hG : G + 1 = W.heap.size)
    (hh : W.heap[G]? = some (.cells #[.slice A0 n c0, .slice A1 n c1, .slice A2 n c2, .slice A3 n c3, .slice A4 n c4] 27 (0, 0))) :
    Calls Try.prog 38 #[.slice (some ⟨G, 0, none⟩) 5 5] W fun e w' => e = .returned (.bool true) ∧ ∃ T : Nat → Prop, But T W w' ∧ ∀ i, T i → (l0 ≤ i ∧ i < h0) ∨ (l1 ≤ i ∧ i < h4) ∨ G < i := by
  obtain ⟨g0, v0, k0, r0, q0⟩ := L0.pick (G + 10)
  obtain ⟨g1, v1, k1, r1, q1⟩ := L1.pick (G + 11)
  obtain ⟨g2, v2, k2, r2, q2⟩ := L2.pick (G + 12)
  obtain ⟨g3, v3, k3, r3, q3⟩ := L3.pick (G + 13)
  obtain ⟨g4, v4, k4, r4, q4⟩ := L4.pick (G + 14)
  have hA : ApL 5 G (five none A0 A1 A2 A3 A4) (five 0 g0 g1 g2 g3 g4) (five 0 n n n n n) (five 0 c0 c1 c2 c3 c4) W := by
    refine ⟨fun k hk => ?_, by omega, fun k hk => ?_, fun p q hp hq hne => ?_, fun k hk => ?_, fun k hk hd => ?_, by omega, fun k hk => ?_⟩
    · rcases five_cases k hk with rfl | rfl | rfl | rfl | rfl
      · exact v0
      · exact v1
      · exact v2
      · exact v3
      · exact v4
    · rcases five_cases k hk with rfl | rfl | rfl | rfl | rfl
      · exact ⟨k0.1, k0.2, by show n ≤ _; omega⟩
      · exact ⟨k1.1, k1.2, by show n ≤ _; omega⟩
      · exact ⟨k2.1, k2.2, by show n ≤ _; omega⟩
      · exact ⟨k3.1, k3.2, by show n ≤ _; omega⟩
      · exact ⟨k4.1, k4.2, by show n ≤ _; omega⟩
    · rcases five_cases p hp with rfl | rfl | rfl | rfl | rfl <;> rcases five_cases q hq with rfl | rfl | rfl | rfl | rfl <;> simp only [five, List.getD_cons_zero, List.getD_cons_succ] <;> omega
    · rcases five_cases k hk with rfl | rfl | rfl | rfl | rfl <;> simp only [five, List.getD_cons_zero, List.getD_cons_succ] <;> omega
    · rcases five_cases k hk with rfl | rfl | rfl | rfl | rfl
      · exact (q0 hd).1.lt
      · exact (q1 hd).1.lt
      · exact (q2 hd).1.lt
      · exact (q3 hd).1.lt
      · exact (q4 hd).1.lt
    · rw [row_cell hh k]
      rcases five_cases k hk with rfl | rfl | rfl | rfl | rfl <;> rfl
  refine (Apart_any 5 G _ _ _ _ W hA fun k hk hd => ?_).mono ?_
  · rcases five_cases k hk with rfl | rfl | rfl | rfl | rfl
    · exact (q0 hd).1
    · exact (q1 hd).1
    · exact (q2 hd).1
    · exact (q3 hd).1
    · exact (q4 hd).1
  · rintro e w' ⟨rfl, sp⟩
    refine ⟨rfl, fun i => ∃ k, k < 5 ∧ i = five 0 g0 g1 g2 g3 g4 k, ⟨sp.os, sp.tape, sp.output, sp.size, fun i hi hT => sp.block i hi fun k hk e => hT ⟨k, hk, e⟩⟩, ?_⟩
    rintro i ⟨k, hk, rfl⟩
    rcases five_cases k hk with rfl | rfl | rfl | rfl | rfl <;> simp only [five, List.getD_cons_zero, List.getD_cons_succ] <;> omega
end Go.Proofs.Ytgccjclloomfgaa
