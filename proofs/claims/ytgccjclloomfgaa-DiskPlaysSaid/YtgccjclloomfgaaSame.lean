/-
  The contract of SameBytes for two lists of one length: are they the same?
-/
import Derived.Test.YtgccjclloomfgaaLent
import Derived.BigQuiet
import Derived.Outline
namespace Go.Proofs.Ytgccjclloomfgaa
open Go.RowKit

theorem take_ext {l l2 : List UInt8} {n : Nat} (h1 : l.length = n) (h2 : l2.length = n) (h : ∀ j (a : j < l.length) (b : j < l2.length), l[j] = l2[j]) : l = l2 := by
  apply List.ext_getElem
  · omega
  · exact h
set_option maxHeartbeats 1000000 in
set_option maxRecDepth 10000 in
theorem Equal_any (A B : Option Addr) (l l2 : List UInt8) (n c d : Nat) (w : World) (h1 : IsB w A n c l) (h2 : IsB w B n d l2) :
    Calls Try.prog 53 #[.slice A n c, .slice B n d] w fun e w' => e = .returned (.bool (l == l2)) ∧ ∃ k, w' = w.drewN k := by
  have hx := h1.max
  have hs := h1.small
  have hnc := h1.cap
  have hnd := h2.cap
  have L1 := hid h1.len
  have L2 := hid h2.len
  unfold maxLen at hx
  go_enter Try.func53, Try.ntmps53
  go_wp2_with fail
  go_loopw [13] (fun i wr => ∃ k j : Nat, k ≤ n ∧ i = .int .i64 k ∧ wr = w.drewN j ∧ Hid (∀ t (a : t < l.length) (b : t < l2.length), t < k → l[t] = l2[t])) (fun i _ => n - (intOf i).toNat)
  case atStart => exact ⟨0, 0, Nat.zero_le _, rfl, rfl, fun t _ _ h => by omega⟩
  case round =>
    obtain ⟨k, j, hk, rfl, rfl, hpre⟩ := hrel
    by_cases hlt : k < n
    · have hk1 : k < l.length := by rw [L1.out]; exact hlt
      have hk2 : k < l2.length := by rw [L2.out]; exact hlt
      obtain ⟨ad, rfl, ha⟩ := h1.lies (by rw [h1.len]; omega)
      obtain ⟨bd, rfl, hb⟩ := h2.lies (by rw [h2.len]; omega)
      have ca := ha k hk1
      have cb := hb k hk2
      clear ha hb h1 h2
      have hkz : (k : Int) < (n : Int) := by omega
      by_cases hy : l[k] = l2[k]
      · rw [← hy] at cb
        have hpn : Hid (∀ t (a : t < l.length) (b : t < l2.length), t < k + 1 → l[t] = l2[t]) := by
          intro t a b ht
          by_cases e : t = k
          · subst e; exact hy
          · exact hpre.out t a b (by omega)
        generalize l[k].toNat = y at ca cb
        clear hpre hy
        go_wp2_with fail
        go_quiet (fail)
        go_wp2
        go_roundw
        case rel => exact ⟨k + 1, _, by omega, by go_num, rfl, hpn⟩
        case measure => simp [intOf]; omega
      · have hne : ¬ (l[k].toNat : Int) = (l2[k].toNat : Int) := fun e => hy (UInt8.toNat_inj.1 (by omega))
        have hfin : Hid ((l == l2) = false) := by
          show (l == l2) = false
          rw [beq_eq_false_iff_ne]
          intro e
          subst e
          exact hy rfl
        generalize l[k].toNat = y at ca hne
        generalize l2[k].toNat = y2 at cb hne
        clear hpre hy
        go_wp2_with fail
        go_quiet (fail)
        go_wp2
        go_ret
        rw [hfin.out]
        exact ⟨rfl, _, World.drewN_drewN _ _ _⟩
    · obtain rfl : k = n := by omega
      have hfin : Hid ((l == l2) = true) := by
        show (l == l2) = true
        rw [beq_iff_eq]
        exact take_ext L1.out L2.out fun t a b => hpre.out t a b (by have := L1.out; omega)
      go_wp2
      go_ret
      rw [hfin.out]
      exact ⟨rfl, j, rfl⟩
set_option maxHeartbeats 400000 in
theorem SameBytes_any (A B : Option Addr) (l l2 : List UInt8) (n c d : Nat) (w : World) (h1 : IsB w A n c l) (h2 : IsB w B n d l2) :
    Calls Try.prog 32 #[.slice A n c, .slice B n d] w fun e w' => e = .returned (.bool (l == l2)) ∧ ∃ k, w' = w.drewN k := by
  go_enter Try.func32, Try.ntmps32
  go_wp2_with (go_at_call 53; refine (Equal_any _ _ _ _ _ _ _ _ h1 h2).mono ?_; rintro e w' ⟨rfl, k, rfl⟩)
  go_ret
  exact ⟨rfl, k, rfl⟩
theorem SameBytes_true (A B : Option Addr) (l : List UInt8) (n c d : Nat) (w : World) (h1 : IsB w A n c l) (h2 : IsB w B n d l) :
    Calls Try.prog 32 #[.slice A n c, .slice B n d] w fun e w' => e = .returned (.bool true) ∧ ∃ k, w' = w.drewN k :=
  (SameBytes_any A B l l n c d w h1 h2).mono fun _ _ h => ⟨by rw [h.1]; simp, h.2⟩
end Go.Proofs.Ytgccjclloomfgaa
