/-
  Get, of any bytes at any place.
-/
import Derived.Test.YtaogileaeflnfaaGta
import Derived.Test.YtaogileaeflnfaaGtb
import Derived.Test.YtaogileaeflnfaaGtc
namespace Go.Proofs.Ytaogileaeflnfaa
open Go.RowKit

theorem Get_any (A : Option Addr) (n c : Nat) (l : List UInt8) (w : World) (h : IsBB w w.heap.size A n c l) (k : Int) :
    Calls Try.prog 52 #[.slice A n c, .int .i64 k] w fun e w' => e = .returned (vG (getR l k)) ∧ Below w.heap.size w w' := by
  have hlen := h.len
  by_cases h1 : 0 ≤ k ∧ k < n ∧ k ≤ 65535
  case neg =>
    rw [show getR l k = noG 2 from if_neg (by rw [hlen]; exact h1)]
    exact get_far A n c k w h.small h1
  obtain ⟨j, rfl⟩ : ∃ j : Nat, k = j := ⟨k.toNat, by omega⟩
  have hj : j < n := by omega
  have hj6 : j ≤ 65535 := by omega
  obtain ⟨x, hx⟩ : ∃ x : Nat, gX l j = (x : Int) := ⟨(l.getD j 0).toNat, rfl⟩
  obtain ⟨o, ho⟩ : ∃ o, oG x = o := ⟨_, rfl⟩
  obtain ⟨d, hd⟩ : ∃ d, dG x = d := ⟨_, rfl⟩
  obtain ⟨s, hs⟩ : ∃ s, sG x = s := ⟨_, rfl⟩
  have E : getR l j = (if okI o d s 0 then if (j : Int) + (1 + rB o s) ≤ n then if okI o d (gS x (gB l j (rB o s))) (gN x (gB l j (rB o s)) ((j : Int) + (1 + rB o s))) then ⟨o, d, gS x (gB l j (rB o s)), gN x (gB l j (rB o s)) ((j : Int) + (1 + rB o s)), (j : Int) + (1 + rB o s), 0⟩ else noG 110 else noG 12 else noG 110) := by
    unfold getR
    rw [if_pos (by rw [hlen]; exact h1)]
    simp only [Int.toNat_natCast, hx]
    unfold gEnd
    rw [ho, hd, hs, hlen]
  by_cases hok : okI o d s 0
  case neg =>
    rw [E, if_neg hok]
    exact get_code A n c l w h j x hj hj6 hx o d s ho hd hs hok
  rw [if_pos hok] at E
  have hb := rB_in o s
  have S : ∀ b, gS x b = if o = 1 then b else s := fun b => by unfold gS; rw [ho, hs]
  have N : ∀ b e, gN x b e = if o = 1 then 0 else if near o then e + i8 b else b := fun b e => by unfold gN; rw [ho]
  rcases (by omega : rB o s = 0 ∨ rB o s = 1 ∨ rB o s = 2) with e | e | e
  · have o1 : o ≠ 1 := fun hh => by rw [hh, show rB 1 s = 1 from rfl] at e; exact absurd e (by decide)
    have hnr : ¬ near o := fun hh => by rw [near_rB hh] at e; exact absurd e (by decide)
    rw [e, S, N, if_neg o1, if_neg o1, if_neg hnr, if_pos (by omega), show gB l j 0 = 0 from rfl, if_pos hok] at E
    rw [E, show (j : Int) + (1 + 0) = ((j + 1 : Nat) : Int) by omega]
    exact get_else0_y A n c l w h j x hj hj6 hx o d s ho hd hs hok e (by omega) o1 hnr 0 (hid rfl) hok
  · by_cases hf : j + 2 ≤ n
    case neg =>
      rw [e, if_neg (by omega)] at E
      rw [E]
      exact get_short1 A n c l w h j x hj hj6 hx o d s ho hd hs hok e hf
    rw [e, if_pos (by omega), show (j : Int) + (1 + 1) = ((j + 2 : Nat) : Int) by omega, S, N] at E
    obtain ⟨b, hbb⟩ : ∃ b, gB l j 1 = b := ⟨_, rfl⟩
    rw [hbb] at E
    by_cases o1 : o = 1
    · rw [if_pos o1, if_pos o1] at E
      by_cases hfin : okI o d b 0
      · rw [E, if_pos hfin]
        exact get_set1_y A n c l w h j x hj hj6 hx o d s ho hd hs hok e hf o1 b (hid hbb) hfin
      · rw [E, if_neg hfin]
        exact get_set1_n A n c l w h j x hj hj6 hx o d s ho hd hs hok e hf o1 b (hid hbb) hfin
    rw [if_neg o1, if_neg o1] at E
    by_cases hnr : near o
    · rw [if_pos hnr] at E
      by_cases hfin : okI o d s (((j + 2 : Nat) : Int) + i8 b)
      · rw [E, if_pos hfin]
        exact get_near1_y A n c l w h j x hj hj6 hx o d s ho hd hs hok e hf o1 hnr b (hid hbb) hfin
      · rw [E, if_neg hfin]
        exact get_near1_n A n c l w h j x hj hj6 hx o d s ho hd hs hok e hf o1 hnr b (hid hbb) hfin
    · rw [if_neg hnr] at E
      by_cases hfin : okI o d s b
      · rw [E, if_pos hfin]
        exact get_else1_y A n c l w h j x hj hj6 hx o d s ho hd hs hok e hf o1 hnr b (hid hbb) hfin
      · rw [E, if_neg hfin]
        exact get_else1_n A n c l w h j x hj hj6 hx o d s ho hd hs hok e hf o1 hnr b (hid hbb) hfin
  · have o1 : o ≠ 1 := fun hh => by rw [hh, show rB 1 s = 1 from rfl] at e; exact absurd e (by decide)
    have hnr : ¬ near o := fun hh => by rw [near_rB hh] at e; exact absurd e (by decide)
    by_cases hf : j + 3 ≤ n
    case neg =>
      rw [e, if_neg (by omega)] at E
      rw [E]
      exact get_short2 A n c l w h j x hj hj6 hx o d s ho hd hs hok e hf
    rw [e, if_pos (by omega), show (j : Int) + (1 + 2) = ((j + 3 : Nat) : Int) by omega, S, N, if_neg o1, if_neg o1, if_neg hnr] at E
    obtain ⟨b, hbb⟩ : ∃ b, gB l j 2 = b := ⟨_, rfl⟩
    rw [hbb] at E
    by_cases hfin : okI o d s b
    · rw [E, if_pos hfin]
      exact get_else2_y A n c l w h j x hj hj6 hx o d s ho hd hs hok e hf o1 hnr b (hid hbb) hfin
    · rw [E, if_neg hfin]
      exact get_else2_n A n c l w h j x hj hj6 hx o d s ho hd hs hok e hf o1 hnr b (hid hbb) hfin
end Go.Proofs.Ytaogileaeflnfaa
