/-
  The document's Get, of any code of at most 8000 bytes at any of its places.
-/
import Derived.Test.YtdlmcfknmdaabaaRfg
import Derived.Test.YtdlmcfknmdaabaaRfh
import Derived.Test.YtdlmcfknmdaabaaRfi
namespace Go.Proofs.Ytdlmcfknmdaabaa
open Go.RowKit
set_option linter.unusedVariables false
set_option linter.unusedSimpArgs false

theorem k1 {o : Int} (h : cls o = 1) : ¬ reck o ∧ ¬ near o ∧ o ≠ 1 ∧ rB o 0 = 0 ∧ ∀ d, (okI o d 0 0 ↔ d = 0) := by
  have hc := cls_cases o
  rcases row_cases o 0 with ⟨r0, r1, r2, r3, r4, hh⟩ | ⟨r0, r1, r2, r3, r4, hh⟩ | ⟨r0, r1, r2, r3, r4, hh⟩ | ⟨r0, r1, r2, r3, r4, hh⟩ | ⟨r0, r1, r2, r3, r4, hh⟩ | ⟨r0, r1, r2, r3, r4, hh⟩ | ⟨r0, r1, r2, r3, r4, hh⟩ | ⟨r0, r1, r2, r3, r4, hh⟩ | ⟨r0, r1, r2, r3, r4, hh⟩ | ⟨r0, r1, r2, r3, r4, hh⟩ | ⟨r0, r1, r2, r3, r4, hh⟩
  all_goals first
    | (exfalso; omega)
    | (refine ⟨by unfold reck; omega, by unfold near; omega, by omega, by omega, fun d => ?_⟩
       unfold okI
       rw [r0, r1, r2, r3]
       unfold inn
       simp only [true_and]
       omega)
theorem k2 {o : Int} (h : cls o = 2) : ¬ reck o ∧ ¬ near o ∧ o = 1 ∧ rB o 0 = 1 ∧ ∀ d, (okI o d 0 0 ↔ 0 ≤ d ∧ d ≤ 6) := by
  have hc := cls_cases o
  rcases row_cases o 0 with ⟨r0, r1, r2, r3, r4, hh⟩ | ⟨r0, r1, r2, r3, r4, hh⟩ | ⟨r0, r1, r2, r3, r4, hh⟩ | ⟨r0, r1, r2, r3, r4, hh⟩ | ⟨r0, r1, r2, r3, r4, hh⟩ | ⟨r0, r1, r2, r3, r4, hh⟩ | ⟨r0, r1, r2, r3, r4, hh⟩ | ⟨r0, r1, r2, r3, r4, hh⟩ | ⟨r0, r1, r2, r3, r4, hh⟩ | ⟨r0, r1, r2, r3, r4, hh⟩ | ⟨r0, r1, r2, r3, r4, hh⟩
  all_goals first
    | (exfalso; omega)
    | (refine ⟨by unfold reck; omega, by unfold near; omega, by omega, by omega, fun d => ?_⟩
       unfold okI
       rw [r0, r1, r2, r3]
       unfold inn
       simp only [true_and]
       omega)
theorem k3 {o : Int} (h : cls o = 3) : ¬ reck o ∧ ¬ near o ∧ o ≠ 1 ∧ rB o 0 = 1 ∧ ∀ d, (okI o d 0 0 ↔ 0 ≤ d ∧ d ≤ 6) := by
  have hc := cls_cases o
  rcases row_cases o 0 with ⟨r0, r1, r2, r3, r4, hh⟩ | ⟨r0, r1, r2, r3, r4, hh⟩ | ⟨r0, r1, r2, r3, r4, hh⟩ | ⟨r0, r1, r2, r3, r4, hh⟩ | ⟨r0, r1, r2, r3, r4, hh⟩ | ⟨r0, r1, r2, r3, r4, hh⟩ | ⟨r0, r1, r2, r3, r4, hh⟩ | ⟨r0, r1, r2, r3, r4, hh⟩ | ⟨r0, r1, r2, r3, r4, hh⟩ | ⟨r0, r1, r2, r3, r4, hh⟩ | ⟨r0, r1, r2, r3, r4, hh⟩
  all_goals first
    | (exfalso; omega)
    | (refine ⟨by unfold reck; omega, by unfold near; omega, by omega, by omega, fun d => ?_⟩
       unfold okI
       rw [r0, r1, r2, r3]
       unfold inn
       simp only [true_and]
       omega)
theorem k4 {o : Int} (h : cls o = 4) : ¬ reck o ∧ ¬ near o ∧ o ≠ 1 ∧ rB o 0 = 0 ∧ ∀ d, (okI o d 0 0 ↔ 0 ≤ d ∧ d ≤ 6) := by
  have hc := cls_cases o
  rcases row_cases o 0 with ⟨r0, r1, r2, r3, r4, hh⟩ | ⟨r0, r1, r2, r3, r4, hh⟩ | ⟨r0, r1, r2, r3, r4, hh⟩ | ⟨r0, r1, r2, r3, r4, hh⟩ | ⟨r0, r1, r2, r3, r4, hh⟩ | ⟨r0, r1, r2, r3, r4, hh⟩ | ⟨r0, r1, r2, r3, r4, hh⟩ | ⟨r0, r1, r2, r3, r4, hh⟩ | ⟨r0, r1, r2, r3, r4, hh⟩ | ⟨r0, r1, r2, r3, r4, hh⟩ | ⟨r0, r1, r2, r3, r4, hh⟩
  all_goals first
    | (exfalso; omega)
    | (refine ⟨by unfold reck; omega, by unfold near; omega, by omega, by omega, fun d => ?_⟩
       unfold okI
       rw [r0, r1, r2, r3]
       unfold inn
       simp only [true_and]
       omega)
theorem k5b {o : Int} (h : cls o = 5) : reck o ∧ ¬ near o ∧ o ≠ 1 ∧ rB o 7 = 1 ∧ ∀ d, (okI o d 7 0 ↔ d = 0) := by
  have hc := cls_cases o
  rcases row_cases o 7 with ⟨r0, r1, r2, r3, r4, hh⟩ | ⟨r0, r1, r2, r3, r4, hh⟩ | ⟨r0, r1, r2, r3, r4, hh⟩ | ⟨r0, r1, r2, r3, r4, hh⟩ | ⟨r0, r1, r2, r3, r4, hh⟩ | ⟨r0, r1, r2, r3, r4, hh⟩ | ⟨r0, r1, r2, r3, r4, hh⟩ | ⟨r0, r1, r2, r3, r4, hh⟩ | ⟨r0, r1, r2, r3, r4, hh⟩ | ⟨r0, r1, r2, r3, r4, hh⟩ | ⟨r0, r1, r2, r3, r4, hh⟩
  all_goals first
    | (exfalso; omega)
    | (refine ⟨by unfold reck; omega, by unfold near; omega, by omega, by omega, fun d => ?_⟩
       unfold okI
       rw [r0, r1, r2, r3]
       unfold inn
       simp only [true_and]
       omega)
theorem k6 {o : Int} (h : cls o = 6) : ¬ reck o ∧ ¬ near o ∧ o ≠ 1 ∧ rB o 0 = 1 ∧ ∀ d, (okI o d 0 0 ↔ 0 ≤ d ∧ d ≤ 3) := by
  have hc := cls_cases o
  rcases row_cases o 0 with ⟨r0, r1, r2, r3, r4, hh⟩ | ⟨r0, r1, r2, r3, r4, hh⟩ | ⟨r0, r1, r2, r3, r4, hh⟩ | ⟨r0, r1, r2, r3, r4, hh⟩ | ⟨r0, r1, r2, r3, r4, hh⟩ | ⟨r0, r1, r2, r3, r4, hh⟩ | ⟨r0, r1, r2, r3, r4, hh⟩ | ⟨r0, r1, r2, r3, r4, hh⟩ | ⟨r0, r1, r2, r3, r4, hh⟩ | ⟨r0, r1, r2, r3, r4, hh⟩ | ⟨r0, r1, r2, r3, r4, hh⟩
  all_goals first
    | (exfalso; omega)
    | (refine ⟨by unfold reck; omega, by unfold near; omega, by omega, by omega, fun d => ?_⟩
       unfold okI
       rw [r0, r1, r2, r3]
       unfold inn
       simp only [true_and]
       omega)
theorem k7 {o : Int} (h : cls o = 7) : ¬ reck o ∧ ¬ near o ∧ o ≠ 1 ∧ rB o 0 = 1 ∧ ∀ d, (okI o d 0 0 ↔ d = 0) := by
  have hc := cls_cases o
  rcases row_cases o 0 with ⟨r0, r1, r2, r3, r4, hh⟩ | ⟨r0, r1, r2, r3, r4, hh⟩ | ⟨r0, r1, r2, r3, r4, hh⟩ | ⟨r0, r1, r2, r3, r4, hh⟩ | ⟨r0, r1, r2, r3, r4, hh⟩ | ⟨r0, r1, r2, r3, r4, hh⟩ | ⟨r0, r1, r2, r3, r4, hh⟩ | ⟨r0, r1, r2, r3, r4, hh⟩ | ⟨r0, r1, r2, r3, r4, hh⟩ | ⟨r0, r1, r2, r3, r4, hh⟩ | ⟨r0, r1, r2, r3, r4, hh⟩
  all_goals first
    | (exfalso; omega)
    | (refine ⟨by unfold reck; omega, by unfold near; omega, by omega, by omega, fun d => ?_⟩
       unfold okI
       rw [r0, r1, r2, r3]
       unfold inn
       simp only [true_and]
       omega)
theorem k8 {o : Int} (h : cls o = 8) : ¬ reck o ∧ near o ∧ o ≠ 1 ∧ rB o 0 = 1 ∧ ∀ d, (okI o d 0 0 ↔ d = 0) := by
  have hc := cls_cases o
  rcases row_cases o 0 with ⟨r0, r1, r2, r3, r4, hh⟩ | ⟨r0, r1, r2, r3, r4, hh⟩ | ⟨r0, r1, r2, r3, r4, hh⟩ | ⟨r0, r1, r2, r3, r4, hh⟩ | ⟨r0, r1, r2, r3, r4, hh⟩ | ⟨r0, r1, r2, r3, r4, hh⟩ | ⟨r0, r1, r2, r3, r4, hh⟩ | ⟨r0, r1, r2, r3, r4, hh⟩ | ⟨r0, r1, r2, r3, r4, hh⟩ | ⟨r0, r1, r2, r3, r4, hh⟩ | ⟨r0, r1, r2, r3, r4, hh⟩
  all_goals first
    | (exfalso; omega)
    | (refine ⟨by unfold reck; omega, by unfold near; omega, by omega, by omega, fun d => ?_⟩
       unfold okI
       rw [r0, r1, r2, r3]
       unfold inn
       simp only [true_and]
       omega)
theorem k9 {o : Int} (h : cls o = 9) : ¬ reck o ∧ ¬ near o ∧ o ≠ 1 ∧ rB o 0 = 2 ∧ ∀ d, (okI o d 0 0 ↔ d = 0) := by
  have hc := cls_cases o
  rcases row_cases o 0 with ⟨r0, r1, r2, r3, r4, hh⟩ | ⟨r0, r1, r2, r3, r4, hh⟩ | ⟨r0, r1, r2, r3, r4, hh⟩ | ⟨r0, r1, r2, r3, r4, hh⟩ | ⟨r0, r1, r2, r3, r4, hh⟩ | ⟨r0, r1, r2, r3, r4, hh⟩ | ⟨r0, r1, r2, r3, r4, hh⟩ | ⟨r0, r1, r2, r3, r4, hh⟩ | ⟨r0, r1, r2, r3, r4, hh⟩ | ⟨r0, r1, r2, r3, r4, hh⟩ | ⟨r0, r1, r2, r3, r4, hh⟩
  all_goals first
    | (exfalso; omega)
    | (refine ⟨by unfold reck; omega, by unfold near; omega, by omega, by omega, fun d => ?_⟩
       unfold okI
       rw [r0, r1, r2, r3]
       unfold inn
       simp only [true_and]
       omega)
theorem k5a {o s : Int} (h : cls o = 5) (h7 : s ≠ 7) (h0 : 0 ≤ s ∧ s ≤ 7) : reck o ∧ ¬ near o ∧ o ≠ 1 ∧ rB o s = 0 ∧ ∀ d, (okI o d s 0 ↔ d = 0) := by
  have hc := cls_cases o
  rcases row_cases o s with ⟨r0, r1, r2, r3, r4, hh⟩ | ⟨r0, r1, r2, r3, r4, hh⟩ | ⟨r0, r1, r2, r3, r4, hh⟩ | ⟨r0, r1, r2, r3, r4, hh⟩ | ⟨r0, r1, r2, r3, r4, hh⟩ | ⟨r0, r1, r2, r3, r4, hh⟩ | ⟨r0, r1, r2, r3, r4, hh⟩ | ⟨r0, r1, r2, r3, r4, hh⟩ | ⟨r0, r1, r2, r3, r4, hh⟩ | ⟨r0, r1, r2, r3, r4, hh⟩ | ⟨r0, r1, r2, r3, r4, hh⟩
  all_goals first
    | (exfalso; omega)
    | (refine ⟨by unfold reck; omega, by unfold near; omega, by omega, by omega, fun d => ?_⟩
       unfold okI
       rw [r0, r1, r2, r3]
       unfold inn
       simp only [true_and]
       omega)
theorem k0 {o : Int} (h : cls o = 0) (d s n : Int) : ¬ okI o d s n := by
  intro hk
  have := hk.1
  unfold rK at this
  rw [h] at this
  cases this
theorem RefGet_any (A : Option Addr) (n c : Nat) (l : List UInt8) (w : World) (h : IsBB w w.heap.size A n c l) (k : Nat) (hk : k < n) (hn : n ≤ 8000) :
    Calls Try.prog 20 #[.slice A n c, .int .i64 (k : Int)] w fun e w' => e = .returned (vG (getR l k)) ∧ Below w.heap.size w w' := by
  have hlen := h.len
  have hc := h.cap
  obtain ⟨ad, x, rfl, hx, hx8, CK⟩ := byte_at h k hk
  obtain ⟨o, hq⟩ : ∃ o, (x : Int) / 8 = o := ⟨_, rfl⟩
  obtain ⟨lw, hr⟩ : ∃ lw, (x : Int) % 8 = lw := ⟨_, rfl⟩
  have hlw : 0 ≤ lw ∧ lw ≤ 7 := by omega
  have ho : 0 ≤ o ∧ o ≤ 31 := by omega
  have hoG : oG x = o := hq
  have E : getR l k = (if okI o (dG x) (sG x) 0 then if (k : Int) + (1 + rB o (sG x)) ≤ n then if okI o (dG x) (gS x (gB l k (rB o (sG x)))) (gN x (gB l k (rB o (sG x))) ((k : Int) + (1 + rB o (sG x)))) then ⟨o, dG x, gS x (gB l k (rB o (sG x))), gN x (gB l k (rB o (sG x))) ((k : Int) + (1 + rB o (sG x))), (k : Int) + (1 + rB o (sG x)), 0⟩ else noG 110 else noG 12 else noG 110) := by
    unfold getR
    rw [if_pos (by rw [hlen]; omega)]
    simp only [Int.toNat_natCast, hx]
    unfold gEnd
    rw [hoG, hlen]
  have hgS : ∀ b, gS x b = if o = 1 then b else sG x := fun b => by unfold gS; rw [hoG]
  have hgN : ∀ b e, gN x b e = if o = 1 then 0 else if near o then e + i8 b else b := fun b e => by unfold gN; rw [hoG]
  have hdG : dG x = if reck o then 0 else lw := by unfold dG; rw [hq, hr]
  have hsG : sG x = if reck o then lw else 0 := by unfold sG; rw [hq, hr]
  rw [hgS, hgN, hdG, hsG] at E
  have B0 : k + 1 < n → ∃ y0 : Nat, gX l (k + 1) = (y0 : Int) ∧ y0 < 256 ∧ Hid (∀ W, Below w.heap.size w W → W.cell? (ad.add (k + 1)) = some (.int .u8 (y0 : Nat))) := fun h1 => by
    obtain ⟨ad', y, e, h2, h3, h4⟩ := byte_at h (k + 1) h1
    cases e
    exact ⟨y, h2, h3, hid h4⟩
  have B1 : k + 2 < n → ∃ y0 : Nat, gX l (k + 2) = (y0 : Int) ∧ y0 < 256 ∧ Hid (∀ W, Below w.heap.size w W → W.cell? (ad.add (k + 2)) = some (.int .u8 (y0 : Nat))) := fun h1 => by
    obtain ⟨ad', y, e, h2, h3, h4⟩ := byte_at h (k + 2) h1
    cases e
    exact ⟨y, h2, h3, hid h4⟩
  rcases cls_cases o with ⟨e, hcc⟩ | ⟨e, hcc⟩ | ⟨e, hcc⟩ | ⟨e, hcc⟩ | ⟨e, hcc⟩ | ⟨e, hcc⟩ | ⟨e, hcc⟩ | ⟨e, hcc⟩ | ⟨e, hcc⟩ | ⟨e, hcc⟩
  · obtain ⟨kr, kn, k1, kb, ko⟩ := k1 e
    rw [if_neg kr, if_neg kr, kb] at E
    by_cases hl : lw = 0
    · rw [hl, if_pos ((ko 0).2 rfl), if_neg k1, if_neg k1, if_neg kn] at E
      rw [if_pos (by omega), show gB l k 0 = 0 from rfl, show (k : Int) + (1 + 0) = ((k + 0 + 1 : Nat) : Int) by omega] at E
      rw [E]
      exact rg_1_ok ad n c w k x hk hn hc hx8 CK o lw hq hr e hl (by omega)
    · rw [if_neg (fun q => by have := (ko lw).1 q; omega)] at E
      rw [E]
      exact rg_1_bad ad n c w k x hk hn hc hx8 CK o lw hq hr e hl
  · obtain ⟨kr, kn, k1, kb, ko⟩ := k2 e
    rw [if_neg kr, if_neg kr, kb] at E
    by_cases hl : lw = 7
    · rw [if_neg (fun q => by have := (ko lw).1 q; omega)] at E
      rw [E]
      exact rg_2_bad ad n c w k x hk hn hc hx8 CK o lw hq hr e hl
    · rw [if_pos ((ko lw).2 (by omega)), if_pos k1, if_pos k1] at E
      by_cases hf : k + 1 < n
      · obtain ⟨y0, q1, q2, q3⟩ := B0 hf
        rw [if_pos (by omega), show gB l k 1 = (y0 : Int) from q1, show (k : Int) + (1 + 1) = ((k + 1 + 1 : Nat) : Int) by omega] at E
        rw [E]
        exact rg_2_ok ad n c w k x hk hn hc hx8 CK o lw hq hr e hl hf y0 q2 q3
      · rw [if_neg (by omega)] at E
        rw [E]
        exact rg_2_short ad n c w k x hk hn hc hx8 CK o lw hq hr e hl (by omega)
  · obtain ⟨kr, kn, k1, kb, ko⟩ := k3 e
    rw [if_neg kr, if_neg kr, kb] at E
    by_cases hl : lw = 7
    · rw [if_neg (fun q => by have := (ko lw).1 q; omega)] at E
      rw [E]
      exact rg_3_bad ad n c w k x hk hn hc hx8 CK o lw hq hr e hl
    · rw [if_pos ((ko lw).2 (by omega)), if_neg k1, if_neg k1, if_neg kn] at E
      by_cases hf : k + 1 < n
      · obtain ⟨y0, q1, q2, q3⟩ := B0 hf
        rw [if_pos (by omega), show gB l k 1 = (y0 : Int) from q1, show (k : Int) + (1 + 1) = ((k + 1 + 1 : Nat) : Int) by omega] at E
        rw [E]
        exact rg_3_ok ad n c w k x hk hn hc hx8 CK o lw hq hr e hl hf y0 q2 q3
      · rw [if_neg (by omega)] at E
        rw [E]
        exact rg_3_short ad n c w k x hk hn hc hx8 CK o lw hq hr e hl (by omega)
  · obtain ⟨kr, kn, k1, kb, ko⟩ := k4 e
    rw [if_neg kr, if_neg kr, kb] at E
    by_cases hl : lw = 7
    · rw [if_neg (fun q => by have := (ko lw).1 q; omega)] at E
      rw [E]
      exact rg_4_bad ad n c w k x hk hn hc hx8 CK o lw hq hr e hl
    · rw [if_pos ((ko lw).2 (by omega)), if_neg k1, if_neg k1, if_neg kn] at E
      rw [if_pos (by omega), show gB l k 0 = 0 from rfl, show (k : Int) + (1 + 0) = ((k + 0 + 1 : Nat) : Int) by omega] at E
      rw [E]
      exact rg_4_ok ad n c w k x hk hn hc hx8 CK o lw hq hr e hl (by omega)
  · by_cases h7 : lw = 7
    · obtain ⟨kr, kn, k1, kb, ko⟩ := k5b e
      rw [if_pos kr, if_pos kr, h7, kb, if_pos ((ko 0).2 rfl), if_neg k1, if_neg k1, if_neg kn] at E
      by_cases hf : k + 1 < n
      · obtain ⟨y0, q1, q2, q3⟩ := B0 hf
        rw [if_pos (by omega), show gB l k 1 = (y0 : Int) from q1, show (k : Int) + (1 + 1) = ((k + 1 + 1 : Nat) : Int) by omega] at E
        rw [E]
        exact rg_5b_ok ad n c w k x hk hn hc hx8 CK o lw hq hr e h7 hf y0 q2 q3
      · rw [if_neg (by omega)] at E
        rw [E]
        exact rg_5b_short ad n c w k x hk hn hc hx8 CK o lw hq hr e h7 (by omega)
    · obtain ⟨kr, kn, k1, kb, ko⟩ := k5a e h7 hlw
      rw [if_pos kr, if_pos kr, kb, if_pos ((ko 0).2 rfl), if_neg k1, if_neg k1, if_neg kn, if_pos (by omega), show gB l k 0 = 0 from rfl, show (k : Int) + (1 + 0) = ((k + 0 + 1 : Nat) : Int) by omega] at E
      rw [E]
      exact rg_5a_ok ad n c w k x hk hn hc hx8 CK o lw hq hr e h7 (by omega)
  · obtain ⟨kr, kn, k1, kb, ko⟩ := k6 e
    rw [if_neg kr, if_neg kr, kb] at E
    by_cases hl : 3 < lw
    · rw [if_neg (fun q => by have := (ko lw).1 q; omega)] at E
      rw [E]
      exact rg_6_bad ad n c w k x hk hn hc hx8 CK o lw hq hr e hl
    · rw [if_pos ((ko lw).2 (by omega)), if_neg k1, if_neg k1, if_neg kn] at E
      by_cases hf : k + 1 < n
      · obtain ⟨y0, q1, q2, q3⟩ := B0 hf
        rw [if_pos (by omega), show gB l k 1 = (y0 : Int) from q1, show (k : Int) + (1 + 1) = ((k + 1 + 1 : Nat) : Int) by omega] at E
        rw [E]
        exact rg_6_ok ad n c w k x hk hn hc hx8 CK o lw hq hr e hl hf y0 q2 q3
      · rw [if_neg (by omega)] at E
        rw [E]
        exact rg_6_short ad n c w k x hk hn hc hx8 CK o lw hq hr e hl (by omega)
  · obtain ⟨kr, kn, k1, kb, ko⟩ := k7 e
    rw [if_neg kr, if_neg kr, kb] at E
    by_cases hl : lw = 0
    · rw [hl, if_pos ((ko 0).2 rfl), if_neg k1, if_neg k1, if_neg kn] at E
      by_cases hf : k + 1 < n
      · obtain ⟨y0, q1, q2, q3⟩ := B0 hf
        rw [if_pos (by omega), show gB l k 1 = (y0 : Int) from q1, show (k : Int) + (1 + 1) = ((k + 1 + 1 : Nat) : Int) by omega] at E
        rw [E]
        exact rg_7_ok ad n c w k x hk hn hc hx8 CK o lw hq hr e hl hf y0 q2 q3
      · rw [if_neg (by omega)] at E
        rw [E]
        exact rg_7_short ad n c w k x hk hn hc hx8 CK o lw hq hr e hl (by omega)
    · rw [if_neg (fun q => by have := (ko lw).1 q; omega)] at E
      rw [E]
      exact rg_7_bad ad n c w k x hk hn hc hx8 CK o lw hq hr e hl
  · obtain ⟨kr, kn, k1, kb, ko⟩ := k8 e
    rw [if_neg kr, if_neg kr, kb] at E
    by_cases hl : lw = 0
    · rw [hl, if_pos ((ko 0).2 rfl), if_neg k1, if_neg k1, if_pos kn] at E
      by_cases hf : k + 1 < n
      · obtain ⟨y0, q1, q2, q3⟩ := B0 hf
        rw [if_pos (by omega), show gB l k 1 = (y0 : Int) from q1, show (k : Int) + (1 + 1) = ((k + 1 + 1 : Nat) : Int) by omega] at E
        by_cases h128 : 128 ≤ (y0 : Int)
        · rw [show i8 (y0 : Int) = (y0 : Int) - 256 from if_neg (by omega), show ((k + 1 + 1 : Nat) : Int) + ((y0 : Int) - 256) = (k : Int) + 2 + ((y0 : Int) - 256) by omega] at E
          rw [E]
          exact rg_8b_ok ad n c w k x hk hn hc hx8 CK o lw hq hr e hl hf y0 q2 q3 h128
        · rw [show i8 (y0 : Int) = (y0 : Int) from if_pos (by omega), show ((k + 1 + 1 : Nat) : Int) + (y0 : Int) = (k : Int) + 2 + (y0 : Int) by omega] at E
          rw [E]
          exact rg_8a_ok ad n c w k x hk hn hc hx8 CK o lw hq hr e hl hf y0 q2 q3 h128
      · rw [if_neg (by omega)] at E
        rw [E]
        exact rg_8_short ad n c w k x hk hn hc hx8 CK o lw hq hr e hl (by omega)
    · rw [if_neg (fun q => by have := (ko lw).1 q; omega)] at E
      rw [E]
      exact rg_8_bad ad n c w k x hk hn hc hx8 CK o lw hq hr e hl
  · obtain ⟨kr, kn, k1, kb, ko⟩ := k9 e
    rw [if_neg kr, if_neg kr, kb] at E
    by_cases hl : lw = 0
    · rw [hl, if_pos ((ko 0).2 rfl), if_neg k1, if_neg k1, if_neg kn] at E
      by_cases hf : k + 2 < n
      · obtain ⟨y0, q1, q2, q3⟩ := B0 (by omega)
        obtain ⟨y1, r1, r2, r3⟩ := B1 hf
        rw [if_pos (by omega), show gB l k 2 = (y0 : Int) * 256 + (y1 : Int) by unfold gB; rw [if_neg (by decide), if_neg (by decide), q1, r1], show (k : Int) + (1 + 2) = ((k + 2 + 1 : Nat) : Int) by omega] at E
        rw [E]
        exact rg_9_ok ad n c w k x hk hn hc hx8 CK o lw hq hr e hl hf y0 q2 q3 y1 r2 r3
      · rw [if_neg (by omega)] at E
        rw [E]
        exact rg_9_short ad n c w k x hk hn hc hx8 CK o lw hq hr e hl (by omega)
    · rw [if_neg (fun q => by have := (ko lw).1 q; omega)] at E
      rw [E]
      exact rg_9_bad ad n c w k x hk hn hc hx8 CK o lw hq hr e hl
  · rw [E, if_neg (k0 e _ _ _)]
    exact rg_0_bad ad n c w k x hk hn hc hx8 CK o lw hq hr e
end Go.Proofs.Ytdlmcfknmdaabaa
