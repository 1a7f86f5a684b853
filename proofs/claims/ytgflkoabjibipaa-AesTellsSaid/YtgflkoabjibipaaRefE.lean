/-
  The contract of the document's Encrypt.
-/
import Derived.Test.YtgflkoabjibipaaWith
import Derived.Test.YtgflkoabjibipaaWords
namespace Go.Proofs.Ytgflkoabjibipaa
open Go.RowKit

theorem outW_enc (K : Nat → Nat) (l : List UInt8) : outW K l = encL K l := rfl
theorem wordsAt_of {w w' : World} {v : Value} {K : Nat → Nat} (h : WordsSt w w' v K 60) : ∃ g c, v = .slice (some ⟨g, 0, none⟩) 60 c ∧ WordsAt w' g c K := by
  obtain ⟨vs, hv⟩ := h.wds
  obtain ⟨g, c, rfl, hg, hc⟩ := hv.cells (by omega)
  refine ⟨g, c, rfl, Nat.le_refl _, hg, fun i hi => ?_⟩
  obtain ⟨s, h1, ad, c2, rfl, h2, _, h3⟩ := hc i hi
  exact ⟨ad, c2, h1, h2, h3⟩
set_option maxRecDepth 10000 in
set_option maxHeartbeats 1000000 in
theorem RefEncrypt_bad (A B : Option Addr) (n c m d : Nat) (hn : ¬ (n = 32 ∧ m = 16)) (w : World) : Calls Try.prog 20 #[.slice A n c, .slice B m d] w fun e w' => e = .returned (.tuple #[.slice none 0 0, .int .i64 2]) ∧ w = w' := by
  by_cases h1 : n = 32
  · have h2 : ¬ (m : Int) = 16 := by omega
    subst h1
    go_enter Try.func20, Try.ntmps20
    go_wp2_with fail
    go_ret2
    exact ⟨rfl, rfl⟩
  · have h2 : ¬ (n : Int) = 32 := by omega
    go_enter Try.func20, Try.ntmps20
    go_wp2_with fail
    go_ret2
    exact ⟨rfl, rfl⟩
set_option maxRecDepth 10000 in
set_option maxHeartbeats 2000000 in
theorem RefEncrypt_any (A B : Option Addr) (c d : Nat) (k l : List UInt8) (w : World) (hk : IsBB w w.heap.size A 32 c k) (hl : IsBB w w.heap.size B 16 d l) :
    Calls Try.prog 20 #[.slice A 32 c, .slice B 16 d] w fun e w' => ∃ A' c', e = .returned (.tuple #[.slice A' 16 c', .int .i64 0]) ∧ IsBB w' w'.heap.size A' 16 c' (encL (fnOf k) l) ∧ Below w.heap.size w w' := by
  have hkl := hk.len
  have hll := hl.len
  obtain ⟨kad, rfl, _⟩ := hk.lies (by omega)
  obtain ⟨bad, rfl, _⟩ := hl.lies (by omega)
  have HK := hid hk
  have HL := hid hl
  have hkk : ∀ j, j < 32 → fnOf k j < 256 := fun j _ => fnOf_lt k j
  clear hk hl hkl hll
  go_enter Try.func20, Try.ntmps20
  go_upto_region 4 with (go_at_call 11; refine (Table_any _).mono ?_; rintro e W1 ⟨v1, rfl, hT1⟩; obtain ⟨A1, c1, he1, hI1⟩ := hT1.isBB (by rw [tabL_len]; omega); rw [tabL_len] at he1 hI1; subst he1; have HI1 := hid hI1; have HB1 := hid hT1.bel; clear hT1 hI1)
  obtain ⟨s1, he1, _⟩ := HI1.out.lies (by rw [tabL_len]; omega)
  subst he1
  have K1 := hid (HK.out.on HB1.out)
  have L1 := hid (HL.out.on HB1.out)
  clear HK HL
  go_wp2_with (first
    | (go_at_call 36; refine (Words_any kad s1 c c1 k _ K1.out HI1.out).mono ?_; rintro e W2 ⟨v2, rfl, hW2⟩; have hb2 := hW2.bel; obtain ⟨g2, c2, he2, hw2⟩ := wordsAt_of hW2; subst he2; have HW2 := hid hw2; have HI2 := hid (HI1.out.on hb2); have L2 := hid (L1.out.on hb2); have HB2 := hid (bel_trans HB1.out hb2); clear hb2 hW2 hw2 HI1 K1 L1 HB1)
    | (go_at_call 35; refine (With_any s1 bad c1 d g2 c2 l _ _ hkk HW2.out HI2.out L2.out).mono ?_; rintro e W3 ⟨v3, rfl, hO3⟩; rw [outW_enc] at hO3; obtain ⟨A3, c3, he3, hI3⟩ := hO3.isBB (by unfold encL; rw [outL_len]; omega); rw [show (encL (fnOf k) l).length = 16 from outL_len _] at he3 hI3; subst he3; have HI3 := hid hI3; have HB3 := hid (bel_trans HB2.out hO3.bel); clear hO3 hI3 HW2 HI2 L2 HB2))
  go_ret2
  exact ⟨A3, c3, rfl, HI3.out, HB3.out⟩
end Go.Proofs.Ytgflkoabjibipaa
