/-
  The document's letter, digit, stands, Signs (written by tools/stage18/gen_rff.py).
-/
import Derived.Test.YtnjknjbffgjelaaDoorTok
set_option linter.unusedVariables false
set_option linter.unusedSimpArgs false
namespace Go.Proofs.YtnjknjbffgjelaaDoor
open Go.RowKit

set_option maxRecDepth 10000 in
theorem letter_any (w : World) (c : UInt8) : Calls Tryd.prog 12 #[.int .u8 (c.toNat : Nat)] w fun e w' => e = .returned (.bool (isLetter c)) ∧ w' = w := by
  unfold isLetter
  by_cases h1 : 97 ≤ c.toNat
  · rw [decide_eq_true h1]
    have d1 : decide ((97 : Int) ≤ (c.toNat : Int)) = true := decide_eq_true (by omega)
    by_cases h2 : c.toNat ≤ 122
    · rw [decide_eq_true h2]
      have d2 : decide ((c.toNat : Int) ≤ (122 : Int)) = true := decide_eq_true (by omega)
      clear h1 h2
      go_enter Tryd.func12, Tryd.ntmps12
      go_wp2_with fail
      go_ret
      exact ⟨rfl, rfl⟩
    · rw [decide_eq_false h2]
      have d2 : decide ((c.toNat : Int) ≤ (122 : Int)) = false := decide_eq_false (by omega)
      clear h1 h2
      go_enter Tryd.func12, Tryd.ntmps12
      go_wp2_with fail
      go_ret
      exact ⟨rfl, rfl⟩
  · rw [decide_eq_false h1]
    have d1 : decide ((97 : Int) ≤ (c.toNat : Int)) = false := decide_eq_false (by omega)
    clear h1
    go_enter Tryd.func12, Tryd.ntmps12
    go_wp2_with fail
    go_ret
    exact ⟨rfl, rfl⟩
set_option maxRecDepth 10000 in
theorem digit_any (w : World) (c : UInt8) : Calls Tryd.prog 13 #[.int .u8 (c.toNat : Nat)] w fun e w' => e = .returned (.bool (isDigit c)) ∧ w' = w := by
  unfold isDigit
  by_cases h1 : 48 ≤ c.toNat
  · rw [decide_eq_true h1]
    have d1 : decide ((48 : Int) ≤ (c.toNat : Int)) = true := decide_eq_true (by omega)
    by_cases h2 : c.toNat ≤ 57
    · rw [decide_eq_true h2]
      have d2 : decide ((c.toNat : Int) ≤ (57 : Int)) = true := decide_eq_true (by omega)
      clear h1 h2
      go_enter Tryd.func13, Tryd.ntmps13
      go_wp2_with fail
      go_ret
      exact ⟨rfl, rfl⟩
    · rw [decide_eq_false h2]
      have d2 : decide ((c.toNat : Int) ≤ (57 : Int)) = false := decide_eq_false (by omega)
      clear h1 h2
      go_enter Tryd.func13, Tryd.ntmps13
      go_wp2_with fail
      go_ret
      exact ⟨rfl, rfl⟩
  · rw [decide_eq_false h1]
    have d1 : decide ((48 : Int) ≤ (c.toNat : Int)) = false := decide_eq_false (by omega)
    clear h1
    go_enter Tryd.func13, Tryd.ntmps13
    go_wp2_with fail
    go_ret
    exact ⟨rfl, rfl⟩
theorem pre_drop (s p : List UInt8) (at' : Nat) : (((s.take (at' + p.length)).drop at') == p) = true ↔ p.isPrefixOf (s.drop at') = true := by
  rw [sg_pre, beq_iff_eq, List.drop_take]
  rw [show at' + p.length - at' = p.length by omega]
set_option maxRecDepth 10000 in
set_option maxHeartbeats 4000000 in
theorem stands_any (w : World) (s p : ByteArray) (k : Nat) (hk : k ≤ s.size) (hs : s.size ≤ 1000000000) (hp : p.size ≤ 1000000000) :
    Calls Tryd.prog 15 #[.string s, .int .i64 (k : Int), .string p] w fun e w' => e = .returned (.bool ((bl p).isPrefixOf ((bl s).drop k))) ∧ w' = w := by
  have hl := bl_len s
  have hlp := bl_len p
  by_cases h : k + p.size ≤ s.size
  · have d1 : decide ((k : Int) + (p.size : Int) ≤ (s.size : Int)) = true := decide_eq_true (by omega)
    obtain ⟨m, hm⟩ : ∃ m, k + p.size = m := ⟨_, rfl⟩
    have E : s.extract k m = str (((bl s).take m).drop k) := ext_str s k m (by omega)
    have HE : Hid ((bl p).isPrefixOf ((bl s).drop k) = (((bl s).take m).drop k == bl p)) := hid (by
      have := pre_drop (bl s) (bl p) k
      rw [hlp, hm] at this
      rw [Bool.eq_iff_iff]
      exact this.symm)
    have hpz : (k : Int) + (p.size : Int) = (m : Int) := by omega
    have hz : (m : Int) ≤ (s.size : Int) := by omega
    go_enter Tryd.func15, Tryd.ntmps15
    go_wp2_with fail
    go_ret
    refine ⟨?_, rfl⟩
    rw [HE.out]
    show Ending.returned (Value.bool ((str (((bl s).take m).drop k)).toList == p.toList)) = _
    rw [Lib.toList_data, Lib.toList_data]
    rfl
  · have HE : Hid ((bl p).isPrefixOf ((bl s).drop k) = false) := hid (by
      apply Bool.eq_false_iff.2
      intro q
      have q2 := congrArg List.length ((sg_pre _ _).1 q)
      rw [List.length_take, List.length_drop] at q2
      omega)
    obtain ⟨m, hm⟩ : ∃ m, k + p.size = m := ⟨_, rfl⟩
    have hpz : (k : Int) + (p.size : Int) = (m : Int) := by omega
    have d1 : decide ((m : Int) ≤ (s.size : Int)) = false := decide_eq_false (by omega)
    have d2 : decide (m ≤ s.size) = false := decide_eq_false (by omega)
    go_enter Tryd.func15, Tryd.ntmps15
    go_wp2_with fail
    go_ret
    exact ⟨by rw [HE.out]; rfl, rfl⟩
set_option maxRecDepth 100000 in
set_option maxHeartbeats 8000000 in
theorem Signs_any (w : World) : Calls Tryd.prog 14 #[] w fun e w' => ∃ g, e = .returned (.slice (some ⟨g, 0, none⟩) 21 21) ∧ w'.rangeAt g 0 sgV ∧ Below w.heap.size w w' := by
  go_enter Tryd.func14, Tryd.ntmps14
  go_wp2_with fail
  go_ret
  refine ⟨w.heap.size, rfl, ?_, (Below.refl _ _).alloc (Nat.le_refl _) _⟩
  intro j v hj
  unfold World.cell?
  rw [heap_alloc_new]
  simpa [sgV, sgs, sg3, sg2, sg1, str] using hj
end Go.Proofs.YtnjknjbffgjelaaDoor
