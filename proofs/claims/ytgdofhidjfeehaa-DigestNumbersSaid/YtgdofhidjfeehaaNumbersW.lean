/-
  The walk of DigestNumbers.
-/
import Derived.Test.YtgdofhidjfeehaaRefOf
import Derived.Test.YtgdofhidjfeehaaAwake
import Derived.Test.YtgdofhidjfeehaaEq
import Derived.Test.YtgdofhidjfeehaaMade
namespace Go.Proofs.Ytgdofhidjfeehaa
open Go.RowKit

def text56 : List UInt8 := [97, 98, 99, 100, 98, 99, 100, 101, 99, 100, 101, 102, 100, 101, 102, 103, 101, 102, 103, 104, 102, 103, 104, 105, 103, 104, 105, 106, 104, 105, 106, 107, 105, 106, 107, 108, 106, 107, 108, 109, 107, 108, 109, 110, 108, 109, 110, 111, 109, 110, 111, 112, 110, 111, 112, 113]
theorem hex56 : hexL (sha text56) = [50, 52, 56, 100, 54, 97, 54, 49, 100, 50, 48, 54, 51, 56, 98, 56, 101, 53, 99, 48, 50, 54, 57, 51, 48, 99, 51, 101, 54, 48, 51, 57, 97, 51, 51, 99, 101, 52, 53, 57, 54, 52, 102, 102, 50, 49, 54, 55, 102, 54, 101, 99, 101, 100, 100, 52, 49, 57, 100, 98, 48, 54, 99, 49] := by kernel_rfl
def ns (k : Nat) : Nat := [1, 54, 55, 56, 57, 63, 64, 65, 119, 120, 127, 128, 129, 1000].getD k 1
def nsCells : Array Value := #[.int .i64 1, .int .i64 54, .int .i64 55, .int .i64 56, .int .i64 57, .int .i64 63, .int .i64 64, .int .i64 65, .int .i64 119, .int .i64 120, .int .i64 127, .int .i64 128, .int .i64 129, .int .i64 1000]
theorem ns_in (k : Nat) (h : k < 14) : nsCells[k]? = some (.int .i64 (ns k : Nat)) ∧ 0 < ns k ∧ ns k ≤ 1000 := by
  rcases (show k = 0 ∨ k = 1 ∨ k = 2 ∨ k = 3 ∨ k = 4 ∨ k = 5 ∨ k = 6 ∨ k = 7 ∨ k = 8 ∨ k = 9 ∨ k = 10 ∨ k = 11 ∨ k = 12 ∨ k = 13 by omega) with rfl | rfl | rfl | rfl | rfl | rfl | rfl | rfl | rfl | rfl | rfl | rfl | rfl | rfl <;> exact ⟨rfl, by decide, by decide⟩

set_option maxRecDepth 10000 in
set_option maxHeartbeats 2000000 in
theorem numbers_walk (w : World) : Calls Try.prog 3 #[] w fun e w' => e = .returned (.bool true) ∧ Below w.heap.size w w' := by
  have kc := fun (w : World) (C : Array Value) (n c : Nat) => Lib.run_convert_bytes_const (P := Try.prog) w 25 5 C n c Try.underlying25 Try.underlying5
  go_enter Try.func3, Try.ntmps3
  go_wp2_with fail
  refine (Of_any _ text56 56 56 _ (new_isBB w text56 (56, 57) (by decide))).mono ?_
  rintro e w1 ⟨rfl, hb1⟩
  have hb1' : Below w.heap.size w w1 := by
    have q := (Below.refl w.heap.size w).alloc (Nat.le_refl _) (.cells (text56.map bv).toArray 5 (56, 57))
    exact q.trans (hb1.mono q.size)
  have Hb1 := hid hb1'
  clear hb1 hb1' kc
  go_wp2_with fail
  refine (hex_any (sha text56) (sha_len _) _).mono ?_
  rintro e w2 ⟨rfl, hb2⟩
  have Hb2 := hid hb2
  clear hb2
  rw [hex56]
  go_wp2_with fail
  have R := heap_alloc_new w2 (.cells nsCells 3)
  have B := (Below.refl w2.heap.size w2).alloc (Nat.le_refl _) (.cells nsCells 3)
  change Code.wp _ _ _ _ (w2.alloc (.cells nsCells 3))
  have HR := hid R
  have HB := hid B
  have HS : Hid ((w2.alloc (.cells nsCells 3)).heap.size = w2.heap.size + 1) := by show _ = _; simp
  clear R B
  generalize w2.alloc (.cells nsCells 3) = w3 at HR HB HS ⊢
  go_loopw [11] (fun i wr => ∃ k : Nat, k ≤ 14 ∧ i = .int .i64 k ∧ Hid (Below w3.heap.size w3 wr)) (fun i _ => 14 - (intOf i).toNat)
  case atStart => exact ⟨0, Nat.zero_le _, rfl, Below.refl _ _⟩
  case round =>
    obtain ⟨k, hk, rfl, hB⟩ := hrel
    by_cases hlt : k < 14
    · have hkz : (k : Int) < 14 := by omega
      obtain ⟨h1, h2, h3⟩ := ns_in k hlt
      have hc : wr.cell? ⟨w2.heap.size, k, none⟩ = some (.int .i64 (ns k : Nat)) := by
        rw [hB.out.cell (p := ⟨w2.heap.size, k, none⟩) (by show w2.heap.size < _; have := HS.out; omega), row_cell HR.out]
        exact h1
      generalize ns k = n at *
      have h3z : (n : Int) ≤ 1000 := by omega
      clear h1
      go_wp2_with fail
      refine (Made_any n n h3 h2 h3 _).mono ?_
      rintro e w4 ⟨g, c, X, rfl, hN⟩
      have HN := hid hN
      have ez := eq_same (sha X) (sha_len X)
      clear hN
      go_wp2_with fail
      refine (Of_any _ X _ _ _ HN.out.isBB).mono ?_
      rintro e w5 ⟨rfl, hb5⟩
      have Hb5 := hid hb5
      have H5 := hid (HN.out.isBB.on hb5)
      clear hb5
      go_wp2_with fail
      refine (RefOf_any _ X _ _ _ H5.out (by omega)).mono ?_
      rintro e w6 ⟨rfl, hb6⟩
      have Hb6 := hid hb6
      clear hb6
      go_wp2_with fail
      go_roundw
      case rel =>
        refine ⟨k + 1, by omega, by go_num, ?_⟩
        have q1 : Below w3.heap.size w3 w4 := hB.out.trans (HN.out.bel.mono hB.out.size)
        have q2 : Below w3.heap.size w3 w5 := q1.trans (Hb5.out.mono q1.size)
        exact q2.trans (Hb6.out.mono q2.size)
      case measure => simp [intOf]; omega
    · obtain rfl : k = 14 := by omega
      go_wp2_with fail
      refine (awake_any _).mono ?_
      rintro e w7 ⟨rfl, hb7⟩
      go_wp2_with fail
      go_ret
      refine ⟨rfl, ?_⟩
      have q1 : Below w.heap.size w w2 := Hb1.out.trans (Hb2.out.mono Hb1.out.size)
      have q2 : Below w.heap.size w w3 := q1.trans (HB.out.mono q1.size)
      have q3 : Below w.heap.size w wr := q2.trans (hB.out.mono q2.size)
      exact q3.trans (hb7.mono q3.size)
end Go.Proofs.Ytgdofhidjfeehaa
