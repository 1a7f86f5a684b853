/-
  The document's disk: Arm, Fail, Load.
-/
import Derived.Test.YtgccjclloomfgaaRsy
import Derived.Test.YtgccjclloomfgaaLod
namespace Go.Proofs.Ytgccjclloomfgaa
open Go.RowKit

/-- A number that may be no more than 2 to the 60. -/
def cl60 (n : Int) : Nat := if 1152921504606846976 < n then 1152921504606846976 else n.toNat
def Dk.rarm (d : Dk) (n : Int) : Dk × Nat := if n < 0 then (d, 2) else ({ d with armed := cl60 n + 1 }, 0)
def Dk.rfail (d : Dk) (n x : Int) : Dk × Nat := if n < 1 ∨ (x ≠ 10 ∧ x ≠ 5) then (d, 2) else ({ d with fails := cl60 n + 1, err := x.toNat }, 0)
set_option maxRecDepth 10000 in
set_option maxHeartbeats 1000000 in
theorem RArm_any (d : Dk) (AN : Option Addr) (nN cN : Nat) (AO : Option Addr) (nO cO : Nat) (n : Int) (w : World) :
    Calls Try.prog 28 #[.agg (rcells d (.slice AN nN cN) (.slice AO nO cO)), .int .i64 n] w fun r w' => r = .returned (.tuple #[.agg (rcells (d.rarm n).1 (.slice AN nN cN) (.slice AO nO cO)), .int .i64 ((d.rarm n).2 : Nat)]) ∧ Below w.heap.size w w' := by
  simp only [rcells]
  by_cases h1 : n < 0
  · have e : d.rarm n = (d, 2) := by unfold Dk.rarm; rw [if_pos h1]
    have E := hid e
    clear e
    go_enter Try.func28, Try.ntmps28
    go_wp2_with fail
    refine bodyPost_ret (results_d1 (by kernel_rfl : Try.f28.results = #[.cell 4 43, .tmp 5]) _ _ (w.heap.size + 1) _ _ _ rfl (heap_alloc2_new w _ _) rfl) rfl ?_
    rw [E.out]
    exact ⟨rfl, fr2 w _ _⟩
  · by_cases h2 : 1152921504606846976 < n
    · have e : d.rarm n = ({ d with armed := 1152921504606846977 }, 0) := by unfold Dk.rarm cl60; rw [if_neg h1, if_pos h2]
      have E := hid e
      clear e
      go_enter Try.func28, Try.ntmps28
      go_wp2_with fail
      refine bodyPost_ret (results_d1 (by kernel_rfl : Try.f28.results = #[.cell 4 43, .tmp 5]) _ _ (w.heap.size + 1) _ _ _ rfl (heap_alloc2_new w _ _) rfl) rfl ?_
      rw [E.out]
      exact ⟨rfl, fr2 w _ _⟩
    · obtain ⟨k, rfl⟩ : ∃ k : Nat, n = (k : Int) := ⟨n.toNat, by omega⟩
      have e : d.rarm (k : Int) = ({ d with armed := k + 1 }, 0) := by unfold Dk.rarm cl60; rw [if_neg h1, if_neg h2]; rfl
      have E := hid e
      clear e
      go_enter Try.func28, Try.ntmps28
      go_wp2_with fail
      refine bodyPost_ret (results_d1 (by kernel_rfl : Try.f28.results = #[.cell 4 43, .tmp 5]) _ _ (w.heap.size + 1) _ _ _ rfl (heap_alloc2_new w _ _) rfl) rfl ?_
      rw [E.out]
      exact ⟨rfl, fr2 w _ _⟩
set_option maxRecDepth 10000 in
set_option maxHeartbeats 1000000 in
theorem RFail_any (d : Dk) (AN : Option Addr) (nN cN : Nat) (AO : Option Addr) (nO cO : Nat) (n x : Int) (w : World) :
    Calls Try.prog 29 #[.agg (rcells d (.slice AN nN cN) (.slice AO nO cO)), .int .i64 n, .int .i64 x] w fun r w' => r = .returned (.tuple #[.agg (rcells (d.rfail n x).1 (.slice AN nN cN) (.slice AO nO cO)), .int .i64 ((d.rfail n x).2 : Nat)]) ∧ Below w.heap.size w w' := by
  simp only [rcells]
  by_cases h1 : n < 1
  · have e : d.rfail n x = (d, 2) := by unfold Dk.rfail; rw [if_pos (.inl h1)]
    have E := hid e
    clear e
    go_enter Try.func29, Try.ntmps29
    go_wp2_with fail
    refine bodyPost_ret (results_d1 (by kernel_rfl : Try.f29.results = #[.cell 6 43, .tmp 7]) _ _ (w.heap.size + 1) _ _ _ rfl (heap_alloc2_new w _ _) rfl) rfl ?_
    rw [E.out]
    exact ⟨rfl, fr2 w _ _⟩
  · by_cases hx : x ≠ 10 ∧ x ≠ 5
    · have e : d.rfail n x = (d, 2) := by unfold Dk.rfail; rw [if_pos (.inr hx)]
      have E := hid e
      obtain ⟨hx1, hx2⟩ := hx
      have z1 : (x != 10) = true := by simpa using hx1
      have z2 : (x != 5) = true := by simpa using hx2
      clear e
      go_enter Try.func29, Try.ntmps29
      go_wp2_with fail
      refine bodyPost_ret (results_d1 (by kernel_rfl : Try.f29.results = #[.cell 6 43, .tmp 7]) _ _ (w.heap.size + 1) _ _ _ rfl (heap_alloc2_new w _ _) rfl) rfl ?_
      rw [E.out]
      exact ⟨rfl, fr2 w _ _⟩
    · have hx2 : x = 10 ∨ x = 5 := by omega
      by_cases h2 : 1152921504606846976 < n
      · have e : d.rfail n x = ({ d with fails := 1152921504606846977, err := x.toNat }, 0) := by unfold Dk.rfail cl60; rw [if_neg (by omega), if_pos h2]
        have E := hid e
        clear e hx
        rcases hx2 with rfl | rfl <;>
        · go_enter Try.func29, Try.ntmps29
          go_wp2_with fail
          refine bodyPost_ret (results_d1 (by kernel_rfl : Try.f29.results = #[.cell 6 43, .tmp 7]) _ _ (w.heap.size + 1) _ _ _ rfl (heap_alloc2_new w _ _) rfl) rfl ?_
          rw [E.out]
          exact ⟨rfl, fr2 w _ _⟩
      · obtain ⟨k, rfl⟩ : ∃ k : Nat, n = (k : Int) := ⟨n.toNat, by omega⟩
        have e : d.rfail (k : Int) x = ({ d with fails := k + 1, err := x.toNat }, 0) := by unfold Dk.rfail cl60; rw [if_neg (by omega), if_neg h2]; rfl
        have E := hid e
        clear e hx
        rcases hx2 with rfl | rfl <;>
        · go_enter Try.func29, Try.ntmps29
          go_wp2_with fail
          refine bodyPost_ret (results_d1 (by kernel_rfl : Try.f29.results = #[.cell 6 43, .tmp 7]) _ _ (w.heap.size + 1) _ _ _ rfl (heap_alloc2_new w _ _) rfl) rfl ?_
          rw [E.out]
          exact ⟨rfl, fr2 w _ _⟩
theorem one_row {w W1 : World} {A : Array Value} (b : Below (w.alloc (.cells A 43)).heap.size (w.alloc (.cells A 43)) W1) :
    W1.heap[w.heap.size]? = some (.cells A 43 (0, 0)) ∧ Below w.heap.size w W1 ∧ w.heap.size < W1.heap.size := by
  have hz : (w.alloc (.cells A 43)).heap.size = w.heap.size + 1 := by simp
  have hs := b.size
  rw [hz] at hs
  exact ⟨(b.block _ (by rw [hz]; omega)).trans (heap_alloc_new w _), (fr w _).trans (b.mono (by rw [hz]; omega)), by omega⟩
set_option maxRecDepth 10000 in
set_option maxHeartbeats 1000000 in
theorem RLoad_bad (m : Int) (A : Option Addr) (n c : Nat) (w : World) (h : ¬ LdOk m n) :
    Calls Try.prog 22 #[.int .i64 m, .slice A n c] w fun r w' => r = .returned (.tuple #[.agg #[.int .i64 0, .slice none 0 0, .slice none 0 0, .int .i64 0, .bool false, .int .i64 0, .int .i64 0, .int .i64 0], .int .i64 2]) ∧ Below w.heap.size w w' := by
  unfold LdOk at h
  by_cases h1 : m < 0
  · clear h
    go_enter Try.func22, Try.ntmps22
    go_wp2_with fail
    refine bodyPost_ret (results_d1 (by kernel_rfl : Try.f22.results = #[.cell 4 43, .tmp 5]) _ _ w.heap.size _ _ _ rfl (heap_alloc_new w _) rfl) rfl ?_
    exact ⟨rfl, fr w _⟩
  · by_cases h2 : 4194304 < m
    · clear h
      go_enter Try.func22, Try.ntmps22
      go_wp2_with fail
      refine bodyPost_ret (results_d1 (by kernel_rfl : Try.f22.results = #[.cell 4 43, .tmp 5]) _ _ w.heap.size _ _ _ rfl (heap_alloc_new w _) rfl) rfl ?_
      exact ⟨rfl, fr w _⟩
    · have h3 : m < (n : Int) := by omega
      clear h
      go_enter Try.func22, Try.ntmps22
      go_wp2_with fail
      refine bodyPost_ret (results_d1 (by kernel_rfl : Try.f22.results = #[.cell 4 43, .tmp 5]) _ _ w.heap.size _ _ _ rfl (heap_alloc_new w _) rfl) rfl ?_
      exact ⟨rfl, fr w _⟩
set_option maxRecDepth 10000 in
set_option maxHeartbeats 1000000 in
theorem RLoad_any (m : Nat) (A : Option Addr) (n c : Nat) (l : List UInt8) (w : World) (hl : IsBB w w.heap.size A n c l) (hm : m ≤ 4194304) (hn : n ≤ m) :
    Calls Try.prog 22 #[.int .i64 (m : Nat), .slice A n c] w fun r w' => ∃ N O, r = .returned (.tuple #[.agg (rcells (Dk.load m l) N O), .int .i64 0]) ∧ w'.ownsRow w.heap.size 5 1 N l.length (l.map bv) ∧ w'.ownsRow w.heap.size 5 1 O l.length (l.map bv) ∧ Below w.heap.size w w' := by
  obtain rfl : l.length = n := hl.len
  have HL := hid hl
  have h1 : ¬ (m : Int) < 0 := by omega
  have h2 : ¬ (4194304 : Int) < (m : Int) := by omega
  have h3 : ¬ (m : Int) < (l.length : Int) := by omega
  clear hl hm hn
  go_enter Try.func22, Try.ntmps22
  go_wp2_with (first
    | (go_at_call 50; (with_reducible refine (copied_any A l c (w.alloc _) (HL.out.on (fr w _))).mono ?_); rintro r W1 ⟨v, rfl, o1, b1⟩; obtain ⟨A1, k1, rfl⟩ := own_sl o1; obtain ⟨r1, B1, s1⟩ := one_row b1; have O1 := hid (own_base (b2 := w.heap.size) o1 (by simp)); have R1 := hid r1; have HB1 := hid B1; have s1' := s1; clear o1 b1 r1 B1 s1)
    | (go_at_call 50; (with_reducible refine (copied_any A l c W1 (HL.out.on HB1.out)).mono ?_); rintro r W2 ⟨v, rfl, o2, b2⟩; obtain ⟨A2, k2, rfl⟩ := own_sl o2; have O2 := hid (own_base (b2 := w.heap.size) o2 (by omega)); have O12 := hid (own_below O1.out b2); have R2 := hid ((b2.block _ s1').trans R1.out); have HB2 := hid (HB1.out.trans (b2.mono HB1.out.size)); clear o2 b2 O1 R1 HB1)
    | (refine wpList_store_d (o := ⟨none, .store 43 (.tmp 4) (.tmp 26), _, _, _, _⟩) rfl (.tmp 4) (.tmp 26) rfl w.heap.size _ rfl rfl _ R2.out rfl rfl (all8 ..) ?_; intro W4 q1 bb))
  refine bodyPost_ret (results_d1 (by kernel_rfl : Try.f22.results = #[.cell 4 43, .tmp 5]) _ _ w.heap.size _ _ _ rfl q1.out rfl) rfl ?_
  have e1 := own_gne O12.out R2.out (by decide)
  have e2 := own_gne O2.out R2.out (by decide)
  exact ⟨_, _, rfl, ownsRow_but O12.out bb.out e1, ownsRow_but O2.out bb.out e2, HB2.out.trans (bb.out.below (B := w.heap.size) (by rintro i rfl; exact Nat.le_refl _) HB2.out.size)⟩
end Go.Proofs.Ytgccjclloomfgaa
