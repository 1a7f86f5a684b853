/-
  Merged: XRp XLs.
-/
import Derived.Test.YtkfdbibgjoaefaaGreatDoorMg05
import Derived.Deep.Slices
import Derived.Deep.Strs
import Derived.Laws.AppendOwn
import Derived.OwnWalk
import Derived.ProofKit
import Derived.OpenShut
/-
  What the document's side wants of stage texts, for this seat (Rp).
-/

namespace Go.Proofs.YtkfdbibgjoaefaaGreatDoor
open Go.RowKit

set_option maxRecDepth 10000 in
theorem within_any (n a b : Int) (w : World) : Calls Tryz.prog 72 #[.int .i64 n, .int .i64 a, .int .i64 b] w fun e w' => e = .returned (.bool (decide (inn n a b))) ∧ w' = w := by
  unfold inn
  by_cases h : a ≤ n
  · by_cases h' : n ≤ b
    · have e : decide (a ≤ n ∧ n ≤ b) = true := decide_eq_true ⟨h, h'⟩
      rw [e]
      go_enter Tryz.func72, Tryz.ntmps72
      go_wp2_with fail
      go_ret
      exact ⟨rfl, rfl⟩
    · have e : decide (a ≤ n ∧ n ≤ b) = false := decide_eq_false (fun hh => h' hh.2)
      rw [e]
      go_enter Tryz.func72, Tryz.ntmps72
      go_wp2_with fail
      go_ret
      exact ⟨rfl, rfl⟩
  · have e : decide (a ≤ n ∧ n ≤ b) = false := decide_eq_false (fun hh => h hh.1)
    rw [e]
    go_enter Tryz.func72, Tryz.ntmps72
    go_wp2_with fail
    go_ret
    exact ⟨rfl, rfl⟩
set_option maxRecDepth 10000 in
theorem most_any (k : Int) (w : World) : Calls Tryz.prog 77 #[.int .u8 k] w fun e w' => e = .returned (.int .i64 (mostR k)) ∧ w' = w := by
  rcases (by omega : k = 2 ∨ k = 3 ∨ k = 4 ∨ k = 6 ∨ k = 8 ∨ k = 9 ∨ k = 7 ∨ (k ≠ 2 ∧ k ≠ 3 ∧ k ≠ 4 ∧ k ≠ 6 ∧ k ≠ 8 ∧ k ≠ 9 ∧ k ≠ 7)) with h | h | h | h | h | h | h | ⟨x2, x3, x4, x6, x8, x9, x7⟩
  iterate 7
    · subst h
      go_enter Tryz.func77, Tryz.ntmps77
      go_wp2_with fail
      go_ret
      exact ⟨rfl, rfl⟩
  · have e : mostR k = -1 := by unfold mostR; rw [if_neg (by omega), if_neg x7, if_neg x9]
    rw [e]
    clear e
    go_enter Tryz.func77, Tryz.ntmps77
    go_wp2_with fail
    go_ret
    exact ⟨rfl, rfl⟩
set_option maxRecDepth 10000 in
theorem power_any (s : Int) (h0 : 0 ≤ s) (h1 : s ≤ 16) (w : World) : Calls Tryz.prog 78 #[.int .i64 s] w fun e w' => e = .returned (.int .i64 (pow2 s)) ∧ Below w.heap.size w w' := by
  obtain ⟨n, rfl⟩ : ∃ n : Nat, s = n := ⟨s.toNat, by omega⟩
  have hn : n ≤ 16 := by omega
  clear h0 h1
  go_enter Tryz.func78, Tryz.ntmps78
  go_wp2_with fail
  go_loopw [3, 4] (fun vp vi wr => ∃ i : Nat, i ≤ n ∧ vi = .int .i64 i ∧ vp = .int .i64 (pow2 (i : Nat)) ∧ Below w.heap.size w wr) (fun _ vi _ => 20 - (intOf vi).toNat)
  case atStart => exact ⟨0, Nat.zero_le _, rfl, rfl, Below.refl _ _⟩
  case round =>
    obtain ⟨i, hi, rfl, rfl, hw⟩ := hrel
    by_cases hgo : i < n
    · have hz : (i : Int) < (n : Int) := by omega
      obtain ⟨p, hp⟩ : ∃ p, pow2 (i : Nat) = p := ⟨_, rfl⟩
      have p1 : p ≤ 65536 := by rw [← hp]; exact pow2_le _ 16 (by omega)
      have p0 : 1 ≤ p := by rw [← hp]; exact pow2_pos _
      have hq : pow2 ((i + 1 : Nat) : Int) = p * 2 := by rw [← hp, pow2_nat, pow2_nat, Int.pow_succ]
      rw [hp]
      have Hq := hid hq
      clear hp hq
      go_wp2_with fail
      go_roundw
      case rel => exact ⟨i + 1, by omega, by go_num, by rw [Hq.out], hw⟩
      case measure => simp [intOf]; omega
    · obtain rfl : i = n := by omega
      go_wp2_with fail
      go_ret
      exact ⟨rfl, hw⟩
set_option maxRecDepth 10000 in
set_option maxHeartbeats 4000000 in
theorem refPlaces_no4 (k s a b c r m : Int) (h : ¬ inn s (leastS k) (mostR k)) (hk4 : k = 4) (w : World) :
    Calls Tryz.prog 71 #[vP k s a b c r m] w fun e w' => e = .returned (.int .i64 0) ∧ Below w.heap.size w w' := by
  have B := boxed w k s a b c r m
  obtain ⟨W, hW⟩ : ∃ W, W = w.alloc (.cells #[.int .u8 k, .int .i64 s, .int .i64 a, .int .i64 b, .int .i64 c, .int .i64 r, .int .i64 m] 38) := ⟨_, rfl⟩
  have HS := hid (fun w => most_any k w)
  have HB := hid (fun w => within_any s (leastS k) (mostR k) w)
  have HC := hid (fun w => within_any b 1 8 w)
  have b0 := hid (show Below w.heap.size w W by rw [hW]; exact (Below.refl _ _).alloc (Nat.le_refl _) _)
  rw [← hW] at B
  have H0 := hid B.c0
  have H1 := hid B.c1
  have H3 := hid B.c3
  unfold vP
  clear B
  rw [decide_eq_false h] at HB
  have hl : leastS k = 4 := by rw [hk4]; rfl
  rw [hl] at HB
  clear hl
  obtain ⟨M, hM⟩ : ∃ M, mostR k = M := ⟨_, rfl⟩
  rw [hM] at HS HB
  clear hM
  clear h
  subst hk4
  go_enter Tryz.func71, Tryz.ntmps71
  go_wp2_with fail
  rw [← hW]
  clear hW
  go_region_held3 (fun w' => w'.cell? ⟨w.heap.size, 0, none⟩ = some (.int .u8 4) ∧ w'.cell? ⟨w.heap.size, 1, none⟩ = some (.int .i64 s)) (first | exact ⟨H0.out, H1.out⟩ | go_keep)
    (first
    | (go_at_call 77; (refine (HS.out _).mono ?_); rintro r w1 ⟨rfl, rfl⟩)
    | (go_at_call 72; (refine (HB.out _).mono ?_); rintro r w2 ⟨rfl, rfl⟩))
  go_wp2_with fail
  go_ret
  exact ⟨rfl, b0.out.drew⟩
set_option maxRecDepth 10000 in
set_option maxHeartbeats 4000000 in
theorem refPlaces_yes4 (k s a b c r m : Int) (h :  inn s (leastS k) (mostR k)) (hk4 : k = 4) (w : World) :
    Calls Tryz.prog 71 #[vP k s a b c r m] w fun e w' => e = .returned (.int .i64 (plI k s b)) ∧ Below w.heap.size w w' := by
  have B := boxed w k s a b c r m
  obtain ⟨W, hW⟩ : ∃ W, W = w.alloc (.cells #[.int .u8 k, .int .i64 s, .int .i64 a, .int .i64 b, .int .i64 c, .int .i64 r, .int .i64 m] 38) := ⟨_, rfl⟩
  have HS := hid (fun w => most_any k w)
  have HB := hid (fun w => within_any s (leastS k) (mostR k) w)
  have HC := hid (fun w => within_any b 1 8 w)
  have b0 := hid (show Below w.heap.size w W by rw [hW]; exact (Below.refl _ _).alloc (Nat.le_refl _) _)
  rw [← hW] at B
  have H0 := hid B.c0
  have H1 := hid B.c1
  have H3 := hid B.c3
  unfold vP
  clear B
  rw [decide_eq_true h] at HB
  have s0 : 0 ≤ s := by have := leastS_ge k; have := h.1; omega
  have hmr : mostR k ≤ 16 := by
    unfold mostR
    split
    · omega
    · split
      · omega
      · split <;> omega
  have s1 : s ≤ 16 := by have := h.2; omega
  have HQ := hid (fun w => power_any s s0 s1 w)
  have hk : k = 2 ∨ k = 3 ∨ k = 4 ∨ k = 6 ∨ k = 8 ∨ k = 9 ∨ k = 7 := by
    unfold mostR at h
    refine Classical.byContradiction (fun hn => ?_)
    rw [if_neg (by omega), if_neg (by omega), if_neg (by omega)] at h
    have := h.1; have := h.2; have := leastS_ge k; omega
  have hms : mostS k = mostR k := by
    unfold mostS mostR
    split
    · rfl
    · split
      · rfl
      · split
        · rfl
        · omega
  have HE : Hid (plI k s b = (if k = 3 then pow2 s + 256 else if k = 4 then 2 * pow2 s else if k = 7 then (if inn b 1 8 then b * pow2 s else 0) else if k = 8 then pow2 s + 512 else if k = 9 then 32 * pow2 s else if k = 2 ∨ k = 6 then pow2 s else 0)) := by
    unfold Hid plI; rw [hms, if_pos h]
  obtain ⟨t, ht⟩ : ∃ t, pow2 s = t := ⟨_, rfl⟩
  have t1 : 1 ≤ t := by rw [← ht]; exact pow2_pos s
  have t2 : t ≤ 65536 := by rw [← ht]; exact pow2_le s 16 (by omega)
  have t7 : Hid (k = 7 → t ≤ 4096) := by
    intro e7
    subst e7
    rw [← ht]; exact pow2_le s 12 (by have := h.2; unfold mostR at this; simp at this; omega)
  rw [ht] at HE HQ
  clear ht hmr hms
  have hl : leastS k = 4 := by rw [hk4]; rfl
  rw [hl] at HB
  clear hl
  obtain ⟨M, hM⟩ : ∃ M, mostR k = M := ⟨_, rfl⟩
  rw [hM] at HS HB
  clear hM
  clear h hk
  subst hk4
  go_enter Tryz.func71, Tryz.ntmps71
  go_wp2_with fail
  rw [← hW]
  clear hW
  go_region_held3 (fun w' => w'.cell? ⟨w.heap.size, 0, none⟩ = some (.int .u8 4) ∧ w'.cell? ⟨w.heap.size, 1, none⟩ = some (.int .i64 s)) (first | exact ⟨H0.out, H1.out⟩ | go_keep)
    (first
    | (go_at_call 77; (refine (HS.out _).mono ?_); rintro r w1 ⟨rfl, rfl⟩)
    | (go_at_call 72; (refine (HB.out _).mono ?_); rintro r w2 ⟨rfl, rfl⟩))
  clear HS HB HC t7 H3
  have c1 : W.drew.cell? ⟨w.heap.size, 1, none⟩ = some (.int .i64 s) := H1.out
  go_wp2_with fail
  refine (HQ.out _).mono ?_
  rintro e w3 ⟨rfl, b3⟩
  have c0 := keeps b3 H0.out
  have B3 := hid (b0.out.drew.trans (b3.mono b0.out.size))
  clear b3 H0 H1 c1 b0
  go_wp2_with fail
  go_ret
  exact ⟨ret_int (by rw [HE.out]; simp; try omega), B3.out⟩
set_option maxRecDepth 10000 in
set_option maxHeartbeats 4000000 in
theorem refPlaces_nox (k s a b c r m : Int) (h : ¬ inn s (leastS k) (mostR k)) (hk4 : k ≠ 4) (w : World) :
    Calls Tryz.prog 71 #[vP k s a b c r m] w fun e w' => e = .returned (.int .i64 0) ∧ Below w.heap.size w w' := by
  have B := boxed w k s a b c r m
  obtain ⟨W, hW⟩ : ∃ W, W = w.alloc (.cells #[.int .u8 k, .int .i64 s, .int .i64 a, .int .i64 b, .int .i64 c, .int .i64 r, .int .i64 m] 38) := ⟨_, rfl⟩
  have HS := hid (fun w => most_any k w)
  have HB := hid (fun w => within_any s (leastS k) (mostR k) w)
  have HC := hid (fun w => within_any b 1 8 w)
  have b0 := hid (show Below w.heap.size w W by rw [hW]; exact (Below.refl _ _).alloc (Nat.le_refl _) _)
  rw [← hW] at B
  have H0 := hid B.c0
  have H1 := hid B.c1
  have H3 := hid B.c3
  unfold vP
  clear B
  rw [decide_eq_false h] at HB
  have hl : leastS k = 0 := if_neg hk4
  rw [hl] at HB
  clear hl
  obtain ⟨M, hM⟩ : ∃ M, mostR k = M := ⟨_, rfl⟩
  rw [hM] at HS HB
  clear hM
  clear h
  go_enter Tryz.func71, Tryz.ntmps71
  go_wp2_with fail
  rw [← hW]
  clear hW
  go_region_held3 (fun w' => w'.cell? ⟨w.heap.size, 0, none⟩ = some (.int .u8 k) ∧ w'.cell? ⟨w.heap.size, 1, none⟩ = some (.int .i64 s)) (first | exact ⟨H0.out, H1.out⟩ | go_keep)
    (first
    | (go_at_call 77; (refine (HS.out _).mono ?_); rintro r w1 ⟨rfl, rfl⟩)
    | (go_at_call 72; (refine (HB.out _).mono ?_); rintro r w2 ⟨rfl, rfl⟩))
  go_wp2_with fail
  go_ret
  exact ⟨rfl, b0.out.drew⟩
set_option maxRecDepth 10000 in
set_option maxHeartbeats 4000000 in
theorem refPlaces_yesx (k s a b c r m : Int) (h :  inn s (leastS k) (mostR k)) (hk4 : k ≠ 4) (w : World) :
    Calls Tryz.prog 71 #[vP k s a b c r m] w fun e w' => e = .returned (.int .i64 (plI k s b)) ∧ Below w.heap.size w w' := by
  have B := boxed w k s a b c r m
  obtain ⟨W, hW⟩ : ∃ W, W = w.alloc (.cells #[.int .u8 k, .int .i64 s, .int .i64 a, .int .i64 b, .int .i64 c, .int .i64 r, .int .i64 m] 38) := ⟨_, rfl⟩
  have HS := hid (fun w => most_any k w)
  have HB := hid (fun w => within_any s (leastS k) (mostR k) w)
  have HC := hid (fun w => within_any b 1 8 w)
  have b0 := hid (show Below w.heap.size w W by rw [hW]; exact (Below.refl _ _).alloc (Nat.le_refl _) _)
  rw [← hW] at B
  have H0 := hid B.c0
  have H1 := hid B.c1
  have H3 := hid B.c3
  unfold vP
  clear B
  rw [decide_eq_true h] at HB
  have s0 : 0 ≤ s := by have := leastS_ge k; have := h.1; omega
  have hmr : mostR k ≤ 16 := by
    unfold mostR
    split
    · omega
    · split
      · omega
      · split <;> omega
  have s1 : s ≤ 16 := by have := h.2; omega
  have HQ := hid (fun w => power_any s s0 s1 w)
  have hk : k = 2 ∨ k = 3 ∨ k = 4 ∨ k = 6 ∨ k = 8 ∨ k = 9 ∨ k = 7 := by
    unfold mostR at h
    refine Classical.byContradiction (fun hn => ?_)
    rw [if_neg (by omega), if_neg (by omega), if_neg (by omega)] at h
    have := h.1; have := h.2; have := leastS_ge k; omega
  have hms : mostS k = mostR k := by
    unfold mostS mostR
    split
    · rfl
    · split
      · rfl
      · split
        · rfl
        · omega
  have HE : Hid (plI k s b = (if k = 3 then pow2 s + 256 else if k = 4 then 2 * pow2 s else if k = 7 then (if inn b 1 8 then b * pow2 s else 0) else if k = 8 then pow2 s + 512 else if k = 9 then 32 * pow2 s else if k = 2 ∨ k = 6 then pow2 s else 0)) := by
    unfold Hid plI; rw [hms, if_pos h]
  obtain ⟨t, ht⟩ : ∃ t, pow2 s = t := ⟨_, rfl⟩
  have t1 : 1 ≤ t := by rw [← ht]; exact pow2_pos s
  have t2 : t ≤ 65536 := by rw [← ht]; exact pow2_le s 16 (by omega)
  have t7 : Hid (k = 7 → t ≤ 4096) := by
    intro e7
    subst e7
    rw [← ht]; exact pow2_le s 12 (by have := h.2; unfold mostR at this; simp at this; omega)
  rw [ht] at HE HQ
  clear ht hmr hms
  have hl : leastS k = 0 := if_neg hk4
  rw [hl] at HB
  clear hl
  obtain ⟨M, hM⟩ : ∃ M, mostR k = M := ⟨_, rfl⟩
  rw [hM] at HS HB
  clear hM
  clear h
  go_enter Tryz.func71, Tryz.ntmps71
  go_wp2_with fail
  rw [← hW]
  clear hW
  go_region_held3 (fun w' => w'.cell? ⟨w.heap.size, 0, none⟩ = some (.int .u8 k) ∧ w'.cell? ⟨w.heap.size, 1, none⟩ = some (.int .i64 s)) (first | exact ⟨H0.out, H1.out⟩ | go_keep)
    (first
    | (go_at_call 77; (refine (HS.out _).mono ?_); rintro r w1 ⟨rfl, rfl⟩)
    | (go_at_call 72; (refine (HB.out _).mono ?_); rintro r w2 ⟨rfl, rfl⟩))
  clear HS HB
  have c1 : W.drew.cell? ⟨w.heap.size, 1, none⟩ = some (.int .i64 s) := H1.out
  go_wp2_with fail
  refine (HQ.out _).mono ?_
  rintro e w3 ⟨rfl, b3⟩
  have c0 := keeps b3 H0.out
  have K3 := hid (keeps b3 H3.out)
  have B3 := hid (b0.out.drew.trans (b3.mono b0.out.size))
  clear b3 H0 H1 H3 c1 b0
  rcases hk with h | h | h | h | h | h | h
  · subst h
    clear HC t7
    go_wp2_with fail
    go_ret
    exact ⟨ret_int (by rw [HE.out]; simp; try omega), B3.out⟩
  · subst h
    clear HC t7
    go_wp2_with fail
    go_ret
    exact ⟨ret_int (by rw [HE.out]; simp; try omega), B3.out⟩
  · exact absurd h hk4
  · subst h
    clear HC t7
    go_wp2_with fail
    go_ret
    exact ⟨ret_int (by rw [HE.out]; simp; try omega), B3.out⟩
  · subst h
    clear HC t7
    go_wp2_with fail
    go_ret
    exact ⟨ret_int (by rw [HE.out]; simp; try omega), B3.out⟩
  · subst h
    clear HC t7
    go_wp2_with fail
    go_ret
    exact ⟨ret_int (by rw [HE.out]; simp; try omega), B3.out⟩
  · have t4 := t7.out h
    clear t7
    subst h
    have c3 := K3.out
    by_cases hb : inn b 1 8
    · rw [decide_eq_true hb] at HC
      obtain ⟨q, hq⟩ : ∃ q, b * t = q := ⟨_, rfl⟩
      have hm : wrap64 (b * t) = q := by
        rw [wrap64_in _ (Int.mul_nonneg (by have := hb.1; omega) (by omega)) (by
          have : b * t ≤ 8 * 4096 := Int.mul_le_mul hb.2 t4 (by omega) (by omega)
          omega), hq]
      have HF : Hid (plI 7 s b = q) := by
        unfold Hid; rw [HE.out]; simp only [hb, if_true, hq]; rfl
      clear hq hb HE
      have Hm := hid hm
      clear hm
      go_wp2_with fail
      refine (HC.out _).mono ?_
      rintro e w4 ⟨rfl, rfl⟩
      go_wp2_with fail
      go_ret
      exact ⟨ret_int (Hm.out.trans HF.out.symm), B3.out⟩
    · rw [decide_eq_false hb] at HC
      have HF : Hid (plI 7 s b = 0) := by
        unfold Hid; rw [HE.out]; simp only [hb, if_true, if_false]; rfl
      clear hb HE
      go_wp2_with fail
      refine (HC.out _).mono ?_
      rintro e w4 ⟨rfl, rfl⟩
      go_wp2_with fail
      go_ret
      exact ⟨ret_int HF.out.symm, B3.out⟩
theorem refPlaces_any (k s a b c r m : Int) (w : World) :
    Calls Tryz.prog 71 #[vP k s a b c r m] w fun e w' => e = .returned (.int .i64 (plI k s b)) ∧ Below w.heap.size w w' := by
  by_cases h : inn s (leastS k) (mostR k)
  · by_cases h4 : k = 4
    · exact refPlaces_yes4 k s a b c r m h h4 w
    · exact refPlaces_yesx k s a b c r m h h4 w
  · have e : plI k s b = 0 := by
      unfold plI
      by_cases hs : inn s (leastS k) (mostS k)
      · rw [if_pos hs]
        have hk : ¬ (k = 2 ∨ k = 3 ∨ k = 4 ∨ k = 6 ∨ k = 8 ∨ k = 9 ∨ k = 7) := by
          intro hk
          refine h ?_
          have : mostR k = mostS k := by
            unfold mostS mostR
            split
            · rfl
            · split
              · rfl
              · split
                · rfl
                · omega
          rw [this]; exact hs
        rw [if_neg (by omega), if_neg (by omega), if_neg (by omega), if_neg (by omega), if_neg (by omega), if_neg (by omega)]
      · rw [if_neg hs]
    rw [e]
    by_cases h4 : k = 4
    · exact refPlaces_no4 k s a b c r m h h4 w
    · exact refPlaces_nox k s a b c r m h h4 w
end Go.Proofs.YtkfdbibgjoaefaaGreatDoor
/-
  What the document's side wants of stage texts, for this seat (Ls).
-/
namespace Go.Proofs.YtkfdbibgjoaefaaGreatDoor
open Go.RowKit Go.ChangeShapes Go.WideShapes Go.ChangeAt

set_option maxRecDepth 10000 in
theorem SameParts_any (A : Option Addr) (c : Nat) (A' : Option Addr) (c' n : Nat) (L : List Pt) (w : World) (h : IsP w w.heap.size A n c L) (h' : IsP w w.heap.size A' n c' L) :
    Calls Tryz.prog 9 #[.slice A n c, .slice A' n c'] w fun e w' => e = .returned (.bool true) ∧ ∃ j, w' = w.drewN j := by
  have hm := h.max
  have hcp := h.cap
  unfold maxLen at hm
  go_enter Tryz.func9, Tryz.ntmps9
  go_wp2_with fail
  go_loopw [5] (fun vi wr => ∃ i j : Nat, i ≤ n ∧ vi = .int .i64 i ∧ wr = w.drewN j) (fun vi _ => n - (intOf vi).toNat)
  case atStart => exact ⟨0, 0, Nat.zero_le _, rfl, rfl⟩
  case round =>
    obtain ⟨i, j, hi, rfl, rfl⟩ := hrel
    by_cases hgo : i < n
    · have hz : (i : Int) < (n : Int) := by omega
      obtain ⟨ad, p, rfl, _, hp, a1⟩ := h.at i hgo
      obtain ⟨ad', p', rfl, _, hp', a2⟩ := h'.at i hgo
      obtain rfl : p = p' := by rw [hp] at hp'; injection hp'
      obtain ⟨k0, k1, k2, k3, k4, k5, k6⟩ := a1
      obtain ⟨q0, q1, q2, q3, q4, q5, q6⟩ := a2
      clear h h' hp hp'
      go_wp2_with fail
      go_quiet (fail)
      go_wp2_with fail
      go_roundw
      case rel => exact ⟨i + 1, j + nq, by omega, by go_num, rfl⟩
      case measure => simp [intOf]; omega
    · obtain rfl : i = n := by omega
      go_wp2_with fail
      go_ret
      exact ⟨rfl, j, rfl⟩
set_option maxRecDepth 10000 in
set_option maxHeartbeats 1000000 in
theorem CopyParts_any (A : Option Addr) (n c : Nat) (L : List Pt) (w : World) (h : IsP w w.heap.size A n c L) (hn : n ≤ 5000) :
    Calls Tryz.prog 6 #[.slice A n c] w fun e w' => ∃ A' c', e = .returned (.slice A' n c') ∧ IsP w' w'.heap.size A' n c' L ∧ w'.ownsRow w.heap.size 38 7 (.slice A' n c') n (L.flatMap cellsP) ∧ Below w.heap.size w w' := by
  have hm := h.max
  have hcp := h.cap
  unfold maxLen at hm
  obtain ⟨i32, hi32, hz32, hs32, hb32⟩ := info_parts Tryz.info38
  go_enter Tryz.func6, Tryz.ntmps6
  go_wp2_with fail
  go_loopw [3, 4] (fun vo vi wr => ∃ i : Nat, i ≤ n ∧ vi = .int .i64 i ∧ wr.ownsRow w.heap.size 38 7 vo i ((L.take i).flatMap cellsP) ∧ Below w.heap.size w wr) (fun _ vi _ => n - (intOf vi).toNat)
  case atStart => exact ⟨0, Nat.zero_le _, rfl, World.ownsRow_nil _ _ _ _, Below.refl _ _⟩
  case round =>
    obtain ⟨i, hi, rfl, ho, hw⟩ := hrel
    by_cases hgo : i < n
    · have hz : (i : Int) < (n : Int) := by omega
      obtain ⟨ad, p, rfl, hl, hp, a1⟩ := h.at i hgo
      obtain ⟨k0, k1, k2, k3, k4, k5, k6⟩ := a1.below hw (by rw [block_of_add]; exact hl)
      obtain ⟨Ao, co, rfl, hoc, hom⟩ := own_slice ho
      have hL : i < L.length := by rw [h.len]; exact hgo
      have HT : Hid ((L.take (i + 1)).flatMap cellsP = (L.take i).flatMap cellsP ++ cellsP p) := by
        unfold Hid
        rw [List.take_succ_eq_append_getElem hL, List.flatMap_append]
        rw [List.getElem?_eq_getElem hL] at hp
        injection hp with hp
        simp [hp]
      have HO := hid ho
      clear hp a1 h ho
      go_wp2_with (at_builtin; refine wpList_append_own _ rfl (.tmp 11) (.tmp 16) 22 rfl w.heap.size 38 i32 _ 7 56 Tryz.underlying22 hi32 hz32 hs32 hb32 rfl (by decide) (.slice Ao i co) i ((L.take i).flatMap cellsP) rfl (HO.out.alloc _) ⟨wr.heap.size, 0, none⟩ 1 1 (cellsP p) rfl rfl (seven_cells wr p) (by intro u hu; simp [cellsP] at hu; rcases hu with rfl | rfl | rfl | rfl | rfl | rfl | rfl <;> rfl) (by unfold maxLen; omega) (by omega) (by have := hw.size; simp; omega) ?_
                   intro v1 w2 hown1 hg1 _
                   have bl2 : Below w.heap.size w w2 := (hw.alloc hw.size _).grown hg1 (by have := hw.size; simp; omega) (fun g hg => (HO.out.lt g hg).1))
      go_roundw
      case rel => exact ⟨i + 1, by omega, by go_num, by rw [HT.out]; exact hown1, bl2⟩
      case measure => simp [intOf]; omega
    · obtain rfl : i = n := by omega
      go_wp2_with fail
      go_ret
      have hL : L.take i = L := List.take_of_length_le (by rw [h.len]; omega)
      rw [hL] at ho
      obtain ⟨A', c', rfl, hp, _⟩ := own_isP h.len ho
      exact ⟨A', c', rfl, hp, ho, hw⟩
set_option maxRecDepth 10000 in
set_option maxHeartbeats 1000000 in
theorem refMemory_any (A : Option Addr) (n c : Nat) (L : List Pt) (w : World) (h : IsP w w.heap.size A n c L) (hn : n ≤ 5000) :
    Calls Tryz.prog 53 #[.slice A n c] w fun e w' => e = .returned (.int .i64 (memP L)) ∧ Below w.heap.size w w' := by
  have hm := h.max
  have hcp := h.cap
  unfold maxLen at hm
  go_enter Tryz.func53, Tryz.ntmps53
  go_wp2_with fail
  go_loopw [3, 4] (fun vo vi wr => ∃ i : Nat, i ≤ n ∧ vi = .int .i64 i ∧ vo = .int .i64 (memP (L.take i)) ∧ Below w.heap.size w wr) (fun _ vi _ => n - (intOf vi).toNat)
  case atStart => exact ⟨0, Nat.zero_le _, rfl, rfl, Below.refl _ _⟩
  case round =>
    obtain ⟨i, hi, rfl, rfl, hw⟩ := hrel
    by_cases hgo : i < n
    · have hz : (i : Int) < (n : Int) := by omega
      obtain ⟨ad, p, rfl, hl, hp, a1⟩ := h.at i hgo
      obtain ⟨k0, k1, k2, k3, k4, k5, k6⟩ := a1.below hw (by rw [block_of_add]; exact hl)
      have hL : i < L.length := by rw [h.len]; exact hgo
      have HT : Hid (memP (L.take (i + 1)) = memP (L.take i) + plI p.kind p.size p.b) := by
        unfold Hid
        rw [memP_succ L i hL, places_plI]
        rw [List.getElem?_eq_getElem hL] at hp
        injection hp with hp
        rw [hp]
      have hr := memP_range (L.take i)
      rw [List.length_take] at hr
      have hpr := places_i p
      have HP := hid (fun w => refPlaces_any p.kind p.size p.a p.b p.c p.rate p.limit w)
      unfold vP at HP
      obtain ⟨S, hS⟩ : ∃ S, memP (L.take i) = S := ⟨_, rfl⟩
      obtain ⟨q, hq⟩ : ∃ q, plI p.kind p.size p.b = q := ⟨_, rfl⟩
      rw [hq] at HP HT hpr
      rw [hS] at HT hr ⊢
      obtain ⟨T, hT⟩ : ∃ T, memP (L.take (i + 1)) = T := ⟨_, rfl⟩
      rw [hT] at HT
      have HT2 := hid hT
      have s1 : S ≤ 700000000 := by omega
      have s0 := hr.1
      have q0 := hpr.1
      have q1 := hpr.2
      clear hp a1 h hS hq hT hr hpr
      go_wp2_with fail
      refine (HP.out _).mono ?_
      rintro e w2 ⟨rfl, b2⟩
      have B2 : Below w.heap.size w w2 := hw.trans (b2.mono hw.size)
      go_wp2_with fail
      go_roundw
      case rel => exact ⟨i + 1, by omega, by go_num, by rw [HT2.out, HT.out], B2⟩
      case measure => simp [intOf]; omega
    · obtain rfl : i = n := by omega
      have hL : L.take i = L := List.take_of_length_le (by rw [h.len]; omega)
      rw [hL]
      go_wp2_with fail
      go_ret
      exact ⟨rfl, hw⟩
end Go.Proofs.YtkfdbibgjoaefaaGreatDoor
