/-
  The document's places: within, most, power, Places.
-/
import Derived.Test.YtnanmdfbgoahjaaPl
namespace Go.Proofs.Ytnanmdfbgoahjaa
open Go.RowKit

set_option maxRecDepth 10000 in
theorem within_any (n a b : Int) (w : World) : Calls Try.prog 41 #[.int .i64 n, .int .i64 a, .int .i64 b] w fun e w' => e = .returned (.bool (decide (inn n a b))) ∧ w' = w := by
  unfold inn
  by_cases h : a ≤ n
  · by_cases h' : n ≤ b
    · have e : decide (a ≤ n ∧ n ≤ b) = true := decide_eq_true ⟨h, h'⟩
      rw [e]
      go_enter Try.func41, Try.ntmps41
      go_wp2_with fail
      go_ret
      exact ⟨rfl, rfl⟩
    · have e : decide (a ≤ n ∧ n ≤ b) = false := decide_eq_false (fun hh => h' hh.2)
      rw [e]
      go_enter Try.func41, Try.ntmps41
      go_wp2_with fail
      go_ret
      exact ⟨rfl, rfl⟩
  · have e : decide (a ≤ n ∧ n ≤ b) = false := decide_eq_false (fun hh => h hh.1)
    rw [e]
    go_enter Try.func41, Try.ntmps41
    go_wp2_with fail
    go_ret
    exact ⟨rfl, rfl⟩
def mostR (k : Int) : Int := if k = 2 ∨ k = 3 ∨ k = 4 ∨ k = 6 ∨ k = 8 then 16 else if k = 7 then 12 else if k = 9 then 10 else -1
set_option maxRecDepth 10000 in
theorem most_any (k : Int) (w : World) : Calls Try.prog 43 #[.int .u8 k] w fun e w' => e = .returned (.int .i64 (mostR k)) ∧ w' = w := by
  rcases (by omega : k = 2 ∨ k = 3 ∨ k = 4 ∨ k = 6 ∨ k = 8 ∨ k = 9 ∨ k = 7 ∨ (k ≠ 2 ∧ k ≠ 3 ∧ k ≠ 4 ∧ k ≠ 6 ∧ k ≠ 8 ∧ k ≠ 9 ∧ k ≠ 7)) with h | h | h | h | h | h | h | ⟨x2, x3, x4, x6, x8, x9, x7⟩
  iterate 7
    · subst h
      go_enter Try.func43, Try.ntmps43
      go_wp2_with fail
      go_ret
      exact ⟨rfl, rfl⟩
  · have e : mostR k = -1 := by unfold mostR; rw [if_neg (by omega), if_neg x7, if_neg x9]
    rw [e]
    clear e
    go_enter Try.func43, Try.ntmps43
    go_wp2_with fail
    go_ret
    exact ⟨rfl, rfl⟩
theorem pow2_nat (i : Nat) : pow2 ((i : Nat) : Int) = 2 ^ i := by unfold pow2; rw [Int.toNat_natCast]
set_option maxRecDepth 10000 in
theorem power_any (s : Int) (h0 : 0 ≤ s) (h1 : s ≤ 16) (w : World) : Calls Try.prog 44 #[.int .i64 s] w fun e w' => e = .returned (.int .i64 (pow2 s)) ∧ Below w.heap.size w w' := by
  obtain ⟨n, rfl⟩ : ∃ n : Nat, s = n := ⟨s.toNat, by omega⟩
  have hn : n ≤ 16 := by omega
  clear h0 h1
  go_enter Try.func44, Try.ntmps44
  go_wp2_with fail
  go_loopw [3, 4] (fun vp vi wr => ∃ i : Nat, i ≤ n ∧ vi = .int .i64 i ∧ vp = .int .i64 (pow2 (i : Nat)) ∧ Below w.heap.size w wr) (fun _ vi _ => 20 - (intOf vi).toNat)
  case atStart => exact ⟨0, Nat.zero_le _, rfl, rfl, Below.refl _ _⟩
  case round =>
    obtain ⟨i, hi, rfl, rfl, hw⟩ := hrel
    by_cases hgo : i < n
    · have hz : (i : Int) < (n : Int) := by omega
      obtain ⟨p, hp⟩ : ∃ p, pow2 (i : Nat) = p := ⟨_, rfl⟩
      have p1 : p ≤ 65536 := by rw [← hp]; exact pow2_le _ 16 (by omega)
      have p0 : 1 ≤ p := by rw [← hp]; exact pow2_pos _
      have hq : pow2 ((i + 1 : Nat) : Int) = p * 2 := by rw [← hp, pow2_nat, pow2_nat, Int.pow_succ]
      rw [hp]
      have Hq := hid hq
      clear hp hq
      go_wp2_with fail
      go_roundw
      case rel => exact ⟨i + 1, by omega, by go_num, by rw [Hq.out], hw⟩
      case measure => simp [intOf]; omega
    · obtain rfl : i = n := by omega
      go_wp2_with fail
      go_ret
      exact ⟨rfl, hw⟩
set_option maxRecDepth 10000 in
set_option maxHeartbeats 4000000 in
theorem refPlaces_no4 (k s a b c r m : Int) (h : ¬ inn s (leastS k) (mostR k)) (hk4 : k = 4) (w : World) :
    Calls Try.prog 40 #[vP k s a b c r m] w fun e w' => e = .returned (.int .i64 0) ∧ Below w.heap.size w w' := by
  have B := boxed w k s a b c r m
  obtain ⟨W, hW⟩ : ∃ W, W = w.alloc (.cells #[.int .u8 k, .int .i64 s, .int .i64 a, .int .i64 b, .int .i64 c, .int .i64 r, .int .i64 m] 41) := ⟨_, rfl⟩
  have HS := hid (fun w => most_any k w)
  have HB := hid (fun w => within_any s (leastS k) (mostR k) w)
  have HC := hid (fun w => within_any b 1 8 w)
  have b0 := hid (show Below w.heap.size w W by rw [hW]; exact (Below.refl _ _).alloc (Nat.le_refl _) _)
  rw [← hW] at B
  have H0 := hid B.c0
  have H1 := hid B.c1
  have H3 := hid B.c3
  unfold vP
  clear B
  rw [decide_eq_false h] at HB
  have hl : leastS k = 4 := by rw [hk4]; rfl
  rw [hl] at HB
  clear hl
  obtain ⟨M, hM⟩ : ∃ M, mostR k = M := ⟨_, rfl⟩
  rw [hM] at HS HB
  clear hM
  clear h
  subst hk4
  go_enter Try.func40, Try.ntmps40
  go_wp2_with fail
  rw [← hW]
  clear hW
  go_region_held3 (fun w' => w'.cell? ⟨w.heap.size, 0, none⟩ = some (.int .u8 4) ∧ w'.cell? ⟨w.heap.size, 1, none⟩ = some (.int .i64 s)) (first | exact ⟨H0.out, H1.out⟩ | go_keep)
    (first
    | (go_at_call 43; (refine (HS.out _).mono ?_); rintro r w1 ⟨rfl, rfl⟩)
    | (go_at_call 41; (refine (HB.out _).mono ?_); rintro r w2 ⟨rfl, rfl⟩))
  go_wp2_with fail
  go_ret
  exact ⟨rfl, b0.out.drew⟩
set_option maxRecDepth 10000 in
set_option maxHeartbeats 4000000 in
theorem refPlaces_yes4 (k s a b c r m : Int) (h :  inn s (leastS k) (mostR k)) (hk4 : k = 4) (w : World) :
    Calls Try.prog 40 #[vP k s a b c r m] w fun e w' => e = .returned (.int .i64 (plI k s b)) ∧ Below w.heap.size w w' := by
  have B := boxed w k s a b c r m
  obtain ⟨W, hW⟩ : ∃ W, W = w.alloc (.cells #[.int .u8 k, .int .i64 s, .int .i64 a, .int .i64 b, .int .i64 c, .int .i64 r, .int .i64 m] 41) := ⟨_, rfl⟩
  have HS := hid (fun w => most_any k w)
  have HB := hid (fun w => within_any s (leastS k) (mostR k) w)
  have HC := hid (fun w => within_any b 1 8 w)
  have b0 := hid (show Below w.heap.size w W by rw [hW]; exact (Below.refl _ _).alloc (Nat.le_refl _) _)
  rw [← hW] at B
  have H0 := hid B.c0
  have H1 := hid B.c1
  have H3 := hid B.c3
  unfold vP
  clear B
  rw [decide_eq_true h] at HB
  have s0 : 0 ≤ s := by have := leastS_ge k; have := h.1; omega
  have hmr : mostR k ≤ 16 := by
    unfold mostR
    split
    · omega
    · split
      · omega
      · split <;> omega
  have s1 : s ≤ 16 := by have := h.2; omega
  have HQ := hid (fun w => power_any s s0 s1 w)
  have hk : k = 2 ∨ k = 3 ∨ k = 4 ∨ k = 6 ∨ k = 8 ∨ k = 9 ∨ k = 7 := by
    unfold mostR at h
    refine Classical.byContradiction (fun hn => ?_)
    rw [if_neg (by omega), if_neg (by omega), if_neg (by omega)] at h
    have := h.1; have := h.2; have := leastS_ge k; omega
  have hms : mostS k = mostR k := by
    unfold mostS mostR
    split
    · rfl
    · split
      · rfl
      · split
        · rfl
        · omega
  have HE : Hid (plI k s b = (if k = 3 then pow2 s + 256 else if k = 4 then 2 * pow2 s else if k = 7 then (if inn b 1 8 then b * pow2 s else 0) else if k = 8 then pow2 s + 512 else if k = 9 then 32 * pow2 s else if k = 2 ∨ k = 6 then pow2 s else 0)) := by
    unfold Hid plI; rw [hms, if_pos h]
  obtain ⟨t, ht⟩ : ∃ t, pow2 s = t := ⟨_, rfl⟩
  have t1 : 1 ≤ t := by rw [← ht]; exact pow2_pos s
  have t2 : t ≤ 65536 := by rw [← ht]; exact pow2_le s 16 (by omega)
  have t7 : Hid (k = 7 → t ≤ 4096) := by
    intro e7
    subst e7
    rw [← ht]; exact pow2_le s 12 (by have := h.2; unfold mostR at this; simp at this; omega)
  rw [ht] at HE HQ
  clear ht hmr hms
  have hl : leastS k = 4 := by rw [hk4]; rfl
  rw [hl] at HB
  clear hl
  obtain ⟨M, hM⟩ : ∃ M, mostR k = M := ⟨_, rfl⟩
  rw [hM] at HS HB
  clear hM
  clear h hk
  subst hk4
  go_enter Try.func40, Try.ntmps40
  go_wp2_with fail
  rw [← hW]
  clear hW
  go_region_held3 (fun w' => w'.cell? ⟨w.heap.size, 0, none⟩ = some (.int .u8 4) ∧ w'.cell? ⟨w.heap.size, 1, none⟩ = some (.int .i64 s)) (first | exact ⟨H0.out, H1.out⟩ | go_keep)
    (first
    | (go_at_call 43; (refine (HS.out _).mono ?_); rintro r w1 ⟨rfl, rfl⟩)
    | (go_at_call 41; (refine (HB.out _).mono ?_); rintro r w2 ⟨rfl, rfl⟩))
  clear HS HB HC t7 H3
  have c1 : W.drew.cell? ⟨w.heap.size, 1, none⟩ = some (.int .i64 s) := H1.out
  go_wp2_with fail
  refine (HQ.out _).mono ?_
  rintro e w3 ⟨rfl, b3⟩
  have c0 := keeps b3 H0.out
  have B3 := hid (b0.out.drew.trans (b3.mono b0.out.size))
  clear b3 H0 H1 c1 b0
  go_wp2_with fail
  go_ret
  exact ⟨ret_int (by rw [HE.out]; simp; try omega), B3.out⟩
set_option maxRecDepth 10000 in
set_option maxHeartbeats 4000000 in
theorem refPlaces_nox (k s a b c r m : Int) (h : ¬ inn s (leastS k) (mostR k)) (hk4 : k ≠ 4) (w : World) :
    Calls Try.prog 40 #[vP k s a b c r m] w fun e w' => e = .returned (.int .i64 0) ∧ Below w.heap.size w w' := by
  have B := boxed w k s a b c r m
  obtain ⟨W, hW⟩ : ∃ W, W = w.alloc (.cells #[.int .u8 k, .int .i64 s, .int .i64 a, .int .i64 b, .int .i64 c, .int .i64 r, .int .i64 m] 41) := ⟨_, rfl⟩
  have HS := hid (fun w => most_any k w)
  have HB := hid (fun w => within_any s (leastS k) (mostR k) w)
  have HC := hid (fun w => within_any b 1 8 w)
  have b0 := hid (show Below w.heap.size w W by rw [hW]; exact (Below.refl _ _).alloc (Nat.le_refl _) _)
  rw [← hW] at B
  have H0 := hid B.c0
  have H1 := hid B.c1
  have H3 := hid B.c3
  unfold vP
  clear B
  rw [decide_eq_false h] at HB
  have hl : leastS k = 0 := if_neg hk4
  rw [hl] at HB
  clear hl
  obtain ⟨M, hM⟩ : ∃ M, mostR k = M := ⟨_, rfl⟩
  rw [hM] at HS HB
  clear hM
  clear h
  go_enter Try.func40, Try.ntmps40
  go_wp2_with fail
  rw [← hW]
  clear hW
  go_region_held3 (fun w' => w'.cell? ⟨w.heap.size, 0, none⟩ = some (.int .u8 k) ∧ w'.cell? ⟨w.heap.size, 1, none⟩ = some (.int .i64 s)) (first | exact ⟨H0.out, H1.out⟩ | go_keep)
    (first
    | (go_at_call 43; (refine (HS.out _).mono ?_); rintro r w1 ⟨rfl, rfl⟩)
    | (go_at_call 41; (refine (HB.out _).mono ?_); rintro r w2 ⟨rfl, rfl⟩))
  go_wp2_with fail
  go_ret
  exact ⟨rfl, b0.out.drew⟩
set_option maxRecDepth 10000 in
set_option maxHeartbeats 4000000 in
theorem refPlaces_yesx (k s a b c r m : Int) (h :  inn s (leastS k) (mostR k)) (hk4 : k ≠ 4) (w : World) :
    Calls Try.prog 40 #[vP k s a b c r m] w fun e w' => e = .returned (.int .i64 (plI k s b)) ∧ Below w.heap.size w w' := by
  have B := boxed w k s a b c r m
  obtain ⟨W, hW⟩ : ∃ W, W = w.alloc (.cells #[.int .u8 k, .int .i64 s, .int .i64 a, .int .i64 b, .int .i64 c, .int .i64 r, .int .i64 m] 41) := ⟨_, rfl⟩
  have HS := hid (fun w => most_any k w)
  have HB := hid (fun w => within_any s (leastS k) (mostR k) w)
  have HC := hid (fun w => within_any b 1 8 w)
  have b0 := hid (show Below w.heap.size w W by rw [hW]; exact (Below.refl _ _).alloc (Nat.le_refl _) _)
  rw [← hW] at B
  have H0 := hid B.c0
  have H1 := hid B.c1
  have H3 := hid B.c3
  unfold vP
  clear B
  rw [decide_eq_true h] at HB
  have s0 : 0 ≤ s := by have := leastS_ge k; have := h.1; omega
  have hmr : mostR k ≤ 16 := by
    unfold mostR
    split
    · omega
    · split
      · omega
      · split <;> omega
  have s1 : s ≤ 16 := by have := h.2; omega
  have HQ := hid (fun w => power_any s s0 s1 w)
  have hk : k = 2 ∨ k = 3 ∨ k = 4 ∨ k = 6 ∨ k = 8 ∨ k = 9 ∨ k = 7 := by
    unfold mostR at h
    refine Classical.byContradiction (fun hn => ?_)
    rw [if_neg (by omega), if_neg (by omega), if_neg (by omega)] at h
    have := h.1; have := h.2; have := leastS_ge k; omega
  have hms : mostS k = mostR k := by
    unfold mostS mostR
    split
    · rfl
    · split
      · rfl
      · split
        · rfl
        · omega
  have HE : Hid (plI k s b = (if k = 3 then pow2 s + 256 else if k = 4 then 2 * pow2 s else if k = 7 then (if inn b 1 8 then b * pow2 s else 0) else if k = 8 then pow2 s + 512 else if k = 9 then 32 * pow2 s else if k = 2 ∨ k = 6 then pow2 s else 0)) := by
    unfold Hid plI; rw [hms, if_pos h]
  obtain ⟨t, ht⟩ : ∃ t, pow2 s = t := ⟨_, rfl⟩
  have t1 : 1 ≤ t := by rw [← ht]; exact pow2_pos s
  have t2 : t ≤ 65536 := by rw [← ht]; exact pow2_le s 16 (by omega)
  have t7 : Hid (k = 7 → t ≤ 4096) := by
    intro e7
    subst e7
    rw [← ht]; exact pow2_le s 12 (by have := h.2; unfold mostR at this; simp at this; omega)
  rw [ht] at HE HQ
  clear ht hmr hms
  have hl : leastS k = 0 := if_neg hk4
  rw [hl] at HB
  clear hl
  obtain ⟨M, hM⟩ : ∃ M, mostR k = M := ⟨_, rfl⟩
  rw [hM] at HS HB
  clear hM
  clear h
  go_enter Try.func40, Try.ntmps40
  go_wp2_with fail
  rw [← hW]
  clear hW
  go_region_held3 (fun w' => w'.cell? ⟨w.heap.size, 0, none⟩ = some (.int .u8 k) ∧ w'.cell? ⟨w.heap.size, 1, none⟩ = some (.int .i64 s)) (first | exact ⟨H0.out, H1.out⟩ | go_keep)
    (first
    | (go_at_call 43; (refine (HS.out _).mono ?_); rintro r w1 ⟨rfl, rfl⟩)
    | (go_at_call 41; (refine (HB.out _).mono ?_); rintro r w2 ⟨rfl, rfl⟩))
  clear HS HB
  have c1 : W.drew.cell? ⟨w.heap.size, 1, none⟩ = some (.int .i64 s) := H1.out
  go_wp2_with fail
  refine (HQ.out _).mono ?_
  rintro e w3 ⟨rfl, b3⟩
  have c0 := keeps b3 H0.out
  have K3 := hid (keeps b3 H3.out)
  have B3 := hid (b0.out.drew.trans (b3.mono b0.out.size))
  clear b3 H0 H1 H3 c1 b0
  rcases hk with h | h | h | h | h | h | h
  · subst h
    clear HC t7
    go_wp2_with fail
    go_ret
    exact ⟨ret_int (by rw [HE.out]; simp; try omega), B3.out⟩
  · subst h
    clear HC t7
    go_wp2_with fail
    go_ret
    exact ⟨ret_int (by rw [HE.out]; simp; try omega), B3.out⟩
  · exact absurd h hk4
  · subst h
    clear HC t7
    go_wp2_with fail
    go_ret
    exact ⟨ret_int (by rw [HE.out]; simp; try omega), B3.out⟩
  · subst h
    clear HC t7
    go_wp2_with fail
    go_ret
    exact ⟨ret_int (by rw [HE.out]; simp; try omega), B3.out⟩
  · subst h
    clear HC t7
    go_wp2_with fail
    go_ret
    exact ⟨ret_int (by rw [HE.out]; simp; try omega), B3.out⟩
  · have t4 := t7.out h
    clear t7
    subst h
    have c3 := K3.out
    by_cases hb : inn b 1 8
    · rw [decide_eq_true hb] at HC
      obtain ⟨q, hq⟩ : ∃ q, b * t = q := ⟨_, rfl⟩
      have hm : wrap64 (b * t) = q := by
        rw [wrap64_in _ (Int.mul_nonneg (by have := hb.1; omega) (by omega)) (by
          have : b * t ≤ 8 * 4096 := Int.mul_le_mul hb.2 t4 (by omega) (by omega)
          omega), hq]
      have HF : Hid (plI 7 s b = q) := by
        unfold Hid; rw [HE.out]; simp only [hb, if_true, hq]; rfl
      clear hq hb HE
      have Hm := hid hm
      clear hm
      go_wp2_with fail
      refine (HC.out _).mono ?_
      rintro e w4 ⟨rfl, rfl⟩
      go_wp2_with fail
      go_ret
      exact ⟨ret_int (Hm.out.trans HF.out.symm), B3.out⟩
    · rw [decide_eq_false hb] at HC
      have HF : Hid (plI 7 s b = 0) := by
        unfold Hid; rw [HE.out]; simp only [hb, if_true, if_false]; rfl
      clear hb HE
      go_wp2_with fail
      refine (HC.out _).mono ?_
      rintro e w4 ⟨rfl, rfl⟩
      go_wp2_with fail
      go_ret
      exact ⟨ret_int HF.out.symm, B3.out⟩
theorem refPlaces_any (k s a b c r m : Int) (w : World) :
    Calls Try.prog 40 #[vP k s a b c r m] w fun e w' => e = .returned (.int .i64 (plI k s b)) ∧ Below w.heap.size w w' := by
  by_cases h : inn s (leastS k) (mostR k)
  · by_cases h4 : k = 4
    · exact refPlaces_yes4 k s a b c r m h h4 w
    · exact refPlaces_yesx k s a b c r m h h4 w
  · have e : plI k s b = 0 := by
      unfold plI
      by_cases hs : inn s (leastS k) (mostS k)
      · rw [if_pos hs]
        have hk : ¬ (k = 2 ∨ k = 3 ∨ k = 4 ∨ k = 6 ∨ k = 8 ∨ k = 9 ∨ k = 7) := by
          intro hk
          refine h ?_
          have : mostR k = mostS k := by
            unfold mostS mostR
            split
            · rfl
            · split
              · rfl
              · split
                · rfl
                · omega
          rw [this]; exact hs
        rw [if_neg (by omega), if_neg (by omega), if_neg (by omega), if_neg (by omega), if_neg (by omega), if_neg (by omega)]
      · rw [if_neg hs]
    rw [e]
    by_cases h4 : k = 4
    · exact refPlaces_no4 k s a b c r m h h4 w
    · exact refPlaces_nox k s a b c r m h h4 w
end Go.Proofs.Ytnanmdfbgoahjaa
