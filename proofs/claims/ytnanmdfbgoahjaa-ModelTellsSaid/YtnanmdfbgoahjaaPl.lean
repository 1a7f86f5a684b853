/-
  The places of a part: the program's.
-/
import Derived.Test.YtnanmdfbgoahjaaBtw
import Derived.Deep.RegionHeld3
namespace Go.Proofs.Ytnanmdfbgoahjaa
open Go.RowKit

/-- A part as it is handed on. -/
def vP (k s a b c r m : Int) : Value := .agg #[.int .u8 k, .int .i64 s, .int .i64 a, .int .i64 b, .int .i64 c, .int .i64 r, .int .i64 m]
/-- A part in block g. -/
structure BoxAt (w : World) (g : Nat) (k s a b c r m : Int) : Prop where
  c0 : w.cell? ⟨g, 0, none⟩ = some (.int .u8 k)
  c1 : w.cell? ⟨g, 1, none⟩ = some (.int .i64 s)
  c2 : w.cell? ⟨g, 2, none⟩ = some (.int .i64 a)
  c3 : w.cell? ⟨g, 3, none⟩ = some (.int .i64 b)
  c4 : w.cell? ⟨g, 4, none⟩ = some (.int .i64 c)
  c5 : w.cell? ⟨g, 5, none⟩ = some (.int .i64 r)
  c6 : w.cell? ⟨g, 6, none⟩ = some (.int .i64 m)
theorem BoxAt.below {w w' : World} {g : Nat} {k s a b c r m : Int} (h : BoxAt w g k s a b c r m) (hb : Below w.heap.size w w') : BoxAt w' g k s a b c r m :=
  have hl := lt_cell h.c0
  ⟨(hb.cell hl).trans h.c0, (hb.cell (p := ⟨g, 1, none⟩) hl).trans h.c1, (hb.cell (p := ⟨g, 2, none⟩) hl).trans h.c2, (hb.cell (p := ⟨g, 3, none⟩) hl).trans h.c3, (hb.cell (p := ⟨g, 4, none⟩) hl).trans h.c4,
    (hb.cell (p := ⟨g, 5, none⟩) hl).trans h.c5, (hb.cell (p := ⟨g, 6, none⟩) hl).trans h.c6⟩
theorem boxed (w : World) (k s a b c r m : Int) : BoxAt (w.alloc (.cells #[.int .u8 k, .int .i64 s, .int .i64 a, .int .i64 b, .int .i64 c, .int .i64 r, .int .i64 m] 41)) w.heap.size k s a b c r m := by
  constructor <;> go_simp
def plI (k s b : Int) : Int :=
  if inn s (leastS k) (mostS k) then
    (if k = 3 then pow2 s + 256 else if k = 4 then 2 * pow2 s else if k = 7 then (if inn b 1 8 then b * pow2 s else 0) else if k = 8 then pow2 s + 512 else if k = 9 then 32 * pow2 s else if k = 2 ∨ k = 6 then pow2 s else 0)
  else 0
set_option maxRecDepth 10000 in
set_option maxHeartbeats 1000000 in
theorem places_no (k s a b c r m : Int) (h : ¬ inn s (leastS k) (mostS k)) (w : World) :
    Calls Try.prog 38 #[vP k s a b c r m] w fun e w' => e = .returned (.int .i64 0) ∧ Below w.heap.size w w' := by
  have he : ∀ args w, (callFunc 42 args).run Try.prog w = .ok (.enter 42 args) w := enters_of Try.func42 (by kernel_rfl) rfl
  have B := boxed w k s a b c r m
  obtain ⟨W, hW⟩ : ∃ W, W = w.alloc (.cells #[.int .u8 k, .int .i64 s, .int .i64 a, .int .i64 b, .int .i64 c, .int .i64 r, .int .i64 m] 41) := ⟨_, rfl⟩
  have HS := hid (fun w => sizes_any k w)
  have b0 : Below w.heap.size w W := by rw [hW]; exact (Below.refl _ _).alloc (Nat.le_refl _) _
  rw [← hW] at B
  have e : decide (inn s (leastS k) (mostS k)) = false := decide_eq_false h
  have HB := hid (fun w g1 g2 h1 h2 => asks_any w g1 g2 (leastS k) (mostS k) s h1 h2)
  rw [e] at HB
  have H0 := hid B.c0
  have H1 := hid B.c1
  unfold vP
  clear h e B
  go_enter Try.func38, Try.ntmps38
  go_wp2_with fail
  rw [← hW]
  clear hW
  go_region_held3 (fun w' => w'.cell? ⟨w.heap.size, 0, none⟩ = some (.int .u8 k) ∧ w'.cell? ⟨w.heap.size, 1, none⟩ = some (.int .i64 s)) (first | exact ⟨H0.out, H1.out⟩ | exact ⟨k0, k1⟩ | go_keep)
    (first
    | (go_at_call 36; (refine (HS.out _).mono ?_); rintro r w1 ⟨f, rfl, ⟨g1, g2, rfl, h1, h2⟩, b1⟩; have k0 := keeps b1 H0.out; have k1 := keeps b1 H1.out; have B1 := hid b1; have Q1 := hid h1; have Q2 := hid h2)
    | (go_at_call 42; (refine (HB.out _ _ _ Q1.out Q2.out).mono ?_); rintro r w2 ⟨rfl, rfl⟩))
  all_goals
    go_wp2_with fail
    go_ret
    exact ⟨rfl, b0.drew.trans (B1.out.mono b0.size)⟩
theorem mostS_le (k : Int) : mostS k ≤ 16 := by
  unfold mostS
  split
  · omega
  · split
    · omega
    · split <;> omega
theorem leastS_ge (k : Int) : 0 ≤ leastS k := by unfold leastS; split <;> omega
theorem ret_int {a b : Int} (h : a = b) : Ending.returned (.int .i64 a) = .returned (.int .i64 b) := by rw [h]
theorem wrap64_in (x : Int) (h0 : 0 ≤ x) (h1 : x ≤ 1000000) : wrap64 x = x := by unfold wrap64; omega
set_option maxRecDepth 10000 in
set_option maxHeartbeats 4000000 in
theorem places_yes (k s a b c r m : Int) (h : inn s (leastS k) (mostS k)) (w : World) :
    Calls Try.prog 38 #[vP k s a b c r m] w fun e w' => e = .returned (.int .i64 (plI k s b)) ∧ Below w.heap.size w w' := by
  have he : ∀ args w, (callFunc 42 args).run Try.prog w = .ok (.enter 42 args) w := enters_of Try.func42 (by kernel_rfl) rfl
  have B := boxed w k s a b c r m
  obtain ⟨W, hW⟩ : ∃ W, W = w.alloc (.cells #[.int .u8 k, .int .i64 s, .int .i64 a, .int .i64 b, .int .i64 c, .int .i64 r, .int .i64 m] 41) := ⟨_, rfl⟩
  have HS := hid (fun w => sizes_any k w)
  have b0 : Below w.heap.size w W := by rw [hW]; exact (Below.refl _ _).alloc (Nat.le_refl _) _
  rw [← hW] at B
  have e : decide (inn s (leastS k) (mostS k)) = true := decide_eq_true h
  have HB := hid (fun w g1 g2 h1 h2 => asks_any w g1 g2 (leastS k) (mostS k) s h1 h2)
  rw [e] at HB
  have HC := hid (fun w g1 g2 h1 h2 => asks_any w g1 g2 1 8 b h1 h2)
  have HT := hid (fun w => between_any 1 8 w)
  have H0 := hid B.c0
  have H1 := hid B.c1
  have H3 := hid B.c3
  have b0 := hid b0
  have HE : Hid (plI k s b = (if k = 3 then pow2 s + 256 else if k = 4 then 2 * pow2 s else if k = 7 then (if inn b 1 8 then b * pow2 s else 0) else if k = 8 then pow2 s + 512 else if k = 9 then 32 * pow2 s else if k = 2 ∨ k = 6 then pow2 s else 0)) := by
    unfold Hid plI; rw [if_pos h]
  have s0 : 0 ≤ s := by have := leastS_ge k; have := h.1; omega
  have s1 : s ≤ 16 := by have := mostS_le k; have := h.2; omega
  obtain ⟨t, ht⟩ : ∃ t, pow2 s = t := ⟨_, rfl⟩
  have t1 : 1 ≤ t := by rw [← ht]; exact pow2_pos s
  have t2 : t ≤ 65536 := by rw [← ht]; exact pow2_le s 16 (by omega)
  have t7 : Hid (k = 7 → t ≤ 4096) := by
    intro e7
    subst e7
    rw [← ht]; exact pow2_le s 12 (by have := h.2; unfold mostS at this; simp at this; omega)
  rw [ht] at HE
  have hw : wrap64 (2 ^ s.toNat) = t := by
    have : (2 : Int) ^ s.toNat = t := ht
    rw [this]; exact wrap64_in _ (by omega) (by omega)
  unfold vP
  clear h e B ht
  go_enter Try.func38, Try.ntmps38
  go_wp2_with fail
  rw [← hW]
  clear hW
  go_region_held3 (fun w' => w'.cell? ⟨w.heap.size, 0, none⟩ = some (.int .u8 k) ∧ w'.cell? ⟨w.heap.size, 1, none⟩ = some (.int .i64 s)) (first | exact ⟨H0.out, H1.out⟩ | exact ⟨k0, k1⟩ | go_keep)
    (first
    | (go_at_call 36; (refine (HS.out _).mono ?_); rintro r w1 ⟨f, rfl, ⟨g1, g2, rfl, h1, h2⟩, b1⟩; have k0 := keeps b1 H0.out; have k1 := keeps b1 H1.out; have k3 := keeps b1 H3.out; have B1 := hid b1; have Q1 := hid h1; have Q2 := hid h2)
    | (go_at_call 42; (refine (HB.out _ _ _ Q1.out Q2.out).mono ?_); rintro r w2 ⟨rfl, rfl⟩))
  have B2 := hid (b0.out.drew.trans (B1.out.mono b0.out.size))
  clear Q1 Q2 HB HS B1 b0 b1 h1 h2 H0 H1 H3
  rename World => w2
  rcases (by omega : k = 2 ∨ k = 3 ∨ k = 4 ∨ k = 6 ∨ k = 8 ∨ k = 9 ∨ k = 7 ∨ (k ≠ 2 ∧ k ≠ 3 ∧ k ≠ 4 ∧ k ≠ 6 ∧ k ≠ 8 ∧ k ≠ 9 ∧ k ≠ 7)) with h | h | h | h | h | h | h | ⟨x2, x3, x4, x6, x8, x9, x7⟩
  iterate 6
    · subst h
      clear HC HT he t7
      go_wp2_with fail
      go_ret
      exact ⟨ret_int (by rw [HE.out]; simp; try omega), B2.out⟩
  · have t4 := t7.out h
    clear t7
    subst h
    have K3 := hid k3
    clear k3
    by_cases hb : inn b 1 8
    · have e2 : decide (inn b 1 8) = true := decide_eq_true hb
      rw [e2] at HC
      obtain ⟨q, hq⟩ : ∃ q, b * t = q := ⟨_, rfl⟩
      have hm : wrap64 (b * t) = q := by
        rw [wrap64_in _ (Int.mul_nonneg (by have := hb.1; omega) (by omega)) (by
          have : b * t ≤ 8 * 4096 := Int.mul_le_mul hb.2 t4 (by omega) (by omega)
          omega), hq]
      have HF : Hid (plI 7 s b = q) := by
        unfold Hid; rw [HE.out]; simp only [hb, if_true, hq]; rfl
      clear hq e2 hb HE
      have Hm := hid hm
      clear hm
      go_wp2_with fail
      go_region_held3 (fun w' => w'.cell? ⟨w.heap.size, 3, none⟩ = some (.int .i64 b)) (first | exact K3.out | exact q3 | go_keep)
        (first
        | (go_at_call 37; (refine (HT.out _).mono ?_); rintro r w3 ⟨f, rfl, ⟨g3, g4, rfl, h3, h4⟩, b3⟩; have q3 := keeps b3 K3.out; have B3 := hid b3; have Q3 := hid h3; have Q4 := hid h4)
        | (go_at_call 42; (refine (HC.out _ _ _ Q3.out Q4.out).mono ?_); rintro r w4 ⟨rfl, rfl⟩))
      go_wp2_with fail
      go_ret
      exact ⟨ret_int (Hm.out.trans HF.out.symm), B2.out.drew.trans (B3.out.mono B2.out.size)⟩
    · have e2 : decide (inn b 1 8) = false := decide_eq_false hb
      rw [e2] at HC
      have HF : Hid (plI 7 s b = 0) := by
        unfold Hid; rw [HE.out]; simp only [hb, if_true, if_false]; rfl
      clear e2 hb HE
      go_wp2_with fail
      go_region_held3 (fun w' => w'.cell? ⟨w.heap.size, 3, none⟩ = some (.int .i64 b)) (first | exact K3.out | exact q3 | go_keep)
        (first
        | (go_at_call 37; (refine (HT.out _).mono ?_); rintro r w3 ⟨f, rfl, ⟨g3, g4, rfl, h3, h4⟩, b3⟩; have q3 := keeps b3 K3.out; have B3 := hid b3; have Q3 := hid h3; have Q4 := hid h4)
        | (go_at_call 42; (refine (HC.out _ _ _ Q3.out Q4.out).mono ?_); rintro r w4 ⟨rfl, rfl⟩))
      go_wp2_with fail
      go_ret
      exact ⟨ret_int HF.out.symm, B2.out.drew.trans (B3.out.mono B2.out.size)⟩
  · clear HC HT he t7
    go_wp2_with fail
    go_ret
    exact ⟨ret_int (by rw [HE.out, if_neg x3, if_neg x4, if_neg x7, if_neg x8, if_neg x9, if_neg (by omega)]), B2.out⟩
theorem places_any (k s a b c r m : Int) (w : World) :
    Calls Try.prog 38 #[vP k s a b c r m] w fun e w' => e = .returned (.int .i64 (plI k s b)) ∧ Below w.heap.size w w' := by
  by_cases h : inn s (leastS k) (mostS k)
  · exact places_yes k s a b c r m h w
  · have e : plI k s b = 0 := if_neg h
    rw [e]
    exact places_no k s a b c r m h w
/-- The document's reckoning and the program's are one. -/
theorem places_plI (p : Pt) : p.places = plI p.kind p.size p.b := by
  obtain ⟨k, s, a, b, c, r, m⟩ := p
  unfold Pt.places plI inn leastP leastS mostP mostS
  dsimp only
  rcases (by omega : k = 2 ∨ k = 3 ∨ k = 4 ∨ k = 6 ∨ k = 8 ∨ k = 9 ∨ k = 7 ∨ (k ≠ 2 ∧ k ≠ 3 ∧ k ≠ 4 ∧ k ≠ 6 ∧ k ≠ 8 ∧ k ≠ 9 ∧ k ≠ 7)) with h | h | h | h | h | h | h | ⟨x2, x3, x4, x6, x8, x9, x7⟩
  iterate 7
    · subst h
      simp
  · have n2 : ¬ (k : Int) = 2 := by omega
    have n3 : ¬ (k : Int) = 3 := by omega
    have n4 : ¬ (k : Int) = 4 := by omega
    have n6 : ¬ (k : Int) = 6 := by omega
    have n7 : ¬ (k : Int) = 7 := by omega
    have n8 : ¬ (k : Int) = 8 := by omega
    have n9 : ¬ (k : Int) = 9 := by omega
    simp only [x2, x3, x4, x6, x8, x9, x7, n2, n3, n4, n6, n7, n8, n9, if_false, or_self]
    rw [if_neg (by omega)]
    split <;> rfl
end Go.Proofs.Ytnanmdfbgoahjaa
