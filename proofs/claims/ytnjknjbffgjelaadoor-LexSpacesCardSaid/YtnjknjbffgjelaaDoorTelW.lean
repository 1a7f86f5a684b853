/-
  LexTells: its walk (written by tools/stage18/gen_telw.py).
-/
import Derived.Test.YtnjknjbffgjelaaDoorRft
import Derived.Test.YtnjknjbffgjelaaDoorAwk
set_option linter.unusedVariables false
set_option linter.unusedSimpArgs false
namespace Go.Proofs.YtnjknjbffgjelaaDoor
open Go.RowKit

theorem lexR_len (l : List UInt8) (h : l.length ≤ 20000) (A : Option Addr) : True := trivial
theorem own_len {w : World} {B n c : Nat} {A : Option Addr} {xs : List Value} (h : w.ownsRow B 33 4 (.slice A n c) n xs) : n ≤ maxLen := by
  obtain ⟨_, _, e, h1, h2⟩ := own_slice h
  omega
theorem lexL_len : ∀ (n : Nat) (b : List UInt8), b.length ≤ n → ∀ (line : Nat) (l : List (Tk × Nat)) (e : Nat), lexL line b = .ok (l, e) → l.length ≤ b.length
  | n, [], _, line, l, e, h => by
    rw [lexL_nil] at h
    injection h with h
    injection h with h1 h2
    subst h1
    exact Nat.le_refl _
  | 0, c :: r, hn, _, _, _, _ => absurd hn (by simp)
  | n + 1, c :: r, hn, line, l, e, h => by
    rw [List.length_cons] at hn
    rw [lexL_cons] at h
    split at h
    · exact absurd h (by simp)
    next k nl hx =>
      have := lexL_len n (r.drop k) (by rw [List.length_drop]; omega) _ _ _ h
      rw [List.length_drop] at this
      rw [List.length_cons]; omega
    next t k hx =>
      split at h
      · exact absurd h (by simp)
      next l' e' h' =>
        injection h with h
        injection h with h1 h2
        subst h1
        have := lexL_len n (r.drop k) (by rw [List.length_drop]; omega) _ _ _ h'
        rw [List.length_drop] at this
        rw [List.length_cons, List.length_cons]; omega
theorem lexR_small (l : List UInt8) : (lexR l).1.length ≤ 1000000 := by
  unfold lexR
  split
  · simp
  next h =>
    split
    · simp
    next ts e he =>
      have := lexL_len l.length l (Nat.le_refl _) 1 ts e he
      simp
      omega
set_option maxRecDepth 10000 in
set_option maxHeartbeats 8000000 in
theorem tells_any (s : ByteArray) (w : World) (ws : s.size ≤ maxLen) (hG : SgIs w) : Calls Tryd.prog 3 #[.string s] w fun e w' => e = .returned (.bool true) ∧ Below w.heap.size w w' := by
  have zf := zero25
  have HG := hid (fun V (b : Below w.heap.size w V) => hG.below b)
  have hmx : s.size ≤ 9223372036854775807 := ws
  by_cases hb : 20000 < s.size
  · have hz : (20000 : Int) ≤ (s.size : Int) := by omega
    obtain ⟨s', hs'⟩ : ∃ s', s.extract 0 20000 = s' := ⟨_, rfl⟩
    have hl : s'.size ≤ 1000000000 := by
      rw [← hs', ext_str s 0 20000 (by omega), str_size, List.length_drop, List.length_take]; omega
    have HT := hid (Tokens_any w s' hl hG)
    have HRf := hid (fun V => RTokens_any V s' hl)
    have hRl := lexR_small (bl s')
    generalize lexR (bl s') = R at *
    have d1 : decide ((20000 : Int) < (s.size : Int)) = true := decide_eq_true (by omega)
    unfold TokPost vF at HT
    clear hb ws hG
    go_enter Tryd.func3, Tryd.ntmps3
    go_upto_region 4 with (go_at_call 5; refine HT.out.mono ?_; rintro e W1 ⟨A1, c1, rfl, o1, b1⟩)
    have B1 := hid (bel_trans b1 (bel_a W1 (.cells #[.int .i64 (R.2.1 : Nat), .int .i64 (R.2.2 : Nat)] 25)))
    have O1 := hid (own_below o1 (bel_a W1 (.cells #[.int .i64 (R.2.1 : Nat), .int .i64 (R.2.2 : Nat)] 25)))
    have F1 : Hid (F25 (W1.alloc (.cells #[.int .i64 (R.2.1 : Nat), .int .i64 (R.2.2 : Nat)] 25)) W1.heap.size (R.2.1 : Nat) (R.2.2 : Nat)) := hid ⟨heap_alloc_new _ _⟩
    generalize W1.alloc _ = V1 at *
    generalize W1.heap.size = f1 at *
    clear b1 o1 HT
    have HU := hid (HRf.out V1)
    unfold TokPost vF at HU
    go_upto_region 5 with (go_at_call 6; refine HU.out.mono ?_; rintro e W2 ⟨A2, c2, rfl, o2, b2⟩)
    have K2 := hid (bel_trans b2 (bel_a W2 (.cells #[.int .i64 (R.2.1 : Nat), .int .i64 (R.2.2 : Nat)] 25)))
    have O2 := hid (own_below o2 (bel_a W2 (.cells #[.int .i64 (R.2.1 : Nat), .int .i64 (R.2.2 : Nat)] 25)))
    have F2 : Hid (F25 (W2.alloc (.cells #[.int .i64 (R.2.1 : Nat), .int .i64 (R.2.2 : Nat)] 25)) W2.heap.size (R.2.1 : Nat) (R.2.2 : Nat)) := hid ⟨heap_alloc_new _ _⟩
    generalize W2.alloc _ = V2 at *
    generalize W2.heap.size = f2 at *
    have B2 := hid (bel_trans B1.out K2.out)
    have HS := hid (SameTokens_true V2 R.1 A1 A2 R.1.length _ _ c1 c2 rfl hRl (own_below O1.out K2.out) O2.out)
    have HF1 := hid (F1.out.below K2.out)
    clear b2 o2 HU O1 O2 K2 F1 B1
    generalize (R.2.1 : Nat) = er at *
    generalize (R.2.2 : Nat) = ln at *
    generalize R.1.length = n at *
    go_wp2_with (first
      | (go_at_call 7; refine HS.out.mono ?_; rintro e W3 ⟨rfl, b3⟩; have B3 := hid (bel_trans B2.out b3); have r10 := row_cell (HF1.out.below b3).row 0; have r11 := row_cell (HF1.out.below b3).row 1; have r20 := row_cell (F2.out.below b3).row 0; have r21 := row_cell (F2.out.below b3).row 1)
      | (go_at_call 8; refine (awake_any _ (HG.out _ B3.out)).mono ?_; rintro e W4 ⟨rfl, b4⟩))
    go_ret
    exact ⟨rfl, bel_trans B3.out b4⟩
  · have d1 : decide ((20000 : Int) < (s.size : Int)) = false := decide_eq_false (by omega)
    have hl : s.size ≤ 1000000000 := by omega
    have HT := hid (Tokens_any w s hl hG)
    have HRf := hid (fun V => RTokens_any V s hl)
    have hRl := lexR_small (bl s)
    generalize lexR (bl s) = R at *
    unfold TokPost vF at HT
    clear hb ws hG
    go_enter Tryd.func3, Tryd.ntmps3
    go_upto_region 4 with (go_at_call 5; refine HT.out.mono ?_; rintro e W1 ⟨A1, c1, rfl, o1, b1⟩)
    have B1 := hid (bel_trans b1 (bel_a W1 (.cells #[.int .i64 (R.2.1 : Nat), .int .i64 (R.2.2 : Nat)] 25)))
    have O1 := hid (own_below o1 (bel_a W1 (.cells #[.int .i64 (R.2.1 : Nat), .int .i64 (R.2.2 : Nat)] 25)))
    have F1 : Hid (F25 (W1.alloc (.cells #[.int .i64 (R.2.1 : Nat), .int .i64 (R.2.2 : Nat)] 25)) W1.heap.size (R.2.1 : Nat) (R.2.2 : Nat)) := hid ⟨heap_alloc_new _ _⟩
    generalize W1.alloc _ = V1 at *
    generalize W1.heap.size = f1 at *
    clear b1 o1 HT
    have HU := hid (HRf.out V1)
    unfold TokPost vF at HU
    go_upto_region 5 with (go_at_call 6; refine HU.out.mono ?_; rintro e W2 ⟨A2, c2, rfl, o2, b2⟩)
    have K2 := hid (bel_trans b2 (bel_a W2 (.cells #[.int .i64 (R.2.1 : Nat), .int .i64 (R.2.2 : Nat)] 25)))
    have O2 := hid (own_below o2 (bel_a W2 (.cells #[.int .i64 (R.2.1 : Nat), .int .i64 (R.2.2 : Nat)] 25)))
    have F2 : Hid (F25 (W2.alloc (.cells #[.int .i64 (R.2.1 : Nat), .int .i64 (R.2.2 : Nat)] 25)) W2.heap.size (R.2.1 : Nat) (R.2.2 : Nat)) := hid ⟨heap_alloc_new _ _⟩
    generalize W2.alloc _ = V2 at *
    generalize W2.heap.size = f2 at *
    have B2 := hid (bel_trans B1.out K2.out)
    have HS := hid (SameTokens_true V2 R.1 A1 A2 R.1.length _ _ c1 c2 rfl hRl (own_below O1.out K2.out) O2.out)
    have HF1 := hid (F1.out.below K2.out)
    clear b2 o2 HU O1 O2 K2 F1 B1
    generalize (R.2.1 : Nat) = er at *
    generalize (R.2.2 : Nat) = ln at *
    generalize R.1.length = n at *
    go_wp2_with (first
      | (go_at_call 7; refine HS.out.mono ?_; rintro e W3 ⟨rfl, b3⟩; have B3 := hid (bel_trans B2.out b3); have r10 := row_cell (HF1.out.below b3).row 0; have r11 := row_cell (HF1.out.below b3).row 1; have r20 := row_cell (F2.out.below b3).row 0; have r21 := row_cell (F2.out.below b3).row 1)
      | (go_at_call 8; refine (awake_any _ (HG.out _ B3.out)).mono ?_; rintro e W4 ⟨rfl, b4⟩))
    go_ret
    exact ⟨rfl, bel_trans B3.out b4⟩
end Go.Proofs.YtnjknjbffgjelaaDoor
