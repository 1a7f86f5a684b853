/-
  The program's 'fits' as plain data.
-/
import Derived.Test.YtnanmdfbgoahjaaRt
import Derived.Test.YtnanmdfbgoahjaaFta
import Derived.Test.YtnanmdfbgoahjaaFtb
import Derived.Test.YtnanmdfbgoahjaaFtc
import Derived.Test.YtnanmdfbgoahjaaFtd
import Derived.Test.YtnanmdfbgoahjaaFte
import Derived.Test.YtnanmdfbgoahjaaFtf
import Derived.Test.YtnanmdfbgoahjaaFtg
namespace Go.Proofs.Ytnanmdfbgoahjaa
open Go.RowKit

/-- The program's: a part at the place i. -/
theorem fits_any (p : Pt) (i : Int) (hi : 0 ≤ i) (hi2 : i ≤ 16) (w : World) :
    Calls Try.prog 32 #[vPt p, .int .i64 i] w fun e w' => e = .returned (.bool (decide (p.one i))) ∧ Below w.heap.size w w' := by
  obtain ⟨k, s, a, b, c, r, m⟩ := p
  unfold vPt
  dsimp only
  rcases kinds k with h | h | h | h | h | h | h | h | h | ⟨h1, h2, h3, h4, h5, h6, h7, h8, h9⟩
  · subst h
    show Calls Try.prog 32 #[vP 1 s a b c r m, .int .i64 i] w _
    have hone := oneP_1 s a b c r m i
    refine (fits_1 s a b c r m i hi hi2 w _ rfl).mono fun e w' h => ⟨h.1.trans (ret_bool ?_), h.2⟩
    rw [Bool.eq_iff_iff]
    simp only [Bool.and_eq_true, decide_eq_true_eq, hone, vP_inj]
    simp only [inn, true_and] <;> omega
  · subst h
    show Calls Try.prog 32 #[vP 2 s a b c r m, .int .i64 i] w _
    have hone := oneP_2 s a b c r m i
    have hpos := plI_pos 2 s b (by decide)
    rw [show leastS 2 = 0 from rfl, show mostS 2 = 16 from rfl] at hpos
    refine (fits_2 s a b c r m i hi hi2 w _ _ rfl rfl).mono fun e w' h => ⟨h.1.trans (ret_bool ?_), h.2⟩
    rw [Bool.eq_iff_iff]
    simp only [Bool.and_eq_true, decide_eq_true_eq, hone, vP_inj]
    simp only [inn, true_and, and_true, show leastS 2 = 0 from rfl, show mostS 2 = 16 from rfl] <;> omega
  · subst h
    show Calls Try.prog 32 #[vP 3 s a b c r m, .int .i64 i] w _
    have hone := oneP_3 s a b c r m i
    have hpos := plI_pos 3 s b (by decide)
    rw [show leastS 3 = 0 from rfl, show mostS 3 = 16 from rfl] at hpos
    refine (fits_3 s a b c r m i hi hi2 w _ rfl).mono fun e w' h => ⟨h.1.trans (ret_bool ?_), h.2⟩
    rw [Bool.eq_iff_iff]
    simp only [Bool.and_eq_true, decide_eq_true_eq, hone, vP_inj]
    simp only [inn, true_and, show leastS 3 = 0 from rfl, show mostS 3 = 16 from rfl] <;> omega
  · subst h
    show Calls Try.prog 32 #[vP 4 s a b c r m, .int .i64 i] w _
    have hone := oneP_4 s a b c r m i
    have hpos := plI_pos 4 s b (by decide)
    rw [show leastS 4 = 4 from rfl, show mostS 4 = 16 from rfl] at hpos
    refine (fits_4 s a b c r m i hi hi2 w _ rfl).mono fun e w' h => ⟨h.1.trans (ret_bool ?_), h.2⟩
    rw [Bool.eq_iff_iff]
    simp only [Bool.and_eq_true, decide_eq_true_eq, hone, vP_inj]
    simp only [inn, true_and, show leastS 4 = 4 from rfl, show mostS 4 = 16 from rfl] <;> omega
  · subst h
    show Calls Try.prog 32 #[vP 5 s a b c r m, .int .i64 i] w _
    have hone := oneP_5 s a b c r m i
    refine (fits_5 s a b c r m i hi hi2 w _ _ _ rfl rfl rfl).mono fun e w' h => ⟨h.1.trans (ret_bool ?_), h.2⟩
    rw [Bool.eq_iff_iff]
    simp only [Bool.and_eq_true, decide_eq_true_eq, hone, vP_inj]
    simp only [inn, true_and] <;> omega
  · subst h
    show Calls Try.prog 32 #[vP 6 s a b c r m, .int .i64 i] w _
    have hone := oneP_6 s a b c r m i
    have hpos := plI_pos 6 s b (by decide)
    rw [show leastS 6 = 0 from rfl, show mostS 6 = 16 from rfl] at hpos
    refine (fits_6 s a b c r m i hi hi2 w _ _ _ _ rfl rfl rfl rfl).mono fun e w' h => ⟨h.1.trans (ret_bool ?_), h.2⟩
    rw [Bool.eq_iff_iff]
    simp only [Bool.and_eq_true, decide_eq_true_eq, hone, vP_inj]
    simp only [inn, true_and, show leastS 6 = 0 from rfl, show mostS 6 = 16 from rfl] <;> omega
  · subst h
    show Calls Try.prog 32 #[vP 7 s a b c r m, .int .i64 i] w _
    have hone := oneP_7 s a b c r m i
    have hpos := plI_pos7 s b
    refine (fits_7 s a b c r m i hi hi2 w _ _ _ _ rfl rfl rfl rfl).mono fun e w' h => ⟨h.1.trans (ret_bool ?_), h.2⟩
    rw [Bool.eq_iff_iff]
    simp only [Bool.and_eq_true, decide_eq_true_eq, hone, vP_inj]
    simp only [inn, true_and, show leastS 7 = 0 from rfl, show mostS 7 = 12 from rfl] <;> omega
  · subst h
    show Calls Try.prog 32 #[vP 8 s a b c r m, .int .i64 i] w _
    have hone := oneP_8 s a b c r m i
    have hpos := plI_pos 8 s b (by decide)
    rw [show leastS 8 = 0 from rfl, show mostS 8 = 16 from rfl] at hpos
    refine (fits_8 s a b c r m i hi hi2 w _ _ rfl rfl).mono fun e w' h => ⟨h.1.trans (ret_bool ?_), h.2⟩
    rw [Bool.eq_iff_iff]
    simp only [Bool.and_eq_true, decide_eq_true_eq, hone, vP_inj]
    simp only [inn, true_and, show leastS 8 = 0 from rfl, show mostS 8 = 16 from rfl] <;> omega
  · subst h
    show Calls Try.prog 32 #[vP 9 s a b c r m, .int .i64 i] w _
    have hone := oneP_9 s a b c r m i
    have hpos := plI_pos 9 s b (by decide)
    rw [show leastS 9 = 0 from rfl, show mostS 9 = 10 from rfl] at hpos
    refine (fits_9 s a b c r m i hi hi2 w _ _ _ rfl rfl rfl).mono fun e w' h => ⟨h.1.trans (ret_bool ?_), h.2⟩
    rw [Bool.eq_iff_iff]
    simp only [Bool.and_eq_true, decide_eq_true_eq, hone, vP_inj]
    simp only [inn, true_and, and_true, show leastS 9 = 0 from rfl, show mostS 9 = 10 from rfl] <;> omega
  · have hf : decide (Pt.one ⟨k, s, a, b, c, r, m⟩ i) = false := decide_eq_false (oneP_x k s a b c r m i h1 h2 h3 h4 h5 h6 h7 h8 h9)
    rw [hf]
    exact fits_k k s a b c r m i hi hi2 w h1 h2 h3 h4 h5 h6 h7 h8 h9
end Go.Proofs.Ytnanmdfbgoahjaa
