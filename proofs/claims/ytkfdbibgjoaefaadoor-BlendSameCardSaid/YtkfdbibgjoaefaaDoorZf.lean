/-
  Merged: Ftt Rgp Pwk.
-/
import Derived.Test.YtkfdbibgjoaefaaDoorZd
import Derived.Test.YtkfdbibgjoaefaaDoorZe
import Derived.Test.YtkfdbibgjoaefaaDoorFtb
import Derived.Test.YtkfdbibgjoaefaaDoorFte
/-
  The program's 'fits' as plain data.
-/
namespace Go.Proofs.YtkfdbibgjoaefaaDoor
open Go.RowKit

/-- The program's: a part at the place i. -/
theorem fits_any (p : Pt) (i : Int) (hi : 0 ≤ i) (hi2 : i ≤ 16) (w : World) :
    Calls Tryd.prog 30 #[vPt p, .int .i64 i] w fun e w' => e = .returned (.bool (decide (p.one i))) ∧ Below w.heap.size w w' := by
  obtain ⟨k, s, a, b, c, r, m⟩ := p
  unfold vPt
  dsimp only
  rcases kinds k with h | h | h | h | h | h | h | h | h | ⟨h1, h2, h3, h4, h5, h6, h7, h8, h9⟩
  · subst h
    show Calls Tryd.prog 30 #[vP 1 s a b c r m, .int .i64 i] w _
    have hone := oneP_1 s a b c r m i
    refine (fits_1 s a b c r m i hi hi2 w _ rfl).mono fun e w' h => ⟨h.1.trans (ret_bool ?_), h.2⟩
    rw [Bool.eq_iff_iff]
    simp only [Bool.and_eq_true, decide_eq_true_eq, hone, vP_inj]
    simp only [inn, true_and] <;> omega
  · subst h
    show Calls Tryd.prog 30 #[vP 2 s a b c r m, .int .i64 i] w _
    have hone := oneP_2 s a b c r m i
    have hpos := plI_pos 2 s b (by decide)
    rw [show leastS 2 = 0 from rfl, show mostS 2 = 16 from rfl] at hpos
    refine (fits_2 s a b c r m i hi hi2 w _ _ rfl rfl).mono fun e w' h => ⟨h.1.trans (ret_bool ?_), h.2⟩
    rw [Bool.eq_iff_iff]
    simp only [Bool.and_eq_true, decide_eq_true_eq, hone, vP_inj]
    simp only [inn, true_and, and_true, show leastS 2 = 0 from rfl, show mostS 2 = 16 from rfl] <;> omega
  · subst h
    show Calls Tryd.prog 30 #[vP 3 s a b c r m, .int .i64 i] w _
    have hone := oneP_3 s a b c r m i
    have hpos := plI_pos 3 s b (by decide)
    rw [show leastS 3 = 0 from rfl, show mostS 3 = 16 from rfl] at hpos
    refine (fits_3 s a b c r m i hi hi2 w _ rfl).mono fun e w' h => ⟨h.1.trans (ret_bool ?_), h.2⟩
    rw [Bool.eq_iff_iff]
    simp only [Bool.and_eq_true, decide_eq_true_eq, hone, vP_inj]
    simp only [inn, true_and, show leastS 3 = 0 from rfl, show mostS 3 = 16 from rfl] <;> omega
  · subst h
    show Calls Tryd.prog 30 #[vP 4 s a b c r m, .int .i64 i] w _
    have hone := oneP_4 s a b c r m i
    have hpos := plI_pos 4 s b (by decide)
    rw [show leastS 4 = 4 from rfl, show mostS 4 = 16 from rfl] at hpos
    refine (fits_4 s a b c r m i hi hi2 w _ rfl).mono fun e w' h => ⟨h.1.trans (ret_bool ?_), h.2⟩
    rw [Bool.eq_iff_iff]
    simp only [Bool.and_eq_true, decide_eq_true_eq, hone, vP_inj]
    simp only [inn, true_and, show leastS 4 = 4 from rfl, show mostS 4 = 16 from rfl] <;> omega
  · subst h
    show Calls Tryd.prog 30 #[vP 5 s a b c r m, .int .i64 i] w _
    have hone := oneP_5 s a b c r m i
    refine (fits_5 s a b c r m i hi hi2 w _ _ _ rfl rfl rfl).mono fun e w' h => ⟨h.1.trans (ret_bool ?_), h.2⟩
    rw [Bool.eq_iff_iff]
    simp only [Bool.and_eq_true, decide_eq_true_eq, hone, vP_inj]
    simp only [inn, true_and] <;> omega
  · subst h
    show Calls Tryd.prog 30 #[vP 6 s a b c r m, .int .i64 i] w _
    have hone := oneP_6 s a b c r m i
    have hpos := plI_pos 6 s b (by decide)
    rw [show leastS 6 = 0 from rfl, show mostS 6 = 16 from rfl] at hpos
    refine (fits_6 s a b c r m i hi hi2 w _ _ _ _ rfl rfl rfl rfl).mono fun e w' h => ⟨h.1.trans (ret_bool ?_), h.2⟩
    rw [Bool.eq_iff_iff]
    simp only [Bool.and_eq_true, decide_eq_true_eq, hone, vP_inj]
    simp only [inn, true_and, show leastS 6 = 0 from rfl, show mostS 6 = 16 from rfl] <;> omega
  · subst h
    show Calls Tryd.prog 30 #[vP 7 s a b c r m, .int .i64 i] w _
    have hone := oneP_7 s a b c r m i
    have hpos := plI_pos7 s b
    refine (fits_7 s a b c r m i hi hi2 w _ _ _ _ rfl rfl rfl rfl).mono fun e w' h => ⟨h.1.trans (ret_bool ?_), h.2⟩
    rw [Bool.eq_iff_iff]
    simp only [Bool.and_eq_true, decide_eq_true_eq, hone, vP_inj]
    simp only [inn, true_and, show leastS 7 = 0 from rfl, show mostS 7 = 12 from rfl] <;> omega
  · subst h
    show Calls Tryd.prog 30 #[vP 8 s a b c r m, .int .i64 i] w _
    have hone := oneP_8 s a b c r m i
    have hpos := plI_pos 8 s b (by decide)
    rw [show leastS 8 = 0 from rfl, show mostS 8 = 16 from rfl] at hpos
    refine (fits_8 s a b c r m i hi hi2 w _ _ rfl rfl).mono fun e w' h => ⟨h.1.trans (ret_bool ?_), h.2⟩
    rw [Bool.eq_iff_iff]
    simp only [Bool.and_eq_true, decide_eq_true_eq, hone, vP_inj]
    simp only [inn, true_and, show leastS 8 = 0 from rfl, show mostS 8 = 16 from rfl] <;> omega
  · subst h
    show Calls Tryd.prog 30 #[vP 9 s a b c r m, .int .i64 i] w _
    have hone := oneP_9 s a b c r m i
    have hpos := plI_pos 9 s b (by decide)
    rw [show leastS 9 = 0 from rfl, show mostS 9 = 10 from rfl] at hpos
    refine (fits_9 s a b c r m i hi hi2 w _ _ _ rfl rfl rfl).mono fun e w' h => ⟨h.1.trans (ret_bool ?_), h.2⟩
    rw [Bool.eq_iff_iff]
    simp only [Bool.and_eq_true, decide_eq_true_eq, hone, vP_inj]
    simp only [inn, true_and, and_true, show leastS 9 = 0 from rfl, show mostS 9 = 10 from rfl] <;> omega
  · have hf : decide (Pt.one ⟨k, s, a, b, c, r, m⟩ i) = false := decide_eq_false (oneP_x k s a b c r m i h1 h2 h3 h4 h5 h6 h7 h8 h9)
    rw [hf]
    exact fits_k k s a b c r m i hi hi2 w h1 h2 h3 h4 h5 h6 h7 h8 h9
end Go.Proofs.YtkfdbibgjoaefaaDoor
/-
  Right, the program's.
-/
namespace Go.Proofs.YtkfdbibgjoaefaaDoor
open Go.RowKit

set_option maxRecDepth 10000 in
set_option maxHeartbeats 4000000 in
theorem Right_any (A : Option Addr) (n c : Nat) (L : List Pt) (w : World) (h : IsP w w.heap.size A n c L) :
    Calls Tryd.prog 25 #[.slice A n c] w fun e w' => e = .returned (.int .i64 (rightP L)) ∧ Below w.heap.size w w' := by
  have hm := h.max
  have hcp := h.cap
  have hlen := h.len
  unfold maxLen at hm
  by_cases h1 : n < 1
  · have hr : rightP L = 100 := if_pos (.inl (by omega))
    rw [hr]
    have z1 : (n : Int) < 1 := by omega
    clear h hlen
    go_enter Tryd.func25, Tryd.ntmps25
    go_wp2_with fail
    go_ret
    exact ⟨rfl, Below.refl _ _⟩
  by_cases h2 : 16 < n
  · have hr : rightP L = 100 := if_pos (.inr (by omega))
    rw [hr]
    have z1 : ¬ (n : Int) < 1 := by omega
    have z2 : (16 : Int) < (n : Int) := by omega
    clear h hlen
    go_enter Tryd.func25, Tryd.ntmps25
    go_wp2_with fail
    go_ret
    exact ⟨rfl, Below.refl _ _⟩
  have z1 : ¬ (n : Int) < 1 := by omega
  have z2 : ¬ (16 : Int) < (n : Int) := by omega
  have hr0 : rightP L = if ¬ allOne L then 100 else if 1048576 < memP L then 101 else 0 := if_neg (by omega)
  have HR := hid hr0
  clear hr0
  go_enter Tryd.func25, Tryd.ntmps25
  go_wp2_with fail
  go_loopw [15] (fun vi wr => ∃ i : Nat, i ≤ n ∧ vi = .int .i64 i ∧ (∀ k (hk : k < L.length), k < i → L[k].one k) ∧ Below w.heap.size w wr) (fun vi _ => n - (intOf vi).toNat)
  case atStart => exact ⟨0, Nat.zero_le _, rfl, fun k hk h0 => absurd h0 (by omega), Below.refl _ _⟩
  case round =>
    obtain ⟨i, hi, rfl, hall, hw⟩ := hrel
    have HA := hid hall
    clear hall
    by_cases hgo : i < n
    · have hz : (i : Int) < (n : Int) := by omega
      obtain ⟨ad, p, rfl, hl, hp, a1⟩ := h.at i hgo
      obtain ⟨k0, k1, k2, k3, k4, k5, k6⟩ := a1.below hw (by rw [block_of_add]; exact hl)
      have hL : i < L.length := by rw [h.len]; exact hgo
      have hpe : L[i] = p := by
        rw [List.getElem?_eq_getElem hL] at hp
        injection hp
      have HPe := hid hpe
      have HP := hid (fun w => fits_any p (i : Nat) (by omega) (by omega) w)
      unfold vPt vP at HP
      by_cases ho : p.one (i : Nat)
      · rw [decide_eq_true ho] at HP
        have HN : Hid (∀ k (hk : k < L.length), k < i + 1 → L[k].one k) := by
          intro k hk hki
          rcases Nat.lt_or_ge k i with hlt | hge
          · exact HA.out k hk hlt
          · obtain rfl : k = i := by omega
            rw [hpe]; exact ho
        clear hp a1 h ho hpe
        go_wp2_with fail
        refine (HP.out _).mono ?_
        rintro e w2 ⟨rfl, b2⟩
        have B2 : Below w.heap.size w w2 := (hw.alloc hw.size _).trans (b2.mono (by have := hw.size; simp; omega))
        go_wp2_with fail
        go_roundw
        case rel => exact ⟨i + 1, by omega, by go_num, HN.out, B2⟩
        case measure => simp [intOf]; omega
      · rw [decide_eq_false ho] at HP
        have hr : rightP L = 100 := by
          rw [HR.out, if_pos]
          intro ha
          exact ho (hpe ▸ ha i hL)
        have HR2 := hid hr
        clear hp a1 h ho hpe hr
        go_wp2_with fail
        refine (HP.out _).mono ?_
        rintro e w2 ⟨rfl, b2⟩
        have B2 : Below w.heap.size w w2 := (hw.alloc hw.size _).trans (b2.mono (by have := hw.size; simp; omega))
        go_wp2_with fail
        go_ret
        exact ⟨ret_int HR2.out.symm, B2⟩
    · obtain rfl : i = n := by omega
      have hall : allOne L := fun k hk => HA.out k hk (by omega)
      rw [if_neg (fun x => x hall)] at HR
      have HM := hid (fun w h => Memory_any A i c L w h (by omega))
      have hI := h.below hw
      have hM : Calls Tryd.prog 24 #[.slice A i c] wr fun e w' => e = .returned (.int .i64 (memP L)) ∧ Below wr.heap.size wr w' := HM.out wr ⟨hI.len, hI.cap, hI.max, fun h0 => by
        obtain ⟨ad, e, hl, ha⟩ := hI.lies h0
        exact ⟨ad, e, Nat.lt_of_lt_of_le hl hw.size, ha⟩⟩
      have HM2 := hid hM
      obtain ⟨q, hq⟩ : ∃ q, memP L = q := ⟨_, rfl⟩
      rw [hq] at HM2
      rw [hq] at HR
      clear HM hM hI h hq
      by_cases hb : 1048576 < q
      · rw [if_pos hb] at HR
        go_wp2_with fail
        refine HM2.out.mono ?_
        rintro e w2 ⟨rfl, b2⟩
        go_wp2_with fail
        go_ret
        exact ⟨ret_int HR.out.symm, hw.trans (b2.mono hw.size)⟩
      · rw [if_neg hb] at HR
        go_wp2_with fail
        refine HM2.out.mono ?_
        rintro e w2 ⟨rfl, b2⟩
        go_wp2_with fail
        go_ret
        exact ⟨ret_int HR.out.symm, hw.trans (b2.mono hw.size)⟩
end Go.Proofs.YtkfdbibgjoaefaaDoor
/-
  The examples hold: 'awake' is true.
-/
namespace Go.Proofs.YtkfdbibgjoaefaaDoor
open Go.RowKit

theorem IsP.later {w w' : World} {A : Option Addr} {n c : Nat} {L : List Pt} (h : IsP w w.heap.size A n c L) (b : Below w.heap.size w w') : IsP w' w'.heap.size A n c L := by
  have h' := h.below b
  refine ⟨h'.len, h'.cap, h'.max, fun h0 => ?_⟩
  obtain ⟨ad, e, hl, ha⟩ := h'.lies h0
  exact ⟨ad, e, Nat.lt_of_lt_of_le hl b.size, ha⟩
theorem isP_row {W : World} {g : Nat} {cs : Array Value} (L : List Pt) (hh : W.heap[g]? = some (.cells cs 48 (0, 0))) (hc : cs.toList = L.flatMap cellsP) (n : Nat) (hn : L.length = n) (hm : n ≤ 1000) : IsP W W.heap.size (some ⟨g, 0, none⟩) n n L := by
  refine ⟨hn, Nat.le_refl _, by unfold maxLen; omega, fun h0 => ⟨⟨g, 0, none⟩, rfl, ?_, fun i hi => ?_⟩⟩
  · show g < W.heap.size
    rcases Nat.lt_or_ge g W.heap.size with hlt | hge
    · exact hlt
    · rw [Array.getElem?_eq_none hge] at hh; cases hh
  · have q := fun (k : Nat) (hk : k < 7) => (row_cell hh (i * 7 + k)).trans ((show cs[i * 7 + k]? = (L.flatMap cellsP)[i * 7 + k]? by rw [← hc, Array.getElem?_toList]).trans ((flat7 L i k hi hk).trans (List.getElem?_eq_getElem (l := cellsP L[i]) (i := k) hk)))
    have e0 : (({ block := g, off := 0 } : Addr).add (i * 7)) = ⟨g, i * 7, none⟩ := by rw [Addr.add_lit, Nat.zero_add]
    rw [e0]
    exact ⟨q 0 (by omega), q 1 (by omega), q 2 (by omega), q 3 (by omega), q 4 (by omega), q 5 (by omega), q 6 (by omega)⟩
theorem bel_alloc {w w' : World} {o : Obj} (h : Below (w.alloc o).heap.size (w.alloc o) w') : Below w.heap.size w w' := ((Below.refl _ _).alloc (Nat.le_refl _) o).trans (h.mono (by simp))
theorem bel_trans {w a b : World} (h : Below w.heap.size w a) (k : Below a.heap.size a b) : Below w.heap.size w b := h.trans (k.mono h.size)
end Go.Proofs.YtkfdbibgjoaefaaDoor
