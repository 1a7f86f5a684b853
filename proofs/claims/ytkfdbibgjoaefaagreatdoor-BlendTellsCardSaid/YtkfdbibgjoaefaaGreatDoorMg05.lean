/-
  Merged: Zf XRf XSta XNx.
-/
import Derived.Test.YtkfdbibgjoaefaaGreatDoorMg01
import Derived.Test.YtkfdbibgjoaefaaGreatDoorMg02
import Derived.Test.YtkfdbibgjoaefaaGreatDoorMg03
import Derived.Test.YtkfdbibgjoaefaaGreatDoorMg04
import Derived.Test.YtkfdbibgjoaefaaGreatDoorMg00
import Derived.Below
import Derived.WalkKit
import Derived.WalkSpells
import Derived.WalkLawsBesides
import Derived.RegionTactic
import Derived.BigRegion
import Derived.BigQuiet
import Derived.Laws.Rows
import Derived.Shelf.Abstract
import Derived.IntWalk
/-
  Merged: Ftt Rgp Pwk.
-/
/-
  The program's 'fits' as plain data.
-/
namespace Go.Proofs.YtkfdbibgjoaefaaGreatDoor
open Go.RowKit

/-- The program's: a part at the place i. -/
theorem fits_any (p : Pt) (i : Int) (hi : 0 ≤ i) (hi2 : i ≤ 16) (w : World) :
    Calls Tryz.prog 44 #[vPt p, .int .i64 i] w fun e w' => e = .returned (.bool (decide (p.one i))) ∧ Below w.heap.size w w' := by
  obtain ⟨k, s, a, b, c, r, m⟩ := p
  unfold vPt
  dsimp only
  rcases kinds k with h | h | h | h | h | h | h | h | h | ⟨h1, h2, h3, h4, h5, h6, h7, h8, h9⟩
  · subst h
    show Calls Tryz.prog 44 #[vP 1 s a b c r m, .int .i64 i] w _
    have hone := oneP_1 s a b c r m i
    refine (fits_1 s a b c r m i hi hi2 w _ rfl).mono fun e w' h => ⟨h.1.trans (ret_bool ?_), h.2⟩
    rw [Bool.eq_iff_iff]
    simp only [Bool.and_eq_true, decide_eq_true_eq, hone, vP_inj]
    simp only [inn, true_and] <;> omega
  · subst h
    show Calls Tryz.prog 44 #[vP 2 s a b c r m, .int .i64 i] w _
    have hone := oneP_2 s a b c r m i
    have hpos := plI_pos 2 s b (by decide)
    rw [show leastS 2 = 0 from rfl, show mostS 2 = 16 from rfl] at hpos
    refine (fits_2 s a b c r m i hi hi2 w _ _ rfl rfl).mono fun e w' h => ⟨h.1.trans (ret_bool ?_), h.2⟩
    rw [Bool.eq_iff_iff]
    simp only [Bool.and_eq_true, decide_eq_true_eq, hone, vP_inj]
    simp only [inn, true_and, and_true, show leastS 2 = 0 from rfl, show mostS 2 = 16 from rfl] <;> omega
  · subst h
    show Calls Tryz.prog 44 #[vP 3 s a b c r m, .int .i64 i] w _
    have hone := oneP_3 s a b c r m i
    have hpos := plI_pos 3 s b (by decide)
    rw [show leastS 3 = 0 from rfl, show mostS 3 = 16 from rfl] at hpos
    refine (fits_3 s a b c r m i hi hi2 w _ rfl).mono fun e w' h => ⟨h.1.trans (ret_bool ?_), h.2⟩
    rw [Bool.eq_iff_iff]
    simp only [Bool.and_eq_true, decide_eq_true_eq, hone, vP_inj]
    simp only [inn, true_and, show leastS 3 = 0 from rfl, show mostS 3 = 16 from rfl] <;> omega
  · subst h
    show Calls Tryz.prog 44 #[vP 4 s a b c r m, .int .i64 i] w _
    have hone := oneP_4 s a b c r m i
    have hpos := plI_pos 4 s b (by decide)
    rw [show leastS 4 = 4 from rfl, show mostS 4 = 16 from rfl] at hpos
    refine (fits_4 s a b c r m i hi hi2 w _ rfl).mono fun e w' h => ⟨h.1.trans (ret_bool ?_), h.2⟩
    rw [Bool.eq_iff_iff]
    simp only [Bool.and_eq_true, decide_eq_true_eq, hone, vP_inj]
    simp only [inn, true_and, show leastS 4 = 4 from rfl, show mostS 4 = 16 from rfl] <;> omega
  · subst h
    show Calls Tryz.prog 44 #[vP 5 s a b c r m, .int .i64 i] w _
    have hone := oneP_5 s a b c r m i
    refine (fits_5 s a b c r m i hi hi2 w _ _ _ rfl rfl rfl).mono fun e w' h => ⟨h.1.trans (ret_bool ?_), h.2⟩
    rw [Bool.eq_iff_iff]
    simp only [Bool.and_eq_true, decide_eq_true_eq, hone, vP_inj]
    simp only [inn, true_and] <;> omega
  · subst h
    show Calls Tryz.prog 44 #[vP 6 s a b c r m, .int .i64 i] w _
    have hone := oneP_6 s a b c r m i
    have hpos := plI_pos 6 s b (by decide)
    rw [show leastS 6 = 0 from rfl, show mostS 6 = 16 from rfl] at hpos
    refine (fits_6 s a b c r m i hi hi2 w _ _ _ _ rfl rfl rfl rfl).mono fun e w' h => ⟨h.1.trans (ret_bool ?_), h.2⟩
    rw [Bool.eq_iff_iff]
    simp only [Bool.and_eq_true, decide_eq_true_eq, hone, vP_inj]
    simp only [inn, true_and, show leastS 6 = 0 from rfl, show mostS 6 = 16 from rfl] <;> omega
  · subst h
    show Calls Tryz.prog 44 #[vP 7 s a b c r m, .int .i64 i] w _
    have hone := oneP_7 s a b c r m i
    have hpos := plI_pos7 s b
    refine (fits_7 s a b c r m i hi hi2 w _ _ _ _ rfl rfl rfl rfl).mono fun e w' h => ⟨h.1.trans (ret_bool ?_), h.2⟩
    rw [Bool.eq_iff_iff]
    simp only [Bool.and_eq_true, decide_eq_true_eq, hone, vP_inj]
    simp only [inn, true_and, show leastS 7 = 0 from rfl, show mostS 7 = 12 from rfl] <;> omega
  · subst h
    show Calls Tryz.prog 44 #[vP 8 s a b c r m, .int .i64 i] w _
    have hone := oneP_8 s a b c r m i
    have hpos := plI_pos 8 s b (by decide)
    rw [show leastS 8 = 0 from rfl, show mostS 8 = 16 from rfl] at hpos
    refine (fits_8 s a b c r m i hi hi2 w _ _ rfl rfl).mono fun e w' h => ⟨h.1.trans (ret_bool ?_), h.2⟩
    rw [Bool.eq_iff_iff]
    simp only [Bool.and_eq_true, decide_eq_true_eq, hone, vP_inj]
    simp only [inn, true_and, show leastS 8 = 0 from rfl, show mostS 8 = 16 from rfl] <;> omega
  · subst h
    show Calls Tryz.prog 44 #[vP 9 s a b c r m, .int .i64 i] w _
    have hone := oneP_9 s a b c r m i
    have hpos := plI_pos 9 s b (by decide)
    rw [show leastS 9 = 0 from rfl, show mostS 9 = 10 from rfl] at hpos
    refine (fits_9 s a b c r m i hi hi2 w _ _ _ rfl rfl rfl).mono fun e w' h => ⟨h.1.trans (ret_bool ?_), h.2⟩
    rw [Bool.eq_iff_iff]
    simp only [Bool.and_eq_true, decide_eq_true_eq, hone, vP_inj]
    simp only [inn, true_and, and_true, show leastS 9 = 0 from rfl, show mostS 9 = 10 from rfl] <;> omega
  · have hf : decide (Pt.one ⟨k, s, a, b, c, r, m⟩ i) = false := decide_eq_false (oneP_x k s a b c r m i h1 h2 h3 h4 h5 h6 h7 h8 h9)
    rw [hf]
    exact fits_k k s a b c r m i hi hi2 w h1 h2 h3 h4 h5 h6 h7 h8 h9
end Go.Proofs.YtkfdbibgjoaefaaGreatDoor
/-
  Right, the program's.
-/
namespace Go.Proofs.YtkfdbibgjoaefaaGreatDoor
open Go.RowKit

set_option maxRecDepth 10000 in
set_option maxHeartbeats 4000000 in
theorem Right_any (A : Option Addr) (n c : Nat) (L : List Pt) (w : World) (h : IsP w w.heap.size A n c L) :
    Calls Tryz.prog 25 #[.slice A n c] w fun e w' => e = .returned (.int .i64 (rightP L)) ∧ Below w.heap.size w w' := by
  have hm := h.max
  have hcp := h.cap
  have hlen := h.len
  unfold maxLen at hm
  by_cases h1 : n < 1
  · have hr : rightP L = 100 := if_pos (.inl (by omega))
    rw [hr]
    have z1 : (n : Int) < 1 := by omega
    clear h hlen
    go_enter Tryz.func25, Tryz.ntmps25
    go_wp2_with fail
    go_ret
    exact ⟨rfl, Below.refl _ _⟩
  by_cases h2 : 16 < n
  · have hr : rightP L = 100 := if_pos (.inr (by omega))
    rw [hr]
    have z1 : ¬ (n : Int) < 1 := by omega
    have z2 : (16 : Int) < (n : Int) := by omega
    clear h hlen
    go_enter Tryz.func25, Tryz.ntmps25
    go_wp2_with fail
    go_ret
    exact ⟨rfl, Below.refl _ _⟩
  have z1 : ¬ (n : Int) < 1 := by omega
  have z2 : ¬ (16 : Int) < (n : Int) := by omega
  have hr0 : rightP L = if ¬ allOne L then 100 else if 1048576 < memP L then 101 else 0 := if_neg (by omega)
  have HR := hid hr0
  clear hr0
  go_enter Tryz.func25, Tryz.ntmps25
  go_wp2_with fail
  go_loopw [15] (fun vi wr => ∃ i : Nat, i ≤ n ∧ vi = .int .i64 i ∧ (∀ k (hk : k < L.length), k < i → L[k].one k) ∧ Below w.heap.size w wr) (fun vi _ => n - (intOf vi).toNat)
  case atStart => exact ⟨0, Nat.zero_le _, rfl, fun k hk h0 => absurd h0 (by omega), Below.refl _ _⟩
  case round =>
    obtain ⟨i, hi, rfl, hall, hw⟩ := hrel
    have HA := hid hall
    clear hall
    by_cases hgo : i < n
    · have hz : (i : Int) < (n : Int) := by omega
      obtain ⟨ad, p, rfl, hl, hp, a1⟩ := h.at i hgo
      obtain ⟨k0, k1, k2, k3, k4, k5, k6⟩ := a1.below hw (by rw [block_of_add]; exact hl)
      have hL : i < L.length := by rw [h.len]; exact hgo
      have hpe : L[i] = p := by
        rw [List.getElem?_eq_getElem hL] at hp
        injection hp
      have HPe := hid hpe
      have HP := hid (fun w => fits_any p (i : Nat) (by omega) (by omega) w)
      unfold vPt vP at HP
      by_cases ho : p.one (i : Nat)
      · rw [decide_eq_true ho] at HP
        have HN : Hid (∀ k (hk : k < L.length), k < i + 1 → L[k].one k) := by
          intro k hk hki
          rcases Nat.lt_or_ge k i with hlt | hge
          · exact HA.out k hk hlt
          · obtain rfl : k = i := by omega
            rw [hpe]; exact ho
        clear hp a1 h ho hpe
        go_wp2_with fail
        refine (HP.out _).mono ?_
        rintro e w2 ⟨rfl, b2⟩
        have B2 : Below w.heap.size w w2 := (hw.alloc hw.size _).trans (b2.mono (by have := hw.size; simp; omega))
        go_wp2_with fail
        go_roundw
        case rel => exact ⟨i + 1, by omega, by go_num, HN.out, B2⟩
        case measure => simp [intOf]; omega
      · rw [decide_eq_false ho] at HP
        have hr : rightP L = 100 := by
          rw [HR.out, if_pos]
          intro ha
          exact ho (hpe ▸ ha i hL)
        have HR2 := hid hr
        clear hp a1 h ho hpe hr
        go_wp2_with fail
        refine (HP.out _).mono ?_
        rintro e w2 ⟨rfl, b2⟩
        have B2 : Below w.heap.size w w2 := (hw.alloc hw.size _).trans (b2.mono (by have := hw.size; simp; omega))
        go_wp2_with fail
        go_ret
        exact ⟨ret_int HR2.out.symm, B2⟩
    · obtain rfl : i = n := by omega
      have hall : allOne L := fun k hk => HA.out k hk (by omega)
      rw [if_neg (fun x => x hall)] at HR
      have HM := hid (fun w h => Memory_any A i c L w h (by omega))
      have hI := h.below hw
      have hM : Calls Tryz.prog 22 #[.slice A i c] wr fun e w' => e = .returned (.int .i64 (memP L)) ∧ Below wr.heap.size wr w' := HM.out wr ⟨hI.len, hI.cap, hI.max, fun h0 => by
        obtain ⟨ad, e, hl, ha⟩ := hI.lies h0
        exact ⟨ad, e, Nat.lt_of_lt_of_le hl hw.size, ha⟩⟩
      have HM2 := hid hM
      obtain ⟨q, hq⟩ : ∃ q, memP L = q := ⟨_, rfl⟩
      rw [hq] at HM2
      rw [hq] at HR
      clear HM hM hI h hq
      by_cases hb : 1048576 < q
      · rw [if_pos hb] at HR
        go_wp2_with fail
        refine HM2.out.mono ?_
        rintro e w2 ⟨rfl, b2⟩
        go_wp2_with fail
        go_ret
        exact ⟨ret_int HR.out.symm, hw.trans (b2.mono hw.size)⟩
      · rw [if_neg hb] at HR
        go_wp2_with fail
        refine HM2.out.mono ?_
        rintro e w2 ⟨rfl, b2⟩
        go_wp2_with fail
        go_ret
        exact ⟨ret_int HR.out.symm, hw.trans (b2.mono hw.size)⟩
end Go.Proofs.YtkfdbibgjoaefaaGreatDoor
/-
  The examples hold: 'awake' is true.
-/
namespace Go.Proofs.YtkfdbibgjoaefaaGreatDoor
open Go.RowKit

theorem IsP.later {w w' : World} {A : Option Addr} {n c : Nat} {L : List Pt} (h : IsP w w.heap.size A n c L) (b : Below w.heap.size w w') : IsP w' w'.heap.size A n c L := by
  have h' := h.below b
  refine ⟨h'.len, h'.cap, h'.max, fun h0 => ?_⟩
  obtain ⟨ad, e, hl, ha⟩ := h'.lies h0
  exact ⟨ad, e, Nat.lt_of_lt_of_le hl b.size, ha⟩
theorem isP_row {W : World} {g : Nat} {cs : Array Value} (L : List Pt) (hh : W.heap[g]? = some (.cells cs 38 (0, 0))) (hc : cs.toList = L.flatMap cellsP) (n : Nat) (hn : L.length = n) (hm : n ≤ 1000) : IsP W W.heap.size (some ⟨g, 0, none⟩) n n L := by
  refine ⟨hn, Nat.le_refl _, by unfold maxLen; omega, fun h0 => ⟨⟨g, 0, none⟩, rfl, ?_, fun i hi => ?_⟩⟩
  · show g < W.heap.size
    rcases Nat.lt_or_ge g W.heap.size with hlt | hge
    · exact hlt
    · rw [Array.getElem?_eq_none hge] at hh; cases hh
  · have q := fun (k : Nat) (hk : k < 7) => (row_cell hh (i * 7 + k)).trans ((show cs[i * 7 + k]? = (L.flatMap cellsP)[i * 7 + k]? by rw [← hc, Array.getElem?_toList]).trans ((flat7 L i k hi hk).trans (List.getElem?_eq_getElem (l := cellsP L[i]) (i := k) hk)))
    have e0 : (({ block := g, off := 0 } : Addr).add (i * 7)) = ⟨g, i * 7, none⟩ := by rw [Addr.add_lit, Nat.zero_add]
    rw [e0]
    exact ⟨q 0 (by omega), q 1 (by omega), q 2 (by omega), q 3 (by omega), q 4 (by omega), q 5 (by omega), q 6 (by omega)⟩
theorem bel_alloc {w w' : World} {o : Obj} (h : Below (w.alloc o).heap.size (w.alloc o) w') : Below w.heap.size w w' := ((Below.refl _ _).alloc (Nat.le_refl _) o).trans (h.mono (by simp))
theorem bel_trans {w a b : World} (h : Below w.heap.size w a) (k : Below a.heap.size a b) : Below w.heap.size w b := h.trans (k.mono h.size)
end Go.Proofs.YtkfdbibgjoaefaaGreatDoor
/-
  What the document's side wants of stage texts, for this seat (Rf).
-/
namespace Go.Proofs.YtkfdbibgjoaefaaGreatDoor
open Go.RowKit

theorem kn_at (i : Nat) (hi : i < 33) : (knL.map fun k => Value.int IntKind.i64 (k : Nat))[i]'(by rw [List.length_map]; exact hi) = .int .i64 (kn i : Nat) := by
  rw [List.getElem_map]
  unfold kn
  rw [List.getD_eq_getElem?_getD, List.getElem?_eq_getElem hi]
  rfl
set_option maxRecDepth 10000 in
set_option maxHeartbeats 1000000 in
theorem knot_any (i : Nat) (hi : i < 33) (w : World) : Calls Tryz.prog 63 #[.int .i64 i] w fun e w' => e = .returned (.int .i64 (kn i : Nat)) ∧ Below w.heap.size w w' := by
  have hz : (i : Int) < 33 := by omega
  go_enter Tryz.func63, Tryz.ntmps63
  go_wp2_with fail
  go_ret
  refine ⟨?_, (Below.refl _ _).alloc (Nat.le_refl _) _⟩
  exact congrArg Ending.returned (kn_at i hi)
set_option maxRecDepth 10000 in
set_option maxHeartbeats 1000000 in
theorem refSquash_any (d : Int) (w : World) (h1 : -9223372036854775808 ≤ d) (h2 : d ≤ 9223372036854775807) :
    Calls Tryz.prog 39 #[.int .i64 d] w fun e w' => e = .returned (.int .i64 (sq d)) ∧ Below w.heap.size w w' := by
  by_cases ha : 2047 < d
  · have e : sq d = 4095 := by unfold sq; rw [if_pos ha]
    rw [e]
    go_enter Tryz.func39, Tryz.ntmps39
    go_wp2_with fail
    go_ret
    exact ⟨rfl, Below.refl _ _⟩
  · by_cases hb : d < -2047
    · have e : sq d = 1 := by unfold sq; rw [if_neg ha, if_pos hb]
      rw [e]
      go_enter Tryz.func39, Tryz.ntmps39
      go_wp2_with fail
      go_ret
      exact ⟨rfl, Below.refl _ _⟩
    · obtain ⟨q, hq⟩ : ∃ q, q = (d + 2048).toNat / 128 := ⟨_, rfl⟩
      obtain ⟨r, hr⟩ : ∃ r, r = (d + 2048).toNat % 128 := ⟨_, rfl⟩
      have hq33 : q < 32 := by omega
      have e : sq d = (((kn q * (128 - r) + kn (q + 1) * r + 64) / 128 : Nat) : Int) := by
        unfold sq sqN; rw [if_neg ha, if_neg hb, hq, hr]
      have b1 := kn_high q (by omega)
      have b2 := kn_high (q + 1) (by omega)
      have K1 := hid (fun w => knot_any q (by omega) w)
      have K2 := hid (fun w => knot_any (q + 1) (by omega) w)
      rw [e]
      generalize kn q = a at b1 K1 ⊢
      generalize kn (q + 1) = b at b2 K2 ⊢
      have b3 : r < 128 := by omega
      obtain ⟨n, hn⟩ : ∃ n : Nat, d + 2048 = (n : Int) := ⟨(d + 2048).toNat, by omega⟩
      have hn2 : n ≤ 4095 := by omega
      have hq1 : (n : Int) / 128 = (q : Int) := by omega
      have hr1 : (n : Int) % 128 = (r : Int) := by omega
      clear e hq hr
      go_enter Tryz.func39, Tryz.ntmps39
      go_wp2_with fail
      refine (K1.out w).mono ?_
      rintro e w1 ⟨rfl, B1⟩
      go_wp2_with fail
      refine (K2.out w1).mono ?_
      rintro e w2 ⟨rfl, B2⟩
      go_wp2_with fail
      go_ret
      exact ⟨ret_i64 (sum_eq a b r b1 b2 b3), B1.trans (B2.mono B1.size)⟩
/-- Nothing ahead of d reaches p. -/
def Ahead (p d : Int) : Prop := ∀ x, -2047 ≤ x → x < d → sq x < p
theorem Ahead.least {p d : Int} (h : Ahead p d) : d ≤ stz p ∨ stz p = 2047 := by
  have r := stz_range p
  by_cases e : stz p < d
  · have h1 := h _ r.1 e
    rcases lst_hit p 4094 (-2047) with h4 | h4
    · have : p ≤ sq (stz p) := h4
      omega
    · have : stz p = -2047 + ((4094 : Nat) : Int) := h4
      omega
  · omega
set_option maxRecDepth 10000 in
set_option maxHeartbeats 1000000 in
theorem refStretch_any (p : Int) (w : World) :
    Calls Tryz.prog 61 #[.int .i64 p] w fun e w' => e = .returned (.int .i64 (stz p)) ∧ Below w.heap.size w w' := by
  go_enter Tryz.func61, Tryz.ntmps61
  go_wp2_with fail
  go_loopw [3] (fun vd wr => ∃ d : Int, vd = .int .i64 d ∧ -2047 ≤ d ∧ d ≤ 2047 ∧ Ahead p d ∧ Below w.heap.size w wr) (fun vd _ => (2047 - intOf vd).toNat)
  case atStart => exact ⟨-2047, rfl, by omega, by omega, fun x h1 h2 => by omega, Below.refl _ _⟩
  case round =>
    obtain ⟨d, rfl, h1, h2, ha, hb⟩ := hrel
    have HA := hid ha
    clear ha
    have r := stz_range p
    by_cases hlt : d < 2047
    · have HS := hid (refSquash_any d wr (by omega) (by omega))
      by_cases hp : p ≤ sq d
      · have e : stz p = d := by
          have e1 := stz_le p d h1 hp
          rcases HA.out.least with e2 | e2 <;> omega
        have Hp := hid hp
        go_wp2_with fail
        refine HS.out.mono ?_
        rintro e w' ⟨rfl, B⟩
        go_wp2_with fail
        go_ret
        exact ⟨ret_i64 (by omega), hb.trans (B.mono hb.size)⟩
      · have hp2 : sq d < p := by omega
        go_wp2_with fail
        refine HS.out.mono ?_
        rintro e w' ⟨rfl, B⟩
        go_wp2_with fail
        go_roundw
        case rel => exact ⟨d + 1, rfl, by omega, by omega, fun x h3 h4 => by
          by_cases ex : x = d
          · rw [ex]; omega
          · exact HA.out x h3 (by omega), hb.trans (B.mono hb.size)⟩
        case measure => simp [intOf]; omega
    · have e : stz p = 2047 := by rcases HA.out.least with e2 | e2 <;> omega
      go_wp2_with fail
      go_ret
      exact ⟨ret_i64 (by omega), hb⟩
end Go.Proofs.YtkfdbibgjoaefaaGreatDoor
/-
  What the document's side wants of stage texts, for this seat (Sta).
-/
namespace Go.Proofs.YtkfdbibgjoaefaaGreatDoor
open Go.RowKit

set_option maxRecDepth 10000 in
theorem refCounts_any (s : Nat) (hs : s < 256) (w : World) :
    Calls Tryz.prog 73 #[.int .u8 s] w fun e w' => e = .returned (.tuple #[.int .i64 (s / 16 : Nat), .int .i64 (s % 16 : Nat)]) ∧ w' = w := by
  obtain ⟨a, ha⟩ : ∃ a, a = s / 16 := ⟨_, rfl⟩
  obtain ⟨b, hb⟩ : ∃ b, b = s % 16 := ⟨_, rfl⟩
  rw [← ha, ← hb]
  have ha1 : (s : Int) / 16 = (a : Int) := by omega
  have hb1 : (s : Int) % 16 = (b : Int) := by omega
  have la : a < 16 := by omega
  have lb : b < 16 := by omega
  clear ha hb
  go_enter Tryz.func73, Tryz.ntmps73
  go_wp2_with fail
  go_ret2
  exact ⟨by simp [hb1], rfl⟩
end Go.Proofs.YtkfdbibgjoaefaaGreatDoor
/-
  What the document's side wants of stage texts, for this seat (Nx).
-/
namespace Go.Proofs.YtkfdbibgjoaefaaGreatDoor
open Go.RowKit

set_option maxRecDepth 10000 in
set_option maxHeartbeats 1000000 in
theorem refNext_any (s : Nat) (bit : Int) (hs : s < 256) (w : World) :
    Calls Tryz.prog 58 #[.int .u8 s, .int .i64 bit] w fun e w' => e = .returned (.int .u8 (nxN s (oneB bit) : Nat)) ∧ Below w.heap.size w w' := by
  have HA := hid (fun w => refCounts_any s hs w)
  obtain ⟨a, ha⟩ : ∃ a, s / 16 = a := ⟨_, rfl⟩
  obtain ⟨b, hb⟩ : ∃ b, s % 16 = b := ⟨_, rfl⟩
  have la : a < 16 := by omega
  have lb : b < 16 := by omega
  by_cases h0 : bit = 0
  · subst h0
    rw [nx0]
    rw [ha, hb] at HA ⊢
    clear ha hb
    obtain ⟨h, hh⟩ : ∃ h, b / 2 = h := ⟨_, rfl⟩
    have hz : (b : Int) / 2 = (h : Int) := by omega
    have hl : h < 16 := by omega
    by_cases c1 : (15 : Int) < (a : Int) + 1 <;> by_cases c2 : (2 : Int) < (b : Int)
    all_goals
      have eo : othN b = if (2 : Int) < (b : Int) then h + 1 else b := by unfold othN; split <;> (try split) <;> omega
      have em : moreN a = if (15 : Int) < (a : Int) + 1 then 15 else a + 1 := by unfold moreN; (try split) <;> omega
      simp only [c1, c2, if_true, if_false] at eo em
      rw [eo, em]
      clear hh eo em
      go_enter Tryz.func58, Tryz.ntmps58
      go_wp2_with fail
      refine (HA.out _).mono ?_
      rintro e w' ⟨rfl, rfl⟩
      go_wp2_with fail
      go_ret
      exact ⟨ret_u8 (by omega), Below.refl _ _⟩
  · rw [nx1 s bit h0]
    rw [ha, hb] at HA ⊢
    clear ha hb
    obtain ⟨h, hh⟩ : ∃ h, a / 2 = h := ⟨_, rfl⟩
    have hz : (a : Int) / 2 = (h : Int) := by omega
    have hl : h < 16 := by omega
    by_cases c1 : (15 : Int) < (b : Int) + 1 <;> by_cases c2 : (2 : Int) < (a : Int)
    all_goals
      have eo : othN a = if (2 : Int) < (a : Int) then h + 1 else a := by unfold othN; split <;> (try split) <;> omega
      have em : moreN b = if (15 : Int) < (b : Int) + 1 then 15 else b + 1 := by unfold moreN; (try split) <;> omega
      simp only [c1, c2, if_true, if_false] at eo em
      rw [eo, em]
      clear hh eo em
      go_enter Tryz.func58, Tryz.ntmps58
      go_wp2_with fail
      refine (HA.out _).mono ?_
      rintro e w' ⟨rfl, rfl⟩
      go_wp2_with fail
      go_ret
      exact ⟨ret_u8 (by omega), Below.refl _ _⟩
set_option maxRecDepth 10000 in
set_option maxHeartbeats 1000000 in
theorem refChance_any (s : Nat) (hs : s < 256) (w : World) :
    Calls Tryz.prog 55 #[.int .u8 s] w fun e w' => e = .returned (.int .i64 (chN s : Nat)) ∧ Below w.heap.size w w' := by
  have HA := hid (fun w => refCounts_any s hs w)
  unfold chN
  obtain ⟨a, ha⟩ : ∃ a, s / 16 = a := ⟨_, rfl⟩
  obtain ⟨b, hb⟩ : ∃ b, s % 16 = b := ⟨_, rfl⟩
  have la : a < 16 := by omega
  have lb : b < 16 := by omega
  rw [ha, hb] at HA ⊢
  clear ha hb
  go_enter Tryz.func55, Tryz.ntmps55
  go_wp2_with fail
  refine (HA.out _).mono ?_
  rintro e w' ⟨rfl, rfl⟩
  go_wp2_with fail
  go_ret
  exact ⟨ret_i64 (ch_num a b), Below.refl _ _⟩
end Go.Proofs.YtkfdbibgjoaefaaGreatDoor
