/-
  Merged: Zl.
-/
import Derived.Test.YtkfdbibgjoaefaaGreatDoorMg06
import Derived.IntWalk
import Derived.BigQuiet
import Derived.BigRegion
/-
  Merged: Mct Mch Mcl.
-/
/-
  Where a byte stands in a PMatch's ring.
-/
namespace Go.Proofs.YtkfdbibgjoaefaaGreatDoor
open Go.RowKit

set_option maxRecDepth 10000 in
set_option maxHeartbeats 1000000 in
theorem turn_any (g dr n q : Nat) (w : World) (h0 : w.cell? ⟨g, 0, none⟩ = some (sl dr n)) (hn : 1 ≤ n ∧ n ≤ 65536) :
    Calls Tryz.prog 114 #[pt g, .int .i64 (q : Nat)] w fun e w' => e = .returned (.int .i64 (q % n : Nat)) ∧ w = w' := by
  obtain ⟨r, hr⟩ : ∃ r, q % n = r := ⟨_, rfl⟩
  rw [hr]
  have hrn : r < n := by rw [← hr]; exact Nat.mod_lt _ (by omega)
  have z1 : (q : Int) % (n : Int) = (r : Int) := by rw [← hr]; omega
  have z2 : Int.tmod (q : Int) (n : Int) = (r : Int) := by rw [Int.tmod_eq_emod_of_nonneg (by omega)]; exact z1
  have z3 : ¬ (n : Int) = 0 := by omega
  have z4 : ¬ n = 0 := by omega
  have z5 : IntKind.i64.wrap (r : Int) = (r : Int) := IntWalk.i64_in _ (by omega)
  clear hr hn hrn
  unfold sl at h0
  unfold pt
  go_enter Tryz.func114, Tryz.ntmps114
  go_wp2_with fail
  go_ret
  exact ⟨rfl, rfl⟩
end Go.Proofs.YtkfdbibgjoaefaaGreatDoor
/-
  A PMatch at work: how many bytes are alike.
-/
namespace Go.Proofs.YtkfdbibgjoaefaaGreatDoor
open Go.RowKit

/-- One more byte that is alike. -/
theorem mlen_step (ring : List Nat) (n q w k : Nat) (h : k < 32) (hy : k < q ∧ ring.getD ((q - k - 1) % n) 0 = ring.getD ((w - k - 1) % n) 0) : mlen ring n q w (32 - k) k = mlen ring n q w (32 - (k + 1)) (k + 1) := by
  rw [show 32 - k = (32 - (k + 1)) + 1 from by omega]
  show (if k < q ∧ ring.getD ((q - k - 1) % n) 0 = ring.getD ((w - k - 1) % n) 0 then mlen ring n q w (32 - (k + 1)) (k + 1) else k) = _
  rw [if_pos hy]
theorem mlen_stop (ring : List Nat) (n q w k : Nat) (h : 32 ≤ k ∨ ¬ (k < q ∧ ring.getD ((q - k - 1) % n) 0 = ring.getD ((w - k - 1) % n) 0)) : mlen ring n q w (32 - k) k = k := by
  by_cases e : 32 ≤ k
  · rw [show 32 - k = 0 from by omega]; rfl
  · rw [show 32 - k = (32 - (k + 1)) + 1 from by omega]
    show (if k < q ∧ ring.getD ((q - k - 1) % n) 0 = ring.getD ((w - k - 1) % n) 0 then mlen ring n q w (32 - (k + 1)) (k + 1) else k) = _
    rw [if_neg (by rcases h with h | h; exact absurd h e; exact h)]
set_option maxRecDepth 10000 in
set_option maxHeartbeats 2000000 in
theorem alike_any (g dr n q wh : Nat) (ring : List Nat) (w : World) (h0 : w.cell? ⟨g, 0, none⟩ = some (sl dr n)) (h4 : w.cell? ⟨g, 4, none⟩ = some (.int .i64 (wh : Nat))) (hr : Ro w dr 5 n (bytesF ring)) (hn : 1 ≤ n ∧ n ≤ 65536) (hq : q ≤ wh) (hw : wh < 4294967296) :
    Calls Tryz.prog 115 #[pt g, .int .i64 (q : Nat)] w fun e w' => e = .returned (.int .i64 (mlen ring n q wh 32 0 : Nat)) ∧ Below w.heap.size w w' := by
  have HT := hid (fun x (w' : World) (b : Below w.heap.size w w') => turn_any g dr n x w' (keeps b h0) hn)
  unfold pt sl at *
  go_enter Tryz.func115, Tryz.ntmps115
  go_wp2_with fail
  go_loopw [5] (fun vi wr => ∃ k : Nat, k ≤ 32 ∧ vi = .int .i64 k ∧ Below w.heap.size w wr ∧ mlen ring n q wh (32 - k) k = mlen ring n q wh 32 0) (fun vi _ => 32 - (intOf vi).toNat)
  case atStart => exact ⟨0, Nat.zero_le _, rfl, Below.refl _ _, rfl⟩
  case round =>
    obtain ⟨k, hk, rfl, hb, hm⟩ := hrel
    by_cases hgo : k < 32 ∧ k < q
    · obtain ⟨g1, g2⟩ := hgo
      obtain ⟨A, hA⟩ : ∃ A, q - k - 1 = A := ⟨_, rfl⟩
      obtain ⟨B, hB⟩ : ∃ B, wh - k - 1 = B := ⟨_, rfl⟩
      have a1 : IntKind.i64.wrap ((q : Int) - 1) = (q : Int) - 1 := IntWalk.i64_in _ (by omega)
      have a2 : IntKind.i64.wrap ((q : Int) - 1 - (k : Int)) = (A : Int) := by rw [IntWalk.i64_in _ (by omega)]; omega
      have a3 : IntKind.i64.wrap ((wh : Int) - 1) = (wh : Int) - 1 := IntWalk.i64_in _ (by omega)
      have a4 : IntKind.i64.wrap ((wh : Int) - 1 - (k : Int)) = (B : Int) := by rw [IntWalk.i64_in _ (by omega)]; omega
      have lA := Nat.mod_lt A (show 0 < n from by omega)
      have lB := Nat.mod_lt B (show 0 < n from by omega)
      have c1 := (hr.below hb).cell (A % n) lA
      have c2 := (hr.below hb).cell (B % n) lB
      have c0 := keeps hb h0
      have c4 := keeps hb h4
      unfold bytesF at c1 c2
      have HTA := hid (HT.out A wr.drew hb.drew)
      have HTB := hid (HT.out B wr.drew hb.drew)
      have HS := hid (mlen_step ring n q wh k g1)
      have HP := hid (mlen_stop ring n q wh k)
      rw [hA, hB] at HS HP
      obtain ⟨i, hi⟩ : ∃ i, A % n = i := ⟨_, rfl⟩
      obtain ⟨j, hj⟩ : ∃ j, B % n = j := ⟨_, rfl⟩
      rw [hi] at lA c1 HTA HS HP
      rw [hj] at lB c2 HTB HS HP
      generalize ring.getD i 0 = x at *
      generalize ring.getD j 0 = y at *
      have i0 : (i : Int) < (n : Int) := by omega
      have j0 : (j : Int) < (n : Int) := by omega
      have n0 : (n : Int) ≤ 65536 := by omega
      have k0 : (k : Int) < 32 := by omega
      have k1 : (k : Int) < (q : Int) := by omega
      have HB := hid hb
      have HM := hid hm
      clear hb hm hr h0 h4 hA hB hi hj HT
      go_wp2_with fail
      rcases Nat.lt_or_ge q 32 with hq1 | hq1
      · have y1 : (q : Int) < 32 := by omega
        go_region_held3 (fun w' => w'.cell? ⟨g, 0, none⟩ = some (.slice (some ⟨dr, 0, none⟩) n n) ∧ w'.cell? ⟨g, 4, none⟩ = some (.int .i64 wh) ∧ w'.cell? ⟨dr, i, none⟩ = some (.int .u8 x) ∧ w'.cell? ⟨dr, j, none⟩ = some (.int .u8 y))
          (first | exact ⟨c0, c4, c1, c2⟩ | go_keep)
          (first
          | (go_at_call 114; (with_reducible refine HTA.out.mono ?_); rintro r w2 ⟨rfl, rfl⟩)
          | (go_at_call 114; (with_reducible refine HTB.out.mono ?_); rintro r w2 ⟨rfl, rfl⟩))
        all_goals
          have hw2 := HB.out.drew
          clear c0 c1 c2 c4 HTA HTB a1 a2 a3 a4
          by_cases hxy : x = y
          · have hxn : ((x : Int) == (y : Int)) = true := by rw [hxy]; simp
            rw [hxn]
            go_wp2_with fail
            go_roundw
            case rel => exact ⟨k + 1, by omega, by go_num, hw2, (HS.out ⟨g2, hxy⟩).symm.trans HM.out⟩
            case measure => simp [intOf]; omega
          · have hi : ¬ (x : Int) = (y : Int) := by omega
            have hxn : ((x : Int) == (y : Int)) = false := by simpa using hi
            rw [hxn]
            have he := (HP.out (.inr (fun h => hxy h.2))).symm.trans HM.out
            go_wp2_with fail
            go_ret
            exact ⟨by rw [← he]; rfl, hw2⟩
      · have y1 : ¬ (q : Int) < 32 := by omega
        go_region_held3 (fun w' => w'.cell? ⟨g, 0, none⟩ = some (.slice (some ⟨dr, 0, none⟩) n n) ∧ w'.cell? ⟨g, 4, none⟩ = some (.int .i64 wh) ∧ w'.cell? ⟨dr, i, none⟩ = some (.int .u8 x) ∧ w'.cell? ⟨dr, j, none⟩ = some (.int .u8 y))
          (first | exact ⟨c0, c4, c1, c2⟩ | go_keep)
          (first
          | (go_at_call 114; (with_reducible refine HTA.out.mono ?_); rintro r w2 ⟨rfl, rfl⟩)
          | (go_at_call 114; (with_reducible refine HTB.out.mono ?_); rintro r w2 ⟨rfl, rfl⟩))
        all_goals
          have hw2 := HB.out.drew
          clear c0 c1 c2 c4 HTA HTB a1 a2 a3 a4
          by_cases hxy : x = y
          · have hxn : ((x : Int) == (y : Int)) = true := by rw [hxy]; simp
            rw [hxn]
            go_wp2_with fail
            go_roundw
            case rel => exact ⟨k + 1, by omega, by go_num, hw2, (HS.out ⟨g2, hxy⟩).symm.trans HM.out⟩
            case measure => simp [intOf]; omega
          · have hi : ¬ (x : Int) = (y : Int) := by omega
            have hxn : ((x : Int) == (y : Int)) = false := by simpa using hi
            rw [hxn]
            have he := (HP.out (.inr (fun h => hxy h.2))).symm.trans HM.out
            go_wp2_with fail
            go_ret
            exact ⟨by rw [← he]; rfl, hw2⟩
    · have he := hid ((mlen_stop ring n q wh k (by omega)).symm.trans hm)
      have Hb := hid hb
      clear hm hb hr h0 h4 HT
      rcases Nat.lt_or_ge q 32 with hq1 | hq1
      · go_wp2_with fail
        have y1 : (q : Int) < 32 := by omega
        have y2 : ¬ (k : Int) < (q : Int) := by omega
        have y3 : ¬ k < q := by omega
        go_quiet (fail)
        go_wp2_with fail
        go_ret
        exact ⟨by rw [← he.out]; rfl, Hb.out.trans (Below.drewN _ _ _)⟩
      · go_wp2_with fail
        have y1 : ¬ (q : Int) < 32 := by omega
        have y2 : ¬ (k : Int) < 32 := by omega
        have y3 : ¬ k < 32 := by omega
        have y4 : ¬ q < 32 := by omega
        go_quiet (fail)
        go_wp2_with fail
        go_ret
        exact ⟨by rw [← he.out]; rfl, Hb.out.trans (Below.drewN _ _ _)⟩
end Go.Proofs.YtkfdbibgjoaefaaGreatDoor
/-
  A PMatch leans.
-/
namespace Go.Proofs.YtkfdbibgjoaefaaGreatDoor
open Go.RowKit

theorem even_bits (r bits : Nat) (h : bits ≤ 7) : (r + 256) / 2 ^ (7 - bits) % 2 = r / 2 ^ (7 - bits) % 2 := by
  have : bits = 0 ∨ bits = 1 ∨ bits = 2 ∨ bits = 3 ∨ bits = 4 ∨ bits = 5 ∨ bits = 6 ∨ bits = 7 := by omega
  rcases this with rfl | rfl | rfl | rfl | rfl | rfl | rfl | rfl <;> simp <;> omega
set_option maxRecDepth 10000 in
set_option maxHeartbeats 2000000 in
theorem w_mch_lean (g dr n pos len h c le m bits rb : Nat) (w : World) (h0 : w.cell? ⟨g, 0, none⟩ = some (sl dr n)) (h5 : w.cell? ⟨g, 5, none⟩ = some (.int .i64 (pos : Nat))) (h6 : w.cell? ⟨g, 6, none⟩ = some (.int .i64 (len : Nat)))
    (hp : pos < n) (hn : n ≤ 65536) (hl : len ≤ 32) (hrb : w.cell? ⟨dr, pos, none⟩ = some (.int .u8 (rb : Nat))) (hr : rb < 256) (hb : bits ≤ 7) (c0 : 2 ^ bits ≤ c) (c1 : c < 2 ^ (bits + 1)) :
    Calls Tryz.prog 112 #[pt g, mo h c le m] w fun e w' => e = .returned (.int .i64 (if len = 0 then 0 else if c ≠ (rb + 256) / 2 ^ (8 - bits) then 0 else if rb / 2 ^ (7 - bits) % 2 = 0 then -((min len 15 * 64 : Nat) : Int) else ((min len 15 * 64 : Nat) : Int))) ∧ Below w.heap.size w w' := by
  have h256 : c < 256 := by
    have := Nat.pow_le_pow_right (n := 2) (by decide) (show bits + 1 ≤ 8 from by omega)
    omega
  have hL := hid (fun w' => len_any c (by omega) w')
  have hbl := bl_at ⟨bits, by omega⟩ ⟨c, by omega⟩ c0 c1
  simp only at hbl
  rw [hbl] at hL
  rw [← even_bits rb bits hb]
  have nn : ∀ {A : Addr} {v : Value} (o : Obj), w.cell? A = some v → (w.alloc o).cell? A = some v := fun o h => keeps ((Below.refl w.heap.size w).alloc (Nat.le_refl _) o) h
  have g0 := fun o => nn o h0
  have g5 := fun o => nn o h5
  have g6 := fun o => nn o h6
  have gr := fun o => nn o hrb
  clear nn
  have z1 : (pos : Int) < (n : Int) := by omega
  have z2 : (n : Int) ≤ 65536 := by omega
  have z3 : (rb : Int) < 256 := by omega
  have z4 : IntKind.u32.wrap ((rb : Int) + 256) = (rb : Int) + 256 := IntWalk.u32_in _ (by omega)
  have z5 : IntKind.i64.wrap (9 - ((bits + 1 : Nat) : Int)) = ((8 - bits : Nat) : Int) := by rw [IntWalk.i64_in _ (by omega)]; omega
  clear h0 h5 h6 hrb hp hbl c0 c1
  by_cases hl0 : len = 0
  · subst hl0
    rw [if_pos rfl]
    unfold mo pt sl at *
    go_enter Tryz.func112, Tryz.ntmps112
    go_wp2_with fail
    go_ret
    exact ⟨rfl, (Below.refl _ _).alloc (Nat.le_refl _) _⟩
  rw [if_neg hl0]
  obtain ⟨X, hX⟩ : ∃ X, (rb + 256) / 2 ^ (8 - bits) = X := ⟨_, rfl⟩
  obtain ⟨Y, hY⟩ : ∃ Y, (rb + 256) / 2 ^ (7 - bits) = Y := ⟨_, rfl⟩
  have eX : ((rb : Int) + 256) / 2 ^ (8 - bits) = (X : Int) := by rw [← hX, Int.natCast_ediv, Int.natCast_pow]; rfl
  have eY : ((rb : Int) + 256) / 2 ^ (7 - bits) = (Y : Int) := by rw [← hY, Int.natCast_ediv, Int.natCast_pow]; rfl
  have FB : ∀ q : Nat, Below w.heap.size w ((w.alloc (.cells #[.int .u32 h, .int .u32 c, .slice (some ⟨le, 0, none⟩) m m] 72)).drewN q) := fun q => ((Below.refl _ _).alloc (Nat.le_refl _) _).trans (Below.drewN _ _ q)
  have q0 : IntKind.i64.wrap (9 - ((bits : Int) + 1) - 1) = ((7 - bits : Nat) : Int) := by rw [IntWalk.i64_in _ (by omega)]; omega
  have zl : ¬ (len : Int) = 0 := by omega
  rw [hX, hY]
  clear hX hY
  by_cases hc : c = X
  · rw [if_neg (fun x => x hc)]
    have hb0 : ((X : Int) != (c : Int)) = false := by rw [hc]; simp
    have zl2 : (len : Int) ≤ 32 := by omega
    by_cases hy : Y % 2 = 0
    · rw [if_pos hy]
      have hy2 : ((Y : Int) % 2 == 0) = true := by have hi : (Y : Int) % 2 = 0 := (by omega); simpa using hi
      clear hc hl0 hy
      unfold mo pt sl at *
      go_enter Tryz.func112, Tryz.ntmps112
      go_wp2_with fail
      go_quiet (fail)
      go_wp2_with fail
      refine (hL.out _).mono ?_
      rintro e w2 ⟨rfl, rfl⟩
      go_wp2_with fail
      go_quiet (fail)
      go_wp2_with fail
      all_goals
        go_ret
        exact ⟨ret_i64 (by omega), FB _⟩
    · rw [if_neg hy]
      have hy2 : ((Y : Int) % 2 == 0) = false := by have hi : ¬ (Y : Int) % 2 = 0 := (by omega); simpa using hi
      clear hc hl0 hy
      unfold mo pt sl at *
      go_enter Tryz.func112, Tryz.ntmps112
      go_wp2_with fail
      go_quiet (fail)
      go_wp2_with fail
      refine (hL.out _).mono ?_
      rintro e w2 ⟨rfl, rfl⟩
      go_wp2_with fail
      go_quiet (fail)
      go_wp2_with fail
      all_goals
        go_ret
        exact ⟨ret_i64 (by omega), FB _⟩
  · rw [if_pos hc]
    have hb0 : ((X : Int) != (c : Int)) = true := by have hi : ¬ (X : Int) = (c : Int) := (by omega); simpa using hi
    clear hc q0
    unfold mo pt sl at *
    go_enter Tryz.func112, Tryz.ntmps112
    go_wp2_with fail
    go_quiet (fail)
    go_wp2_with fail
    refine (hL.out _).mono ?_
    rintro e w2 ⟨rfl, rfl⟩
    go_wp2_with fail
    go_quiet (fail)
    go_wp2_with fail
    go_ret
    exact ⟨rfl, (FB _).trans (Below.drewN _ _ _)⟩
end Go.Proofs.YtkfdbibgjoaefaaGreatDoor
