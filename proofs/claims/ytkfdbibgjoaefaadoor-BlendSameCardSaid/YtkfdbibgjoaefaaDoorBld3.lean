/-
  build: a PIsse as it begins.
-/
import Derived.Test.YtkfdbibgjoaefaaDoorBk
namespace Go.Proofs.YtkfdbibgjoaefaaDoor
open Go.RowKit

theorem z123 : Tryd.zeroCells123 = (fL 516 (fun k => if k = 2 then .slice none 0 0 else .int .i64 0)).toArray := by kernel_rfl
def w8P (i : Nat) : List Int := (List.range 512).map (fun k => if k % 2 = 0 ∧ k < 2 * i then 65536 else 0)
theorem w8P_end : w8P 256 = w8 := by decide +kernel
theorem w8P_get (i k : Nat) (h : k < 512) : (w8P i).getD k 0 = if k % 2 = 0 ∧ k < 2 * i then 65536 else 0 := range_get 512 k _ h
set_option maxRecDepth 10000 in
set_option maxHeartbeats 4000000 in
theorem newIsse_any (s : Nat) (a : Int) (w : World) (hs : s ≤ 16) : Calls Tryd.prog 36 #[.int .i64 (s : Nat), .int .i64 a] w fun e w' => ∃ g d, e = .returned (pt g) ∧ w.heap.size ≤ g ∧ w.heap.size ≤ d ∧ g ≠ d ∧
    Ro w' g 123 516 (isF s a d (2 ^ s) w8) ∧ Ro w' d 5 (2 ^ s) (fun _ => .int .u8 0) ∧ Below w.heap.size w w' := by
  have HS := hid (fun w' => same_b 0 w')
  have HL : Hid (∀ g w', w'.cell? ⟨g, 0, none⟩ = some (.int .u8 0) → g < w'.heap.size → Calls Tryd.prog 40 #[.int .i64 s, .int .i64 1, .func (.func 45) #[] #[.pointer (some ⟨g, 0, none⟩)]] w' fun e w'' => ∃ d, e = .returned (.agg #[.int .i64 s, .int .i64 1, .slice (some ⟨d, 0, none⟩) (2 ^ s) (2 ^ s)]) ∧ w'.heap.size ≤ d ∧
      Ro w'' d 5 (2 ^ s) (fun _ => .int .u8 0) ∧ Below w'.heap.size w' w'') := hid fun g w' h hg => by
    have := lay_b s 1 45 (pt g) (fun _ => 0) hs (by omega) w' (enters_of Tryd.func45 (by kernel_rfl) rfl) (fun j _ w2 b2 => same_b1 g j 0 w2 (keeps b2 h))
    rw [show 1 * 2 ^ s = 2 ^ s from Nat.one_mul _] at this
    exact this
  generalize 2 ^ s = n at *
  unfold pt at *
  go_enter Tryd.func36, Tryd.ntmps36
  go_wp2_with fail
  refine (HS.out _).mono ?_
  rintro r w1 ⟨rfl, c1, l1, b1⟩
  go_wp2_with fail
  refine (HL.out _ _ c1 l1).mono ?_
  rintro r w2 ⟨d, rfl, d2, r2, b2⟩
  clear HS HL
  go_wp2_with fail
  obtain ⟨W, hW⟩ : ∃ W, W = w2.alloc (Obj.cells ((((Tryd.zeroCells123.setIfInBounds 0 (Value.int IntKind.i64 s)).setIfInBounds 1 (Value.int IntKind.i64 1)).setIfInBounds 2 (Value.slice (some ⟨d, 0, none⟩) n n)).setIfInBounds 515 (Value.int IntKind.i64 a)) 123) := ⟨_, rfl⟩
  rw [← hW]
  have q1 : Ro W w2.heap.size 123 516 (isF s a d n (w8P 0)) := by
    have : W.heap[w2.heap.size]? = some (.cells ((((Tryd.zeroCells123.setIfInBounds 0 (Value.int IntKind.i64 s)).setIfInBounds 1 (Value.int IntKind.i64 1)).setIfInBounds 2 (Value.slice (some ⟨d, 0, none⟩) n n)).setIfInBounds 515 (Value.int IntKind.i64 a)) 123 (0, 0)) := by rw [hW]; exact heap_alloc_new w2 _
    rw [z123, fL_setA, fL_setA, fL_setA, fL_setA] at this
    refine Ro.same this (fun k hk => ?_)
    unfold isF sl
    by_cases e5 : k = 515
    · rw [if_pos e5, if_neg (by omega), if_neg (by omega), if_neg (by omega), if_pos e5]
    · rw [if_neg e5]
      by_cases e2 : k = 2
      · rw [if_pos e2, if_neg (by omega), if_neg (by omega), if_pos e2]
      · rw [if_neg e2]
        by_cases e1 : k = 1
        · rw [if_pos e1, if_neg (by omega), if_pos e1]
        · rw [if_neg e1]
          by_cases e0 : k = 0
          · rw [if_pos e0, if_pos e0]
          · rw [if_neg e0, if_neg e0, if_neg e1, if_neg e2, if_neg e2, if_neg e5, w8P_get _ _ (by omega), if_neg (by omega)]
  have b3 : Below w2.heap.size w2 W := by rw [hW]; exact (Below.refl _ _).alloc (Nat.le_refl _) _
  have q2 : Ro W d 5 n (fun _ => .int .u8 0) := r2.below b3
  have nd : ¬ d = w2.heap.size := Nat.ne_of_lt r2.lt
  have d1 : w.heap.size ≤ d := Nat.le_trans b1.size d2
  have g1 : w.heap.size ≤ w2.heap.size := Nat.le_trans b1.size b2.size
  have q3 : Below w.heap.size w W := bel3 b1 b2 b3
  clear hW b3 r2 d2 b2 b1 l1 c1
  generalize w2.heap.size = g at *
  go_loopw [13] (fun vi wr => ∃ i : Nat, i ≤ 256 ∧ vi = .int .i64 i ∧ Below w.heap.size w wr ∧ Ro wr g 123 516 (isF s a d n (w8P i)) ∧ Ro wr d 5 n (fun _ => .int .u8 0)) (fun vi _ => 256 - (intOf vi).toNat)
  case atStart => exact ⟨0, Nat.zero_le _, rfl, q3, q1, q2⟩
  case round =>
    obtain ⟨i, hi, rfl, hb, hr, hd⟩ := hrel
    clear q1 q2 q3
    by_cases hgo : i < 256
    · have hz : (i : Int) < 256 := by omega
      have f1 := hr.free (3 + i * 2)
      have l1 := hr.cell (3 + i * 2) (by omega)
      have x2 := (But.refl (· = g) wr).set ⟨g, 3 + i * 2, none⟩ (.int .i64 65536) (.inl rfl)
      have HB := hid hb
      have HR := hid hr
      have HD := hid hd
      have X2 := hid x2
      clear hb hr hd x2
      go_wp2_with fail
      refine ⟨⟨i + 1, by omega, by go_num, HB.out.trans (X2.out.below (fun k e => by rw [e]; exact g1) HB.out.size), (HR.out.set (3 + i * 2) _).same (fun k hk => ?_), HD.out.on X2.out nd⟩, by simp [intOf]; omega⟩
      unfold isF
      by_cases e : k = 3 + i * 2
      · rw [if_pos e, if_neg (by omega), if_neg (by omega), if_neg (by omega), if_neg (by omega), w8P_get _ _ (by omega), if_pos (by omega)]
      · rw [if_neg e]
        by_cases e0 : k = 0
        · rw [if_pos e0, if_pos e0]
        · rw [if_neg e0, if_neg e0]
          by_cases e1 : k = 1
          · rw [if_pos e1, if_pos e1]
          · rw [if_neg e1, if_neg e1]
            by_cases e2 : k = 2
            · rw [if_pos e2, if_pos e2]
            · rw [if_neg e2, if_neg e2]
              by_cases e5 : k = 515
              · rw [if_pos e5, if_pos e5]
              · rw [if_neg e5, if_neg e5, w8P_get _ _ (by omega), w8P_get _ _ (by omega)]
                by_cases e3 : (k - 3) % 2 = 0 ∧ k - 3 < 2 * i
                · rw [if_pos e3, if_pos (by omega)]
                · rw [if_neg e3, if_neg (by omega)]
    · obtain rfl : i = 256 := by omega
      rw [w8P_end] at hr
      go_wp2_with fail
      go_ret
      exact ⟨g, d, rfl, g1, d1, Ne.symm nd, hr, hd, hb⟩
set_option maxRecDepth 10000 in
set_option maxHeartbeats 1000000 in
theorem build_isse (s : Nat) (a b c r m : Int) (w : World) (hs : s ≤ 16) : Calls Tryd.prog 26 #[vP 8 s a b c r m] w fun e w' => ∃ g d, e = .returned (.iface 104 (pt g)) ∧ w.heap.size ≤ g ∧ w.heap.size ≤ d ∧ g ≠ d ∧
    Ro w' g 123 516 (isF s a d (2 ^ s) w8) ∧ Ro w' d 5 (2 ^ s) (fun _ => .int .u8 0) ∧ Below w.heap.size w w' := by
  have HL := hid (fun w' => newIsse_any s a w' hs)
  generalize 2 ^ s = n at *
  generalize w8 = ch at *
  obtain ⟨W, hW⟩ : ∃ W, W = w.alloc (.cells #[.int .u8 8, .int .i64 s, .int .i64 a, .int .i64 b, .int .i64 c, .int .i64 r, .int .i64 m] 48) := ⟨_, rfl⟩
  have b0 : Below w.heap.size w W := by rw [hW]; exact (Below.refl _ _).alloc (Nat.le_refl _) _
  have m1 : W.cell? ⟨w.heap.size, 1, none⟩ = some (.int .i64 s) := by rw [hW]; go_simp
  have m2 : W.cell? ⟨w.heap.size, 2, none⟩ = some (.int .i64 a) := by rw [hW]; go_simp
  have m0 : W.cell? ⟨w.heap.size, 0, none⟩ = some (.int .u8 8) := by rw [hW]; go_simp
  unfold vP
  unfold pt at *
  go_enter Tryd.func26, Tryd.ntmps26
  go_wp2_with (rw [← hW])
  clear hW
  refine (HL.out _).mono ?_
  rintro r w1 ⟨g, d, rfl, g1, d1, nd, r1, r2, b1⟩
  go_wp2_with fail
  go_ret
  exact ⟨g, d, rfl, Nat.le_trans b0.size g1, Nat.le_trans b0.size d1, nd, r1, r2, bel2 b0 b1⟩
theorem begun8 {p : Pt} (hk : p.kind = 8) : begun p = { p := p, state := List.replicate (pw p.size) 0, weight := w8 } := by unfold begun; rw [if_neg (by omega), if_neg (by omega), if_neg (by omega), if_neg (by omega), if_neg (by omega), if_pos hk]
theorem buildK8 : BuildK 8 := by
  intro p i w hk ho kn
  obtain ⟨⟨s0, s1⟩, _⟩ := one_isse ho hk
  obtain ⟨s, hs, s16, hp⟩ := pw_nat p.size s0 s1
  unfold vPt
  rw [hk, hs]
  refine (build_isse s p.a p.b p.c p.rate p.limit w s16).mono ?_
  rintro e w' ⟨g, d, rfl, g1, d1, nd, hg, hd, b⟩
  refine ⟨_, _, rfl, ?_, b⟩
  rw [begun8 hk]
  refine .isse hk g d rfl ⟨g1, hg.lt⟩ ⟨d1, hd.lt⟩ nd ?_ ?_
  · show Ro w' g 123 516 (isF p.size p.a d (pw p.size) w8)
    rw [hp, hs]; exact hg
  · show Ro w' d 5 (pw p.size) (bytesF (List.replicate (pw p.size) 0))
    rw [hp]
    refine hd.same fun k hk2 => ?_
    unfold bytesF
    rw [rep_getD _ _ _ _ hk2]
    rfl
end Go.Proofs.YtkfdbibgjoaefaaDoor
