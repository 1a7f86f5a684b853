/-
  build: parts as they begin.
-/
import Derived.Test.YtkfdbibgjoaefaaDoorLay
import Derived.Test.YtkfdbibgjoaefaaDoorZc
import Derived.Test.YtkfdbibgjoaefaaDoorZh
import Derived.Shelf.Abstract
namespace Go.Proofs.YtkfdbibgjoaefaaDoor
open Go.RowKit

set_option maxRecDepth 10000 in
set_option maxHeartbeats 1000000 in
theorem even_any (j : Nat) (w : World) : Calls Tryd.prog 32 #[.int .i64 (j : Nat)] w fun e w' => e = .returned (.agg #[.int .i32 2097152, .int .i32 0]) ∧ Below w.heap.size w w' := by
  go_enter Tryd.func32, Tryd.ntmps32
  go_wp2_with fail
  refine bodyPost_ret (results_cell_row (by kernel_rfl : Tryd.f32.results = #[.cell 2 82]) _ _ w.heap.size 82 #[.int .i32 2097152, .int .i32 0] (0, 0) _ rfl (heap_alloc_new w _) Tryd.underlying82 rfl rfl) rfl ⟨rfl, (Below.refl _ _).alloc (Nat.le_refl _) _⟩
set_option maxRecDepth 10000 in
set_option maxHeartbeats 1000000 in
theorem same_b1 (g : Nat) (j : Nat) (x : Nat) (w : World) (hc : w.cell? ⟨g, 0, none⟩ = some (.int .u8 (x : Nat))) : Calls Tryd.prog 45 #[.int .i64 (j : Nat), pt g] w fun e w' => e = .returned (.int .u8 (x : Nat)) ∧ Below w.heap.size w w' := by
  unfold pt
  go_enter Tryd.func45, Tryd.ntmps45
  go_wp2_with fail
  go_ret
  exact ⟨rfl, Below.refl _ _⟩
set_option maxRecDepth 10000 in
set_option maxHeartbeats 1000000 in
theorem same_i1 (g : Nat) (j : Nat) (x : Int) (w : World) (hc : w.cell? ⟨g, 0, none⟩ = some (.int .i64 x)) : Calls Tryd.prog 43 #[.int .i64 (j : Nat), pt g] w fun e w' => e = .returned (.int .i64 x) ∧ Below w.heap.size w w' := by
  unfold pt
  go_enter Tryd.func43, Tryd.ntmps43
  go_wp2_with fail
  go_ret
  exact ⟨rfl, Below.refl _ _⟩
set_option maxRecDepth 10000 in
set_option maxHeartbeats 1000000 in
theorem same_b (x : Nat) (w : World) : Calls Tryd.prog 41 #[.int .u8 (x : Nat)] w fun e w' => e = .returned (.func (.func 45) #[] #[pt w.heap.size]) ∧ w'.cell? ⟨w.heap.size, 0, none⟩ = some (.int .u8 (x : Nat)) ∧ w.heap.size < w'.heap.size ∧ Below w.heap.size w w' := by
  go_enter Tryd.func41, Tryd.ntmps41
  go_wp2_with fail
  go_ret
  exact ⟨rfl, by go_simp, by simp, (Below.refl _ _).alloc (Nat.le_refl _) _⟩
set_option maxRecDepth 10000 in
set_option maxHeartbeats 1000000 in
theorem same_i (x : Int) (w : World) : Calls Tryd.prog 35 #[.int .i64 x] w fun e w' => e = .returned (.func (.func 43) #[] #[pt w.heap.size]) ∧ w'.cell? ⟨w.heap.size, 0, none⟩ = some (.int .i64 x) ∧ w.heap.size < w'.heap.size ∧ Below w.heap.size w w' := by
  go_enter Tryd.func35, Tryd.ntmps35
  go_wp2_with fail
  go_ret
  exact ⟨rfl, by go_simp, by simp, (Below.refl _ _).alloc (Nat.le_refl _) _⟩
set_option maxRecDepth 10000 in
set_option maxHeartbeats 1000000 in
theorem build_cst (s a b c r m : Int) (w : World) : Calls Tryd.prog 26 #[vP 1 s a b c r m] w fun e w' => e = .returned (.iface 75 (.agg #[.int .i64 c])) ∧ Below w.heap.size w w' := by
  unfold vP
  go_enter Tryd.func26, Tryd.ntmps26
  go_wp2_with fail
  go_ret
  exact ⟨rfl, (Below.refl _ _).alloc (Nat.le_refl _) _⟩
set_option maxRecDepth 10000 in
set_option maxHeartbeats 1000000 in
theorem build_cm (s : Nat) (a b c r m : Int) (w : World) (hs : s ≤ 16) : Calls Tryd.prog 26 #[vP 2 s a b c r m] w fun e w' => ∃ g d, e = .returned (.iface 76 (pt g)) ∧ w.heap.size ≤ g ∧ w.heap.size ≤ d ∧ g ≠ d ∧
    w'.heap[g]? = some (.cells #[.int .i64 (s : Nat), .int .i64 1, sl d (2 ^ s), .int .i64 m] 85 (0, 0)) ∧ Ro w' d 82 (2 * 2 ^ s) (fun k => if k % 2 = 0 then .int .i32 2097152 else .int .i32 0) ∧ Below w.heap.size w w' := by
  have HL : Hid (∀ w', Calls Tryd.prog 31 #[.int .i64 s, .int .i64 1, .func (.func 32) #[] #[]] w' fun e w'' => ∃ d, e = .returned (.agg #[.int .i64 s, .int .i64 1, .slice (some ⟨d, 0, none⟩) (2 ^ s) (2 ^ s)]) ∧ w'.heap.size ≤ d ∧
      Ro w'' d 82 (2 * 2 ^ s) (fun k => if k % 2 = 0 then .int .i32 2097152 else .int .i32 0) ∧ Below w'.heap.size w' w'') := hid fun w' => by
    have := lay_o s 1 32 (fun _ => 2097152) hs (by omega) w' (enters_of Tryd.func32 (by kernel_rfl) rfl) (fun j _ w2 _ => even_any j w2)
    rw [show 1 * 2 ^ s = 2 ^ s from Nat.one_mul _] at this
    exact this
  generalize 2 ^ s = n at *
  have hs1 : (s : Int) ≤ 16 := by omega
  obtain ⟨W, hW⟩ : ∃ W, W = w.alloc (.cells #[.int .u8 2, .int .i64 s, .int .i64 a, .int .i64 b, .int .i64 c, .int .i64 r, .int .i64 m] 48) := ⟨_, rfl⟩
  have b0 : Below w.heap.size w W := by rw [hW]; exact (Below.refl _ _).alloc (Nat.le_refl _) _
  have m1 : W.cell? ⟨w.heap.size, 1, none⟩ = some (.int .i64 s) := by rw [hW]; go_simp
  have m6 : W.cell? ⟨w.heap.size, 6, none⟩ = some (.int .i64 m) := by rw [hW]; go_simp
  have m0 : W.cell? ⟨w.heap.size, 0, none⟩ = some (.int .u8 2) := by rw [hW]; go_simp
  unfold vP
  unfold pt sl at *
  go_enter Tryd.func26, Tryd.ntmps26
  go_wp2_with (rw [← hW])
  clear hW
  go_region_held3 (fun w' => w'.cell? ⟨w.heap.size, 1, none⟩ = some (.int .i64 s) ∧ w'.cell? ⟨w.heap.size, 6, none⟩ = some (.int .i64 m))
    (first | exact ⟨m1, m6⟩ | exact ⟨k0, k1⟩ | go_keep)
    (first
    | (go_at_call 31; go_must ((refine (HL.out _).mono ?_); rintro r w1 ⟨d, rfl, d1, R1, b1⟩; have k0 := keeps b1 m1; have k1 := keeps b1 m6; have B1 := hid (undrew b1); have R1 := hid R1; have d1 := hid (show W.heap.size ≤ d from d1))))
  all_goals
    go_wp2_with fail
    go_ret
    refine ⟨w1.heap.size, d, rfl, Nat.le_trans b0.size B1.out.size, Nat.le_trans b0.size d1.out, Ne.symm (Nat.ne_of_lt R1.out.lt), heap_alloc_new w1 _, R1.out.below ((Below.refl _ _).alloc (Nat.le_refl _) _), (bel2 b0 B1.out).alloc (Nat.le_trans b0.size B1.out.size) _⟩
theorem z118 : Tryd.zeroCells118 = (fL 259 (fun k => if k = 2 then .slice none 0 0 else .int .i64 0)).toArray := by kernel_rfl
theorem fL_setA (n : Nat) (F : Nat → Value) (j : Nat) (v : Value) : (fL n F).toArray.setIfInBounds j v = (fL n (fun i => if i = j then v else F i)).toArray := by rw [set_toArray, fL_set]
theorem range_get (i k : Nat) (f : Nat → Int) (h : k < i) : ((List.range i).map f).getD k 0 = f k := by
  rw [gD_in _ _ (by simpa using h)]
  simp
theorem range_out (i k : Nat) (f : Nat → Int) (h : i ≤ k) : ((List.range i).map f).getD k 0 = 0 := gD_out _ _ (by simpa using h)
theorem Tryd.info118' : (Tryd.prog.info? 118).map (·.size) = some 259 := by kernel_rfl
set_option maxRecDepth 10000 in
set_option maxHeartbeats 4000000 in
theorem newIcm_any (s : Nat) (w : World) (hs : s ≤ 16) : Calls Tryd.prog 33 #[.int .i64 (s : Nat)] w fun e w' => ∃ g d, e = .returned (pt g) ∧ w.heap.size ≤ g ∧ w.heap.size ≤ d ∧ g ≠ d ∧
    Ro w' g 118 259 (icF s d (2 ^ s) ((List.range 256).map (fun s => (chN s : Int)))) ∧ Ro w' d 5 (2 ^ s) (fun _ => .int .u8 0) ∧ Below w.heap.size w w' := by
  have HS := hid (fun w' => same_b 0 w')
  have HL : Hid (∀ g w', w'.cell? ⟨g, 0, none⟩ = some (.int .u8 0) → g < w'.heap.size → Calls Tryd.prog 40 #[.int .i64 s, .int .i64 1, .func (.func 45) #[] #[.pointer (some ⟨g, 0, none⟩)]] w' fun e w'' => ∃ d, e = .returned (.agg #[.int .i64 s, .int .i64 1, .slice (some ⟨d, 0, none⟩) (2 ^ s) (2 ^ s)]) ∧ w'.heap.size ≤ d ∧
      Ro w'' d 5 (2 ^ s) (fun _ => .int .u8 0) ∧ Below w'.heap.size w' w'') := hid fun g w' h hg => by
    have := lay_b s 1 45 (pt g) (fun _ => 0) hs (by omega) w' (enters_of Tryd.func45 (by kernel_rfl) rfl) (fun j _ w2 b2 => same_b1 g j 0 w2 (keeps b2 h))
    rw [show 1 * 2 ^ s = 2 ^ s from Nat.one_mul _] at this
    exact this
  generalize 2 ^ s = n at *
  unfold pt at *
  go_enter Tryd.func33, Tryd.ntmps33
  go_wp2_with fail
  refine (HS.out _).mono ?_
  rintro r w1 ⟨rfl, c1, l1, b1⟩
  go_wp2_with fail
  refine (HL.out _ _ c1 l1).mono ?_
  rintro r w2 ⟨d, rfl, d2, r2, b2⟩
  clear HS HL
  go_wp2_with fail
  obtain ⟨W, hW⟩ : ∃ W, W = w2.alloc (Obj.cells (((Tryd.zeroCells118.setIfInBounds 0 (Value.int IntKind.i64 s)).setIfInBounds 1 (Value.int IntKind.i64 1)).setIfInBounds 2 (Value.slice (some ⟨d, 0, none⟩) n n)) 118) := ⟨_, rfl⟩
  rw [← hW]
  have q1 : Ro W w2.heap.size 118 259 (icF s d n ((List.range 0).map (fun s => (chN s : Int)))) := by
    have : W.heap[w2.heap.size]? = some (.cells (((Tryd.zeroCells118.setIfInBounds 0 (Value.int IntKind.i64 s)).setIfInBounds 1 (Value.int IntKind.i64 1)).setIfInBounds 2 (Value.slice (some ⟨d, 0, none⟩) n n)) 118 (0, 0)) := by rw [hW]; exact heap_alloc_new w2 _
    rw [z118, fL_setA, fL_setA, fL_setA] at this
    refine Ro.same this (fun k hk => ?_)
    unfold icF sl
    by_cases e2 : k = 2
    · rw [if_pos e2, if_neg (by omega), if_neg (by omega), if_pos e2]
    · rw [if_neg e2]
      by_cases e1 : k = 1
      · rw [if_pos e1, if_neg (by omega), if_pos e1]
      · rw [if_neg e1]
        by_cases e0 : k = 0
        · rw [if_pos e0, if_pos e0]
        · rw [if_neg e0, if_neg e0, if_neg e1, if_neg e2, if_neg e2]; rfl
  have b3 : Below w2.heap.size w2 W := by rw [hW]; exact (Below.refl _ _).alloc (Nat.le_refl _) _
  have q2 : Ro W d 5 n (fun _ => .int .u8 0) := r2.below b3
  have nd : ¬ d = w2.heap.size := Nat.ne_of_lt r2.lt
  have d1 : w.heap.size ≤ d := Nat.le_trans b1.size d2
  have g1 : w.heap.size ≤ w2.heap.size := Nat.le_trans b1.size b2.size
  have q3 : Below w.heap.size w W := bel3 b1 b2 b3
  clear hW b3 r2 d2 b2 b1 l1 c1
  generalize w2.heap.size = g at *
  go_loopw [10] (fun vi wr => ∃ i : Nat, i ≤ 256 ∧ vi = .int .i64 i ∧ Below w.heap.size w wr ∧ Ro wr g 118 259 (icF s d n ((List.range i).map (fun s => (chN s : Int)))) ∧ Ro wr d 5 n (fun _ => .int .u8 0)) (fun vi _ => 256 - (intOf vi).toNat)
  case atStart => exact ⟨0, Nat.zero_le _, rfl, q3, q1, q2⟩
  case round =>
    obtain ⟨i, hi, rfl, hb, hr, hd⟩ := hrel
    clear q1 q2 q3
    by_cases hgo : i < 256
    · have hz : (i : Int) < 256 := by omega
      have hz2 : (i : Int) % 256 = (i : Int) := by omega
      have HC := hid (fun w' => chance_any i hgo w')
      have hz3 : IntKind.u8.wrap (i : Int) = (i : Int) := IntWalk.u8_in _ (by omega)
      obtain ⟨ch, hch⟩ : ∃ ch, chN i = ch := ⟨_, rfl⟩
      rw [hch] at HC
      have HH := hid hch
      clear hch
      have HB := hid hb
      have HR := hid hr
      have HD := hid hd
      clear hb hr hd
      go_wp2_with fail
      go_region_held3 (fun _ => True) (trivial)
        (first
        | (go_at_call 42; go_must ((refine (HC.out _).mono ?_); rintro r w3 ⟨rfl, b3⟩; have b3' := hid (show Below wr.heap.size wr w3 from undrew b3); have R1 := hid (HR.out.below b3'.out); have f1 := R1.out.free (3 + i); have l1 := R1.out.cell (3 + i) (by omega))))
      all_goals
        go_wp2_with fail
        have x2 := (But.of_below (S := (· = g)) (b3'.out)).set ⟨g, 3 + i, none⟩ (.int .i64 (ch : Nat)) (.inl rfl)
        refine ⟨⟨i + 1, by omega, by go_num, HB.out.trans (x2.below (fun k e => by rw [e]; exact g1) HB.out.size), (R1.out.set (3 + i) _).same (fun k hk => ?_), HD.out.on x2 nd⟩, by simp [intOf]; omega⟩
        have hm := HH.out
        unfold icF
        by_cases e : k = 3 + i
        · rw [if_pos e, if_neg (by omega), if_neg (by omega), if_neg (by omega), show k - 3 = i from by omega, range_get _ _ _ (by omega), hm]
        · rw [if_neg e]
          by_cases e0 : k = 0
          · rw [if_pos e0, if_pos e0]
          · rw [if_neg e0, if_neg e0]
            by_cases e1 : k = 1
            · rw [if_pos e1, if_pos e1]
            · rw [if_neg e1, if_neg e1]
              by_cases e2 : k = 2
              · rw [if_pos e2, if_pos e2]
              · rw [if_neg e2, if_neg e2]
                by_cases e3 : k - 3 < i
                · rw [range_get _ _ _ e3, range_get _ _ _ (by omega)]
                · rw [range_out _ _ _ (by omega), range_out _ _ _ (by omega)]
    · obtain rfl : i = 256 := by omega
      go_wp2_with fail
      go_ret
      exact ⟨g, d, rfl, g1, d1, Ne.symm nd, hr, hd, hb⟩
set_option maxRecDepth 10000 in
set_option maxHeartbeats 1000000 in
theorem build_icm (s : Nat) (a b c r m : Int) (w : World) (hs : s ≤ 16) : Calls Tryd.prog 26 #[vP 3 s a b c r m] w fun e w' => ∃ g d, e = .returned (.iface 86 (pt g)) ∧ w.heap.size ≤ g ∧ w.heap.size ≤ d ∧ g ≠ d ∧
    Ro w' g 118 259 (icF s d (2 ^ s) ((List.range 256).map (fun s => (chN s : Int)))) ∧ Ro w' d 5 (2 ^ s) (fun _ => .int .u8 0) ∧ Below w.heap.size w w' := by
  have HL := hid (fun w' => newIcm_any s w' hs)
  generalize 2 ^ s = n at *
  generalize (List.range 256).map (fun s => (chN s : Int)) = ch at *
  obtain ⟨W, hW⟩ : ∃ W, W = w.alloc (.cells #[.int .u8 3, .int .i64 s, .int .i64 a, .int .i64 b, .int .i64 c, .int .i64 r, .int .i64 m] 48) := ⟨_, rfl⟩
  have b0 : Below w.heap.size w W := by rw [hW]; exact (Below.refl _ _).alloc (Nat.le_refl _) _
  have m1 : W.cell? ⟨w.heap.size, 1, none⟩ = some (.int .i64 s) := by rw [hW]; go_simp
  have m0 : W.cell? ⟨w.heap.size, 0, none⟩ = some (.int .u8 3) := by rw [hW]; go_simp
  unfold vP
  unfold pt at *
  go_enter Tryd.func26, Tryd.ntmps26
  go_wp2_with (rw [← hW])
  clear hW
  refine (HL.out _).mono ?_
  rintro r w1 ⟨g, d, rfl, g1, d1, nd, r1, r2, b1⟩
  go_wp2_with fail
  go_ret
  exact ⟨g, d, rfl, Nat.le_trans b0.size g1, Nat.le_trans b0.size d1, nd, r1, r2, bel2 b0 b1⟩
end Go.Proofs.YtkfdbibgjoaefaaDoor
