/-
  Merged: Lay Bld Bk Ctx Bw Bl Sd.
-/
import Derived.Test.YtkfdbibgjoaefaaGreatDoorMg06
import Derived.Test.YtkfdbibgjoaefaaGreatDoorMg26
import Derived.Test.YtkfdbibgjoaefaaGreatDoorMg25
import Derived.Laws.MakeOwn
import Derived.Laws.Rows
import Derived.Deep.RegionHeld3
import Derived.Deep.DeepMust
import Derived.Shelf.Abstract
import Derived.Lib.SliceRun
import Derived.Laws.IdiomCopy
/-
  lay: tables as they begin.
-/
namespace Go.Proofs.YtkfdbibgjoaefaaGreatDoor
open Go.RowKit

theorem made_fL (z : Array Value) (n : Nat) (F : Nat → Value) (h : ∀ k, k < n → z[k % z.size]! = F k) : madeCells z n = (fL n F).toArray := by
  unfold madeCells fL
  apply Array.ext'
  simp only [Array.toList_map, Array.toList_range]
  exact List.map_congr_left fun k hk => h k (List.mem_range.1 hk)
theorem shl_nat (wide s : Nat) (_h : s ≤ 16) : (wide : Int) * 2 ^ s = ((wide * 2 ^ s : Nat) : Int) := by
  rw [Int.natCast_mul, Int.natCast_pow]
  rfl
theorem heap_of_cell (w : World) (o : Obj) : (w.alloc o).heap[w.heap.size]? = some o := heap_alloc_new w o
theorem Tryz.info3' : (Tryz.prog.info? 3).map (fun i => (i.zero, i.size, i.bytes)) = some (some (.int .i64 0), 1, 8) := by kernel_rfl
theorem Tryz.info5' : (Tryz.prog.info? 5).map (fun i => (i.zero, i.size, i.bytes)) = some (some (.int .u8 0), 1, 1) := by kernel_rfl
theorem Tryz.info95' : (Tryz.prog.info? 95).map (fun i => (i.zero, i.size, i.bytes)) = some (some (.agg #[.int .i32 0, .int .i32 0]), 2, 8) := by kernel_rfl
theorem Tryz.info56' : (Tryz.prog.info? 56).map (fun i => (i.zero, i.size, i.bytes)) = some (some (.int .u32 0), 1, 4) := by kernel_rfl
theorem make_row (t e : TypeId) (z : Value) (sz bytes : Nat) (ht : Tryz.prog.underlying t = some (.slice e)) (hinfo : (Tryz.prog.info? e).map (fun i => (i.zero, i.size, i.bytes)) = some (some z, sz, bytes)) (F : Nat → Value) (hz : ∀ k, z.cells[k % z.cells.size]! = F k)
    (n : Nat) (hbytes : bytes * n ≤ 281474976710656) (h63 : n ≤ 9223372036854775807) (w : World) :
    (Instr.makeSlice t (.int .i64 (n : Int)) (.int .i64 (n : Int))).run Tryz.prog w = .ok (.slice (some ⟨w.heap.size, 0, none⟩) n n) (w.alloc (.cells (fL (n * sz) F).toArray e)) := by
  obtain ⟨i, hi, hzz⟩ := Option.map_eq_some_iff.1 hinfo
  simp only [Prod.mk.injEq] at hzz
  obtain ⟨h1, h2, h3⟩ := hzz
  have hb' : (i.bytes : Int) * (n : Int) ≤ 281474976710656 := by
    have h : ((i.bytes * n : Nat) : Int) ≤ 281474976710656 := by rw [h3]; omega
    rwa [Int.natCast_mul] at h
  have hr := run_make (P := Tryz.prog) (w := w) t e i z ht hi h1 .i64 .i64 n n (by omega) (Int.le_refl _) hb' (by omega)
  simp only [Int.toNat_natCast, h2] at hr
  rw [made_fL z.cells _ F (fun k _ => hz k)] at hr
  exact hr
theorem alloc3 (w : World) (a b c : Obj) : (((w.alloc a).alloc b).alloc c).heap[w.heap.size]? = some a ∧ (((w.alloc a).alloc b).alloc c).heap[w.heap.size + 1]? = some b ∧ (((w.alloc a).alloc b).alloc c).heap[w.heap.size + 1 + 1]? = some c ∧ Below w.heap.size w (((w.alloc a).alloc b).alloc c) := by
  have e : (w.alloc a).heap.size = w.heap.size + 1 := by simp
  have e2 : ((w.alloc a).alloc b).heap.size = w.heap.size + 1 + 1 := by simp
  refine ⟨?_, ?_, ?_, (((Below.refl _ _).alloc (Nat.le_refl _) a).alloc (by omega) b).alloc (by omega) c⟩
  · rw [(heap_alloc_old _ c (by omega)).trans (heap_alloc_old _ b (by omega))]; exact heap_alloc_new w a
  · rw [heap_alloc_old _ c (by omega), ← e]; exact heap_alloc_new _ b
  · rw [← e2]; exact heap_alloc_new _ c
set_option maxRecDepth 10000 in
set_option maxHeartbeats 2000000 in
theorem lay_i (s wide : Nat) (K : FuncId) (cv : Value) (f : Nat → Int) (hs : s ≤ 16) (hw : 1 ≤ wide ∧ wide ≤ 32) (w : World) (he : ∀ a w, (callFunc K a).run Tryz.prog w = .ok (.enter K a) w)
    (hf : ∀ j, j < wide → ∀ w', Below w.heap.size w w' → Calls Tryz.prog K #[.int .i64 (j : Nat), cv] w' fun e w'' => e = .returned (.int .i64 (f j)) ∧ Below w'.heap.size w' w'') :
    Calls Tryz.prog 48 #[.int .i64 (s : Nat), .int .i64 (wide : Nat), .func (.func K) #[] #[cv]] w fun e w' => ∃ d, e = .returned (.agg #[.int .i64 (s : Nat), .int .i64 (wide : Nat), sl d (wide * 2 ^ s)]) ∧ w.heap.size ≤ d ∧
      Ro w' d 3 (wide * 2 ^ s) (fun k => .int .i64 (f (k % wide))) ∧ Below w.heap.size w w' := by
  have hp := Nat.pow_le_pow_right (n := 2) (by decide) hs
  have hn1 : wide * 2 ^ s ≤ 32 * 65536 := Nat.mul_le_mul hw.2 (by simpa using hp)
  have e1 := shl_nat wide s hs
  obtain ⟨n, hn⟩ : ∃ n, wide * 2 ^ s = n := ⟨_, rfl⟩
  rw [hn] at hn1 e1 ⊢
  have n0 : (n : Int) ≤ 2097152 := by omega
  have s0 : (s : Int) ≤ 16 := by omega
  have hmk := fun w => make_row 46 3 _ 1 _ Tryz.underlying46 Tryz.info3' (fun _ => .int .i64 0) (by intro k; simp [Value.cells, Nat.mod_one]) n (by omega) (by omega) w
  clear hn hp
  unfold sl
  go_enter Tryz.func48, Tryz.ntmps48
  go_wp2_with fail
  obtain ⟨W, hW⟩ : ∃ W, W = (((w.alloc (Obj.cells #[Value.int IntKind.i64 0, Value.int IntKind.i64 0, Value.slice none 0 0] 103)).alloc (Obj.cells (fL n fun _ => .int .i64 0).toArray 3)).alloc (Obj.cells #[Value.int IntKind.i64 s, Value.int IntKind.i64 wide, Value.slice (some ⟨w.heap.size + 1, 0, none⟩) n n] 103)) := ⟨_, rfl⟩
  rw [← hW]
  obtain ⟨q1, q2, q3, q4⟩ := alloc3 w (Obj.cells #[Value.int IntKind.i64 0, Value.int IntKind.i64 0, Value.slice none 0 0] 103) (Obj.cells (fL n fun _ => .int .i64 0).toArray 3) (Obj.cells #[Value.int IntKind.i64 s, Value.int IntKind.i64 wide, Value.slice (some ⟨w.heap.size + 1, 0, none⟩) n n] 103)
  rw [← hW] at q1 q2 q3 q4
  clear hW hmk
  skip
  obtain ⟨D, hD⟩ : ∃ D, w.heap.size + 1 = D := ⟨_, rfl⟩
  obtain ⟨X, hX⟩ : ∃ X, w.heap.size + 1 + 1 = X := ⟨_, rfl⟩
  rw [hX] at q3
  rw [hD] at q2 q3
  rw [hX, hD]
  have d1 : w.heap.size ≤ D := by omega
  have d2 : ¬ X = D := by omega
  have d3 : ¬ w.heap.size = D := by omega
  have d4 : ¬ D = w.heap.size := by omega
  have d5 : ¬ D = X := by omega
  have d6 : ¬ X = w.heap.size := by omega
  have d7 : ¬ w.heap.size = X := by omega
  clear hX hD
  have w0 : 0 < wide := hw.1
  go_loopw [19] (fun vi wr => ∃ i : Nat, i ≤ n ∧ vi = .int .i64 i ∧ Below w.heap.size w wr ∧ Ro wr D 3 n (fun k => if k < i then .int .i64 (f (k % wide)) else .int .i64 0) ∧ wr.heap[w.heap.size]? = some (.cells #[.int .i64 0, .int .i64 0, .slice none 0 0] 103 (0, 0)) ∧ wr.heap[X]? = some (.cells #[.int .i64 s, .int .i64 wide, .slice (some ⟨D, 0, none⟩) n n] 103 (0, 0))) (fun vi _ => n - (intOf vi).toNat)
  case atStart => exact ⟨0, Nat.zero_le _, rfl, q4, Ro.same q2 (fun k _ => by rw [if_neg (by omega)]), q1, q3⟩
  case round =>
    obtain ⟨i, hi, rfl, hb, hr, h1, h3⟩ := hrel
    clear q1 q2 q3 q4
    by_cases hgo : i < n
    · have hz : (i : Int) < (n : Int) := by omega
      have x0 : wr.cell? ⟨X, 2, none⟩ = some (.slice (some ⟨D, 0, none⟩) n n) := row_cell h3 2
      obtain ⟨m, hm⟩ : ∃ m, i % wide = m := ⟨_, rfl⟩
      have zz : (i : Int) % (wide : Int) = (m : Int) := by rw [← hm]; omega
      have zt : Int.tmod (i : Int) (wide : Int) = (m : Int) := by rw [Int.tmod_eq_emod_of_nonneg (by omega)]; exact zz
      have wn : ¬ (wide : Int) = 0 := by omega
      have wn' : ¬ wide = 0 := by omega
      have HF := hid (fun w' (k : Below wr.heap.size wr w') => hf m (by rw [← hm]; exact Nat.mod_lt _ w0) w' (hb.trans (k.mono hb.size)))
      have HB := hid hb
      have HR := hid hr
      have H1 := hid h1
      have H3 := hid h3
      have HM := hid hm
      clear hf hb hr h1 h3 e1 hm
      go_wp2_with fail
      go_region_held3 (fun w' => w'.cell? ⟨X, 2, none⟩ = some (.slice (some ⟨D, 0, none⟩) n n))
        (first | exact x0 | exact k0 | go_keep)
        (first
        | ((refine (HF.out _ (Below.drewN _ _ 1)).mono ?_); rintro r w1 ⟨rfl, b1⟩; have k0 := keeps b1 x0; have b1' := hid (show Below wr.heap.size wr w1 from undrew b1); have R1 := hid (HR.out.below b1'.out); have f1 := R1.out.free i; have l1 := R1.out.cell i hgo))
      all_goals
        go_wp2_with fail
        have x2 := (But.of_below (S := (· = D)) (b1'.out)).set ⟨D, i, none⟩ (.int .i64 (f m)) (.inl rfl)
        skip
        go_roundw
        case rel => exact ⟨i + 1, by omega, by go_num, HB.out.trans (x2.below (fun k e => by rw [e]; exact d1) HB.out.size), (R1.out.set i _).same (fun k _ => by
          have hm := HM.out
          by_cases e : k = i
          · subst e; rw [if_pos rfl, if_pos (by omega), hm]
          · rw [if_neg e]
            by_cases e2 : k < i
            · rw [if_pos e2, if_pos (by omega)]
            · rw [if_neg e2, if_neg (by omega)]), x2.heap H1.out d3, x2.heap H3.out d2⟩
        case measure => simp [intOf]; omega
    · obtain rfl : i = n := by omega
      have HB := hid hb
      have HR := hid hr
      have x0 : wr.cell? ⟨X, 0, none⟩ = some (.int .i64 s) := row_cell h3 0
      have x1 : wr.cell? ⟨X, 1, none⟩ = some (.int .i64 wide) := row_cell h3 1
      have x2 : wr.cell? ⟨X, 2, none⟩ = some (.slice (some ⟨D, 0, none⟩) i i) := row_cell h3 2
      have y0 : wr.cell? ⟨w.heap.size, 0, none⟩ = some (.int .i64 0) := row_cell h1 0
      have y1 : wr.cell? ⟨w.heap.size, 1, none⟩ = some (.int .i64 0) := row_cell h1 1
      have y2 : wr.cell? ⟨w.heap.size, 2, none⟩ = some (.slice none 0 0) := row_cell h1 2
      have g0 : wr.frozen? ⟨w.heap.size, 0, none⟩ = false := row_free h1 0
      have g1 : wr.frozen? ⟨w.heap.size, 1, none⟩ = false := row_free h1 1
      have g2 : wr.frozen? ⟨w.heap.size, 2, none⟩ = false := row_free h1 2
      have H1 := hid h1
      have x3 := (((But.refl (· = w.heap.size) wr).set ⟨w.heap.size, 0, none⟩ (.int .i64 s) (.inl rfl)).set ⟨w.heap.size, 1, none⟩ (.int .i64 wide) (.inl rfl)).set ⟨w.heap.size, 2, none⟩ (.slice (some ⟨D, 0, none⟩) i i) (.inl rfl)
      have X3 := hid x3
      clear hf hb hr h1 h3 e1 x3
      go_wp2_with fail
      refine bodyPost_ret (results_cell_row (by kernel_rfl : Tryz.f48.results = #[.cell 6 103]) _ _ w.heap.size 103 #[.int .i64 s, .int .i64 wide, .slice (some ⟨D, 0, none⟩) i i] (0, 0) _ rfl (row_set (row_set (row_set H1.out 0 _) 1 _) 2 _) Tryz.underlying103 rfl rfl) rfl ⟨D, rfl, d1, ?_, ?_⟩
      · exact (HR.out.on X3.out d4).same (fun k hk => by
          rw [if_pos hk])
      · exact HB.out.trans (X3.out.below (fun k e => by rw [e]; exact Nat.le_refl _) HB.out.size)
set_option maxRecDepth 10000 in
set_option maxHeartbeats 2000000 in
theorem lay_b (s wide : Nat) (K : FuncId) (cv : Value) (f : Nat → Nat) (hs : s ≤ 16) (hw : 1 ≤ wide ∧ wide ≤ 32) (w : World) (he : ∀ a w, (callFunc K a).run Tryz.prog w = .ok (.enter K a) w)
    (hf : ∀ j, j < wide → ∀ w', Below w.heap.size w w' → Calls Tryz.prog K #[.int .i64 (j : Nat), cv] w' fun e w'' => e = .returned (.int .u8 (f j : Nat)) ∧ Below w'.heap.size w' w'') :
    Calls Tryz.prog 66 #[.int .i64 (s : Nat), .int .i64 (wide : Nat), .func (.func K) #[] #[cv]] w fun e w' => ∃ d, e = .returned (.agg #[.int .i64 (s : Nat), .int .i64 (wide : Nat), sl d (wide * 2 ^ s)]) ∧ w.heap.size ≤ d ∧
      Ro w' d 5 (wide * 2 ^ s) (fun k => .int .u8 (f (k % wide) : Nat)) ∧ Below w.heap.size w w' := by
  have hp := Nat.pow_le_pow_right (n := 2) (by decide) hs
  have hn1 : wide * 2 ^ s ≤ 32 * 65536 := Nat.mul_le_mul hw.2 (by simpa using hp)
  have e1 := shl_nat wide s hs
  obtain ⟨n, hn⟩ : ∃ n, wide * 2 ^ s = n := ⟨_, rfl⟩
  rw [hn] at hn1 e1 ⊢
  have n0 : (n : Int) ≤ 2097152 := by omega
  have s0 : (s : Int) ≤ 16 := by omega
  have hmk := fun w => make_row 63 5 _ 1 _ Tryz.underlying63 Tryz.info5' (fun _ => .int .u8 0) (by intro k; simp [Value.cells, Nat.mod_one]) n (by omega) (by omega) w
  clear hn hp
  unfold sl
  go_enter Tryz.func66, Tryz.ntmps66
  go_wp2_with fail
  obtain ⟨W, hW⟩ : ∃ W, W = (((w.alloc (Obj.cells #[Value.int IntKind.i64 0, Value.int IntKind.i64 0, Value.slice none 0 0] 134)).alloc (Obj.cells (fL n fun _ => .int .u8 0).toArray 5)).alloc (Obj.cells #[Value.int IntKind.i64 s, Value.int IntKind.i64 wide, Value.slice (some ⟨w.heap.size + 1, 0, none⟩) n n] 134)) := ⟨_, rfl⟩
  rw [← hW]
  obtain ⟨q1, q2, q3, q4⟩ := alloc3 w (Obj.cells #[Value.int IntKind.i64 0, Value.int IntKind.i64 0, Value.slice none 0 0] 134) (Obj.cells (fL n fun _ => .int .u8 0).toArray 5) (Obj.cells #[Value.int IntKind.i64 s, Value.int IntKind.i64 wide, Value.slice (some ⟨w.heap.size + 1, 0, none⟩) n n] 134)
  rw [← hW] at q1 q2 q3 q4
  clear hW hmk
  skip
  obtain ⟨D, hD⟩ : ∃ D, w.heap.size + 1 = D := ⟨_, rfl⟩
  obtain ⟨X, hX⟩ : ∃ X, w.heap.size + 1 + 1 = X := ⟨_, rfl⟩
  rw [hX] at q3
  rw [hD] at q2 q3
  rw [hX, hD]
  have d1 : w.heap.size ≤ D := by omega
  have d2 : ¬ X = D := by omega
  have d3 : ¬ w.heap.size = D := by omega
  have d4 : ¬ D = w.heap.size := by omega
  have d5 : ¬ D = X := by omega
  have d6 : ¬ X = w.heap.size := by omega
  have d7 : ¬ w.heap.size = X := by omega
  clear hX hD
  have w0 : 0 < wide := hw.1
  go_loopw [19] (fun vi wr => ∃ i : Nat, i ≤ n ∧ vi = .int .i64 i ∧ Below w.heap.size w wr ∧ Ro wr D 5 n (fun k => if k < i then .int .u8 (f (k % wide) : Nat) else .int .u8 0) ∧ wr.heap[w.heap.size]? = some (.cells #[.int .i64 0, .int .i64 0, .slice none 0 0] 134 (0, 0)) ∧ wr.heap[X]? = some (.cells #[.int .i64 s, .int .i64 wide, .slice (some ⟨D, 0, none⟩) n n] 134 (0, 0))) (fun vi _ => n - (intOf vi).toNat)
  case atStart => exact ⟨0, Nat.zero_le _, rfl, q4, Ro.same q2 (fun k _ => by rw [if_neg (by omega)]), q1, q3⟩
  case round =>
    obtain ⟨i, hi, rfl, hb, hr, h1, h3⟩ := hrel
    clear q1 q2 q3 q4
    by_cases hgo : i < n
    · have hz : (i : Int) < (n : Int) := by omega
      have x0 : wr.cell? ⟨X, 2, none⟩ = some (.slice (some ⟨D, 0, none⟩) n n) := row_cell h3 2
      obtain ⟨m, hm⟩ : ∃ m, i % wide = m := ⟨_, rfl⟩
      have zz : (i : Int) % (wide : Int) = (m : Int) := by rw [← hm]; omega
      have zt : Int.tmod (i : Int) (wide : Int) = (m : Int) := by rw [Int.tmod_eq_emod_of_nonneg (by omega)]; exact zz
      have wn : ¬ (wide : Int) = 0 := by omega
      have wn' : ¬ wide = 0 := by omega
      have HF := hid (fun w' (k : Below wr.heap.size wr w') => hf m (by rw [← hm]; exact Nat.mod_lt _ w0) w' (hb.trans (k.mono hb.size)))
      have HB := hid hb
      have HR := hid hr
      have H1 := hid h1
      have H3 := hid h3
      have HM := hid hm
      clear hf hb hr h1 h3 e1 hm
      go_wp2_with fail
      go_region_held3 (fun w' => w'.cell? ⟨X, 2, none⟩ = some (.slice (some ⟨D, 0, none⟩) n n))
        (first | exact x0 | exact k0 | go_keep)
        (first
        | ((refine (HF.out _ (Below.drewN _ _ 1)).mono ?_); rintro r w1 ⟨rfl, b1⟩; have k0 := keeps b1 x0; have b1' := hid (show Below wr.heap.size wr w1 from undrew b1); have R1 := hid (HR.out.below b1'.out); have f1 := R1.out.free i; have l1 := R1.out.cell i hgo))
      all_goals
        go_wp2_with fail
        have x2 := (But.of_below (S := (· = D)) (b1'.out)).set ⟨D, i, none⟩ (.int .u8 (f m : Nat)) (.inl rfl)
        skip
        go_roundw
        case rel => exact ⟨i + 1, by omega, by go_num, HB.out.trans (x2.below (fun k e => by rw [e]; exact d1) HB.out.size), (R1.out.set i _).same (fun k _ => by
          have hm := HM.out
          by_cases e : k = i
          · subst e; rw [if_pos rfl, if_pos (by omega), hm]
          · rw [if_neg e]
            by_cases e2 : k < i
            · rw [if_pos e2, if_pos (by omega)]
            · rw [if_neg e2, if_neg (by omega)]), x2.heap H1.out d3, x2.heap H3.out d2⟩
        case measure => simp [intOf]; omega
    · obtain rfl : i = n := by omega
      have HB := hid hb
      have HR := hid hr
      have x0 : wr.cell? ⟨X, 0, none⟩ = some (.int .i64 s) := row_cell h3 0
      have x1 : wr.cell? ⟨X, 1, none⟩ = some (.int .i64 wide) := row_cell h3 1
      have x2 : wr.cell? ⟨X, 2, none⟩ = some (.slice (some ⟨D, 0, none⟩) i i) := row_cell h3 2
      have y0 : wr.cell? ⟨w.heap.size, 0, none⟩ = some (.int .i64 0) := row_cell h1 0
      have y1 : wr.cell? ⟨w.heap.size, 1, none⟩ = some (.int .i64 0) := row_cell h1 1
      have y2 : wr.cell? ⟨w.heap.size, 2, none⟩ = some (.slice none 0 0) := row_cell h1 2
      have g0 : wr.frozen? ⟨w.heap.size, 0, none⟩ = false := row_free h1 0
      have g1 : wr.frozen? ⟨w.heap.size, 1, none⟩ = false := row_free h1 1
      have g2 : wr.frozen? ⟨w.heap.size, 2, none⟩ = false := row_free h1 2
      have H1 := hid h1
      have x3 := (((But.refl (· = w.heap.size) wr).set ⟨w.heap.size, 0, none⟩ (.int .i64 s) (.inl rfl)).set ⟨w.heap.size, 1, none⟩ (.int .i64 wide) (.inl rfl)).set ⟨w.heap.size, 2, none⟩ (.slice (some ⟨D, 0, none⟩) i i) (.inl rfl)
      have X3 := hid x3
      clear hf hb hr h1 h3 e1 x3
      go_wp2_with fail
      refine bodyPost_ret (results_cell_row (by kernel_rfl : Tryz.f66.results = #[.cell 6 134]) _ _ w.heap.size 134 #[.int .i64 s, .int .i64 wide, .slice (some ⟨D, 0, none⟩) i i] (0, 0) _ rfl (row_set (row_set (row_set H1.out 0 _) 1 _) 2 _) Tryz.underlying134 rfl rfl) rfl ⟨D, rfl, d1, ?_, ?_⟩
      · exact (HR.out.on X3.out d4).same (fun k hk => by
          rw [if_pos hk])
      · exact HB.out.trans (X3.out.below (fun k e => by rw [e]; exact Nat.le_refl _) HB.out.size)
set_option maxRecDepth 10000 in
set_option maxHeartbeats 2000000 in
theorem lay_o (s wide : Nat) (K : FuncId) (f : Nat → Int) (hs : s ≤ 16) (hw : 1 ≤ wide ∧ wide ≤ 32) (w : World) (he : ∀ a w, (callFunc K a).run Tryz.prog w = .ok (.enter K a) w)
    (hf : ∀ j, j < wide → ∀ w', Below w.heap.size w w' → Calls Tryz.prog K #[.int .i64 (j : Nat)] w' fun e w'' => e = .returned (.agg #[.int .i32 (f j), .int .i32 0]) ∧ Below w'.heap.size w' w'') :
    Calls Tryz.prog 45 #[.int .i64 (s : Nat), .int .i64 (wide : Nat), .func (.func K) #[] #[]] w fun e w' => ∃ d, e = .returned (.agg #[.int .i64 (s : Nat), .int .i64 (wide : Nat), sl d (wide * 2 ^ s)]) ∧ w.heap.size ≤ d ∧
      Ro w' d 95 (2 * (wide * 2 ^ s)) (fun k => if k % 2 = 0 then .int .i32 (f (k / 2 % wide)) else .int .i32 0) ∧ Below w.heap.size w w' := by
  have hp := Nat.pow_le_pow_right (n := 2) (by decide) hs
  have hn1 : wide * 2 ^ s ≤ 32 * 65536 := Nat.mul_le_mul hw.2 (by simpa using hp)
  have e1 := shl_nat wide s hs
  obtain ⟨n, hn⟩ : ∃ n, wide * 2 ^ s = n := ⟨_, rfl⟩
  rw [hn] at hn1 e1 ⊢
  have n0 : (n : Int) ≤ 2097152 := by omega
  have s0 : (s : Int) ≤ 16 := by omega
  have hmk := fun w => make_row 90 95 _ 2 _ Tryz.underlying90 Tryz.info95' (fun _ => .int .i32 0) (by intro k; rcases Nat.mod_two_eq_zero_or_one k with h | h <;> simp [Value.cells, h]) n (by omega) (by omega) w
  clear hn hp
  unfold sl
  go_enter Tryz.func45, Tryz.ntmps45
  go_wp2_with fail
  obtain ⟨W, hW⟩ : ∃ W, W = (((w.alloc (Obj.cells #[Value.int IntKind.i64 0, Value.int IntKind.i64 0, Value.slice none 0 0] 92)).alloc (Obj.cells (fL (n * 2) fun _ => .int .i32 0).toArray 95)).alloc (Obj.cells #[Value.int IntKind.i64 s, Value.int IntKind.i64 wide, Value.slice (some ⟨w.heap.size + 1, 0, none⟩) n n] 92)) := ⟨_, rfl⟩
  rw [← hW]
  obtain ⟨q1, q2, q3, q4⟩ := alloc3 w (Obj.cells #[Value.int IntKind.i64 0, Value.int IntKind.i64 0, Value.slice none 0 0] 92) (Obj.cells (fL (n * 2) fun _ => .int .i32 0).toArray 95) (Obj.cells #[Value.int IntKind.i64 s, Value.int IntKind.i64 wide, Value.slice (some ⟨w.heap.size + 1, 0, none⟩) n n] 92)
  rw [← hW] at q1 q2 q3 q4
  clear hW hmk
  rw [Nat.mul_comm n 2] at q2
  obtain ⟨D, hD⟩ : ∃ D, w.heap.size + 1 = D := ⟨_, rfl⟩
  obtain ⟨X, hX⟩ : ∃ X, w.heap.size + 1 + 1 = X := ⟨_, rfl⟩
  rw [hX] at q3
  rw [hD] at q2 q3
  rw [hX, hD]
  have d1 : w.heap.size ≤ D := by omega
  have d2 : ¬ X = D := by omega
  have d3 : ¬ w.heap.size = D := by omega
  have d4 : ¬ D = w.heap.size := by omega
  have d5 : ¬ D = X := by omega
  have d6 : ¬ X = w.heap.size := by omega
  have d7 : ¬ w.heap.size = X := by omega
  clear hX hD
  have w0 : 0 < wide := hw.1
  go_loopw [19] (fun vi wr => ∃ i : Nat, i ≤ n ∧ vi = .int .i64 i ∧ Below w.heap.size w wr ∧ Ro wr D 95 (2 * n) (fun k => if k % 2 = 0 ∧ k < 2 * i then .int .i32 (f (k / 2 % wide)) else .int .i32 0) ∧ wr.heap[w.heap.size]? = some (.cells #[.int .i64 0, .int .i64 0, .slice none 0 0] 92 (0, 0)) ∧ wr.heap[X]? = some (.cells #[.int .i64 s, .int .i64 wide, .slice (some ⟨D, 0, none⟩) n n] 92 (0, 0))) (fun vi _ => n - (intOf vi).toNat)
  case atStart => exact ⟨0, Nat.zero_le _, rfl, q4, Ro.same q2 (fun k _ => by rw [if_neg (by omega)]), q1, q3⟩
  case round =>
    obtain ⟨i, hi, rfl, hb, hr, h1, h3⟩ := hrel
    clear q1 q2 q3 q4
    by_cases hgo : i < n
    · have hz : (i : Int) < (n : Int) := by omega
      have x0 : wr.cell? ⟨X, 2, none⟩ = some (.slice (some ⟨D, 0, none⟩) n n) := row_cell h3 2
      obtain ⟨m, hm⟩ : ∃ m, i % wide = m := ⟨_, rfl⟩
      have zz : (i : Int) % (wide : Int) = (m : Int) := by rw [← hm]; omega
      have zt : Int.tmod (i : Int) (wide : Int) = (m : Int) := by rw [Int.tmod_eq_emod_of_nonneg (by omega)]; exact zz
      have wn : ¬ (wide : Int) = 0 := by omega
      have wn' : ¬ wide = 0 := by omega
      have HF := hid (fun w' (k : Below wr.heap.size wr w') => hf m (by rw [← hm]; exact Nat.mod_lt _ w0) w' (hb.trans (k.mono hb.size)))
      have HB := hid hb
      have HR := hid hr
      have H1 := hid h1
      have H3 := hid h3
      have HM := hid hm
      clear hf hb hr h1 h3 e1 hm
      go_wp2_with fail
      go_region_held3 (fun w' => w'.cell? ⟨X, 2, none⟩ = some (.slice (some ⟨D, 0, none⟩) n n))
        (first | exact x0 | exact k0 | go_keep)
        (first
        | ((refine (HF.out _ (Below.drewN _ _ 1)).mono ?_); rintro r w1 ⟨rfl, b1⟩; have k0 := keeps b1 x0; have b1' := hid (show Below wr.heap.size wr w1 from undrew b1); have R1 := hid (HR.out.below b1'.out); have f1 := R1.out.free (i * 2); have f2 := R1.out.free (i * 2 + 1); have l1 := R1.out.cell (i * 2) (by omega); have l2 := R1.out.cell (i * 2 + 1) (by omega)))
      all_goals
        go_wp2_with fail
        have x2 := (But.of_below (S := (· = D)) (b1'.out)).set ⟨D, (i * 2), none⟩ (.int .i32 (f m)) (.inl rfl)
        have x2 := x2.set ⟨D, i * 2 + 1, none⟩ (.int .i32 0) (.inl rfl)
        go_roundw
        case rel => exact ⟨i + 1, by omega, by go_num, HB.out.trans (x2.below (fun k e => by rw [e]; exact d1) HB.out.size), ((R1.out.set (i * 2) _).set (i * 2 + 1) _).same (fun k _ => by
          have hm := HM.out
          by_cases e : k = i * 2 + 1
          · rw [if_pos e, if_neg (by omega)]
          · rw [if_neg e]
            by_cases e1 : k = i * 2
            · rw [if_pos e1, if_pos (by omega), show k / 2 = i from by omega, hm]
            · rw [if_neg e1]
              by_cases e2 : k % 2 = 0 ∧ k < 2 * i
              · rw [if_pos e2, if_pos (by omega)]
              · rw [if_neg e2, if_neg (by omega)]), x2.heap H1.out d3, x2.heap H3.out d2⟩
        case measure => simp [intOf]; omega
    · obtain rfl : i = n := by omega
      have HB := hid hb
      have HR := hid hr
      have x0 : wr.cell? ⟨X, 0, none⟩ = some (.int .i64 s) := row_cell h3 0
      have x1 : wr.cell? ⟨X, 1, none⟩ = some (.int .i64 wide) := row_cell h3 1
      have x2 : wr.cell? ⟨X, 2, none⟩ = some (.slice (some ⟨D, 0, none⟩) i i) := row_cell h3 2
      have y0 : wr.cell? ⟨w.heap.size, 0, none⟩ = some (.int .i64 0) := row_cell h1 0
      have y1 : wr.cell? ⟨w.heap.size, 1, none⟩ = some (.int .i64 0) := row_cell h1 1
      have y2 : wr.cell? ⟨w.heap.size, 2, none⟩ = some (.slice none 0 0) := row_cell h1 2
      have g0 : wr.frozen? ⟨w.heap.size, 0, none⟩ = false := row_free h1 0
      have g1 : wr.frozen? ⟨w.heap.size, 1, none⟩ = false := row_free h1 1
      have g2 : wr.frozen? ⟨w.heap.size, 2, none⟩ = false := row_free h1 2
      have H1 := hid h1
      have x3 := (((But.refl (· = w.heap.size) wr).set ⟨w.heap.size, 0, none⟩ (.int .i64 s) (.inl rfl)).set ⟨w.heap.size, 1, none⟩ (.int .i64 wide) (.inl rfl)).set ⟨w.heap.size, 2, none⟩ (.slice (some ⟨D, 0, none⟩) i i) (.inl rfl)
      have X3 := hid x3
      clear hf hb hr h1 h3 e1 x3
      go_wp2_with fail
      refine bodyPost_ret (results_cell_row (by kernel_rfl : Tryz.f45.results = #[.cell 6 92]) _ _ w.heap.size 92 #[.int .i64 s, .int .i64 wide, .slice (some ⟨D, 0, none⟩) i i] (0, 0) _ rfl (row_set (row_set (row_set H1.out 0 _) 1 _) 2 _) Tryz.underlying92 rfl rfl) rfl ⟨D, rfl, d1, ?_, ?_⟩
      · exact (HR.out.on X3.out d4).same (fun k hk => by
          by_cases e : k % 2 = 0
          · rw [if_pos ⟨e, hk⟩, if_pos e]
          · rw [if_neg (by omega), if_neg e])
      · exact HB.out.trans (X3.out.below (fun k e => by rw [e]; exact Nat.le_refl _) HB.out.size)
end Go.Proofs.YtkfdbibgjoaefaaGreatDoor
/-
  build: parts as they begin.
-/
namespace Go.Proofs.YtkfdbibgjoaefaaGreatDoor
open Go.RowKit

set_option maxRecDepth 10000 in
set_option maxHeartbeats 1000000 in
theorem even_any (j : Nat) (w : World) : Calls Tryz.prog 46 #[.int .i64 (j : Nat)] w fun e w' => e = .returned (.agg #[.int .i32 2097152, .int .i32 0]) ∧ Below w.heap.size w w' := by
  go_enter Tryz.func46, Tryz.ntmps46
  go_wp2_with fail
  refine bodyPost_ret (results_cell_row (by kernel_rfl : Tryz.f46.results = #[.cell 2 95]) _ _ w.heap.size 95 #[.int .i32 2097152, .int .i32 0] (0, 0) _ rfl (heap_alloc_new w _) Tryz.underlying95 rfl rfl) rfl ⟨rfl, (Below.refl _ _).alloc (Nat.le_refl _) _⟩
set_option maxRecDepth 10000 in
set_option maxHeartbeats 1000000 in
theorem same_b1 (g : Nat) (j : Nat) (x : Nat) (w : World) (hc : w.cell? ⟨g, 0, none⟩ = some (.int .u8 (x : Nat))) : Calls Tryz.prog 75 #[.int .i64 (j : Nat), pt g] w fun e w' => e = .returned (.int .u8 (x : Nat)) ∧ Below w.heap.size w w' := by
  unfold pt
  go_enter Tryz.func75, Tryz.ntmps75
  go_wp2_with fail
  go_ret
  exact ⟨rfl, Below.refl _ _⟩
set_option maxRecDepth 10000 in
set_option maxHeartbeats 1000000 in
theorem same_i1 (g : Nat) (j : Nat) (x : Int) (w : World) (hc : w.cell? ⟨g, 0, none⟩ = some (.int .i64 x)) : Calls Tryz.prog 69 #[.int .i64 (j : Nat), pt g] w fun e w' => e = .returned (.int .i64 x) ∧ Below w.heap.size w w' := by
  unfold pt
  go_enter Tryz.func69, Tryz.ntmps69
  go_wp2_with fail
  go_ret
  exact ⟨rfl, Below.refl _ _⟩
set_option maxRecDepth 10000 in
set_option maxHeartbeats 1000000 in
theorem same_b (x : Nat) (w : World) : Calls Tryz.prog 67 #[.int .u8 (x : Nat)] w fun e w' => e = .returned (.func (.func 75) #[] #[pt w.heap.size]) ∧ w'.cell? ⟨w.heap.size, 0, none⟩ = some (.int .u8 (x : Nat)) ∧ w.heap.size < w'.heap.size ∧ Below w.heap.size w w' := by
  go_enter Tryz.func67, Tryz.ntmps67
  go_wp2_with fail
  go_ret
  exact ⟨rfl, by go_simp, by simp, (Below.refl _ _).alloc (Nat.le_refl _) _⟩
set_option maxRecDepth 10000 in
set_option maxHeartbeats 1000000 in
theorem same_i (x : Int) (w : World) : Calls Tryz.prog 49 #[.int .i64 x] w fun e w' => e = .returned (.func (.func 69) #[] #[pt w.heap.size]) ∧ w'.cell? ⟨w.heap.size, 0, none⟩ = some (.int .i64 x) ∧ w.heap.size < w'.heap.size ∧ Below w.heap.size w w' := by
  go_enter Tryz.func49, Tryz.ntmps49
  go_wp2_with fail
  go_ret
  exact ⟨rfl, by go_simp, by simp, (Below.refl _ _).alloc (Nat.le_refl _) _⟩
set_option maxRecDepth 10000 in
set_option maxHeartbeats 1000000 in
theorem build_cst (s a b c r m : Int) (w : World) : Calls Tryz.prog 26 #[vP 1 s a b c r m] w fun e w' => e = .returned (.iface 88 (.agg #[.int .i64 c])) ∧ Below w.heap.size w w' := by
  unfold vP
  go_enter Tryz.func26, Tryz.ntmps26
  go_wp2_with fail
  go_ret
  exact ⟨rfl, (Below.refl _ _).alloc (Nat.le_refl _) _⟩
set_option maxRecDepth 10000 in
set_option maxHeartbeats 1000000 in
theorem build_cm (s : Nat) (a b c r m : Int) (w : World) (hs : s ≤ 16) : Calls Tryz.prog 26 #[vP 2 s a b c r m] w fun e w' => ∃ g d, e = .returned (.iface 89 (pt g)) ∧ w.heap.size ≤ g ∧ w.heap.size ≤ d ∧ g ≠ d ∧
    w'.heap[g]? = some (.cells #[.int .i64 (s : Nat), .int .i64 1, sl d (2 ^ s), .int .i64 m] 98 (0, 0)) ∧ Ro w' d 95 (2 * 2 ^ s) (fun k => if k % 2 = 0 then .int .i32 2097152 else .int .i32 0) ∧ Below w.heap.size w w' := by
  have HL : Hid (∀ w', Calls Tryz.prog 45 #[.int .i64 s, .int .i64 1, .func (.func 46) #[] #[]] w' fun e w'' => ∃ d, e = .returned (.agg #[.int .i64 s, .int .i64 1, .slice (some ⟨d, 0, none⟩) (2 ^ s) (2 ^ s)]) ∧ w'.heap.size ≤ d ∧
      Ro w'' d 95 (2 * 2 ^ s) (fun k => if k % 2 = 0 then .int .i32 2097152 else .int .i32 0) ∧ Below w'.heap.size w' w'') := hid fun w' => by
    have := lay_o s 1 46 (fun _ => 2097152) hs (by omega) w' (enters_of Tryz.func46 (by kernel_rfl) rfl) (fun j _ w2 _ => even_any j w2)
    rw [show 1 * 2 ^ s = 2 ^ s from Nat.one_mul _] at this
    exact this
  generalize 2 ^ s = n at *
  have hs1 : (s : Int) ≤ 16 := by omega
  obtain ⟨W, hW⟩ : ∃ W, W = w.alloc (.cells #[.int .u8 2, .int .i64 s, .int .i64 a, .int .i64 b, .int .i64 c, .int .i64 r, .int .i64 m] 38) := ⟨_, rfl⟩
  have b0 : Below w.heap.size w W := by rw [hW]; exact (Below.refl _ _).alloc (Nat.le_refl _) _
  have m1 : W.cell? ⟨w.heap.size, 1, none⟩ = some (.int .i64 s) := by rw [hW]; go_simp
  have m6 : W.cell? ⟨w.heap.size, 6, none⟩ = some (.int .i64 m) := by rw [hW]; go_simp
  have m0 : W.cell? ⟨w.heap.size, 0, none⟩ = some (.int .u8 2) := by rw [hW]; go_simp
  unfold vP
  unfold pt sl at *
  go_enter Tryz.func26, Tryz.ntmps26
  go_wp2_with (rw [← hW])
  clear hW
  go_region_held3 (fun w' => w'.cell? ⟨w.heap.size, 1, none⟩ = some (.int .i64 s) ∧ w'.cell? ⟨w.heap.size, 6, none⟩ = some (.int .i64 m))
    (first | exact ⟨m1, m6⟩ | exact ⟨k0, k1⟩ | go_keep)
    (first
    | (go_at_call 45; go_must ((refine (HL.out _).mono ?_); rintro r w1 ⟨d, rfl, d1, R1, b1⟩; have k0 := keeps b1 m1; have k1 := keeps b1 m6; have B1 := hid (undrew b1); have R1 := hid R1; have d1 := hid (show W.heap.size ≤ d from d1))))
  all_goals
    go_wp2_with fail
    go_ret
    refine ⟨w1.heap.size, d, rfl, Nat.le_trans b0.size B1.out.size, Nat.le_trans b0.size d1.out, Ne.symm (Nat.ne_of_lt R1.out.lt), heap_alloc_new w1 _, R1.out.below ((Below.refl _ _).alloc (Nat.le_refl _) _), (bel2 b0 B1.out).alloc (Nat.le_trans b0.size B1.out.size) _⟩
theorem z118 : Tryz.zeroCells140 = (fL 259 (fun k => if k = 2 then .slice none 0 0 else .int .i64 0)).toArray := by kernel_rfl
theorem fL_setA (n : Nat) (F : Nat → Value) (j : Nat) (v : Value) : (fL n F).toArray.setIfInBounds j v = (fL n (fun i => if i = j then v else F i)).toArray := by rw [set_toArray, fL_set]
theorem range_get (i k : Nat) (f : Nat → Int) (h : k < i) : ((List.range i).map f).getD k 0 = f k := by
  rw [gD_in _ _ (by simpa using h)]
  simp
theorem range_out (i k : Nat) (f : Nat → Int) (h : i ≤ k) : ((List.range i).map f).getD k 0 = 0 := gD_out _ _ (by simpa using h)
theorem Tryz.info140' : (Tryz.prog.info? 140).map (·.size) = some 259 := by kernel_rfl
set_option maxRecDepth 10000 in
set_option maxHeartbeats 4000000 in
theorem newIcm_any (s : Nat) (w : World) (hs : s ≤ 16) : Calls Tryz.prog 47 #[.int .i64 (s : Nat)] w fun e w' => ∃ g d, e = .returned (pt g) ∧ w.heap.size ≤ g ∧ w.heap.size ≤ d ∧ g ≠ d ∧
    Ro w' g 140 259 (icF s d (2 ^ s) ((List.range 256).map (fun s => (chN s : Int)))) ∧ Ro w' d 5 (2 ^ s) (fun _ => .int .u8 0) ∧ Below w.heap.size w w' := by
  have HS := hid (fun w' => same_b 0 w')
  have HL : Hid (∀ g w', w'.cell? ⟨g, 0, none⟩ = some (.int .u8 0) → g < w'.heap.size → Calls Tryz.prog 66 #[.int .i64 s, .int .i64 1, .func (.func 75) #[] #[.pointer (some ⟨g, 0, none⟩)]] w' fun e w'' => ∃ d, e = .returned (.agg #[.int .i64 s, .int .i64 1, .slice (some ⟨d, 0, none⟩) (2 ^ s) (2 ^ s)]) ∧ w'.heap.size ≤ d ∧
      Ro w'' d 5 (2 ^ s) (fun _ => .int .u8 0) ∧ Below w'.heap.size w' w'') := hid fun g w' h hg => by
    have := lay_b s 1 75 (pt g) (fun _ => 0) hs (by omega) w' (enters_of Tryz.func75 (by kernel_rfl) rfl) (fun j _ w2 b2 => same_b1 g j 0 w2 (keeps b2 h))
    rw [show 1 * 2 ^ s = 2 ^ s from Nat.one_mul _] at this
    exact this
  generalize 2 ^ s = n at *
  unfold pt at *
  go_enter Tryz.func47, Tryz.ntmps47
  go_wp2_with fail
  refine (HS.out _).mono ?_
  rintro r w1 ⟨rfl, c1, l1, b1⟩
  go_wp2_with fail
  refine (HL.out _ _ c1 l1).mono ?_
  rintro r w2 ⟨d, rfl, d2, r2, b2⟩
  clear HS HL
  go_wp2_with fail
  obtain ⟨W, hW⟩ : ∃ W, W = w2.alloc (Obj.cells (((Tryz.zeroCells140.setIfInBounds 0 (Value.int IntKind.i64 s)).setIfInBounds 1 (Value.int IntKind.i64 1)).setIfInBounds 2 (Value.slice (some ⟨d, 0, none⟩) n n)) 140) := ⟨_, rfl⟩
  rw [← hW]
  have q1 : Ro W w2.heap.size 140 259 (icF s d n ((List.range 0).map (fun s => (chN s : Int)))) := by
    have : W.heap[w2.heap.size]? = some (.cells (((Tryz.zeroCells140.setIfInBounds 0 (Value.int IntKind.i64 s)).setIfInBounds 1 (Value.int IntKind.i64 1)).setIfInBounds 2 (Value.slice (some ⟨d, 0, none⟩) n n)) 140 (0, 0)) := by rw [hW]; exact heap_alloc_new w2 _
    rw [z118, fL_setA, fL_setA, fL_setA] at this
    refine Ro.same this (fun k hk => ?_)
    unfold icF sl
    by_cases e2 : k = 2
    · rw [if_pos e2, if_neg (by omega), if_neg (by omega), if_pos e2]
    · rw [if_neg e2]
      by_cases e1 : k = 1
      · rw [if_pos e1, if_neg (by omega), if_pos e1]
      · rw [if_neg e1]
        by_cases e0 : k = 0
        · rw [if_pos e0, if_pos e0]
        · rw [if_neg e0, if_neg e0, if_neg e1, if_neg e2, if_neg e2]; rfl
  have b3 : Below w2.heap.size w2 W := by rw [hW]; exact (Below.refl _ _).alloc (Nat.le_refl _) _
  have q2 : Ro W d 5 n (fun _ => .int .u8 0) := r2.below b3
  have nd : ¬ d = w2.heap.size := Nat.ne_of_lt r2.lt
  have d1 : w.heap.size ≤ d := Nat.le_trans b1.size d2
  have g1 : w.heap.size ≤ w2.heap.size := Nat.le_trans b1.size b2.size
  have q3 : Below w.heap.size w W := bel3 b1 b2 b3
  clear hW b3 r2 d2 b2 b1 l1 c1
  generalize w2.heap.size = g at *
  go_loopw [10] (fun vi wr => ∃ i : Nat, i ≤ 256 ∧ vi = .int .i64 i ∧ Below w.heap.size w wr ∧ Ro wr g 140 259 (icF s d n ((List.range i).map (fun s => (chN s : Int)))) ∧ Ro wr d 5 n (fun _ => .int .u8 0)) (fun vi _ => 256 - (intOf vi).toNat)
  case atStart => exact ⟨0, Nat.zero_le _, rfl, q3, q1, q2⟩
  case round =>
    obtain ⟨i, hi, rfl, hb, hr, hd⟩ := hrel
    clear q1 q2 q3
    by_cases hgo : i < 256
    · have hz : (i : Int) < 256 := by omega
      have hz2 : (i : Int) % 256 = (i : Int) := by omega
      have HC := hid (fun w' => chance_any i hgo w')
      have hz3 : IntKind.u8.wrap (i : Int) = (i : Int) := IntWalk.u8_in _ (by omega)
      obtain ⟨ch, hch⟩ : ∃ ch, chN i = ch := ⟨_, rfl⟩
      rw [hch] at HC
      have HH := hid hch
      clear hch
      have HB := hid hb
      have HR := hid hr
      have HD := hid hd
      clear hb hr hd
      go_wp2_with fail
      go_region_held3 (fun _ => True) (trivial)
        (first
        | (go_at_call 68; go_must ((refine (HC.out _).mono ?_); rintro r w3 ⟨rfl, b3⟩; have b3' := hid (show Below wr.heap.size wr w3 from undrew b3); have R1 := hid (HR.out.below b3'.out); have f1 := R1.out.free (3 + i); have l1 := R1.out.cell (3 + i) (by omega))))
      all_goals
        go_wp2_with fail
        have x2 := (But.of_below (S := (· = g)) (b3'.out)).set ⟨g, 3 + i, none⟩ (.int .i64 (ch : Nat)) (.inl rfl)
        refine ⟨⟨i + 1, by omega, by go_num, HB.out.trans (x2.below (fun k e => by rw [e]; exact g1) HB.out.size), (R1.out.set (3 + i) _).same (fun k hk => ?_), HD.out.on x2 nd⟩, by simp [intOf]; omega⟩
        have hm := HH.out
        unfold icF
        by_cases e : k = 3 + i
        · rw [if_pos e, if_neg (by omega), if_neg (by omega), if_neg (by omega), show k - 3 = i from by omega, range_get _ _ _ (by omega), hm]
        · rw [if_neg e]
          by_cases e0 : k = 0
          · rw [if_pos e0, if_pos e0]
          · rw [if_neg e0, if_neg e0]
            by_cases e1 : k = 1
            · rw [if_pos e1, if_pos e1]
            · rw [if_neg e1, if_neg e1]
              by_cases e2 : k = 2
              · rw [if_pos e2, if_pos e2]
              · rw [if_neg e2, if_neg e2]
                by_cases e3 : k - 3 < i
                · rw [range_get _ _ _ e3, range_get _ _ _ (by omega)]
                · rw [range_out _ _ _ (by omega), range_out _ _ _ (by omega)]
    · obtain rfl : i = 256 := by omega
      go_wp2_with fail
      go_ret
      exact ⟨g, d, rfl, g1, d1, Ne.symm nd, hr, hd, hb⟩
set_option maxRecDepth 10000 in
set_option maxHeartbeats 1000000 in
theorem build_icm (s : Nat) (a b c r m : Int) (w : World) (hs : s ≤ 16) : Calls Tryz.prog 26 #[vP 3 s a b c r m] w fun e w' => ∃ g d, e = .returned (.iface 99 (pt g)) ∧ w.heap.size ≤ g ∧ w.heap.size ≤ d ∧ g ≠ d ∧
    Ro w' g 140 259 (icF s d (2 ^ s) ((List.range 256).map (fun s => (chN s : Int)))) ∧ Ro w' d 5 (2 ^ s) (fun _ => .int .u8 0) ∧ Below w.heap.size w w' := by
  have HL := hid (fun w' => newIcm_any s w' hs)
  generalize 2 ^ s = n at *
  generalize (List.range 256).map (fun s => (chN s : Int)) = ch at *
  obtain ⟨W, hW⟩ : ∃ W, W = w.alloc (.cells #[.int .u8 3, .int .i64 s, .int .i64 a, .int .i64 b, .int .i64 c, .int .i64 r, .int .i64 m] 38) := ⟨_, rfl⟩
  have b0 : Below w.heap.size w W := by rw [hW]; exact (Below.refl _ _).alloc (Nat.le_refl _) _
  have m1 : W.cell? ⟨w.heap.size, 1, none⟩ = some (.int .i64 s) := by rw [hW]; go_simp
  have m0 : W.cell? ⟨w.heap.size, 0, none⟩ = some (.int .u8 3) := by rw [hW]; go_simp
  unfold vP
  unfold pt at *
  go_enter Tryz.func26, Tryz.ntmps26
  go_wp2_with (rw [← hW])
  clear hW
  refine (HL.out _).mono ?_
  rintro r w1 ⟨g, d, rfl, g1, d1, nd, r1, r2, b1⟩
  go_wp2_with fail
  go_ret
  exact ⟨g, d, rfl, Nat.le_trans b0.size g1, Nat.le_trans b0.size d1, nd, r1, r2, bel2 b0 b1⟩
end Go.Proofs.YtkfdbibgjoaefaaGreatDoor
/-
  build, kind by kind: a part as it begins, in new blocks.
-/
namespace Go.Proofs.YtkfdbibgjoaefaaGreatDoor
open Go.RowKit

def BuildK (k : Nat) : Prop := ∀ (p : Pt) (i : Nat) (w : World), p.kind = k → p.one (i : Nat) → KnIs w → Calls Tryz.prog 26 #[vPt p] w fun e w' => ∃ T x, e = .returned (.iface T x) ∧
  UnAt w' (fun a => w.heap.size ≤ a ∧ a < w'.heap.size) (.iface T x) (begun p) 0 ∧ Below w.heap.size w w'
theorem begun_k (p : Pt) : (begun p).p = p := begun_p p
theorem buildK1 : BuildK 1 := by
  intro p i w hk ho kn
  unfold vPt
  rw [hk]
  refine (build_cst p.size p.a p.b p.c p.rate p.limit w).mono ?_
  rintro e w' ⟨rfl, b⟩
  refine ⟨_, _, rfl, .cst (by rw [begun_k]; exact hk) (by rw [begun_k]), b⟩
theorem begun2 {p : Pt} (hk : p.kind = 2) : begun p = { p := p, chance := List.replicate (pw p.size) 2097152, count := List.replicate (pw p.size) 0 } := by unfold begun; rw [if_pos hk]
theorem rep_getD {α : Type} (n k : Nat) (x y : α) (h : k < n) : (List.replicate n x).getD k y = x := by
  rw [gD_in _ _ (by rw [List.length_replicate]; exact h), List.getElem_replicate]
theorem buildK2 : BuildK 2 := by
  intro p i w hk ho kn
  obtain ⟨s0, s1, _⟩ := one_cm ho hk
  obtain ⟨s, hs, s16, hp⟩ := pw_nat p.size s0 s1
  unfold vPt
  rw [hk, hs]
  refine (build_cm s p.a p.b p.c p.rate p.limit w s16).mono ?_
  rintro e w' ⟨g, d, rfl, g1, d1, nd, hg, hd, b⟩
  refine ⟨_, _, rfl, ?_, b⟩
  rw [begun2 hk]
  refine .cm hk g d rfl ⟨g1, lt_of_heap hg⟩ ⟨d1, hd.lt⟩ nd ?_ ?_
  · show w'.heap[g]? = some (.cells #[.int .i64 p.size, .int .i64 1, sl d (pw p.size), .int .i64 p.limit] 98 (0, 0))
    rw [hp, hs]; exact hg
  · show Ro w' d 95 (2 * pw p.size) (oddsF (List.replicate (pw p.size) 2097152) (List.replicate (pw p.size) 0))
    rw [hp]
    refine hd.same fun k hk2 => ?_
    unfold oddsF
    by_cases e : k % 2 = 0
    · rw [if_pos e, if_pos e, rep_getD _ _ _ _ (by omega)]
    · rw [if_neg e, if_neg e, rep_getD _ _ _ _ (by omega)]
theorem begun3 {p : Pt} (hk : p.kind = 3) : begun p = { p := p, state := List.replicate (pw p.size) 0, chance := (List.range 256).map (fun s => (chN s : Int)) } := by unfold begun; rw [if_neg (by omega), if_pos hk]
theorem buildK3 : BuildK 3 := by
  intro p i w hk ho kn
  obtain ⟨s0, s1⟩ := one_icm ho hk
  obtain ⟨s, hs, s16, hp⟩ := pw_nat p.size s0 s1
  unfold vPt
  rw [hk, hs]
  refine (build_icm s p.a p.b p.c p.rate p.limit w s16).mono ?_
  rintro e w' ⟨g, d, rfl, g1, d1, nd, hg, hd, b⟩
  refine ⟨_, _, rfl, ?_, b⟩
  rw [begun3 hk]
  refine .icm hk g d rfl ⟨g1, hg.lt⟩ ⟨d1, hd.lt⟩ nd ?_ ?_
  · show Ro w' g 140 259 (icF p.size d (pw p.size) ((List.range 256).map (fun s => (chN s : Int))))
    rw [hp, hs]; exact hg
  · show Ro w' d 5 (pw p.size) (bytesF (List.replicate (pw p.size) 0))
    rw [hp]
    refine hd.same fun k hk2 => ?_
    unfold bytesF
    rw [rep_getD _ _ _ _ hk2]
    rfl
/-- A row of parts is none of a part's own blocks. -/
theorem UnAt.without {w : World} {S : Nat → Prop} {v : Value} {u : Un} {n k : Nat} {cs : Array Value} (h : UnAt w S v u n) (hk : w.heap[k]? = some (.cells cs 61 (0, 0))) : UnAt w (fun a => S a ∧ a ≠ k) v u n := by
  have key : ∀ {d : Nat} {xs : Array Value} {T : TypeId}, w.heap[d]? = some (.cells xs T (0, 0)) → T ≠ 61 → d ≠ k := by
    intro d xs T hd hT e
    subst e
    rw [hk] at hd
    injection hd with hd
    injection hd with _ h2
    exact hT h2.symm
  cases h with
  | cst k hv => exact .cst k hv
  | avg k hv => exact .avg k hv
  | cm k g d hv sg sd ne hg hd => exact .cm k g d hv ⟨sg, key hg (by decide)⟩ ⟨sd, key hd (by decide)⟩ ne hg hd
  | icm k g d hv sg sd ne hg hd => exact .icm k g d hv ⟨sg, key hg (by decide)⟩ ⟨sd, key hd (by decide)⟩ ne hg hd
  | mch k g dr ds hv sg sr ss n1 n2 n3 hg hr hs => exact .mch k g dr ds hv ⟨sg, key hg (by decide)⟩ ⟨sr, key hr (by decide)⟩ ⟨ss, key hs (by decide)⟩ n1 n2 n3 hg hr hs
  | mix2 k g d hv sg sd ne hg hd => exact .mix2 k g d hv ⟨sg, key hg (by decide)⟩ ⟨sd, key hd (by decide)⟩ ne hg hd
  | mix k g d hv sg sd ne hg hd => exact .mix k g d hv ⟨sg, key hg (by decide)⟩ ⟨sd, key hd (by decide)⟩ ne hg hd
  | isse k g d hv sg sd ne hg hd => exact .isse k g d hv ⟨sg, key hg (by decide)⟩ ⟨sd, key hd (by decide)⟩ ne hg hd
  | sse k g d hv sg sd ne hg hd => exact .sse k g d hv ⟨sg, key hg (by decide)⟩ ⟨sd, key hd (by decide)⟩ ne hg hd
end Go.Proofs.YtkfdbibgjoaefaaGreatDoor
/-
  Contexts: a byte begins for all parts.
-/
namespace Go.Proofs.YtkfdbibgjoaefaaGreatDoor
open Go.RowKit

theorem ro_setCells (d : Nat) (T : TypeId) (n : Nat) : ∀ (vs : List Value) (o : Nat) (w : World) (F : Nat → Value), Ro w d T n F →
    Ro (w.setCells d o vs) d T n (fun k => if o ≤ k ∧ k < o + vs.length then vs.getD (k - o) undef else F k) ∧ But (· = d) w (w.setCells d o vs)
  | [], o, w, F, h => ⟨h.same fun k _ => by rw [if_neg (by simp)], But.refl _ _⟩
  | v :: vs, o, w, F, h => by
    obtain ⟨h1, h2⟩ := ro_setCells d T n vs (o + 1) (w.setCell ⟨d, o, none⟩ v) _ (h.set o v)
    refine ⟨h1.same fun k _ => ?_, ((But.refl (· = d) w).set ⟨d, o, none⟩ v (.inl rfl)).trans h2⟩
    by_cases e : k = o
    · subst e
      rw [if_neg (by omega), if_pos rfl, if_pos (by simp), Nat.sub_self]
      rfl
    · by_cases e2 : o + 1 ≤ k ∧ k < o + 1 + vs.length
      · rw [if_pos e2, if_pos (by simp; omega), show k - o = (k - (o + 1)) + 1 from by omega]
        rfl
      · rw [if_neg e2, if_neg e, if_neg (by simp; omega)]
/-- The caller's numbers. -/
structure WsAt (w : World) (B : Nat) (A : Option Addr) (m mc : Nat) (hs : List Nat) : Prop where
  len : hs.length = m
  lies : 0 < m → ∃ ad, A = some ad ∧ ad.block < B ∧ ∀ j, j < m → w.cell? (ad.add j) = some (.int .u32 (hs.getD j 0 : Nat))
  small : ∀ x ∈ hs, x < 4294967296
theorem Tryz.size56 : (Tryz.prog.info? 56).map (·.size) = some 1 := by kernel_rfl
theorem Tryz.zero56 : ∀ w, (zeroValue 56).run Tryz.prog w = .ok (.int .u32 0) w := fun w => by kernel_rfl
/-- The contexts are laid. -/
theorem ctx_laid {w : World} {ct n m mc : Nat} {F : Nat → Value} {A : Option Addr} {hs : List Nat} (r : Ro w ct 56 n F) (hn : 1 ≤ n ∧ n ≤ 16) (h : WsAt w w.heap.size A m mc hs) (hct : ∀ ad, A = some ad → 0 < m → ad.block ≠ ct) :
    ∃ W1 W2, (∀ ty, (Builtin.clear_ #[39] ty #[.slice (some ⟨ct, 0, none⟩) n n]).run Tryz.prog w = .ok (.tuple #[]) W1) ∧ (∀ ty, (Builtin.copy_ #[39, 39] ty #[.slice (some ⟨ct, 0, none⟩) n n, .slice A m mc]).run Tryz.prog W1 = .ok (goInt (Nat.min m n)) W2) ∧
      But (· = ct) w W1 ∧ Ro W1 ct 56 n (fun _ => .int .u32 0) ∧ Ro W2 ct 56 n (u32F ((List.range n).map (fun i => hs.getD i 0))) ∧ But (· = ct) w W2 := by
  obtain ⟨r1, b1⟩ := ro_setCells ct 56 n (List.replicate n (.int .u32 0)) 0 w F r
  have c1 : Ro (w.setCells ct 0 (List.replicate n (.int .u32 0))) ct 56 n (fun _ => .int .u32 0) := r1.same fun k hk => by
    rw [if_pos (by simp; omega), rep_getD _ _ _ _ (by omega)]
  have hg : ∀ k, k < n → ((List.range n).map (fun i => hs.getD i 0)).getD k 0 = hs.getD k 0 := fun k hk => by
    rw [gD_in _ _ (by simpa using hk)]; simp
  have e1 : ∀ ty, (Builtin.clear_ #[39] ty #[.slice (some ⟨ct, 0, none⟩) n n]).run Tryz.prog w = .ok (.tuple #[]) (w.setCells ct 0 (List.replicate n (.int .u32 0))) := fun ty =>
    Lib.run_clear_slice w 39 56 ty (.int .u32 0) Tryz.underlying39 Tryz.zero56 rfl rfl ct 0 n n (by omega) (fun j hj => by rw [Nat.zero_add, r.cell j hj]; rfl) (fun j _ => by rw [Nat.zero_add]; exact r.free j)
  by_cases h0 : Nat.min m n = 0
  · have hm : m = 0 := by
      have : Nat.min m n = m ∨ Nat.min m n = n := by unfold Nat.min; simp [Nat.min_def]; omega
      omega
    refine ⟨_, _, e1, fun ty => ?_, b1, c1, c1.same fun k hk => ?_, b1⟩
    · rw [h0]
      exact run_copy_none _ 39 39 ty 56 _ _ n n m mc Tryz.underlying39 Tryz.size56 h0
    · unfold u32F
      rw [hg k hk, gD_out _ _ (by have := h.len; omega)]
      rfl
  · have hm : 0 < m := by
      have : Nat.min m n ≤ m := Nat.min_le_left m n
      omega
    obtain ⟨ad, rfl, hb, hc⟩ := h.lies hm
    have hmn : Nat.min m n ≤ m ∧ Nat.min m n ≤ n := ⟨Nat.min_le_left m n, Nat.min_le_right m n⟩
    have hmn2 : Nat.min m n = m ∨ Nat.min m n = n := by
      rcases Nat.le_total m n with h1 | h1
      · exact .inl (Nat.min_eq_left h1)
      · exact .inr (Nat.min_eq_right h1)
    obtain ⟨cs, hcs⟩ : ∃ cs, cs = (List.range (Nat.min m n)).map (fun i => Value.int .u32 (hs.getD i 0 : Nat)) := ⟨_, rfl⟩
    have hl : cs.length = Nat.min m n := by rw [hcs]; simp
    obtain ⟨r2, b2⟩ := ro_setCells ct 56 n cs 0 _ _ c1
    have hcell : ∀ j v, cs[j]? = some v → (w.setCells ct 0 (List.replicate n (.int .u32 0))).cell? (ad.add j) = some v := fun j v hj => by
      have hjl : j < Nat.min m n := by
        rw [← hl]
        rcases Nat.lt_or_ge j cs.length with h1 | h1
        · exact h1
        · rw [List.getElem?_eq_none h1] at hj; cases hj
      have hv : v = .int .u32 (hs.getD j 0 : Nat) := by
        rw [hcs, List.getElem?_map, List.getElem?_range hjl] at hj
        simpa using hj.symm
      rw [hv]
      exact b1.cell (hc j (by omega)) (by rw [block_of_add]; exact hct ad rfl hm)
    have e2 : ∀ ty, (Builtin.copy_ #[39, 39] ty #[.slice (some ⟨ct, 0, none⟩) n n, .slice (some ad) m mc]).run Tryz.prog (w.setCells ct 0 (List.replicate n (.int .u32 0))) = .ok (goInt (Nat.min m n)) ((w.setCells ct 0 (List.replicate n (.int .u32 0))).setCells ct 0 cs) := fun ty => by
      have := run_copy_cells (P := Tryz.prog) _ 39 39 ty 56 ct 0 n n ad m mc cs Tryz.underlying39 Tryz.size56 hl hcell (fun j hj => by rw [Nat.zero_add, c1.cell j (by omega)]; rfl) (fun j _ => by rw [Nat.zero_add]; exact c1.free j) (fun v hv => by rw [hcs] at hv; obtain ⟨i, _, rfl⟩ := List.mem_map.1 hv; rfl)
      rw [hl] at this
      exact this
    refine ⟨_, _, e1, e2, b1, c1, r2.same fun k hk => ?_, b1.trans b2⟩
    unfold u32F
    rw [hg k hk]
    by_cases hkm : k < Nat.min m n
    · rw [if_pos ⟨Nat.zero_le _, by omega⟩, hcs, Nat.sub_zero, List.getD_eq_getElem?_getD, List.getElem?_map, List.getElem?_range hkm]
      rfl
    · rw [if_neg (by omega), gD_out _ _ (by have := h.len; omega)]
      rfl
theorem Bx.setH {w w' : World} {g pa ct le n cap c : Nat} {v : Nat → Value} {h h' : List Nat} {L : List Int} (b : Bx w g pa ct le n cap c v h L) (x : But (· = ct) w w') (r : Ro w' ct 56 n (u32F h')) (hl : h'.length = n) : Bx w' g pa ct le n cap c v h' L := by
  obtain ⟨n1, n2, n3, n4, n5, n6, _⟩ := b.ne
  exact ⟨x.heap b.row n2, fun i hi => x.cell (b.part i hi) n4, r, b.lea.on x (Ne.symm n6), b.lenL, hl, b.one, b.most, b.ne⟩
set_option maxRecDepth 10000 in
set_option maxHeartbeats 2000000 in
theorem ctx_go {w : World} {g pa ct le n cap : Nat} {v : Nat → Value} {h : List Nat} {L : List Int} (b : Bx w g pa ct le n cap 1 v h L) (P : Nat → Nat → World → Prop) (S : Nat → Nat → Prop) (f : Fam n g pa ct le P S) (kn : KnIs w)
    (T : Nat → TypeId) (x : Nat → Value) (K : Nat → FuncId) (R : Nat → Value) {A : Option Addr} {m mc : Nat} {hs : List Nat} (ws : WsAt w w.heap.size A m mc hs) (hd : ∀ ad, A = some ad → 0 < m → ad.block ≠ ct)
    (hv : ∀ i, i < n → v i = .iface (T i) (x i)) (he : ∀ i, i < n → ∀ a w, (callFunc (K i) a).run Tryz.prog w = .ok (.enter (K i) a) w)
    (hn : ∀ i, i < n → ∀ w', (nilAhead 273 (T i) (x i) "quillpress/blend.begin").run Tryz.prog w' = .ok (some false) w')
    (hm : ∀ i, i < n → ∀ w', P i 0 w' → (method 273 (T i) (x i) "quillpress/blend.begin").run Tryz.prog w' = .ok (K i, R i) w')
    (hk : ∀ i, i < n → ∀ w', KnIs w' → P i 0 w' → Calls Tryz.prog (K i) #[R i, .int .u32 (hs.getD i 0 : Nat)] w' fun e w'' => e = .returned (.tuple #[]) ∧ P i 1 w'' ∧ But (S i) w' w'')
    (h0 : ∀ i, i < n → P i 0 w) (Q : World → Prop)
    (hq : ∀ w', But (fun a => All n S a ∨ a = ct) w w' → KnIs w' → (∀ i, i < n → P i 1 w') → Bx w' g pa ct le n cap 1 v ((List.range n).map (fun i => hs.getD i 0)) L → Calls Tryz.prog 27 #[pt g] w' fun e w3 => e = .returned (.tuple #[]) ∧ Q w3) :
    Calls Tryz.prog 12 #[pt g, .slice A m mc] w fun e w' => e = .returned (.int .i64 0) ∧ Q w' := by
  obtain ⟨W1, W2, hcl, hcp, x1, q1, q2, x2⟩ := ctx_laid b.ctx ⟨b.one, b.most⟩ ws hd
  have b1 := b.setH x1 (h' := List.replicate n 0) (q1.same fun k hk => by unfold u32F; rw [rep_getD _ _ _ _ hk]; rfl) (by simp)
  have b2 := b.setH x2 q2 (by simp)
  have cg : ∀ i, i < n → ((List.range n).map (fun i => hs.getD i 0)).getD i 0 = hs.getD i 0 := fun k hk => by
    rw [gD_in _ _ (by simpa using hk)]; simp
  have c0 := b.c0
  have c2 := b.c2
  have c4 := b.c4
  have d2 := b1.c2
  have d1 := b2.c1
  have nmost := b.most
  have HM0 := hid (made_yes g w c0)
  have HQ := hid hq
  have P2 : ∀ i, i < n → P i 0 W2 := fun i hi => f.stay i 0 _ _ _ hi (h0 i hi) x2 (fun a ha e => (f.off i hi a ha).2.2.1 e)
  have K2 : KnIs W2 := kn.but x2 (by have := b.ne.2.2.2.2.2.2.2.2.1; exact fun e => this e.symm)
  have X2 := hid x2
  clear hq b1 x1 x2 q1 q2 h0 kn b
  unfold pt
  go_enter Tryz.func12, Tryz.ntmps12
  go_wp2_with fail
  refine HM0.out.mono ?_
  rintro r w1 ⟨rfl, rfl⟩
  go_wp2_with fail
  go_loopw [30] (fun vi wr => ∃ i : Nat, i ≤ n ∧ vi = .int .i64 i ∧ But (All n S) W2 wr ∧ ∀ j, j < n → P j (if j < i then 0 + 1 else 0) wr) (fun vi _ => n - (intOf vi).toNat)
  case atStart => exact ⟨0, Nat.zero_le _, rfl, But.refl _ _, fun j hj => by rw [if_neg (by omega)]; exact P2 j hj⟩
  case round =>
    obtain ⟨i, hi, rfl, hw, hp⟩ := hrel
    by_cases hgo : i < n
    · have hz : (i : Int) < (n : Int) := by omega
      have b' := b2.all f hw
      have kn' := K2.but hw f.off_all.2.2.2.2
      have p0 : P i 0 wr := by have := hp i hgo; rw [if_neg (by omega)] at this; exact this
      have pc : wr.cell? ⟨pa, i, none⟩ = some (.iface (T i) (x i)) := by rw [b'.part i hgo, hv i hgo]
      have HC := hid (fun w' (k : Below wr.heap.size wr w') => hk i hgo w' (kn'.below k) (f.below hgo p0 k))
      have nn := hn i hgo
      have mm : (method 273 (T i) (x i) "quillpress/blend.begin").run Tryz.prog wr.drew = .ok (K i, R i) wr.drew := hm i hgo _ (f.below hgo p0 (Below.drewN _ _ 1))
      have HS := hid (fun w2 (b2 : But (S i) wr w2) (p2 : P i 1 w2) => (⟨hw.trans (b2.mono fun a ha => .inl ⟨i, hgo, ha⟩), f.step hgo hp b2 p2⟩ : But (All n S) W2 w2 ∧ ∀ j, j < n → P j (if j < i + 1 then 0 + 1 else 0) w2))
      have ee := he i hgo
      have g3 := b'.c2
      have l3 := b'.ctx.cell i hgo
      unfold u32F at l3
      rw [cg i hgo] at l3
      have sg : ¬ S i g := fun h => (f.off i hgo _ h).1 rfl
      have sl3 : ¬ S i ct := fun h => (f.off i hgo _ h).2.2.1 rfl
      clear hk he hn hm hp hw b' cg b2 hcl hcp d1 d2 c0 c2 c4 P2 HQ HM0 ws
      generalize T i = t at *
      generalize x i = y at *
      generalize K i = fn at *
      generalize R i = rv at *
      generalize hs.getD i 0 = hh at *
      go_wp2_with fail
      go_region_held3 (fun w' => w'.cell? ⟨g, 2, none⟩ = some (.slice (some ⟨ct, 0, none⟩) n n) ∧ w'.cell? ⟨ct, i, none⟩ = some (.int .u32 hh))
        (first | exact ⟨g3, l3⟩ | exact ⟨k3, k4⟩ | go_keep)
        (first
        | ((refine (HC.out _ (Below.drewN _ _ 1)).mono ?_); rintro r w2 ⟨rfl, p2, b2⟩; have k3 := b2.cell (keeps (Below.drewN _ _ 1) g3) sg; have k4 := b2.cell (keeps (Below.drewN _ _ 1) l3) sl3; have FF := hid (HS.out _ ((But.of_below (Below.drewN _ _ 1)).trans b2) p2)))
      all_goals
        go_wp2_with fail
        go_roundw
        case rel => exact ⟨i + 1, by omega, by go_num, FF.out.1, FF.out.2⟩
        case measure => simp [intOf]; omega
    · obtain rfl : i = n := by omega
      have b' := b2.all f hw
      have kn' := K2.but hw f.off_all.2.2.2.2
      have p1 : ∀ j, j < i → P j 1 wr := fun j hj => by have := hp j hj; rw [if_pos hj] at this; exact this
      have HX := hid (HQ.out _ ((X2.out.mono fun a h => .inl (.inr h)).trans (hw.mono fun a h => .inl (.inl h))) kn' p1 b')
      clear hk he hn hm hp HQ b' cg b2 hcl hcp d1 d2 c0 c2 c4 P2 HM0 ws
      unfold pt at *
      go_wp2_with fail
      refine HX.out.mono ?_
      rintro r w1 ⟨rfl, hy⟩
      go_wp2_with fail
      go_ret
      exact ⟨rfl, hy⟩
end Go.Proofs.YtkfdbibgjoaefaaGreatDoor
/-
  A whole blend in memory: how its parts lean, when they are asked.
-/
namespace Go.Proofs.YtkfdbibgjoaefaaGreatDoor
open Go.RowKit

theorem at0_same {a b : List Int} {i : Nat} (h : ∀ j, j < i → a.getD j 0 = b.getD j 0) {k : Int} (h0 : 0 ≤ k) (h1 : k < i) : at0 a k = at0 b k := h _ (by omega)
theorem mixSum_same {a b : List Int} {i : Nat} (h : ∀ j, j < i → a.getD j 0 = b.getD j 0) (w : List Int) (p : Nat) (q : Int) (h0 : 0 ≤ q) : ∀ k : Nat, q + k ≤ i → mixSum w p a q k = mixSum w p b q k
  | 0, _ => rfl
  | k + 1, hk => by
    unfold mixSum
    rw [mixSum_same h w p q h0 k (by omega), at0_same h (k := q + k) (by omega) (by omega)]
/-- A part leans by those ahead of it alone. -/
theorem lean_same (u : Un) (i c bits : Nat) (a b : List Int) (ho : u.p.one (i : Nat)) (h : ∀ j, j < i → a.getD j 0 = b.getD j 0) : u.lean c bits a = u.lean c bits b := by
  unfold Un.lean
  simp only
  by_cases k1 : u.p.kind = 1
  · rw [if_pos k1, if_pos k1]
  rw [if_neg k1, if_neg k1]
  by_cases k2 : u.p.kind = 2
  · rw [if_pos k2, if_pos k2]
  rw [if_neg k2, if_neg k2]
  by_cases k3 : u.p.kind = 3
  · rw [if_pos k3, if_pos k3]
  rw [if_neg k3, if_neg k3]
  by_cases k4 : u.p.kind = 4
  · rw [if_pos k4, if_pos k4]
  rw [if_neg k4, if_neg k4]
  by_cases k5 : u.p.kind = 5
  · obtain ⟨⟨a0, a1⟩, ⟨b0, b1⟩, _⟩ := one_avg ho k5
    rw [if_pos k5, if_pos k5, at0_same h a0 a1, at0_same h b0 b1]
  rw [if_neg k5, if_neg k5]
  by_cases k6 : u.p.kind = 6
  · obtain ⟨_, ⟨a0, a1⟩, ⟨b0, b1⟩, _⟩ := one_mix2 ho k6
    rw [if_pos k6, if_pos k6, at0_same h a0 a1, at0_same h b0 b1]
  rw [if_neg k6, if_neg k6]
  by_cases k7 : u.p.kind = 7
  · obtain ⟨_, ⟨b0, b1⟩, a0, a1, _⟩ := one_mix ho k7
    rw [if_pos k7, if_pos k7, mixSum_same h _ _ _ a0 _ (by omega)]
  rw [if_neg k7, if_neg k7]
  by_cases k8 : u.p.kind = 8
  · obtain ⟨_, a0, a1⟩ := one_isse ho k8
    rw [if_pos k8, if_pos k8, at0_same h a0 a1]
  rw [if_neg k8, if_neg k8]
  have hk := one_kinds ho
  obtain ⟨_, ⟨a0, a1⟩, _⟩ := one_sse ho (by omega)
  rw [at0_same h a0 a1]
theorem leansGo_snoc (c bits : Nat) (u : Un) : ∀ (l : List Un) (a : List Int), leansGo c bits (l ++ [u]) a = leansGo c bits l a ++ [u.lean c bits (leansGo c bits l a)]
  | [], _a => rfl
  | x :: l, a => leansGo_snoc c bits u l (a ++ [x.lean c bits a])
def nth (l : List Un) (i : Nat) : Un := l.getD i { p := ⟨0, 0, 0, 0, 0, 0, 0⟩ }
theorem nth_at (l : List Un) (i : Nat) (h : i < l.length) : nth l i = l[i] := gD_in _ _ h
theorem take_snoc (l : List Un) (i : Nat) (h : i < l.length) : l.take (i + 1) = l.take i ++ [nth l i] := by
  rw [nth_at _ _ h, List.take_succ_eq_append_getElem h]
/-- The list of leans, the first i of them new. -/
def mid (c bits : Nat) (l : List Un) (L : List Int) (i : Nat) : List Int := leansGo c bits (l.take i) [] ++ L.drop i
theorem take_len (c bits : Nat) (l : List Un) (i : Nat) (h : i ≤ l.length) : (leansGo c bits (l.take i) []).length = i := by
  rw [leansGo_len, List.length_nil, List.length_take]; omega
theorem mid_len (c bits : Nat) (l : List Un) (L : List Int) (hl : L.length = l.length) (i : Nat) (h : i ≤ l.length) : (mid c bits l L i).length = l.length := by
  unfold mid
  rw [List.length_append, take_len _ _ _ _ h, List.length_drop]; omega
theorem mid_low (c bits : Nat) (l : List Un) (L : List Int) (i : Nat) (h : i ≤ l.length) (j : Nat) (hj : j < i) : (mid c bits l L i).getD j 0 = (leansGo c bits (l.take i) []).getD j 0 := by
  unfold mid
  rw [List.getD_eq_getElem?_getD, List.getD_eq_getElem?_getD, List.getElem?_append_left (by rw [take_len _ _ _ _ h]; exact hj)]
theorem mid_high (c bits : Nat) (l : List Un) (L : List Int) (i : Nat) (h : i ≤ l.length) (j : Nat) (hj : i ≤ j) : (mid c bits l L i).getD j 0 = L.getD j 0 := by
  unfold mid
  rw [List.getD_eq_getElem?_getD, List.getD_eq_getElem?_getD, List.getElem?_append_right (by rw [take_len _ _ _ _ h]; exact hj), take_len _ _ _ _ h, List.getElem?_drop]
  congr 2; omega
theorem go_succ (c bits : Nat) (l : List Un) (i : Nat) (h : i < l.length) : leansGo c bits (l.take (i + 1)) [] = leansGo c bits (l.take i) [] ++ [(nth l i).lean c bits (leansGo c bits (l.take i) [])] := by
  rw [take_snoc l i h, leansGo_snoc]
theorem mid_at (c bits : Nat) (l : List Un) (L : List Int) (i : Nat) (h : i < l.length) : (mid c bits l L (i + 1)).getD i 0 = (nth l i).lean c bits (leansGo c bits (l.take i) []) := by
  rw [mid_low _ _ _ _ _ (by omega) _ (by omega), go_succ _ _ _ _ h, List.getD_eq_getElem?_getD, List.getElem?_append_right (by rw [take_len _ _ _ _ (by omega)]; exact Nat.le_refl _), take_len _ _ _ _ (by omega), Nat.sub_self]
  rfl
theorem mid_old (c bits : Nat) (l : List Un) (L : List Int) (i : Nat) (h : i < l.length) (j : Nat) (hj : j ≠ i) : (mid c bits l L (i + 1)).getD j 0 = (mid c bits l L i).getD j 0 := by
  by_cases e : j < i
  · rw [mid_low _ _ _ _ _ (by omega) _ (by omega), mid_low _ _ _ _ _ (by omega) _ e, go_succ _ _ _ _ h, List.getD_eq_getElem?_getD, List.getElem?_append_left (by rw [take_len _ _ _ _ (by omega)]; exact e), ← List.getD_eq_getElem?_getD]
  · rw [mid_high _ _ _ _ _ (by omega) _ (by omega), mid_high _ _ _ _ _ (by omega) _ (by omega)]
theorem pick4 {n : Nat} {p : Nat → TypeId → Value → FuncId → Value → Prop} (h : ∀ i, i < n → ∃ T x M R, p i T x M R) : ∃ (T : Nat → TypeId) (x : Nat → Value) (K : Nat → FuncId) (R : Nat → Value), ∀ i, i < n → p i (T i) (x i) (K i) (R i) := by
  have h2 : ∀ i, ∃ q : TypeId × Value × FuncId × Value, i < n → p i q.1 q.2.1 q.2.2.1 q.2.2.2 := by
    intro i
    by_cases e : i < n
    · obtain ⟨T, x, M, R, hp⟩ := h i e
      exact ⟨(T, x, M, R), fun _ => hp⟩
    · exact ⟨(0, undef, 0, undef), fun h => absurd h e⟩
  obtain ⟨f, hf⟩ := Classical.axiomOfChoice h2
  exact ⟨fun i => (f i).1, fun i => (f i).2.1, fun i => (f i).2.2.1, fun i => (f i).2.2.2, hf⟩
/-- Parts that may be asked at a moment. -/
structure Rdy (l : List Un) (wh c bits : Nat) : Prop where
  right : rightP (l.map (·.p)) = 0
  ok : ∀ u ∈ l, u.ok wh
  hu : ∀ u ∈ l, u.h < 4294967296
  b7 : bits ≤ 7
  c0 : 2 ^ bits ≤ c
  c1 : c < 2 ^ (bits + 1)
theorem right_one {l : List Un} (h : rightP (l.map (·.p)) = 0) (i : Nat) (hi : i < l.length) : (nth l i).p.one (i : Nat) := by
  have := ((rightP_ok _).1 h).2.1 i (by rw [List.length_map]; exact hi)
  rw [List.getElem_map] at this
  rw [nth_at _ _ hi]
  exact this
theorem right_len {l : List Un} (h : rightP (l.map (·.p)) = 0) : 1 ≤ l.length ∧ l.length ≤ 16 := by
  have := ((rightP_ok _).1 h).1
  rw [List.length_map] at this
  omega
theorem nth_mem {l : List Un} {i : Nat} (hi : i < l.length) : nth l i ∈ l := by rw [nth_at _ _ hi]; exact List.getElem_mem hi
theorem Rdy.at1 {l : List Un} {wh c bits : Nat} (r : Rdy l wh c bits) (i : Nat) (hi : i < l.length) (L : List Int) (hl : L.length = l.length) (hr : ∀ d ∈ L, Lean1 d) : At1 (nth l i) wh i c bits l.length L :=
  ⟨right_one r.right i hi, r.ok _ (nth_mem hi), r.hu _ (nth_mem hi), hi, (right_len r.right).2, hl, hr, r.b7, r.c0, r.c1⟩
theorem Rdy.rng {l : List Un} {wh c bits : Nat} (r : Rdy l wh c bits) : ∀ d ∈ leansGo c bits l [], Lean1 d := leansGo_range c bits wh l [] (fun _ h => absurd h List.not_mem_nil) fun u hu => by
  obtain ⟨i, hi, e⟩ := List.getElem_of_mem hu
  refine ⟨r.ok u hu, i, ?_⟩
  have := right_one r.right i hi
  rw [nth_at _ _ hi, e] at this
  exact this
theorem leansGo_take_range {l : List Un} {wh c bits : Nat} (r : Rdy l wh c bits) (i : Nat) : ∀ d ∈ leansGo c bits (l.take i) [], Lean1 d := leansGo_range c bits wh (l.take i) [] (fun _ h => absurd h List.not_mem_nil) fun u hu => by
  have hu' := List.mem_of_mem_take hu
  obtain ⟨j, hj, e⟩ := List.getElem_of_mem hu'
  refine ⟨r.ok u hu', j, ?_⟩
  have := right_one r.right j hj
  rw [nth_at _ _ hj, e] at this
  exact this
/-- All parts are asked. -/
theorem bl_ask {w : World} {g pa ct le cap c bits wh : Nat} {v : Nat → Value} {l : List Un} {L : List Int} (b : Bx w g pa ct le l.length cap c v (l.map (·.h)) L) (kn : KnIs w) (S : Nat → Nat → Prop) (r : Rdy l wh c bits) (hL : ∀ d ∈ L, Lean1 d)
    (hu : ∀ i, i < l.length → UnAt w (S i) (v i) (nth l i) wh) (hS : ∀ i, i < l.length → ¬ S i le) (hk : ∀ u ∈ l, LeanK u.p.kind) :
    Calls Tryz.prog 27 #[pt g] w fun e w' => e = .returned (.tuple #[]) ∧ But (· = le) w w' ∧ Bx w' g pa ct le l.length cap c v (l.map (·.h)) (leansGo c bits l []) := by
  have hml := mid_len c bits l L b.lenL
  have hmr : ∀ i, ∀ d ∈ mid c bits l L i, Lean1 d := fun i d hd => by
    unfold mid at hd
    rcases List.mem_append.1 hd with h | h
    · exact leansGo_take_range r i d h
    · exact hL d (List.mem_of_mem_drop h)
  obtain ⟨T, x, K, R, hp⟩ := pick4 (n := l.length) (fun i hi => hk _ (nth_mem hi) (nth l i) (S i) (v i) wh i c bits le l.length (mid c bits l L i) w rfl (r.at1 i hi _ (hml i (by omega)) (hmr i)) (hu i hi))
  have hh : ∀ i, i < l.length → (l.map (·.h)).getD i 0 = (nth l i).h := fun i hi => by
    rw [gD_in _ _ (by rw [List.length_map]; exact hi), List.getElem_map, nth_at _ _ hi]
  have n0 : ¬ (0 : Nat) = le := Ne.symm b.ne.2.2.2.2.2.2.2.2.2
  refine (ask_any b T x K R (fun i hi => (hp i hi).1) (fun i hi => (hp i hi).2.1) (mid c bits l L) (by unfold mid; rw [List.take_zero, List.drop_zero]; rfl) (fun i hi w' => (hp i hi).2.2.1 w') (fun i hi w' bt ro => ?_) (fun i hi => ⟨hml _ (by omega), fun j hj => ?_⟩)).mono ?_
  · rw [hh i hi, mid_at _ _ _ _ _ hi, ← lean_same _ i c bits (mid c bits l L i) _ (right_one r.right i hi) (fun j hj => mid_low _ _ _ _ _ (by omega) _ hj)]
    exact (hp i hi).2.2.2 w' (kn.but bt n0) ((hu i hi).on bt (fun a ha e => hS i hi (e ▸ ha))) ro
  · by_cases e : j = i
    · rw [if_pos e, e]
    · rw [if_neg e, mid_old _ _ _ _ _ hi _ e]
  · rintro e w' ⟨rfl, bt, ro⟩
    have e1 : mid c bits l L l.length = leansGo c bits l [] := by
      unfold mid
      rw [List.take_length, ← b.lenL, List.drop_length, List.append_nil]
    rw [e1] at ro
    exact ⟨rfl, bt, b.setL bt ro (by rw [leansGo_len, List.length_nil, Nat.zero_add])⟩
end Go.Proofs.YtkfdbibgjoaefaaGreatDoor
/-
  A whole blend in memory learns.
-/
namespace Go.Proofs.YtkfdbibgjoaefaaGreatDoor
open Go.RowKit

/-- A blend at block g; F: all blocks that are its own. -/
structure BlAt (w : World) (F : Nat → Prop) (g : Nat) (b : Bl) : Prop where
  ex : ∃ (pa ct le cap : Nat) (v : Nat → Value) (S : Nat → Nat → Prop), Bx w g pa ct le b.l.length cap b.c v (b.l.map (·.h)) b.leans ∧ (∀ i, i < b.l.length → UnAt w (S i) (v i) (nth b.l i) b.whole) ∧
    (∀ i j, i < b.l.length → j < b.l.length → i ≠ j → ∀ a, S i a → ¬ S j a) ∧ (∀ i, i < b.l.length → ∀ a, S i a → a ≠ g ∧ a ≠ pa ∧ a ≠ ct ∧ a ≠ le ∧ a ≠ 0) ∧
    F g ∧ F pa ∧ F ct ∧ F le ∧ (∀ i, i < b.l.length → ∀ a, S i a → F a)
/-- A blend that may be told bits. -/
structure Fit (b : Bl) : Prop where
  ok : b.Ok
  hu : ∀ u ∈ b.l, u.h < 4294967296
  wh : b.whole < 4294967295
theorem Fit.rdy {b : Bl} (f : Fit b) : Rdy b.l b.whole b.c b.bits := ⟨f.ok.parts, f.ok.each, f.hu, f.ok.bits, f.ok.c.1, f.ok.c.2⟩
theorem BlAt.on {w w' : World} {F X : Nat → Prop} {g : Nat} {b : Bl} (h : BlAt w F g b) (x : But X w w') (hn : ∀ a, F a → ¬ X a) : BlAt w' F g b := by
  obtain ⟨pa, ct, le, cap, v, S, bx, hu, h1, h2, f1, f2, f3, f4, f5⟩ := h.ex
  exact ⟨pa, ct, le, cap, v, S, bx.but x (hn _ f1) (hn _ f2) (hn _ f3) (hn _ f4), fun i hi => (hu i hi).on x (fun a ha => hn _ (f5 i hi a ha)), h1, h2, f1, f2, f3, f4, f5⟩
theorem BlAt.below {w w' : World} {F : Nat → Prop} {g : Nat} {b : Bl} (h : BlAt w F g b) (x : Below w.heap.size w w') : BlAt w' F g b := h.on (But.of_below (S := fun _ => False) x) (fun _ _ h => h)
theorem each_len (b : Bl) (one : Bool) : (b.each one).length = b.l.length := by unfold Bl.each; rw [List.length_mapIdx]
theorem each_nth (b : Bl) (one : Bool) (i : Nat) (hi : i < b.l.length) : nth (b.each one) i = (nth b.l i).learn b.c b.leans (b.leans.getD i 0) one := by
  rw [nth_at _ _ (by rw [each_len]; exact hi), nth_at _ _ hi]
  simp [Bl.each]
theorem whole_h (u : Un) (c w : Nat) : (u.whole c w).h = u.h := by
  unfold Un.whole
  split <;> rfl
theorem each_h (b : Bl) (one : Bool) : (b.each one).map (·.h) = b.l.map (·.h) := by
  apply List.ext_getElem
  · simp [each_len]
  · intro i h1 h2
    simp [Bl.each, learn_h]
theorem learn_l (b : Bl) (one : Bool) : (b.learn one).l.length = b.l.length ∧ (b.learn one).l.map (·.h) = b.l.map (·.h) := by
  unfold Bl.learn
  split
  · refine ⟨by rw [List.length_map, each_len], ?_⟩
    show ((b.each one).map _).map _ = _
    rw [List.map_map, ← each_h b one]
    exact List.map_congr_left fun u _ => whole_h u _ _
  · exact ⟨each_len b one, each_h b one⟩
theorem Fit.learn {b : Bl} (f : Fit b) (one : Bool) (hw : b.whole < 4294967294) : Fit (b.learn one) := by
  refine ⟨b.learn_ok one f.ok, fun u hu => ?_, ?_⟩
  · obtain ⟨i, hi, e⟩ := List.getElem_of_mem hu
    have h2 := (learn_l b one).2
    have hi2 : i < b.l.length := by rw [← (learn_l b one).1]; exact hi
    have : ((b.learn one).l.map (·.h))[i]? = (b.l.map (·.h))[i]? := by rw [h2]
    rw [List.getElem?_eq_getElem (by simpa using hi), List.getElem?_eq_getElem (by simpa using hi2), List.getElem_map, List.getElem_map] at this
    injection this with this
    rw [← e, this]
    exact f.hu _ (List.getElem_mem hi2)
  · unfold Bl.learn
    split
    · show b.whole + 1 < _; omega
    · exact f.wh
theorem lean_in {L : List Int} (h : ∀ d ∈ L, Lean1 d) (i : Nat) : Lean1 (L.getD i 0) := by
  by_cases e : i < L.length
  · rw [gD_in _ _ e]; exact h _ (List.getElem_mem e)
  · rw [gD_out _ _ (by omega)]; unfold Lean1; omega
/-- What its parts must be able to do. -/
def Can (l : List Un) : Prop := ∀ u ∈ l, LeanK u.p.kind ∧ LearnK u.p.kind ∧ EndK u.p.kind
theorem map_p_mem {l l' : List Un} (h : l'.map (·.p) = l.map (·.p)) {q : Nat → Prop} (hl : ∀ u ∈ l, q u.p.kind) : ∀ u ∈ l', q u.p.kind := by
  intro u hu
  have : u.p ∈ l'.map (·.p) := List.mem_map.2 ⟨u, hu, rfl⟩
  rw [h] at this
  obtain ⟨x, hx, e⟩ := List.mem_map.1 this
  rw [← e]
  exact hl x hx
theorem learn_ps (b : Bl) (one : Bool) : (b.learn one).l.map (·.p) = b.l.map (·.p) := by
  unfold Bl.learn
  split
  · show ((b.each one).map _).map _ = _
    rw [List.map_map, ← each_p b one]
    exact List.map_congr_left fun u _ => whole_p u _ _
  · exact each_p b one
theorem Can.learn {b : Bl} (c : Can b.l) (one : Bool) : Can (b.learn one).l := map_p_mem (learn_ps b one) (q := fun k => LeanK k ∧ LearnK k ∧ EndK k) c
set_option maxHeartbeats 1000000 in
theorem bl_learn {w : World} {F : Nat → Prop} {g : Nat} {b : Bl} (h : BlAt w F g b) (f : Fit b) (kn : KnIs w) (hk : Can b.l) (one : Bool) :
    Calls Tryz.prog 15 #[pt g, .int .i64 (if one then 1 else 0)] w fun e w' => e = .returned (.int .i64 0) ∧ BlAt w' F g (b.learn one) ∧ But F w w' := by
  obtain ⟨pa, ct, le, cap, v, S, bx, hu, h1, h2, f1, f2, f3, f4, f5⟩ := h.ex
  have hbits := f.ok.bits
  have hc := f.ok.c
  have hc256 : b.c < 256 := by
    have := Nat.pow_le_pow_right (n := 2) (by decide) (show b.bits + 1 ≤ 8 from by omega)
    omega
  obtain ⟨n, hn⟩ : ∃ n, b.l.length = n := ⟨_, rfl⟩
  have hrng := f.rdy.rng
  have hL : b.leans.length = b.l.length := b.leans_len
  obtain ⟨T, x, K, R, hp⟩ := pick4 (n := b.l.length) (fun i hi => (hk _ (nth_mem hi)).2.1 (nth b.l i) (S i) (v i) b.whole i b.c b.bits le b.l.length b.leans (b.leans.getD i 0) one w rfl (f.rdy.at1 i hi _ hL hrng) (lean_in hrng i) (fun e => (h2 i hi _ e).2.2.2.1 rfl) (hu i hi))
  have hh : ∀ i, i < b.l.length → (b.l.map (·.h)).getD i 0 = (nth b.l i).h := fun i hi => by
    rw [gD_in _ _ (by rw [List.length_map]; exact hi), List.getElem_map, nth_at _ _ hi]
  obtain ⟨bn, hbn⟩ : ∃ bn : Nat, bn = if one then 1 else 0 := ⟨_, rfl⟩
  have fam : Fam b.l.length g pa ct le (fun i k w => if k = 0 then UnAt w (S i) (v i) (nth b.l i) b.whole else if k = 1 then UnAt w (S i) (v i) (nth (b.each one) i) b.whole else UnAt w (S i) (v i) ((nth (b.each one) i).whole (b.c * 2 + bn) b.whole) (b.whole + 1)) S := by
    refine ⟨fun i k w w' X hi hP x hX => ?_, h1, h2⟩
    by_cases k0 : k = 0
    · rw [if_pos k0] at hP ⊢; exact hP.on x hX
    · rw [if_neg k0] at hP ⊢
      by_cases k1 : k = 1
      · rw [if_pos k1] at hP ⊢; exact hP.on x hX
      · rw [if_neg k1] at hP ⊢; exact hP.on x hX
  have allF : ∀ a, All b.l.length S a → F a := fun a ⟨i, hi, ha⟩ => f5 i hi a ha
  have hlen := (learn_l b one).1
  have hmh := (learn_l b one).2
  refine (learn_go bx _ S fam kn T x K R (if one then 1 else 0) bn (by rw [hbn]; cases one <;> simp) hc256 (fun i hi => (hp i hi).1) (fun i hi => (hp i hi).2.1) (fun i hi => (hp i hi).2.2.1) (fun i hi w' pw => (hp i hi).2.2.2.1 w' pw) (fun i hi w' knw pw ro => ?_) hu (fun w3 => BlAt w3 F g (b.learn one) ∧ But F w w3) (fun w' bt knw hp1 bx' => ?_)).mono ?_
  · rw [hh i hi]
    refine ((hp i hi).2.2.2.2 w' knw pw ro).mono ?_
    rintro e w2 ⟨rfl, hu2, b2⟩
    refine ⟨rfl, ?_, b2⟩
    show UnAt w2 (S i) (v i) (nth (b.each one) i) b.whole
    rw [each_nth b one i hi]
    exact hu2
  · have hp1 : ∀ i, i < b.l.length → UnAt w' (S i) (v i) (nth (b.each one) i) b.whole := hp1
    have bt' : But F w w' := bt.mono fun a ha => .inl (by rcases ha with ha | rfl; exact allF a ha; exact f1)
    refine ⟨b.bits + 1, by omega, ?_, ?_, ?_⟩
    · rw [Nat.pow_succ]; omega
    · rw [Nat.pow_succ]
      have : bn ≤ 1 := by rw [hbn]; cases one <;> simp
      omega
    · by_cases e7 : b.bits = 7
      · rw [if_pos (by omega)]
        have hl : b.learn one = { l := (b.each one).map (fun u => u.whole (b.c * 2 + bn) b.whole), c := 1, bits := 0, whole := b.whole + 1 } := by
          unfold Bl.learn
          rw [if_pos e7, hbn]
        have hfit : Rdy (b.learn one).l (b.whole + 1) 1 0 := by
          have ok := b.learn_ok one f.ok
          refine ⟨ok.parts, ?_, ?_, by omega, by decide, by decide⟩
          · have := ok.each; rw [hl] at this ⊢; exact this
          · intro u hu
            obtain ⟨i, hi, e⟩ := List.getElem_of_mem hu
            have hi2 : i < b.l.length := by rw [← hlen]; exact hi
            have : ((b.learn one).l.map (·.h))[i]? = (b.l.map (·.h))[i]? := by rw [hmh]
            rw [List.getElem?_eq_getElem (by simpa using hi), List.getElem?_eq_getElem (by simpa using hi2), List.getElem_map, List.getElem_map] at this
            injection this with this
            rw [← e, this]
            exact f.hu _ (List.getElem_mem hi2)
        have hke : ∀ u ∈ b.each one, EndK u.p.kind := map_p_mem (each_p b one) (q := fun k => EndK k) (fun u hu => (hk u hu).2.2)
        have hok := each_ok b one f.ok
        have hrt : rightP ((b.each one).map (·.p)) = 0 := by rw [each_p]; exact f.ok.parts
        have el := each_len b one
        obtain ⟨T2, x2, K2, R2, hp2⟩ := pick4 (n := b.l.length) (fun i hi => hke _ (nth_mem (by rw [el]; exact hi)) (nth (b.each one) i) (S i) (v i) b.whole i (b.c * 2 + bn) w' rfl (right_one hrt i (by rw [el]; exact hi)) (hok _ (nth_mem (by rw [el]; exact hi))) (by have := f.wh; omega) (hp1 i hi))
        refine (end_go bx' _ S fam knw T2 x2 K2 R2 ((b.c * 2 + bn) % 256) (fun i hi => (hp2 i hi).1) (fun i hi => (hp2 i hi).2.1) (fun i hi w' pw => (hp2 i hi).2.2.1 w' pw) (fun i hi w' knw pw => (hp2 i hi).2.2.2 w' knw pw) hp1).mono ?_
        rintro e w2 ⟨rfl, b2, hq2, bx2⟩
        have hq2 : ∀ i, i < b.l.length → UnAt w2 (S i) (v i) ((nth (b.each one) i).whole (b.c * 2 + bn) b.whole) (b.whole + 1) := hq2
        have b2' : But F w' w2 := b2.mono fun a ha => .inl (by rcases ha with ha | rfl; exact allF a ha; exact f1)
        have n0 : ¬ (All b.l.length S 0 ∨ 0 = g) := fun h => by
          rcases h with h | h
          · exact fam.off_all.2.2.2.2 h
          · exact bx.ne.2.2.2.2.2.2.1 h.symm
        have hun : ∀ i, i < b.l.length → UnAt w2 (S i) (v i) (nth (b.learn one).l i) (b.whole + 1) := fun i hi => by
          have e1 : nth (b.learn one).l i = (nth (b.each one) i).whole (b.c * 2 + bn) b.whole := by
            rw [hl, nth_at _ _ (by rw [List.length_map, el]; exact hi), nth_at _ _ (by rw [el]; exact hi)]
            simp
          rw [e1]
          exact hq2 i hi
        refine ⟨rfl, ?_⟩
        rw [← hlen, ← hmh] at bx2
        refine (bl_ask bx2 (knw.but b2 n0) S hfit hrng (fun i hi => hun i (by rw [← hlen]; exact hi)) (fun i hi e => (h2 i (by rw [← hlen]; exact hi) _ e).2.2.2.1 rfl) (fun u hu => ((hk.learn one) u hu).1)).mono ?_
        rintro e w3 ⟨rfl, b3, bx3⟩
        have b3' : But F w2 w3 := b3.mono fun a ha => .inl (by rw [ha]; exact f4)
        refine ⟨rfl, ⟨pa, ct, le, cap, v, S, ?_, ?_, ?_, ?_, f1, f2, f3, f4, ?_⟩, (bt'.trans b2').trans b3'⟩
        · have e1 : (b.learn one).leans = leansGo 1 0 (b.learn one).l [] := by rw [hl]; rfl
          have e2 : (b.learn one).c = 1 := by rw [hl]
          rw [e1, e2]
          exact bx3
        · intro i hi
          have e3 : (b.learn one).whole = b.whole + 1 := by rw [hl]
          rw [e3]
          exact (hun i (by rw [← hlen]; exact hi)).on b3 (fun a ha e => (h2 i (by rw [← hlen]; exact hi) a ha).2.2.2.1 e)
        · rw [hlen]; exact h1
        · rw [hlen]; exact h2
        · rw [hlen]; exact f5
      · rw [if_neg (by omega)]
        have hl : b.learn one = { l := b.each one, c := b.c * 2 + bn, bits := b.bits + 1, whole := b.whole } := by
          unfold Bl.learn
          rw [if_neg e7, hbn]
        have ok := b.learn_ok one f.ok
        have hfit : Rdy (b.learn one).l b.whole (b.c * 2 + bn) (b.bits + 1) := by
          refine ⟨ok.parts, ?_, ?_, by omega, ?_, ?_⟩
          · have := ok.each; rw [hl] at this ⊢; exact this
          · intro u hu
            obtain ⟨i, hi, e⟩ := List.getElem_of_mem hu
            have hi2 : i < b.l.length := by rw [← hlen]; exact hi
            have : ((b.learn one).l.map (·.h))[i]? = (b.l.map (·.h))[i]? := by rw [hmh]
            rw [List.getElem?_eq_getElem (by simpa using hi), List.getElem?_eq_getElem (by simpa using hi2), List.getElem_map, List.getElem_map] at this
            injection this with this
            rw [← e, this]
            exact f.hu _ (List.getElem_mem hi2)
          · have := ok.c.1; rw [hl] at this; exact this
          · have := ok.c.2; rw [hl] at this; exact this
        have hun : ∀ i, i < b.l.length → UnAt w' (S i) (v i) (nth (b.learn one).l i) b.whole := fun i hi => by
          rw [hl]
          exact hp1 i hi
        rw [← hlen, ← hmh] at bx'
        refine (bl_ask bx' knw S hfit hrng (fun i hi => hun i (by rw [← hlen]; exact hi)) (fun i hi e => (h2 i (by rw [← hlen]; exact hi) _ e).2.2.2.1 rfl) (fun u hu => ((hk.learn one) u hu).1)).mono ?_
        rintro e w3 ⟨rfl, b3, bx3⟩
        have b3' : But F w' w3 := b3.mono fun a ha => .inl (by rw [ha]; exact f4)
        refine ⟨rfl, ⟨pa, ct, le, cap, v, S, ?_, ?_, ?_, ?_, f1, f2, f3, f4, ?_⟩, bt'.trans b3'⟩
        · have e1 : (b.learn one).leans = leansGo (b.c * 2 + bn) (b.bits + 1) (b.learn one).l [] := by rw [hl]; rfl
          have e2 : (b.learn one).c = b.c * 2 + bn := by rw [hl]
          rw [e1, e2]
          exact bx3
        · intro i hi
          have e3 : (b.learn one).whole = b.whole := by rw [hl]
          rw [e3]
          exact (hun i (by rw [← hlen]; exact hi)).on b3 (fun a ha e => (h2 i (by rw [← hlen]; exact hi) a ha).2.2.2.1 e)
        · rw [hlen]; exact h1
        · rw [hlen]; exact h2
        · rw [hlen]; exact f5
  · rintro e w' ⟨rfl, hq⟩
    exact ⟨rfl, hq⟩
end Go.Proofs.YtkfdbibgjoaefaaGreatDoor
/-
  A blend, and two blends side by side: what each call says, and what it leaves as it was.
-/
namespace Go.Proofs.YtkfdbibgjoaefaaGreatDoor
open Go.RowKit

theorem lastD_getD (L : List Int) : L.getLastD 0 = L.getD (L.length - 1) 0 := by
  rw [List.getD_eq_getElem?_getD, ← List.getLast?_eq_getElem?, List.getLastD_eq_getLast?]
theorem bl_guess {w : World} {F : Nat → Prop} {g : Nat} {b : Bl} (h : BlAt w F g b) (f : Fit b) (kn : KnIs w) : Calls Tryz.prog 10 #[pt g] w fun e w' => e = .returned (.int .i64 b.guess) ∧ Below w.heap.size w w' := by
  obtain ⟨pa, ct, le, cap, v, S, bx, _⟩ := h.ex
  have e : b.guess = 16 * sq (b.leans.getD (b.l.length - 1) 0) := by
    unfold Bl.guess
    rw [lastD_getD, b.leans_len]
  rw [e]
  exact Guess_any bx kn (lean_in f.rdy.rng _)
theorem bl_bits {w : World} {F : Nat → Prop} {g : Nat} {b : Bl} (h : BlAt w F g b) (f : Fit b) : Calls Tryz.prog 21 #[pt g] w fun e w' => e = .returned (.int .i64 (b.bits : Nat)) ∧ w = w' := by
  obtain ⟨pa, ct, le, cap, v, S, bx, _⟩ := h.ex
  have h7 := f.ok.bits
  have hc := f.ok.c
  have := Nat.pow_le_pow_right (n := 2) (by decide) (show b.bits + 1 ≤ 8 from by omega)
  exact Bits_any bx (by omega) b.bits (by omega) hc.1 hc.2
theorem bl_learn_bad {w : World} {F : Nat → Prop} {g : Nat} {b : Bl} (h : BlAt w F g b) (bit : Int) (h0 : ¬ bit = 0) (h1 : ¬ bit = 1) : Calls Tryz.prog 15 #[pt g, .int .i64 bit] w fun e w' => e = .returned (.int .i64 2) ∧ w = w' := by
  obtain ⟨pa, ct, le, cap, v, S, bx, _⟩ := h.ex
  exact Learn_bad bx bit h0 h1
theorem bl_ctx_bad {w : World} {F : Nat → Prop} {g : Nat} {b : Bl} (h : BlAt w F g b) (hc : b.c ≠ 1) (H : Value) : Calls Tryz.prog 12 #[pt g, H] w fun e w' => e = .returned (.int .i64 2) ∧ w = w' := by
  obtain ⟨pa, ct, le, cap, v, S, bx, _⟩ := h.ex
  exact Contexts_bad bx hc H
/-- One blend. -/
structure On (w0 w : World) (F : Nat → Prop) (g : Nat) (b : Bl) : Prop where
  kn : KnIs w
  bel : Below w0.heap.size w0 w
  at_ : BlAt w F g b
  fit : Fit b
  can : Can b.l
  low : ∀ a, F a → w0.heap.size ≤ a
  pos : 0 < w0.heap.size
section
variable {w0 w w' : World} {F : Nat → Prop} {g : Nat} {b : Bl}
theorem On.below (h : On w0 w F g b) (x : Below w.heap.size w w') : On w0 w' F g b := ⟨h.kn.below x, h.bel.trans (x.mono h.bel.size), h.at_.below x, h.fit, h.can, h.low, h.pos⟩
theorem On.guess (h : On w0 w F g b) : Calls Tryz.prog 10 #[pt g] w fun e w' => e = .returned (.int .i64 b.guess) ∧ On w0 w' F g b := by
  refine (bl_guess h.at_ h.fit h.kn).mono ?_
  rintro e w' ⟨rfl, x⟩
  exact ⟨rfl, h.below x⟩
theorem On.learn (h : On w0 w F g b) (one : Bool) (hw : b.whole < 4294967294) : Calls Tryz.prog 15 #[pt g, .int .i64 (if one then 1 else 0)] w fun e w' => e = .returned (.int .i64 0) ∧ On w0 w' F g (b.learn one) := by
  refine (bl_learn h.at_ h.fit h.kn h.can one).mono ?_
  rintro e w' ⟨rfl, a, x⟩
  exact ⟨rfl, h.kn.but x (fun e => by have := h.low _ e; have := h.pos; omega), h.bel.trans (x.below h.low h.bel.size), a, h.fit.learn one hw, h.can.learn one, h.low, h.pos⟩
end
/-- Two blends side by side. -/
structure Sd (w0 w : World) (F1 F2 : Nat → Prop) (g1 g2 : Nat) (b c : Bl) : Prop where
  one : On w0 w F1 g1 b
  two : On w0 w F2 g2 c
  apart : ∀ a, F1 a → ¬ F2 a
section
variable {w0 w w' : World} {F1 F2 : Nat → Prop} {g1 g2 : Nat} {b c : Bl}
theorem Sd.below (h : Sd w0 w F1 F2 g1 g2 b c) (x : Below w.heap.size w w') : Sd w0 w' F1 F2 g1 g2 b c := ⟨h.one.below x, h.two.below x, h.apart⟩
theorem Sd.swap (h : Sd w0 w F1 F2 g1 g2 b c) : Sd w0 w F2 F1 g2 g1 c b := ⟨h.two, h.one, fun a h2 h1 => h.apart a h1 h2⟩
theorem Sd.guess (h : Sd w0 w F1 F2 g1 g2 b c) : Calls Tryz.prog 10 #[pt g1] w fun e w' => e = .returned (.int .i64 b.guess) ∧ Sd w0 w' F1 F2 g1 g2 b c := by
  refine (bl_guess h.one.at_ h.one.fit h.one.kn).mono ?_
  rintro e w' ⟨rfl, x⟩
  exact ⟨rfl, h.below x⟩
theorem Sd.guess2 (h : Sd w0 w F1 F2 g1 g2 b c) : Calls Tryz.prog 10 #[pt g2] w fun e w' => e = .returned (.int .i64 c.guess) ∧ Sd w0 w' F1 F2 g1 g2 b c := by
  refine h.swap.guess.mono ?_
  rintro e w' ⟨rfl, x⟩
  exact ⟨rfl, x.swap⟩
theorem Sd.learn (h : Sd w0 w F1 F2 g1 g2 b c) (one : Bool) (hw : b.whole < 4294967294) : Calls Tryz.prog 15 #[pt g1, .int .i64 (if one then 1 else 0)] w fun e w' => e = .returned (.int .i64 0) ∧ Sd w0 w' F1 F2 g1 g2 (b.learn one) c := by
  refine (bl_learn h.one.at_ h.one.fit h.one.kn h.one.can one).mono ?_
  rintro e w' ⟨rfl, a, x⟩
  have z : ¬ F1 0 := fun e => by have := h.one.low _ e; have := h.one.pos; omega
  exact ⟨rfl, ⟨h.one.kn.but x z, h.one.bel.trans (x.below h.one.low h.one.bel.size), a, h.one.fit.learn one hw, h.one.can.learn one, h.one.low, h.one.pos⟩,
    ⟨h.one.kn.but x z, h.one.bel.trans (x.below h.one.low h.one.bel.size), h.two.at_.on x (fun a h2 h1 => h.apart a h1 h2), h.two.fit, h.two.can, h.two.low, h.two.pos⟩, h.apart⟩
theorem Sd.learn2 (h : Sd w0 w F1 F2 g1 g2 b c) (one : Bool) (hw : c.whole < 4294967294) : Calls Tryz.prog 15 #[pt g2, .int .i64 (if one then 1 else 0)] w fun e w' => e = .returned (.int .i64 0) ∧ Sd w0 w' F1 F2 g1 g2 b (c.learn one) := by
  refine (h.swap.learn one hw).mono ?_
  rintro e w' ⟨rfl, x⟩
  exact ⟨rfl, x.swap⟩
end
end Go.Proofs.YtkfdbibgjoaefaaGreatDoor
