/-
  lay: tables as they begin.
-/
import Derived.Test.YtkfdbibgjoaefaaDoorZc
import Derived.Laws.MakeOwn
import Derived.Laws.Rows
import Derived.Deep.RegionHeld3
import Derived.Deep.DeepMust
namespace Go.Proofs.YtkfdbibgjoaefaaDoor
open Go.RowKit

theorem made_fL (z : Array Value) (n : Nat) (F : Nat → Value) (h : ∀ k, k < n → z[k % z.size]! = F k) : madeCells z n = (fL n F).toArray := by
  unfold madeCells fL
  apply Array.ext'
  simp only [Array.toList_map, Array.toList_range]
  exact List.map_congr_left fun k hk => h k (List.mem_range.1 hk)
theorem shl_nat (wide s : Nat) (_h : s ≤ 16) : (wide : Int) * 2 ^ s = ((wide * 2 ^ s : Nat) : Int) := by
  rw [Int.natCast_mul, Int.natCast_pow]
  rfl
theorem heap_of_cell (w : World) (o : Obj) : (w.alloc o).heap[w.heap.size]? = some o := heap_alloc_new w o
theorem Tryd.info3' : (Tryd.prog.info? 3).map (fun i => (i.zero, i.size, i.bytes)) = some (some (.int .i64 0), 1, 8) := by kernel_rfl
theorem Tryd.info5' : (Tryd.prog.info? 5).map (fun i => (i.zero, i.size, i.bytes)) = some (some (.int .u8 0), 1, 1) := by kernel_rfl
theorem Tryd.info82' : (Tryd.prog.info? 82).map (fun i => (i.zero, i.size, i.bytes)) = some (some (.agg #[.int .i32 0, .int .i32 0]), 2, 8) := by kernel_rfl
theorem Tryd.info26' : (Tryd.prog.info? 26).map (fun i => (i.zero, i.size, i.bytes)) = some (some (.int .u32 0), 1, 4) := by kernel_rfl
theorem make_row (t e : TypeId) (z : Value) (sz bytes : Nat) (ht : Tryd.prog.underlying t = some (.slice e)) (hinfo : (Tryd.prog.info? e).map (fun i => (i.zero, i.size, i.bytes)) = some (some z, sz, bytes)) (F : Nat → Value) (hz : ∀ k, z.cells[k % z.cells.size]! = F k)
    (n : Nat) (hbytes : bytes * n ≤ 281474976710656) (h63 : n ≤ 9223372036854775807) (w : World) :
    (Instr.makeSlice t (.int .i64 (n : Int)) (.int .i64 (n : Int))).run Tryd.prog w = .ok (.slice (some ⟨w.heap.size, 0, none⟩) n n) (w.alloc (.cells (fL (n * sz) F).toArray e)) := by
  obtain ⟨i, hi, hzz⟩ := Option.map_eq_some_iff.1 hinfo
  simp only [Prod.mk.injEq] at hzz
  obtain ⟨h1, h2, h3⟩ := hzz
  have hb' : (i.bytes : Int) * (n : Int) ≤ 281474976710656 := by
    have h : ((i.bytes * n : Nat) : Int) ≤ 281474976710656 := by rw [h3]; omega
    rwa [Int.natCast_mul] at h
  have hr := run_make (P := Tryd.prog) (w := w) t e i z ht hi h1 .i64 .i64 n n (by omega) (Int.le_refl _) hb' (by omega)
  simp only [Int.toNat_natCast, h2] at hr
  rw [made_fL z.cells _ F (fun k _ => hz k)] at hr
  exact hr
theorem alloc3 (w : World) (a b c : Obj) : (((w.alloc a).alloc b).alloc c).heap[w.heap.size]? = some a ∧ (((w.alloc a).alloc b).alloc c).heap[w.heap.size + 1]? = some b ∧ (((w.alloc a).alloc b).alloc c).heap[w.heap.size + 1 + 1]? = some c ∧ Below w.heap.size w (((w.alloc a).alloc b).alloc c) := by
  have e : (w.alloc a).heap.size = w.heap.size + 1 := by simp
  have e2 : ((w.alloc a).alloc b).heap.size = w.heap.size + 1 + 1 := by simp
  refine ⟨?_, ?_, ?_, (((Below.refl _ _).alloc (Nat.le_refl _) a).alloc (by omega) b).alloc (by omega) c⟩
  · rw [(heap_alloc_old _ c (by omega)).trans (heap_alloc_old _ b (by omega))]; exact heap_alloc_new w a
  · rw [heap_alloc_old _ c (by omega), ← e]; exact heap_alloc_new _ b
  · rw [← e2]; exact heap_alloc_new _ c
set_option maxRecDepth 10000 in
set_option maxHeartbeats 2000000 in
theorem lay_i (s wide : Nat) (K : FuncId) (cv : Value) (f : Nat → Int) (hs : s ≤ 16) (hw : 1 ≤ wide ∧ wide ≤ 32) (w : World) (he : ∀ a w, (callFunc K a).run Tryd.prog w = .ok (.enter K a) w)
    (hf : ∀ j, j < wide → ∀ w', Below w.heap.size w w' → Calls Tryd.prog K #[.int .i64 (j : Nat), cv] w' fun e w'' => e = .returned (.int .i64 (f j)) ∧ Below w'.heap.size w' w'') :
    Calls Tryd.prog 34 #[.int .i64 (s : Nat), .int .i64 (wide : Nat), .func (.func K) #[] #[cv]] w fun e w' => ∃ d, e = .returned (.agg #[.int .i64 (s : Nat), .int .i64 (wide : Nat), sl d (wide * 2 ^ s)]) ∧ w.heap.size ≤ d ∧
      Ro w' d 3 (wide * 2 ^ s) (fun k => .int .i64 (f (k % wide))) ∧ Below w.heap.size w w' := by
  have hp := Nat.pow_le_pow_right (n := 2) (by decide) hs
  have hn1 : wide * 2 ^ s ≤ 32 * 65536 := Nat.mul_le_mul hw.2 (by simpa using hp)
  have e1 := shl_nat wide s hs
  obtain ⟨n, hn⟩ : ∃ n, wide * 2 ^ s = n := ⟨_, rfl⟩
  rw [hn] at hn1 e1 ⊢
  have n0 : (n : Int) ≤ 2097152 := by omega
  have s0 : (s : Int) ≤ 16 := by omega
  have hmk := fun w => make_row 25 3 _ 1 _ Tryd.underlying25 Tryd.info3' (fun _ => .int .i64 0) (by intro k; simp [Value.cells, Nat.mod_one]) n (by omega) (by omega) w
  clear hn hp
  unfold sl
  go_enter Tryd.func34, Tryd.ntmps34
  go_wp2_with fail
  obtain ⟨W, hW⟩ : ∃ W, W = (((w.alloc (Obj.cells #[Value.int IntKind.i64 0, Value.int IntKind.i64 0, Value.slice none 0 0] 91)).alloc (Obj.cells (fL n fun _ => .int .i64 0).toArray 3)).alloc (Obj.cells #[Value.int IntKind.i64 s, Value.int IntKind.i64 wide, Value.slice (some ⟨w.heap.size + 1, 0, none⟩) n n] 91)) := ⟨_, rfl⟩
  rw [← hW]
  obtain ⟨q1, q2, q3, q4⟩ := alloc3 w (Obj.cells #[Value.int IntKind.i64 0, Value.int IntKind.i64 0, Value.slice none 0 0] 91) (Obj.cells (fL n fun _ => .int .i64 0).toArray 3) (Obj.cells #[Value.int IntKind.i64 s, Value.int IntKind.i64 wide, Value.slice (some ⟨w.heap.size + 1, 0, none⟩) n n] 91)
  rw [← hW] at q1 q2 q3 q4
  clear hW hmk
  skip
  obtain ⟨D, hD⟩ : ∃ D, w.heap.size + 1 = D := ⟨_, rfl⟩
  obtain ⟨X, hX⟩ : ∃ X, w.heap.size + 1 + 1 = X := ⟨_, rfl⟩
  rw [hX] at q3
  rw [hD] at q2 q3
  rw [hX, hD]
  have d1 : w.heap.size ≤ D := by omega
  have d2 : ¬ X = D := by omega
  have d3 : ¬ w.heap.size = D := by omega
  have d4 : ¬ D = w.heap.size := by omega
  have d5 : ¬ D = X := by omega
  have d6 : ¬ X = w.heap.size := by omega
  have d7 : ¬ w.heap.size = X := by omega
  clear hX hD
  have w0 : 0 < wide := hw.1
  go_loopw [19] (fun vi wr => ∃ i : Nat, i ≤ n ∧ vi = .int .i64 i ∧ Below w.heap.size w wr ∧ Ro wr D 3 n (fun k => if k < i then .int .i64 (f (k % wide)) else .int .i64 0) ∧ wr.heap[w.heap.size]? = some (.cells #[.int .i64 0, .int .i64 0, .slice none 0 0] 91 (0, 0)) ∧ wr.heap[X]? = some (.cells #[.int .i64 s, .int .i64 wide, .slice (some ⟨D, 0, none⟩) n n] 91 (0, 0))) (fun vi _ => n - (intOf vi).toNat)
  case atStart => exact ⟨0, Nat.zero_le _, rfl, q4, Ro.same q2 (fun k _ => by rw [if_neg (by omega)]), q1, q3⟩
  case round =>
    obtain ⟨i, hi, rfl, hb, hr, h1, h3⟩ := hrel
    clear q1 q2 q3 q4
    by_cases hgo : i < n
    · have hz : (i : Int) < (n : Int) := by omega
      have x0 : wr.cell? ⟨X, 2, none⟩ = some (.slice (some ⟨D, 0, none⟩) n n) := row_cell h3 2
      obtain ⟨m, hm⟩ : ∃ m, i % wide = m := ⟨_, rfl⟩
      have zz : (i : Int) % (wide : Int) = (m : Int) := by rw [← hm]; omega
      have zt : Int.tmod (i : Int) (wide : Int) = (m : Int) := by rw [Int.tmod_eq_emod_of_nonneg (by omega)]; exact zz
      have wn : ¬ (wide : Int) = 0 := by omega
      have wn' : ¬ wide = 0 := by omega
      have HF := hid (fun w' (k : Below wr.heap.size wr w') => hf m (by rw [← hm]; exact Nat.mod_lt _ w0) w' (hb.trans (k.mono hb.size)))
      have HB := hid hb
      have HR := hid hr
      have H1 := hid h1
      have H3 := hid h3
      have HM := hid hm
      clear hf hb hr h1 h3 e1 hm
      go_wp2_with fail
      go_region_held3 (fun w' => w'.cell? ⟨X, 2, none⟩ = some (.slice (some ⟨D, 0, none⟩) n n))
        (first | exact x0 | exact k0 | go_keep)
        (first
        | ((refine (HF.out _ (Below.drewN _ _ 1)).mono ?_); rintro r w1 ⟨rfl, b1⟩; have k0 := keeps b1 x0; have b1' := hid (show Below wr.heap.size wr w1 from undrew b1); have R1 := hid (HR.out.below b1'.out); have f1 := R1.out.free i; have l1 := R1.out.cell i hgo))
      all_goals
        go_wp2_with fail
        have x2 := (But.of_below (S := (· = D)) (b1'.out)).set ⟨D, i, none⟩ (.int .i64 (f m)) (.inl rfl)
        skip
        go_roundw
        case rel => exact ⟨i + 1, by omega, by go_num, HB.out.trans (x2.below (fun k e => by rw [e]; exact d1) HB.out.size), (R1.out.set i _).same (fun k _ => by
          have hm := HM.out
          by_cases e : k = i
          · subst e; rw [if_pos rfl, if_pos (by omega), hm]
          · rw [if_neg e]
            by_cases e2 : k < i
            · rw [if_pos e2, if_pos (by omega)]
            · rw [if_neg e2, if_neg (by omega)]), x2.heap H1.out d3, x2.heap H3.out d2⟩
        case measure => simp [intOf]; omega
    · obtain rfl : i = n := by omega
      have HB := hid hb
      have HR := hid hr
      have x0 : wr.cell? ⟨X, 0, none⟩ = some (.int .i64 s) := row_cell h3 0
      have x1 : wr.cell? ⟨X, 1, none⟩ = some (.int .i64 wide) := row_cell h3 1
      have x2 : wr.cell? ⟨X, 2, none⟩ = some (.slice (some ⟨D, 0, none⟩) i i) := row_cell h3 2
      have y0 : wr.cell? ⟨w.heap.size, 0, none⟩ = some (.int .i64 0) := row_cell h1 0
      have y1 : wr.cell? ⟨w.heap.size, 1, none⟩ = some (.int .i64 0) := row_cell h1 1
      have y2 : wr.cell? ⟨w.heap.size, 2, none⟩ = some (.slice none 0 0) := row_cell h1 2
      have g0 : wr.frozen? ⟨w.heap.size, 0, none⟩ = false := row_free h1 0
      have g1 : wr.frozen? ⟨w.heap.size, 1, none⟩ = false := row_free h1 1
      have g2 : wr.frozen? ⟨w.heap.size, 2, none⟩ = false := row_free h1 2
      have H1 := hid h1
      have x3 := (((But.refl (· = w.heap.size) wr).set ⟨w.heap.size, 0, none⟩ (.int .i64 s) (.inl rfl)).set ⟨w.heap.size, 1, none⟩ (.int .i64 wide) (.inl rfl)).set ⟨w.heap.size, 2, none⟩ (.slice (some ⟨D, 0, none⟩) i i) (.inl rfl)
      have X3 := hid x3
      clear hf hb hr h1 h3 e1 x3
      go_wp2_with fail
      refine bodyPost_ret (results_cell_row (by kernel_rfl : Tryd.f34.results = #[.cell 6 91]) _ _ w.heap.size 91 #[.int .i64 s, .int .i64 wide, .slice (some ⟨D, 0, none⟩) i i] (0, 0) _ rfl (row_set (row_set (row_set H1.out 0 _) 1 _) 2 _) Tryd.underlying91 rfl rfl) rfl ⟨D, rfl, d1, ?_, ?_⟩
      · exact (HR.out.on X3.out d4).same (fun k hk => by
          rw [if_pos hk])
      · exact HB.out.trans (X3.out.below (fun k e => by rw [e]; exact Nat.le_refl _) HB.out.size)
set_option maxRecDepth 10000 in
set_option maxHeartbeats 2000000 in
theorem lay_b (s wide : Nat) (K : FuncId) (cv : Value) (f : Nat → Nat) (hs : s ≤ 16) (hw : 1 ≤ wide ∧ wide ≤ 32) (w : World) (he : ∀ a w, (callFunc K a).run Tryd.prog w = .ok (.enter K a) w)
    (hf : ∀ j, j < wide → ∀ w', Below w.heap.size w w' → Calls Tryd.prog K #[.int .i64 (j : Nat), cv] w' fun e w'' => e = .returned (.int .u8 (f j : Nat)) ∧ Below w'.heap.size w' w'') :
    Calls Tryd.prog 40 #[.int .i64 (s : Nat), .int .i64 (wide : Nat), .func (.func K) #[] #[cv]] w fun e w' => ∃ d, e = .returned (.agg #[.int .i64 (s : Nat), .int .i64 (wide : Nat), sl d (wide * 2 ^ s)]) ∧ w.heap.size ≤ d ∧
      Ro w' d 5 (wide * 2 ^ s) (fun k => .int .u8 (f (k % wide) : Nat)) ∧ Below w.heap.size w w' := by
  have hp := Nat.pow_le_pow_right (n := 2) (by decide) hs
  have hn1 : wide * 2 ^ s ≤ 32 * 65536 := Nat.mul_le_mul hw.2 (by simpa using hp)
  have e1 := shl_nat wide s hs
  obtain ⟨n, hn⟩ : ∃ n, wide * 2 ^ s = n := ⟨_, rfl⟩
  rw [hn] at hn1 e1 ⊢
  have n0 : (n : Int) ≤ 2097152 := by omega
  have s0 : (s : Int) ≤ 16 := by omega
  have hmk := fun w => make_row 89 5 _ 1 _ Tryd.underlying89 Tryd.info5' (fun _ => .int .u8 0) (by intro k; simp [Value.cells, Nat.mod_one]) n (by omega) (by omega) w
  clear hn hp
  unfold sl
  go_enter Tryd.func40, Tryd.ntmps40
  go_wp2_with fail
  obtain ⟨W, hW⟩ : ∃ W, W = (((w.alloc (Obj.cells #[Value.int IntKind.i64 0, Value.int IntKind.i64 0, Value.slice none 0 0] 112)).alloc (Obj.cells (fL n fun _ => .int .u8 0).toArray 5)).alloc (Obj.cells #[Value.int IntKind.i64 s, Value.int IntKind.i64 wide, Value.slice (some ⟨w.heap.size + 1, 0, none⟩) n n] 112)) := ⟨_, rfl⟩
  rw [← hW]
  obtain ⟨q1, q2, q3, q4⟩ := alloc3 w (Obj.cells #[Value.int IntKind.i64 0, Value.int IntKind.i64 0, Value.slice none 0 0] 112) (Obj.cells (fL n fun _ => .int .u8 0).toArray 5) (Obj.cells #[Value.int IntKind.i64 s, Value.int IntKind.i64 wide, Value.slice (some ⟨w.heap.size + 1, 0, none⟩) n n] 112)
  rw [← hW] at q1 q2 q3 q4
  clear hW hmk
  skip
  obtain ⟨D, hD⟩ : ∃ D, w.heap.size + 1 = D := ⟨_, rfl⟩
  obtain ⟨X, hX⟩ : ∃ X, w.heap.size + 1 + 1 = X := ⟨_, rfl⟩
  rw [hX] at q3
  rw [hD] at q2 q3
  rw [hX, hD]
  have d1 : w.heap.size ≤ D := by omega
  have d2 : ¬ X = D := by omega
  have d3 : ¬ w.heap.size = D := by omega
  have d4 : ¬ D = w.heap.size := by omega
  have d5 : ¬ D = X := by omega
  have d6 : ¬ X = w.heap.size := by omega
  have d7 : ¬ w.heap.size = X := by omega
  clear hX hD
  have w0 : 0 < wide := hw.1
  go_loopw [19] (fun vi wr => ∃ i : Nat, i ≤ n ∧ vi = .int .i64 i ∧ Below w.heap.size w wr ∧ Ro wr D 5 n (fun k => if k < i then .int .u8 (f (k % wide) : Nat) else .int .u8 0) ∧ wr.heap[w.heap.size]? = some (.cells #[.int .i64 0, .int .i64 0, .slice none 0 0] 112 (0, 0)) ∧ wr.heap[X]? = some (.cells #[.int .i64 s, .int .i64 wide, .slice (some ⟨D, 0, none⟩) n n] 112 (0, 0))) (fun vi _ => n - (intOf vi).toNat)
  case atStart => exact ⟨0, Nat.zero_le _, rfl, q4, Ro.same q2 (fun k _ => by rw [if_neg (by omega)]), q1, q3⟩
  case round =>
    obtain ⟨i, hi, rfl, hb, hr, h1, h3⟩ := hrel
    clear q1 q2 q3 q4
    by_cases hgo : i < n
    · have hz : (i : Int) < (n : Int) := by omega
      have x0 : wr.cell? ⟨X, 2, none⟩ = some (.slice (some ⟨D, 0, none⟩) n n) := row_cell h3 2
      obtain ⟨m, hm⟩ : ∃ m, i % wide = m := ⟨_, rfl⟩
      have zz : (i : Int) % (wide : Int) = (m : Int) := by rw [← hm]; omega
      have zt : Int.tmod (i : Int) (wide : Int) = (m : Int) := by rw [Int.tmod_eq_emod_of_nonneg (by omega)]; exact zz
      have wn : ¬ (wide : Int) = 0 := by omega
      have wn' : ¬ wide = 0 := by omega
      have HF := hid (fun w' (k : Below wr.heap.size wr w') => hf m (by rw [← hm]; exact Nat.mod_lt _ w0) w' (hb.trans (k.mono hb.size)))
      have HB := hid hb
      have HR := hid hr
      have H1 := hid h1
      have H3 := hid h3
      have HM := hid hm
      clear hf hb hr h1 h3 e1 hm
      go_wp2_with fail
      go_region_held3 (fun w' => w'.cell? ⟨X, 2, none⟩ = some (.slice (some ⟨D, 0, none⟩) n n))
        (first | exact x0 | exact k0 | go_keep)
        (first
        | ((refine (HF.out _ (Below.drewN _ _ 1)).mono ?_); rintro r w1 ⟨rfl, b1⟩; have k0 := keeps b1 x0; have b1' := hid (show Below wr.heap.size wr w1 from undrew b1); have R1 := hid (HR.out.below b1'.out); have f1 := R1.out.free i; have l1 := R1.out.cell i hgo))
      all_goals
        go_wp2_with fail
        have x2 := (But.of_below (S := (· = D)) (b1'.out)).set ⟨D, i, none⟩ (.int .u8 (f m : Nat)) (.inl rfl)
        skip
        go_roundw
        case rel => exact ⟨i + 1, by omega, by go_num, HB.out.trans (x2.below (fun k e => by rw [e]; exact d1) HB.out.size), (R1.out.set i _).same (fun k _ => by
          have hm := HM.out
          by_cases e : k = i
          · subst e; rw [if_pos rfl, if_pos (by omega), hm]
          · rw [if_neg e]
            by_cases e2 : k < i
            · rw [if_pos e2, if_pos (by omega)]
            · rw [if_neg e2, if_neg (by omega)]), x2.heap H1.out d3, x2.heap H3.out d2⟩
        case measure => simp [intOf]; omega
    · obtain rfl : i = n := by omega
      have HB := hid hb
      have HR := hid hr
      have x0 : wr.cell? ⟨X, 0, none⟩ = some (.int .i64 s) := row_cell h3 0
      have x1 : wr.cell? ⟨X, 1, none⟩ = some (.int .i64 wide) := row_cell h3 1
      have x2 : wr.cell? ⟨X, 2, none⟩ = some (.slice (some ⟨D, 0, none⟩) i i) := row_cell h3 2
      have y0 : wr.cell? ⟨w.heap.size, 0, none⟩ = some (.int .i64 0) := row_cell h1 0
      have y1 : wr.cell? ⟨w.heap.size, 1, none⟩ = some (.int .i64 0) := row_cell h1 1
      have y2 : wr.cell? ⟨w.heap.size, 2, none⟩ = some (.slice none 0 0) := row_cell h1 2
      have g0 : wr.frozen? ⟨w.heap.size, 0, none⟩ = false := row_free h1 0
      have g1 : wr.frozen? ⟨w.heap.size, 1, none⟩ = false := row_free h1 1
      have g2 : wr.frozen? ⟨w.heap.size, 2, none⟩ = false := row_free h1 2
      have H1 := hid h1
      have x3 := (((But.refl (· = w.heap.size) wr).set ⟨w.heap.size, 0, none⟩ (.int .i64 s) (.inl rfl)).set ⟨w.heap.size, 1, none⟩ (.int .i64 wide) (.inl rfl)).set ⟨w.heap.size, 2, none⟩ (.slice (some ⟨D, 0, none⟩) i i) (.inl rfl)
      have X3 := hid x3
      clear hf hb hr h1 h3 e1 x3
      go_wp2_with fail
      refine bodyPost_ret (results_cell_row (by kernel_rfl : Tryd.f40.results = #[.cell 6 112]) _ _ w.heap.size 112 #[.int .i64 s, .int .i64 wide, .slice (some ⟨D, 0, none⟩) i i] (0, 0) _ rfl (row_set (row_set (row_set H1.out 0 _) 1 _) 2 _) Tryd.underlying112 rfl rfl) rfl ⟨D, rfl, d1, ?_, ?_⟩
      · exact (HR.out.on X3.out d4).same (fun k hk => by
          rw [if_pos hk])
      · exact HB.out.trans (X3.out.below (fun k e => by rw [e]; exact Nat.le_refl _) HB.out.size)
set_option maxRecDepth 10000 in
set_option maxHeartbeats 2000000 in
theorem lay_o (s wide : Nat) (K : FuncId) (f : Nat → Int) (hs : s ≤ 16) (hw : 1 ≤ wide ∧ wide ≤ 32) (w : World) (he : ∀ a w, (callFunc K a).run Tryd.prog w = .ok (.enter K a) w)
    (hf : ∀ j, j < wide → ∀ w', Below w.heap.size w w' → Calls Tryd.prog K #[.int .i64 (j : Nat)] w' fun e w'' => e = .returned (.agg #[.int .i32 (f j), .int .i32 0]) ∧ Below w'.heap.size w' w'') :
    Calls Tryd.prog 31 #[.int .i64 (s : Nat), .int .i64 (wide : Nat), .func (.func K) #[] #[]] w fun e w' => ∃ d, e = .returned (.agg #[.int .i64 (s : Nat), .int .i64 (wide : Nat), sl d (wide * 2 ^ s)]) ∧ w.heap.size ≤ d ∧
      Ro w' d 82 (2 * (wide * 2 ^ s)) (fun k => if k % 2 = 0 then .int .i32 (f (k / 2 % wide)) else .int .i32 0) ∧ Below w.heap.size w w' := by
  have hp := Nat.pow_le_pow_right (n := 2) (by decide) hs
  have hn1 : wide * 2 ^ s ≤ 32 * 65536 := Nat.mul_le_mul hw.2 (by simpa using hp)
  have e1 := shl_nat wide s hs
  obtain ⟨n, hn⟩ : ∃ n, wide * 2 ^ s = n := ⟨_, rfl⟩
  rw [hn] at hn1 e1 ⊢
  have n0 : (n : Int) ≤ 2097152 := by omega
  have s0 : (s : Int) ≤ 16 := by omega
  have hmk := fun w => make_row 77 82 _ 2 _ Tryd.underlying77 Tryd.info82' (fun _ => .int .i32 0) (by intro k; rcases Nat.mod_two_eq_zero_or_one k with h | h <;> simp [Value.cells, h]) n (by omega) (by omega) w
  clear hn hp
  unfold sl
  go_enter Tryd.func31, Tryd.ntmps31
  go_wp2_with fail
  obtain ⟨W, hW⟩ : ∃ W, W = (((w.alloc (Obj.cells #[Value.int IntKind.i64 0, Value.int IntKind.i64 0, Value.slice none 0 0] 79)).alloc (Obj.cells (fL (n * 2) fun _ => .int .i32 0).toArray 82)).alloc (Obj.cells #[Value.int IntKind.i64 s, Value.int IntKind.i64 wide, Value.slice (some ⟨w.heap.size + 1, 0, none⟩) n n] 79)) := ⟨_, rfl⟩
  rw [← hW]
  obtain ⟨q1, q2, q3, q4⟩ := alloc3 w (Obj.cells #[Value.int IntKind.i64 0, Value.int IntKind.i64 0, Value.slice none 0 0] 79) (Obj.cells (fL (n * 2) fun _ => .int .i32 0).toArray 82) (Obj.cells #[Value.int IntKind.i64 s, Value.int IntKind.i64 wide, Value.slice (some ⟨w.heap.size + 1, 0, none⟩) n n] 79)
  rw [← hW] at q1 q2 q3 q4
  clear hW hmk
  rw [Nat.mul_comm n 2] at q2
  obtain ⟨D, hD⟩ : ∃ D, w.heap.size + 1 = D := ⟨_, rfl⟩
  obtain ⟨X, hX⟩ : ∃ X, w.heap.size + 1 + 1 = X := ⟨_, rfl⟩
  rw [hX] at q3
  rw [hD] at q2 q3
  rw [hX, hD]
  have d1 : w.heap.size ≤ D := by omega
  have d2 : ¬ X = D := by omega
  have d3 : ¬ w.heap.size = D := by omega
  have d4 : ¬ D = w.heap.size := by omega
  have d5 : ¬ D = X := by omega
  have d6 : ¬ X = w.heap.size := by omega
  have d7 : ¬ w.heap.size = X := by omega
  clear hX hD
  have w0 : 0 < wide := hw.1
  go_loopw [19] (fun vi wr => ∃ i : Nat, i ≤ n ∧ vi = .int .i64 i ∧ Below w.heap.size w wr ∧ Ro wr D 82 (2 * n) (fun k => if k % 2 = 0 ∧ k < 2 * i then .int .i32 (f (k / 2 % wide)) else .int .i32 0) ∧ wr.heap[w.heap.size]? = some (.cells #[.int .i64 0, .int .i64 0, .slice none 0 0] 79 (0, 0)) ∧ wr.heap[X]? = some (.cells #[.int .i64 s, .int .i64 wide, .slice (some ⟨D, 0, none⟩) n n] 79 (0, 0))) (fun vi _ => n - (intOf vi).toNat)
  case atStart => exact ⟨0, Nat.zero_le _, rfl, q4, Ro.same q2 (fun k _ => by rw [if_neg (by omega)]), q1, q3⟩
  case round =>
    obtain ⟨i, hi, rfl, hb, hr, h1, h3⟩ := hrel
    clear q1 q2 q3 q4
    by_cases hgo : i < n
    · have hz : (i : Int) < (n : Int) := by omega
      have x0 : wr.cell? ⟨X, 2, none⟩ = some (.slice (some ⟨D, 0, none⟩) n n) := row_cell h3 2
      obtain ⟨m, hm⟩ : ∃ m, i % wide = m := ⟨_, rfl⟩
      have zz : (i : Int) % (wide : Int) = (m : Int) := by rw [← hm]; omega
      have zt : Int.tmod (i : Int) (wide : Int) = (m : Int) := by rw [Int.tmod_eq_emod_of_nonneg (by omega)]; exact zz
      have wn : ¬ (wide : Int) = 0 := by omega
      have wn' : ¬ wide = 0 := by omega
      have HF := hid (fun w' (k : Below wr.heap.size wr w') => hf m (by rw [← hm]; exact Nat.mod_lt _ w0) w' (hb.trans (k.mono hb.size)))
      have HB := hid hb
      have HR := hid hr
      have H1 := hid h1
      have H3 := hid h3
      have HM := hid hm
      clear hf hb hr h1 h3 e1 hm
      go_wp2_with fail
      go_region_held3 (fun w' => w'.cell? ⟨X, 2, none⟩ = some (.slice (some ⟨D, 0, none⟩) n n))
        (first | exact x0 | exact k0 | go_keep)
        (first
        | ((refine (HF.out _ (Below.drewN _ _ 1)).mono ?_); rintro r w1 ⟨rfl, b1⟩; have k0 := keeps b1 x0; have b1' := hid (show Below wr.heap.size wr w1 from undrew b1); have R1 := hid (HR.out.below b1'.out); have f1 := R1.out.free (i * 2); have f2 := R1.out.free (i * 2 + 1); have l1 := R1.out.cell (i * 2) (by omega); have l2 := R1.out.cell (i * 2 + 1) (by omega)))
      all_goals
        go_wp2_with fail
        have x2 := (But.of_below (S := (· = D)) (b1'.out)).set ⟨D, (i * 2), none⟩ (.int .i32 (f m)) (.inl rfl)
        have x2 := x2.set ⟨D, i * 2 + 1, none⟩ (.int .i32 0) (.inl rfl)
        go_roundw
        case rel => exact ⟨i + 1, by omega, by go_num, HB.out.trans (x2.below (fun k e => by rw [e]; exact d1) HB.out.size), ((R1.out.set (i * 2) _).set (i * 2 + 1) _).same (fun k _ => by
          have hm := HM.out
          by_cases e : k = i * 2 + 1
          · rw [if_pos e, if_neg (by omega)]
          · rw [if_neg e]
            by_cases e1 : k = i * 2
            · rw [if_pos e1, if_pos (by omega), show k / 2 = i from by omega, hm]
            · rw [if_neg e1]
              by_cases e2 : k % 2 = 0 ∧ k < 2 * i
              · rw [if_pos e2, if_pos (by omega)]
              · rw [if_neg e2, if_neg (by omega)]), x2.heap H1.out d3, x2.heap H3.out d2⟩
        case measure => simp [intOf]; omega
    · obtain rfl : i = n := by omega
      have HB := hid hb
      have HR := hid hr
      have x0 : wr.cell? ⟨X, 0, none⟩ = some (.int .i64 s) := row_cell h3 0
      have x1 : wr.cell? ⟨X, 1, none⟩ = some (.int .i64 wide) := row_cell h3 1
      have x2 : wr.cell? ⟨X, 2, none⟩ = some (.slice (some ⟨D, 0, none⟩) i i) := row_cell h3 2
      have y0 : wr.cell? ⟨w.heap.size, 0, none⟩ = some (.int .i64 0) := row_cell h1 0
      have y1 : wr.cell? ⟨w.heap.size, 1, none⟩ = some (.int .i64 0) := row_cell h1 1
      have y2 : wr.cell? ⟨w.heap.size, 2, none⟩ = some (.slice none 0 0) := row_cell h1 2
      have g0 : wr.frozen? ⟨w.heap.size, 0, none⟩ = false := row_free h1 0
      have g1 : wr.frozen? ⟨w.heap.size, 1, none⟩ = false := row_free h1 1
      have g2 : wr.frozen? ⟨w.heap.size, 2, none⟩ = false := row_free h1 2
      have H1 := hid h1
      have x3 := (((But.refl (· = w.heap.size) wr).set ⟨w.heap.size, 0, none⟩ (.int .i64 s) (.inl rfl)).set ⟨w.heap.size, 1, none⟩ (.int .i64 wide) (.inl rfl)).set ⟨w.heap.size, 2, none⟩ (.slice (some ⟨D, 0, none⟩) i i) (.inl rfl)
      have X3 := hid x3
      clear hf hb hr h1 h3 e1 x3
      go_wp2_with fail
      refine bodyPost_ret (results_cell_row (by kernel_rfl : Tryd.f31.results = #[.cell 6 79]) _ _ w.heap.size 79 #[.int .i64 s, .int .i64 wide, .slice (some ⟨D, 0, none⟩) i i] (0, 0) _ rfl (row_set (row_set (row_set H1.out 0 _) 1 _) 2 _) Tryd.underlying79 rfl rfl) rfl ⟨D, rfl, d1, ?_, ?_⟩
      · exact (HR.out.on X3.out d4).same (fun k hk => by
          by_cases e : k % 2 = 0
          · rw [if_pos ⟨e, hk⟩, if_pos e]
          · rw [if_neg (by omega), if_neg e])
      · exact HB.out.trans (X3.out.below (fun k e => by rw [e]; exact Nat.le_refl _) HB.out.size)
end Go.Proofs.YtkfdbibgjoaefaaDoor
