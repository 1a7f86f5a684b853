/-
  Is a statement right, whatever those within it are: the program's.
-/
import Derived.Test.YtdachagkhjhggaaFlt
namespace Go.Proofs.Ytdachagkhjhggaa
open Go.RowKit
set_option linter.unusedVariables false
set_option linter.unusedSimpArgs false

def zI (o d s n : Int) : Bool := decide (o = 0 ∧ d = 0 ∧ s = 0 ∧ n = 0)
def zC (nt : Bool) (o d s n : Int) : Bool := decide (nt = false ∧ o = 0 ∧ d = 0 ∧ s = 0 ∧ n = 0)
def none2 (nb ne : Nat) : Bool := decide (nb = 0 ∧ ne = 0)
/-- A right statement, whatever those within it are. -/
def rgt (post : Bool) (x : Sd) (nb ne : Nat) : Bool :=
  if x.k = 1 then plainI x.o x.d x.s x.n post && (zC x.nt x.co x.cd x.cs x.cn && none2 nb ne)
  else if x.k = 2 then zI x.o x.d x.s x.n && condI x.co x.cd x.cs x.cn
  else if x.k = 3 then zI x.o x.d x.s x.n && (condI x.co x.cd x.cs x.cn && none2 ne 0)
  else if x.k = 4 then zI x.o x.d x.s x.n && (zC x.nt x.co x.cd x.cs x.cn && none2 nb ne)
  else false
theorem eq38 (o d s n : Int) (w : World) : (binOp BinOp.eql 38 (.agg #[.int .u8 o, .int .i64 d, .int .i64 s, .int .i64 n]) (.agg #[.int .u8 0, .int .i64 0, .int .i64 0, .int .i64 0])).run Try.prog w = .ok (.bool (zI o d s n)) w := by
  unfold zI
  by_cases h1 : o = 0
  · by_cases h2 : d = 0
    · by_cases h3 : s = 0
      · by_cases h4 : n = 0
        · subst h1 h2 h3 h4; kernel_rfl
        · rw [decide_eq_false (by omega)]; go_simp
      · rw [decide_eq_false (by omega)]; go_simp
    · rw [decide_eq_false (by omega)]; go_simp
  · rw [decide_eq_false (by omega)]; go_simp
theorem eq40 (nt : Bool) (o d s n : Int) (w : World) : (binOp BinOp.eql 40 (.agg #[.bool nt, .int .u8 o, .int .i64 d, .int .i64 s, .int .i64 n]) (.agg #[.bool false, .int .u8 0, .int .i64 0, .int .i64 0, .int .i64 0])).run Try.prog w = .ok (.bool (zC nt o d s n)) w := by
  unfold zC
  cases nt
  · by_cases h1 : o = 0
    · by_cases h2 : d = 0
      · by_cases h3 : s = 0
        · by_cases h4 : n = 0
          · subst h1 h2 h3 h4; kernel_rfl
          · rw [decide_eq_false (by omega)]; go_simp
        · rw [decide_eq_false (by omega)]; go_simp
      · rw [decide_eq_false (by omega)]; go_simp
    · rw [decide_eq_false (by omega)]; go_simp
  · rw [decide_eq_false (by simp)]; go_simp
set_option maxRecDepth 10000 in
set_option maxHeartbeats 4000000 in
theorem holds_any (x : Sd) (Ab : Option Addr) (nb cb : Nat) (Ae : Option Addr) (ne ce : Nat) (w : World) : Calls Try.prog 22 #[vS x (.slice Ab nb cb) (.slice Ae ne ce)] w fun e w' => e = .returned (.bool (!none2 nb ne)) ∧ Below w.heap.size w w' := by
  obtain ⟨k, o, d, s, n, nt, co, cd, cs, cn, ln⟩ := x
  unfold vS
  by_cases h1 : 0 < nb
  · rw [show none2 nb ne = false from decide_eq_false (by omega)]
    have h1z : (0 : Int) < (nb : Int) := by omega
    clear h1
    go_enter Try.func22, Try.ntmps22
    go_wp2_with fail
    go_ret
    exact ⟨rfl, (Below.refl _ w).alloc (Nat.le_refl _) _⟩
  · obtain rfl : nb = 0 := by omega
    have e : (!none2 0 ne) = decide ((0 : Int) < (ne : Int)) := by
      unfold none2
      by_cases h : ne = 0
      · subst h; rfl
      · rw [decide_eq_false (by omega), decide_eq_true (by omega)]; rfl
    rw [e]
    clear e h1
    go_enter Try.func22, Try.ntmps22
    go_wp2_with fail
    go_ret
    exact ⟨by simp, (Below.refl _ w).alloc (Nat.le_refl _) _⟩
/-- A statement's box. -/
structure B13 (w : World) (b : Nat) (x : Sd) (vb ve : Value) : Prop where
  c0 : w.cell? ⟨b, 0, none⟩ = some (.int .u8 x.k)
  c1 : w.cell? ⟨b, 1, none⟩ = some (.int .u8 x.o)
  c2 : w.cell? ⟨b, 2, none⟩ = some (.int .i64 x.d)
  c3 : w.cell? ⟨b, 3, none⟩ = some (.int .i64 x.s)
  c4 : w.cell? ⟨b, 4, none⟩ = some (.int .i64 x.n)
  c5 : w.cell? ⟨b, 5, none⟩ = some (.bool x.nt)
  c6 : w.cell? ⟨b, 6, none⟩ = some (.int .u8 x.co)
  c7 : w.cell? ⟨b, 7, none⟩ = some (.int .i64 x.cd)
  c8 : w.cell? ⟨b, 8, none⟩ = some (.int .i64 x.cs)
  c9 : w.cell? ⟨b, 9, none⟩ = some (.int .i64 x.cn)
  c10 : w.cell? ⟨b, 10, none⟩ = some (vb)
  c11 : w.cell? ⟨b, 11, none⟩ = some (ve)
  c12 : w.cell? ⟨b, 12, none⟩ = some (.int .i64 x.ln)
theorem B13.below {w w' : World} {b : Nat} {x : Sd} {vb ve : Value} (h : B13 w b x vb ve) (hb : Below w.heap.size w w') : B13 w' b x vb ve :=
  ⟨keeps hb h.c0, keeps hb h.c1, keeps hb h.c2, keeps hb h.c3, keeps hb h.c4, keeps hb h.c5, keeps hb h.c6, keeps hb h.c7, keeps hb h.c8, keeps hb h.c9, keeps hb h.c10, keeps hb h.c11, keeps hb h.c12⟩
theorem b13_row {w : World} {b : Nat} {x : Sd} {vb ve : Value} (h : w.heap[b]? = some (.cells #[.int .u8 x.k, .int .u8 x.o, .int .i64 x.d, .int .i64 x.s, .int .i64 x.n, .bool x.nt, .int .u8 x.co, .int .i64 x.cd, .int .i64 x.cs, .int .i64 x.cn, vb, ve, .int .i64 x.ln] 42 (0, 0))) : B13 w b x vb ve :=
  ⟨row_cell h 0, row_cell h 1, row_cell h 2, row_cell h 3, row_cell h 4, row_cell h 5, row_cell h 6, row_cell h 7, row_cell h 8, row_cell h 9, row_cell h 10, row_cell h 11, row_cell h 12⟩
theorem b13_made (w : World) (x : Sd) (vb ve : Value) : B13 (w.alloc (.cells #[.int .u8 x.k, .int .u8 x.o, .int .i64 x.d, .int .i64 x.s, .int .i64 x.n, .bool x.nt, .int .u8 x.co, .int .i64 x.cd, .int .i64 x.cs, .int .i64 x.cn, vb, ve, .int .i64 x.ln] 42)) w.heap.size x vb ve := b13_row (heap_alloc_new w _)
/-- Behind a call: the box, the blocks of before. -/
theorem b13_on {w w1 : World} {x : Sd} {vb ve : Value} (b1 : Below (w.alloc (.cells #[.int .u8 x.k, .int .u8 x.o, .int .i64 x.d, .int .i64 x.s, .int .i64 x.n, .bool x.nt, .int .u8 x.co, .int .i64 x.cd, .int .i64 x.cs, .int .i64 x.cn, vb, ve, .int .i64 x.ln] 42)).heap.size (w.alloc (.cells #[.int .u8 x.k, .int .u8 x.o, .int .i64 x.d, .int .i64 x.s, .int .i64 x.n, .bool x.nt, .int .u8 x.co, .int .i64 x.cd, .int .i64 x.cs, .int .i64 x.cn, vb, ve, .int .i64 x.ln] 42)) w1) : B13 w1 w.heap.size x vb ve ∧ Below w.heap.size w w1 :=
  ⟨(b13_made w x vb ve).below b1, ((Below.refl _ w).alloc (Nat.le_refl _) _).trans (b1.mono (by simp))⟩
set_option maxRecDepth 10000 in
set_option maxHeartbeats 4000000 in
theorem right1 (x : Sd) (post : Bool) (Ab : Option Addr) (nb cb : Nat) (Ae : Option Addr) (ne ce : Nat) (w : World) (hk : x.k = 1) : Calls Try.prog 21 #[vS x (.slice Ab nb cb) (.slice Ae ne ce), .bool post] w fun e w' => e = .returned (.bool (rgt post x nb ne)) ∧ Below w.heap.size w w' := by
  have HP := hid (fun w => plain_any x.o x.d x.s x.n post w)
  have HZ := eq40 x.nt x.co x.cd x.cs x.cn
  have HH := hid (fun w => holds_any x Ab nb cb Ae ne ce w)
  have HO := hid (fun w1 b1 => b13_on (w := w) (w1 := w1) (x := x) (vb := .slice Ab nb cb) (ve := .slice Ae ne ce) b1)
  unfold rgt
  rw [if_pos hk]
  obtain ⟨k, o, d, s, n, nt, co, cd, cs, cn, ln⟩ := x
  obtain rfl : k = 1 := hk
  dsimp only at *
  obtain ⟨P, hP⟩ : ∃ P, plainI o d s n post = P := ⟨_, rfl⟩
  obtain ⟨Z, hZ⟩ : ∃ Z, zC nt co cd cs cn = Z := ⟨_, rfl⟩
  obtain ⟨H, hH⟩ : ∃ H, none2 nb ne = H := ⟨_, rfl⟩
  rw [hP] at HP
  rw [hZ] at HZ
  rw [hH] at HH
  rw [hP, hZ, hH]
  clear hP hZ hH
  unfold vI at HP
  unfold vS at HH ⊢
  dsimp only at *
  cases P
  · go_enter Try.func21, Try.ntmps21
    go_wp2_with (go_at_call 29; (with_reducible refine (HP.out _).mono ?_); rintro r w1 ⟨rfl, b1⟩; have HX := hid (HO.out _ b1); clear b1)
    go_ret
    exact ⟨rfl, HX.out.2⟩
  cases Z
  · go_enter Try.func21, Try.ntmps21
    go_wp2_with (go_at_call 29; (with_reducible refine (HP.out _).mono ?_); rintro r w1 ⟨rfl, b1⟩; have HX := hid (HO.out _ b1); obtain ⟨⟨c0, c1, c2, c3, c4, c5, c6, c7, c8, c9, c10, c11, c12⟩, _⟩ := HO.out _ b1; clear b1; dsimp only at c0 c1 c2 c3 c4 c5 c6 c7 c8 c9 c10 c11 c12)
    go_ret
    exact ⟨rfl, HX.out.2⟩
  · go_enter Try.func21, Try.ntmps21
    go_wp2_with (first
      | (go_at_call 29; (with_reducible refine (HP.out _).mono ?_); rintro r w1 ⟨rfl, b1⟩; have HX := hid (HO.out _ b1); obtain ⟨⟨c0, c1, c2, c3, c4, c5, c6, c7, c8, c9, c10, c11, c12⟩, _⟩ := HO.out _ b1; clear b1; dsimp only at c0 c1 c2 c3 c4 c5 c6 c7 c8 c9 c10 c11 c12)
      | (go_at_call 22; (with_reducible refine (HH.out _).mono ?_); rintro r w2 ⟨rfl, b2⟩; have HY := hid b2; clear b2))
    go_ret
    exact ⟨by simp, HX.out.2.trans (HY.out.mono HX.out.2.size)⟩
set_option maxRecDepth 10000 in
set_option maxHeartbeats 4000000 in
theorem right2 (x : Sd) (post : Bool) (Ab : Option Addr) (nb cb : Nat) (Ae : Option Addr) (ne ce : Nat) (w : World) (hk : x.k = 2) : Calls Try.prog 21 #[vS x (.slice Ab nb cb) (.slice Ae ne ce), .bool post] w fun e w' => e = .returned (.bool (rgt post x nb ne)) ∧ Below w.heap.size w w' := by
  have HI := eq38 x.o x.d x.s x.n
  have HZ := eq40 x.nt x.co x.cd x.cs x.cn
  have HC := hid (fun w => cond_any x.nt x.co x.cd x.cs x.cn w)
  have HH := hid (fun w => holds_any x Ab nb cb Ae ne ce w)
  have HO := hid (fun w1 b1 => b13_on (w := w) (w1 := w1) (x := x) (vb := .slice Ab nb cb) (ve := .slice Ae ne ce) b1)
  have HB0 := hid ((Below.refl w.heap.size w).alloc (Nat.le_refl _) (.cells #[.int .u8 x.k, .int .u8 x.o, .int .i64 x.d, .int .i64 x.s, .int .i64 x.n, .bool x.nt, .int .u8 x.co, .int .i64 x.cd, .int .i64 x.cs, .int .i64 x.cn, .slice Ab nb cb, .slice Ae ne ce, .int .i64 x.ln] 42))
  unfold rgt
  rw [if_neg (by rw [hk]; decide), if_pos hk]
  obtain ⟨k, o, d, s, n, nt, co, cd, cs, cn, ln⟩ := x
  obtain rfl : k = 2 := hk
  dsimp only at *
  obtain ⟨I, hI⟩ : ∃ I, zI o d s n = I := ⟨_, rfl⟩
  obtain ⟨Z, hZ⟩ : ∃ Z, zC nt co cd cs cn = Z := ⟨_, rfl⟩
  obtain ⟨C, hC⟩ : ∃ C, condI co cd cs cn = C := ⟨_, rfl⟩
  obtain ⟨H, hH⟩ : ∃ H, none2 nb ne = H := ⟨_, rfl⟩
  rw [hI] at HI
  rw [hZ] at HZ
  rw [hC] at HC
  rw [hH] at HH
  rw [hI]
  rw [hC]
  clear hI hZ hC hH
  unfold vC at HC
  unfold vS at HH ⊢
  dsimp only at *
  cases I
  · go_enter Try.func21, Try.ntmps21
    go_wp2_with fail
    go_ret
    exact ⟨rfl, HB0.out⟩
  · go_enter Try.func21, Try.ntmps21
    go_wp2_with (go_at_call 30; (with_reducible refine (HC.out _).mono ?_); rintro r w1 ⟨rfl, b1⟩; have HX := hid (HO.out _ b1); obtain ⟨⟨c0, c1, c2, c3, c4, c5, c6, c7, c8, c9, c10, c11, c12⟩, _⟩ := HO.out _ b1; clear b1; dsimp only at c0 c1 c2 c3 c4 c5 c6 c7 c8 c9 c10 c11 c12)
    go_ret
    exact ⟨rfl, HX.out.2⟩
set_option maxRecDepth 10000 in
set_option maxHeartbeats 4000000 in
theorem right3 (x : Sd) (post : Bool) (Ab : Option Addr) (nb cb : Nat) (Ae : Option Addr) (ne ce : Nat) (w : World) (hk : x.k = 3) : Calls Try.prog 21 #[vS x (.slice Ab nb cb) (.slice Ae ne ce), .bool post] w fun e w' => e = .returned (.bool (rgt post x nb ne)) ∧ Below w.heap.size w w' := by
  have HI := eq38 x.o x.d x.s x.n
  have HZ := eq40 x.nt x.co x.cd x.cs x.cn
  have HC := hid (fun w => cond_any x.nt x.co x.cd x.cs x.cn w)
  have HH := hid (fun w => holds_any x Ab nb cb Ae ne ce w)
  have HO := hid (fun w1 b1 => b13_on (w := w) (w1 := w1) (x := x) (vb := .slice Ab nb cb) (ve := .slice Ae ne ce) b1)
  have HB0 := hid ((Below.refl w.heap.size w).alloc (Nat.le_refl _) (.cells #[.int .u8 x.k, .int .u8 x.o, .int .i64 x.d, .int .i64 x.s, .int .i64 x.n, .bool x.nt, .int .u8 x.co, .int .i64 x.cd, .int .i64 x.cs, .int .i64 x.cn, .slice Ab nb cb, .slice Ae ne ce, .int .i64 x.ln] 42))
  unfold rgt
  rw [if_neg (by rw [hk]; decide), if_neg (by rw [hk]; decide), if_pos hk]
  obtain ⟨k, o, d, s, n, nt, co, cd, cs, cn, ln⟩ := x
  obtain rfl : k = 3 := hk
  dsimp only at *
  obtain ⟨I, hI⟩ : ∃ I, zI o d s n = I := ⟨_, rfl⟩
  obtain ⟨Z, hZ⟩ : ∃ Z, zC nt co cd cs cn = Z := ⟨_, rfl⟩
  obtain ⟨C, hC⟩ : ∃ C, condI co cd cs cn = C := ⟨_, rfl⟩
  obtain ⟨H, hH⟩ : ∃ H, none2 nb ne = H := ⟨_, rfl⟩
  rw [hI] at HI
  rw [hZ] at HZ
  rw [hC] at HC
  rw [hH] at HH
  rw [hI]
  rw [hC]
  have hl : none2 ne 0 = ((ne : Int) == 0) := by
    unfold none2
    by_cases h : ne = 0
    · subst h; rfl
    · rw [decide_eq_false (by omega)]; symm; simpa using h
  rw [hl]
  clear hl
  clear hI hZ hC hH
  unfold vC at HC
  unfold vS at HH ⊢
  dsimp only at *
  cases I
  · go_enter Try.func21, Try.ntmps21
    go_wp2_with fail
    go_ret
    exact ⟨rfl, HB0.out⟩
  cases C
  · go_enter Try.func21, Try.ntmps21
    go_wp2_with (go_at_call 30; (with_reducible refine (HC.out _).mono ?_); rintro r w1 ⟨rfl, b1⟩; have HX := hid (HO.out _ b1); obtain ⟨⟨c0, c1, c2, c3, c4, c5, c6, c7, c8, c9, c10, c11, c12⟩, _⟩ := HO.out _ b1; clear b1; dsimp only at c0 c1 c2 c3 c4 c5 c6 c7 c8 c9 c10 c11 c12)
    go_ret
    exact ⟨rfl, HX.out.2⟩
  · go_enter Try.func21, Try.ntmps21
    go_wp2_with (go_at_call 30; (with_reducible refine (HC.out _).mono ?_); rintro r w1 ⟨rfl, b1⟩; have HX := hid (HO.out _ b1); obtain ⟨⟨c0, c1, c2, c3, c4, c5, c6, c7, c8, c9, c10, c11, c12⟩, _⟩ := HO.out _ b1; clear b1; dsimp only at c0 c1 c2 c3 c4 c5 c6 c7 c8 c9 c10 c11 c12)
    go_ret
    exact ⟨by simp, HX.out.2⟩
set_option maxRecDepth 10000 in
set_option maxHeartbeats 4000000 in
theorem right4 (x : Sd) (post : Bool) (Ab : Option Addr) (nb cb : Nat) (Ae : Option Addr) (ne ce : Nat) (w : World) (hk : x.k = 4) : Calls Try.prog 21 #[vS x (.slice Ab nb cb) (.slice Ae ne ce), .bool post] w fun e w' => e = .returned (.bool (rgt post x nb ne)) ∧ Below w.heap.size w w' := by
  have HI := eq38 x.o x.d x.s x.n
  have HZ := eq40 x.nt x.co x.cd x.cs x.cn
  have HC := hid (fun w => cond_any x.nt x.co x.cd x.cs x.cn w)
  have HH := hid (fun w => holds_any x Ab nb cb Ae ne ce w)
  have HO := hid (fun w1 b1 => b13_on (w := w) (w1 := w1) (x := x) (vb := .slice Ab nb cb) (ve := .slice Ae ne ce) b1)
  have HB0 := hid ((Below.refl w.heap.size w).alloc (Nat.le_refl _) (.cells #[.int .u8 x.k, .int .u8 x.o, .int .i64 x.d, .int .i64 x.s, .int .i64 x.n, .bool x.nt, .int .u8 x.co, .int .i64 x.cd, .int .i64 x.cs, .int .i64 x.cn, .slice Ab nb cb, .slice Ae ne ce, .int .i64 x.ln] 42))
  unfold rgt
  rw [if_neg (by rw [hk]; decide), if_neg (by rw [hk]; decide), if_neg (by rw [hk]; decide), if_pos hk]
  obtain ⟨k, o, d, s, n, nt, co, cd, cs, cn, ln⟩ := x
  obtain rfl : k = 4 := hk
  dsimp only at *
  obtain ⟨I, hI⟩ : ∃ I, zI o d s n = I := ⟨_, rfl⟩
  obtain ⟨Z, hZ⟩ : ∃ Z, zC nt co cd cs cn = Z := ⟨_, rfl⟩
  obtain ⟨C, hC⟩ : ∃ C, condI co cd cs cn = C := ⟨_, rfl⟩
  obtain ⟨H, hH⟩ : ∃ H, none2 nb ne = H := ⟨_, rfl⟩
  rw [hI] at HI
  rw [hZ] at HZ
  rw [hC] at HC
  rw [hH] at HH
  rw [hI]
  rw [hZ, hH]
  clear hI hZ hC hH
  unfold vC at HC
  unfold vS at HH ⊢
  dsimp only at *
  cases I
  · go_enter Try.func21, Try.ntmps21
    go_wp2_with fail
    go_ret
    exact ⟨rfl, HB0.out⟩
  cases Z
  · go_enter Try.func21, Try.ntmps21
    go_wp2_with fail
    go_ret
    exact ⟨rfl, HB0.out⟩
  · go_enter Try.func21, Try.ntmps21
    go_wp2_with (go_at_call 22; (with_reducible refine (HH.out _).mono ?_); rintro r w2 ⟨rfl, b2⟩; have HY := hid b2; clear b2)
    go_ret
    exact ⟨by simp, HB0.out.trans (HY.out.mono HB0.out.size)⟩
set_option maxRecDepth 10000 in
set_option maxHeartbeats 4000000 in
theorem right5 (x : Sd) (post : Bool) (Ab : Option Addr) (nb cb : Nat) (Ae : Option Addr) (ne ce : Nat) (w : World) (h1 : x.k ≠ 1) (h2 : x.k ≠ 2) (h3 : x.k ≠ 3) (h4 : x.k ≠ 4) : Calls Try.prog 21 #[vS x (.slice Ab nb cb) (.slice Ae ne ce), .bool post] w fun e w' => e = .returned (.bool (rgt post x nb ne)) ∧ Below w.heap.size w w' := by
  unfold rgt
  rw [if_neg h1, if_neg h2, if_neg h3, if_neg h4]
  obtain ⟨k, o, d, s, n, nt, co, cd, cs, cn, ln⟩ := x
  dsimp only at *
  have n1 : (k == 1) = false := by simpa using h1
  have n2 : (k == 2) = false := by simpa using h2
  have n3 : (k == 3) = false := by simpa using h3
  have n4 : (k == 4) = false := by simpa using h4
  clear h1 h2 h3 h4
  unfold vS
  dsimp only
  go_enter Try.func21, Try.ntmps21
  go_wp2_with fail
  go_ret
  exact ⟨rfl, (Below.refl _ w).alloc (Nat.le_refl _) _⟩
theorem right_any (x : Sd) (post : Bool) (Ab : Option Addr) (nb cb : Nat) (Ae : Option Addr) (ne ce : Nat) (w : World) : Calls Try.prog 21 #[vS x (.slice Ab nb cb) (.slice Ae ne ce), .bool post] w fun e w' => e = .returned (.bool (rgt post x nb ne)) ∧ Below w.heap.size w w' := by
  by_cases h1 : x.k = 1
  · exact right1 x post Ab nb cb Ae ne ce w h1
  by_cases h2 : x.k = 2
  · exact right2 x post Ab nb cb Ae ne ce w h2
  by_cases h3 : x.k = 3
  · exact right3 x post Ab nb cb Ae ne ce w h3
  by_cases h4 : x.k = 4
  · exact right4 x post Ab nb cb Ae ne ce w h4
  exact right5 x post Ab nb cb Ae ne ce w h1 h2 h3 h4
end Go.Proofs.Ytdachagkhjhggaa
