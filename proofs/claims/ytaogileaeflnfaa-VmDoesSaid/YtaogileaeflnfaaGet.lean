/-
  Get: the instruction that stands at a place.
-/
import Derived.Test.YtaogileaeflnfaaLen
namespace Go.Proofs.Ytaogileaeflnfaa
open Go.RowKit

/-- The result's box is noughts as yet. -/
structure G1 (w W : World) : Prop where
  ra : W.heap[w.heap.size]? = some (.cells #[.int .u8 0, .int .i64 0, .int .i64 0, .int .i64 0] 24 (0, 0))
  bel : Below w.heap.size w W
theorem row_keeps {W W' : World} {g : Nat} {o : Obj} (h : W.heap[g]? = some o) (b : Below W.heap.size W W') : W'.heap[g]? = some o := (b.block g (lt_of_heap h)).trans h
theorem G1.below {w W W' : World} (h : G1 w W) (b : Below W.heap.size W W') : G1 w W' := ⟨row_keeps h.ra b, bel_on h.bel b⟩
theorem g1_made (w : World) : G1 w (w.alloc (.cells #[.int .u8 0, .int .i64 0, .int .i64 0, .int .i64 0] 24)) := ⟨heap_alloc_new w _, (Below.refl _ _).alloc (Nat.le_refl _) _⟩
theorem set_block {w : World} {g i k : Nat} {u : Value} (h : k ≠ g) : (w.setCell ⟨g, i, none⟩ u).heap[k]? = w.heap[k]? := Below.heap_setCell w ⟨g, i, none⟩ u k (fun e => h e)
theorem set_bel {B : Nat} {w0 w : World} (h : Below B w0 w) (g i : Nat) (u : Value) (hg : B ≤ g) : Below B w0 (w.setCell ⟨g, i, none⟩ u) :=
  ⟨h.os, h.tape, h.output, by rw [World.size_setCell]; exact h.size, fun k hk => by rw [set_block (by omega)]; exact h.block k hk⟩
def set4 (w : World) (g : Nat) (a0 a1 a2 a3 : Value) : World := (((w.setCell ⟨g, 0, none⟩ a0).setCell ⟨g, 1, none⟩ a1).setCell ⟨g, 2, none⟩ a2).setCell ⟨g, 3, none⟩ a3
theorem row_set4 {w : World} {g : Nat} {t : TypeId} {b0 b1 b2 b3 : Value} (a0 a1 a2 a3 : Value) (h : w.heap[g]? = some (.cells #[b0, b1, b2, b3] t (0, 0))) :
    (set4 w g a0 a1 a2 a3).heap[g]? = some (.cells #[a0, a1, a2, a3] t (0, 0)) := by
  have r0 : (w.setCell ⟨g, 0, none⟩ a0).heap[g]? = some (.cells #[a0, b1, b2, b3] t (0, 0)) := row_set h 0 a0
  have r1 : ((w.setCell ⟨g, 0, none⟩ a0).setCell ⟨g, 1, none⟩ a1).heap[g]? = some (.cells #[a0, a1, b2, b3] t (0, 0)) := row_set r0 1 a1
  have r2 : (((w.setCell ⟨g, 0, none⟩ a0).setCell ⟨g, 1, none⟩ a1).setCell ⟨g, 2, none⟩ a2).heap[g]? = some (.cells #[a0, a1, a2, b3] t (0, 0)) := row_set r1 2 a2
  exact row_set r2 3 a3
theorem bel_set4 {B : Nat} {w0 w : World} {g : Nat} (a0 a1 a2 a3 : Value) (h : Below B w0 w) (hg : B ≤ g) : Below B w0 (set4 w g a0 a1 a2 a3) :=
  set_bel (set_bel (set_bel (set_bel h g 0 a0 hg) g 1 a1 hg) g 2 a2 hg) g 3 a3 hg
/-- The result's box, cell by cell. -/
structure Bz (W : World) (g : Nat) : Prop where
  c0 : W.cell? ⟨g, 0, none⟩ = some (.int .u8 0)
  c1 : W.cell? ⟨g, 1, none⟩ = some (.int .i64 0)
  c2 : W.cell? ⟨g, 2, none⟩ = some (.int .i64 0)
  c3 : W.cell? ⟨g, 3, none⟩ = some (.int .i64 0)
  f0 : W.frozen? ⟨g, 0, none⟩ = false
  f1 : W.frozen? ⟨g, 1, none⟩ = false
  f2 : W.frozen? ⟨g, 2, none⟩ = false
  f3 : W.frozen? ⟨g, 3, none⟩ = false
theorem G1.bz {w W : World} (h : G1 w W) : Bz W w.heap.size := ⟨row_cell h.ra 0, row_cell h.ra 1, row_cell h.ra 2, row_cell h.ra 3, row_free h.ra 0, row_free h.ra 1, row_free h.ra 2, row_free h.ra 3⟩
theorem slice_part {w : World} {A : Option Addr} {n c : Nat} {l : List UInt8} (h : IsBB w w.heap.size A n c l) (i j : Nat) (hi : i ≤ j) (hj : j ≤ n) :
    ∃ A', (∀ w' : World, (Instr.slice 28 (.slice A n c) (some (.int .i64 (i : Nat))) (some (.int .i64 (j : Nat))) none).run Try.prog w' = .ok (.slice A' (j - i) (c - i)) w') ∧ IsBB w w.heap.size A' (j - i) (c - i) ((l.drop i).take (j - i)) := by
  have hc := h.cap
  have hlen := h.len
  refine ⟨if c = i then A else A.map (·.add (i * 1)), fun w' => ?_, ⟨by rw [List.length_take, List.length_drop, hlen]; omega, by omega, by have := h.max; omega, by have := h.small; omega, fun hp => ?_⟩, fun hp ad' e => ?_⟩
  · have hs : (sizeOf (Try.prog.elem 28)).run Try.prog w' = .ok 1 w' := by kernel_rfl
    rw [run_slice_lh (ht := by kernel_rfl) (h0 := by omega) (h1 := by omega) (h2 := by omega), hs]
    simp [Result.andThen, sliced]
  · rw [List.length_take, List.length_drop, hlen] at hp
    obtain ⟨ad, e, hr⟩ := h.lies (by omega)
    subst e
    rw [if_neg (by omega)]
    refine ⟨_, rfl, fun k hk => ?_⟩
    rw [List.length_take, List.length_drop] at hk
    rw [Nat.mul_one, add_of_add, hr (i + k) (by omega), List.getElem_take, List.getElem_drop]
  · rw [List.length_take, List.length_drop, hlen] at hp
    obtain ⟨ad, e2, hr⟩ := h.lies (by omega)
    subst e2
    rw [if_neg (by omega)] at e
    cases e
    rw [block_of_add]
    exact h.low (by omega) ad rfl
/-- What Get leaves. -/
def vG (g : Got) : Value := .tuple #[vI g.o g.d g.s g.n, .int .i64 g.e, .int .i64 g.err]
set_option maxRecDepth 10000 in
set_option maxHeartbeats 4000000 in
theorem get_far (A : Option Addr) (n c : Nat) (k : Int) (w : World) (hn : n ≤ 140737488355328) (hk : ¬ (0 ≤ k ∧ k < n ∧ k ≤ 65535)) :
    Calls Try.prog 52 #[.slice A n c, .int .i64 k] w fun e w' => e = .returned (vG (noG 2)) ∧ Below w.heap.size w w' := by
  have he : ∀ args w, (callFunc 55 args).run Try.prog w = .ok (.enter 55 args) w := enters_of Try.func55 (by kernel_rfl) rfl
  have HT := hid (fun a b w => between_any a b w)
  obtain ⟨q, hq⟩ : ∃ q, (n : Int) - 1 = q := ⟨_, rfl⟩
  have e1 : IntKind.i64.wrap q = q := by rw [IntKind.wrap_i64]; omega
  have e1' : wrap64 q = q := by unfold wrap64; omega
  obtain ⟨m, hm⟩ : ∃ m, (if (65535 : Int) < q then (65535 : Int) else q) = m := ⟨_, rfl⟩
  have hA := hid (decide_eq_false (p := inn k 0 m) (by intro h; unfold inn at h; split at hm <;> omega))
  have G0 := hid (g1_made w)
  clear hk hn
  unfold vG vI noG
  go_enter Try.func52, Try.ntmps52
  go_wp2_with fail
  refine (HT.out _ _ _).mono ?_
  rintro r w2 ⟨f, rfl, ⟨u2, v2, rfl, z2, y2⟩, b2⟩
  have G2 := hid (G0.out.below b2)
  have A2 := hid (asks_T w2 u2 v2 0 m k false hA.out z2 y2)
  clear b2 z2 y2
  try dsimp only
  go_wp2_with fail
  refine A2.out.mono ?_
  rintro r wx ⟨rfl, rfl⟩
  try dsimp only
  obtain ⟨p0, p1, p2, p3, p4, p5, p6, p7⟩ := G2.out.bz
  go_wp2_with fail
  refine bodyPost_ret (results_243 (by kernel_rfl : Try.f52.results = #[.cell 4 24, .tmp 5, .tmp 6]) _ _ w.heap.size _ _ _ rfl (row_set4 _ _ _ _ G2.out.ra) rfl) rfl ?_
  exact ⟨rfl, bel_set4 _ _ _ _ G2.out.bel (Nat.le_refl _)⟩
/-- The instruction's box, too. -/
structure Gi (w W : World) (h : Nat) (o d s n : Int) : Prop extends G1 w W where
  rh : W.heap[h]? = some (.cells #[.int .u8 o, .int .i64 d, .int .i64 s, .int .i64 n] 24 (0, 0))
  lt : w.heap.size < h
theorem Gi.below {w W W' : World} {h : Nat} {o d s n : Int} (g : Gi w W h o d s n) (b : Below W.heap.size W W') : Gi w W' h o d s n := ⟨g.toG1.below b, row_keeps g.rh b, g.lt⟩
theorem gi_made {w W : World} (g : G1 w W) (o d s n : Int) : Gi w (W.alloc (.cells #[.int .u8 o, .int .i64 d, .int .i64 s, .int .i64 n] 24)) W.heap.size o d s n :=
  ⟨g.below ((Below.refl _ _).alloc (Nat.le_refl _) _), heap_alloc_new W _, lt_of_heap g.ra⟩
theorem Gi.bx {w W : World} {h : Nat} {o d s n : Int} (g : Gi w W h o d s n) : Bx W h o d s n := ⟨row_cell g.rh 0, row_cell g.rh 1, row_cell g.rh 2, row_cell g.rh 3⟩
theorem Gi.fr {w W : World} {h : Nat} {o d s n : Int} (g : Gi w W h o d s n) (i : Nat) : W.frozen? ⟨h, i, none⟩ = false := row_free g.rh i
theorem Gi.setS {w W : World} {h : Nat} {o d s n : Int} (g : Gi w W h o d s n) (z : Int) : Gi w (W.setCell ⟨h, 2, none⟩ (.int .i64 z)) h o d z n :=
  ⟨⟨by rw [set_block (by have := g.lt; omega)]; exact g.ra, set_bel g.bel _ _ _ (by have := g.lt; omega)⟩, row_set g.rh 2 _, g.lt⟩
theorem Gi.setN {w W : World} {h : Nat} {o d s n : Int} (g : Gi w W h o d s n) (z : Int) : Gi w (W.setCell ⟨h, 3, none⟩ (.int .i64 z)) h o d s z :=
  ⟨⟨by rw [set_block (by have := g.lt; omega)]; exact g.ra, set_bel g.bel _ _ _ (by have := g.lt; omega)⟩, row_set g.rh 3 _, g.lt⟩
theorem i64_or_nat (a b : Nat) (ha : a < 4294967296) (hb : b < 4294967296) : bits .or .i64 (a : Int) (b : Int) = ((a ||| b : Nat) : Int) := by
  have h1 : a ||| b < 2 ^ 32 := Nat.or_lt_two_pow (by omega) (by omega)
  show IntKind.i64.wrap ((BitVec.ofInt 64 (a : Int) ||| BitVec.ofInt 64 (b : Int)).toNat : Nat) = _
  rw [BitVec.toNat_or, ofInt_u64 a (by omega), ofInt_u64 b (by omega), IntKind.wrap_i64]
  omega
theorem wr64 (y : Int) (h : -1000000000 ≤ y ∧ y ≤ 1000000000) : Hid (wrap64 y = y) := by refine hid ?_; unfold wrap64; omega
theorem wr64i (y : Int) (h : -1000000000 ≤ y ∧ y ≤ 1000000000) : Hid (IntKind.i64.wrap y = y) := by refine hid ?_; rw [IntKind.wrap_i64]; omega
theorem wr8i (y : Nat) (b ib : Int) (hb : b = y) (hi : i8 b = ib) (h : y < 256) : Hid (IntKind.i8.wrap (y : Int) = ib) ∧ -128 ≤ ib ∧ ib ≤ 127 := by
  subst hb
  subst hi
  unfold i8
  refine ⟨hid ?_, ?_⟩
  · simp only [IntKind.wrap, IntKind.bits, IntKind.signed]
    simp
    split <;> omega
  · split <;> omega
theorem or_next (z y : Nat) (hz : z < 256) (hy : y < 256) : bits .or .i64 ((z : Int) * 256) (y : Int) = (z : Int) * 256 + y := by
  rw [show (z : Int) * 256 = ((z * 256 : Nat) : Int) by omega, i64_or_nat _ _ (by omega) (by omega), nat_join 8 (z * 256) y (by omega) (by omega)]
  omega
theorem or_nought (y : Nat) (hy : y < 256) : bits .or .i64 0 (y : Int) = y := by
  rw [show (0 : Int) = ((0 : Nat) : Int) from rfl, i64_or_nat _ _ (by omega) (by omega), Nat.zero_or]
set_option maxRecDepth 10000 in
set_option maxHeartbeats 4000000 in
theorem get_code (A : Option Addr) (n c : Nat) (l : List UInt8) (w : World) (h : IsBB w w.heap.size A n c l) (k x : Nat) (hk : k < n) (hk6 : k ≤ 65535) (hx : gX l k = (x : Int)) (o d s : Int) (ho : oG x = o) (hd : dG x = d) (hs : sG x = s) (hok : ¬ okI o d s 0) :
    Calls Try.prog 52 #[.slice A n c, .int .i64 (k : Nat)] w fun e w' => e = .returned (vG (noG 110)) ∧ Below w.heap.size w w' := by
  have he : ∀ args w, (callFunc 55 args).run Try.prog w = .ok (.enter 55 args) w := enters_of Try.func55 (by kernel_rfl) rfl
  have HT := hid (fun a b w => between_any a b w)
  have hn := h.small
  have hlen := h.len
  obtain ⟨ad, rfl, hc⟩ := h.lies (by omega)
  have ck := hc k (by omega)
  have hlow := h.low (by omega) ad rfl
  have hxx : (l[k]'(by omega)).toNat = x := by
    have := gX_of (List.getElem?_eq_getElem (show k < l.length by omega))
    omega
  rw [hxx] at ck
  have hx8 : x < 256 := by rw [← hxx]; exact (l[k]'(by omega)).toNat_lt
  have H := hid h
  have CK : Hid (∀ W, Below w.heap.size w W → W.cell? (ad.add k) = some (.int .u8 (x : Nat))) := fun W b => (b.cell (p := ad.add k) (by rw [block_of_add]; exact hlow)).trans ck
  have HB := hid (fun w => begun_any x hx8 w)
  rw [ho, hd, hs] at HB
  obtain ⟨q, hq⟩ : ∃ q, (n : Int) - 1 = q := ⟨_, rfl⟩
  have e1 : IntKind.i64.wrap q = q := by rw [IntKind.wrap_i64]; omega
  have e1' : wrap64 q = q := by unfold wrap64; omega
  obtain ⟨m, hm⟩ : ∃ m, (if (65535 : Int) < q then (65535 : Int) else q) = m := ⟨_, rfl⟩
  have hA := hid (decide_eq_true (p := inn k 0 m) (by unfold inn; split at hm <;> omega))
  have G0 := hid (g1_made w)
  have hkz : (k : Int) < (n : Int) := by omega
  have E1 := hid e1
  have E1' := hid e1'
  have HM := hid hm
  clear e1 e1' hm
  have HR := hid (fun w => Right_any o d s 0 w)
  rw [show rightE o d s 0 = 110 from if_neg hok] at HR
  clear hk hk6 hx ho hd hs hok h hc ck hlow hxx hx8 hn hlen
  unfold noG
  unfold vG vI
  unfold vI at HB HR
  have e1 := E1.out
  have e1' := E1'.out
  have hm := HM.out
  go_enter Try.func52, Try.ntmps52
  go_wp2_with fail
  refine (HT.out _ _ _).mono ?_
  rintro r w2 ⟨f, rfl, ⟨u2, v2, rfl, z2, y2⟩, b2⟩
  have G2 := hid (G0.out.below b2)
  have A2 := hid (asks_T w2 u2 v2 0 m k true hA.out z2 y2)
  clear b2 z2 y2
  try dsimp only
  go_wp2_with fail
  refine A2.out.mono ?_
  rintro r wx ⟨rfl, rfl⟩
  have cx := CK.out _ G2.out.bel
  clear A2 hA G0
  try dsimp only
  go_wp2_with fail
  refine (HB.out _).mono ?_
  rintro r w5 ⟨rfl, b5⟩
  have G5 := hid (gi_made (G2.out.below b5) o d s 0)
  clear b5 G2 HB cx e1 e1' hm
  try dsimp only
  go_wp2_with fail
  refine (HR.out _).mono ?_
  rintro r w6 ⟨rfl, b6⟩
  have G6 := hid (G5.out.below b6)
  clear b6 G5
  generalize w5.heap.size = hh at *
  try dsimp only
  obtain ⟨p0, p1, p2, p3, p4, p5, p6, p7⟩ := G6.out.bz
  go_wp2_with fail
  refine bodyPost_ret (results_243 (by kernel_rfl : Try.f52.results = #[.cell 4 24, .tmp 5, .tmp 6]) _ _ w.heap.size _ _ _ rfl (row_set4 _ _ _ _ G6.out.ra) rfl) rfl ?_
  exact ⟨rfl, bel_set4 _ _ _ _ G6.out.bel (Nat.le_refl _)⟩
set_option maxRecDepth 10000 in
set_option maxHeartbeats 4000000 in
theorem get_short1 (A : Option Addr) (n c : Nat) (l : List UInt8) (w : World) (h : IsBB w w.heap.size A n c l) (k x : Nat) (hk : k < n) (hk6 : k ≤ 65535) (hx : gX l k = (x : Int)) (o d s : Int) (ho : oG x = o) (hd : dG x = d) (hs : sG x = s) (hok : okI o d s 0) (hrb : rB o s = 1) (hf : ¬ k + 2 ≤ n) :
    Calls Try.prog 52 #[.slice A n c, .int .i64 (k : Nat)] w fun e w' => e = .returned (vG (noG 12)) ∧ Below w.heap.size w w' := by
  have he : ∀ args w, (callFunc 55 args).run Try.prog w = .ok (.enter 55 args) w := enters_of Try.func55 (by kernel_rfl) rfl
  have HT := hid (fun a b w => between_any a b w)
  have hn := h.small
  have hlen := h.len
  obtain ⟨ad, rfl, hc⟩ := h.lies (by omega)
  have ck := hc k (by omega)
  have hlow := h.low (by omega) ad rfl
  have hxx : (l[k]'(by omega)).toNat = x := by
    have := gX_of (List.getElem?_eq_getElem (show k < l.length by omega))
    omega
  rw [hxx] at ck
  have hx8 : x < 256 := by rw [← hxx]; exact (l[k]'(by omega)).toNat_lt
  have H := hid h
  have CK : Hid (∀ W, Below w.heap.size w W → W.cell? (ad.add k) = some (.int .u8 (x : Nat))) := fun W b => (b.cell (p := ad.add k) (by rw [block_of_add]; exact hlow)).trans ck
  have HB := hid (fun w => begun_any x hx8 w)
  rw [ho, hd, hs] at HB
  obtain ⟨q, hq⟩ : ∃ q, (n : Int) - 1 = q := ⟨_, rfl⟩
  have e1 : IntKind.i64.wrap q = q := by rw [IntKind.wrap_i64]; omega
  have e1' : wrap64 q = q := by unfold wrap64; omega
  obtain ⟨m, hm⟩ : ∃ m, (if (65535 : Int) < q then (65535 : Int) else q) = m := ⟨_, rfl⟩
  have hA := hid (decide_eq_true (p := inn k 0 m) (by unfold inn; split at hm <;> omega))
  have G0 := hid (g1_made w)
  have hkz : (k : Int) < (n : Int) := by omega
  have E1 := hid e1
  have E1' := hid e1'
  have HM := hid hm
  clear e1 e1' hm
  have HR := hid (fun w => Right_any o d s 0 w)
  have HL := hid (fun w => Length_any o d s 0 w)
  rw [show rightE o d s 0 = 0 from if_pos hok] at HR
  rw [show lenI o d s 0 = 1 + rB o s from if_pos hok, hrb, show (1 : Int) + 1 = 2 from rfl] at HL
  obtain ⟨e, hee⟩ : ∃ e : Nat, e = k + 2 := ⟨_, rfl⟩
  have e2 : (k : Int) + 2 = (e : Int) := by omega
  have E3 : Hid (IntKind.i64.wrap (e : Int) = (e : Int)) := by refine hid ?_; rw [IntKind.wrap_i64]; omega
  have E4 : Hid (wrap64 (e : Int) = (e : Int)) := by refine hid ?_; unfold wrap64; omega
  have hez : (n : Int) < (e : Int) := by omega
  clear hk hk6 hx ho hd hs hok h hc ck hlow hxx hx8 hn hlen hrb hf hee
  unfold noG
  unfold vI at HL
  unfold vG vI
  unfold vI at HB HR
  have e1 := E1.out
  have e1' := E1'.out
  have hm := HM.out
  go_enter Try.func52, Try.ntmps52
  go_wp2_with fail
  refine (HT.out _ _ _).mono ?_
  rintro r w2 ⟨f, rfl, ⟨u2, v2, rfl, z2, y2⟩, b2⟩
  have G2 := hid (G0.out.below b2)
  have A2 := hid (asks_T w2 u2 v2 0 m k true hA.out z2 y2)
  clear b2 z2 y2
  try dsimp only
  go_wp2_with fail
  refine A2.out.mono ?_
  rintro r wx ⟨rfl, rfl⟩
  have cx := CK.out _ G2.out.bel
  clear A2 hA G0
  try dsimp only
  go_wp2_with fail
  refine (HB.out _).mono ?_
  rintro r w5 ⟨rfl, b5⟩
  have G5 := hid (gi_made (G2.out.below b5) o d s 0)
  clear b5 G2 HB cx e1 e1' hm
  try dsimp only
  go_wp2_with fail
  refine (HR.out _).mono ?_
  rintro r w6 ⟨rfl, b6⟩
  have G6 := hid (G5.out.below b6)
  clear b6 G5
  generalize w5.heap.size = hh at *
  try dsimp only
  have e3 := E3.out
  have e4 := E4.out
  obtain ⟨c0, c1, c2, c3⟩ := G6.out.bx
  go_wp2_with fail
  refine (HL.out _).mono ?_
  rintro r w7 ⟨rfl, b7⟩
  have G7 := hid (G6.out.below b7)
  clear b7 G6 c0 c1 c2 c3
  try dsimp only
  obtain ⟨p0, p1, p2, p3, p4, p5, p6, p7⟩ := G7.out.bz
  go_wp2_with fail
  refine bodyPost_ret (results_243 (by kernel_rfl : Try.f52.results = #[.cell 4 24, .tmp 5, .tmp 6]) _ _ w.heap.size _ _ _ rfl (row_set4 _ _ _ _ G7.out.ra) rfl) rfl ?_
  exact ⟨rfl, bel_set4 _ _ _ _ G7.out.bel (Nat.le_refl _)⟩
set_option maxRecDepth 10000 in
set_option maxHeartbeats 4000000 in
theorem get_short2 (A : Option Addr) (n c : Nat) (l : List UInt8) (w : World) (h : IsBB w w.heap.size A n c l) (k x : Nat) (hk : k < n) (hk6 : k ≤ 65535) (hx : gX l k = (x : Int)) (o d s : Int) (ho : oG x = o) (hd : dG x = d) (hs : sG x = s) (hok : okI o d s 0) (hrb : rB o s = 2) (hf : ¬ k + 3 ≤ n) :
    Calls Try.prog 52 #[.slice A n c, .int .i64 (k : Nat)] w fun e w' => e = .returned (vG (noG 12)) ∧ Below w.heap.size w w' := by
  have he : ∀ args w, (callFunc 55 args).run Try.prog w = .ok (.enter 55 args) w := enters_of Try.func55 (by kernel_rfl) rfl
  have HT := hid (fun a b w => between_any a b w)
  have hn := h.small
  have hlen := h.len
  obtain ⟨ad, rfl, hc⟩ := h.lies (by omega)
  have ck := hc k (by omega)
  have hlow := h.low (by omega) ad rfl
  have hxx : (l[k]'(by omega)).toNat = x := by
    have := gX_of (List.getElem?_eq_getElem (show k < l.length by omega))
    omega
  rw [hxx] at ck
  have hx8 : x < 256 := by rw [← hxx]; exact (l[k]'(by omega)).toNat_lt
  have H := hid h
  have CK : Hid (∀ W, Below w.heap.size w W → W.cell? (ad.add k) = some (.int .u8 (x : Nat))) := fun W b => (b.cell (p := ad.add k) (by rw [block_of_add]; exact hlow)).trans ck
  have HB := hid (fun w => begun_any x hx8 w)
  rw [ho, hd, hs] at HB
  obtain ⟨q, hq⟩ : ∃ q, (n : Int) - 1 = q := ⟨_, rfl⟩
  have e1 : IntKind.i64.wrap q = q := by rw [IntKind.wrap_i64]; omega
  have e1' : wrap64 q = q := by unfold wrap64; omega
  obtain ⟨m, hm⟩ : ∃ m, (if (65535 : Int) < q then (65535 : Int) else q) = m := ⟨_, rfl⟩
  have hA := hid (decide_eq_true (p := inn k 0 m) (by unfold inn; split at hm <;> omega))
  have G0 := hid (g1_made w)
  have hkz : (k : Int) < (n : Int) := by omega
  have E1 := hid e1
  have E1' := hid e1'
  have HM := hid hm
  clear e1 e1' hm
  have HR := hid (fun w => Right_any o d s 0 w)
  have HL := hid (fun w => Length_any o d s 0 w)
  rw [show rightE o d s 0 = 0 from if_pos hok] at HR
  rw [show lenI o d s 0 = 1 + rB o s from if_pos hok, hrb, show (1 : Int) + 2 = 3 from rfl] at HL
  obtain ⟨e, hee⟩ : ∃ e : Nat, e = k + 3 := ⟨_, rfl⟩
  have e2 : (k : Int) + 3 = (e : Int) := by omega
  have E3 : Hid (IntKind.i64.wrap (e : Int) = (e : Int)) := by refine hid ?_; rw [IntKind.wrap_i64]; omega
  have E4 : Hid (wrap64 (e : Int) = (e : Int)) := by refine hid ?_; unfold wrap64; omega
  have hez : (n : Int) < (e : Int) := by omega
  clear hk hk6 hx ho hd hs hok h hc ck hlow hxx hx8 hn hlen hrb hf hee
  unfold noG
  unfold vI at HL
  unfold vG vI
  unfold vI at HB HR
  have e1 := E1.out
  have e1' := E1'.out
  have hm := HM.out
  go_enter Try.func52, Try.ntmps52
  go_wp2_with fail
  refine (HT.out _ _ _).mono ?_
  rintro r w2 ⟨f, rfl, ⟨u2, v2, rfl, z2, y2⟩, b2⟩
  have G2 := hid (G0.out.below b2)
  have A2 := hid (asks_T w2 u2 v2 0 m k true hA.out z2 y2)
  clear b2 z2 y2
  try dsimp only
  go_wp2_with fail
  refine A2.out.mono ?_
  rintro r wx ⟨rfl, rfl⟩
  have cx := CK.out _ G2.out.bel
  clear A2 hA G0
  try dsimp only
  go_wp2_with fail
  refine (HB.out _).mono ?_
  rintro r w5 ⟨rfl, b5⟩
  have G5 := hid (gi_made (G2.out.below b5) o d s 0)
  clear b5 G2 HB cx e1 e1' hm
  try dsimp only
  go_wp2_with fail
  refine (HR.out _).mono ?_
  rintro r w6 ⟨rfl, b6⟩
  have G6 := hid (G5.out.below b6)
  clear b6 G5
  generalize w5.heap.size = hh at *
  try dsimp only
  have e3 := E3.out
  have e4 := E4.out
  obtain ⟨c0, c1, c2, c3⟩ := G6.out.bx
  go_wp2_with fail
  refine (HL.out _).mono ?_
  rintro r w7 ⟨rfl, b7⟩
  have G7 := hid (G6.out.below b7)
  clear b7 G6 c0 c1 c2 c3
  try dsimp only
  obtain ⟨p0, p1, p2, p3, p4, p5, p6, p7⟩ := G7.out.bz
  go_wp2_with fail
  refine bodyPost_ret (results_243 (by kernel_rfl : Try.f52.results = #[.cell 4 24, .tmp 5, .tmp 6]) _ _ w.heap.size _ _ _ rfl (row_set4 _ _ _ _ G7.out.ra) rfl) rfl ?_
  exact ⟨rfl, bel_set4 _ _ _ _ G7.out.bel (Nat.le_refl _)⟩
set_option maxRecDepth 10000 in
set_option maxHeartbeats 4000000 in
theorem get_else0_y (A : Option Addr) (n c : Nat) (l : List UInt8) (w : World) (h : IsBB w w.heap.size A n c l) (k x : Nat) (hk : k < n) (hk6 : k ≤ 65535) (hx : gX l k = (x : Int)) (o d s : Int) (ho : oG x = o) (hd : dG x = d) (hs : sG x = s) (hok : okI o d s 0) (hrb : rB o s = 0) (_hf : k + 1 ≤ n) (ho1 : o ≠ 1) (hnr : ¬ near o) (b : Int) (hb : Hid (gB l k 0 = b)) (hfin : okI o d s b) :
    Calls Try.prog 52 #[.slice A n c, .int .i64 (k : Nat)] w fun e w' => e = .returned (vG ⟨o, d, s, b, ((k + 1 : Nat) : Int), 0⟩) ∧ Below w.heap.size w w' := by
  have he : ∀ args w, (callFunc 55 args).run Try.prog w = .ok (.enter 55 args) w := enters_of Try.func55 (by kernel_rfl) rfl
  have HT := hid (fun a b w => between_any a b w)
  have hn := h.small
  have hlen := h.len
  obtain ⟨ad, rfl, hc⟩ := h.lies (by omega)
  have ck := hc k (by omega)
  have hlow := h.low (by omega) ad rfl
  have hxx : (l[k]'(by omega)).toNat = x := by
    have := gX_of (List.getElem?_eq_getElem (show k < l.length by omega))
    omega
  rw [hxx] at ck
  have hx8 : x < 256 := by rw [← hxx]; exact (l[k]'(by omega)).toNat_lt
  have H := hid h
  have CK : Hid (∀ W, Below w.heap.size w W → W.cell? (ad.add k) = some (.int .u8 (x : Nat))) := fun W b => (b.cell (p := ad.add k) (by rw [block_of_add]; exact hlow)).trans ck
  have HB := hid (fun w => begun_any x hx8 w)
  rw [ho, hd, hs] at HB
  obtain ⟨q, hq⟩ : ∃ q, (n : Int) - 1 = q := ⟨_, rfl⟩
  have e1 : IntKind.i64.wrap q = q := by rw [IntKind.wrap_i64]; omega
  have e1' : wrap64 q = q := by unfold wrap64; omega
  obtain ⟨m, hm⟩ : ∃ m, (if (65535 : Int) < q then (65535 : Int) else q) = m := ⟨_, rfl⟩
  have hA := hid (decide_eq_true (p := inn k 0 m) (by unfold inn; split at hm <;> omega))
  have G0 := hid (g1_made w)
  have hkz : (k : Int) < (n : Int) := by omega
  have E1 := hid e1
  have E1' := hid e1'
  have HM := hid hm
  clear e1 e1' hm
  have HR := hid (fun w => Right_any o d s 0 w)
  have HL := hid (fun w => Length_any o d s 0 w)
  rw [show rightE o d s 0 = 0 from if_pos hok] at HR
  rw [show lenI o d s 0 = 1 + rB o s from if_pos hok, hrb, show (1 : Int) + 0 = 1 from rfl] at HL
  obtain ⟨e, hee⟩ : ∃ e : Nat, e = k + 1 := ⟨_, rfl⟩
  have e2 : (k : Int) + 1 = (e : Int) := by omega
  have E3 : Hid (IntKind.i64.wrap (e : Int) = (e : Int)) := by refine hid ?_; rw [IntKind.wrap_i64]; omega
  have E4 : Hid (wrap64 (e : Int) = (e : Int)) := by refine hid ?_; unfold wrap64; omega
  have hez : ¬ ((n : Int) < (e : Int)) := by omega
  have HR2 := hid (fun w => Right_any o d s b w)
  rw [show rightE o d s b = 0 from if_pos hfin] at HR2
  obtain ⟨A2, hsl, h2⟩ := slice_part h e e (by omega) (by omega)
  rw [show e - e = 0 by omega] at hsl h2
  have hbv : b = 0 := by rw [← hb.out]; rfl
  have ho1b : (o == 1) = false := by simp only [beq_eq_false_iff_ne, ne_eq]; omega
  have HN := hid (fun w => near_any o w)
  have hdn : decide (near o) = false := decide_eq_false hnr
  rw [show ((k + 1 : Nat) : Int) = (e : Int) by omega]
  subst hbv
  clear hk hk6 hx ho hd hs hok h hc ck hlow hxx hx8 hn hlen hrb _hf hee hfin hb h2 hnr ho1
  unfold vI at HL HR2
  unfold vG vI
  unfold vI at HB HR
  have e1 := E1.out
  have e1' := E1'.out
  have hm := HM.out
  go_enter Try.func52, Try.ntmps52
  go_wp2_with fail
  refine (HT.out _ _ _).mono ?_
  rintro r w2 ⟨f, rfl, ⟨u2, v2, rfl, z2, y2⟩, b2⟩
  have G2 := hid (G0.out.below b2)
  have A2 := hid (asks_T w2 u2 v2 0 m k true hA.out z2 y2)
  clear b2 z2 y2
  try dsimp only
  go_wp2_with fail
  refine A2.out.mono ?_
  rintro r wx ⟨rfl, rfl⟩
  have cx := CK.out _ G2.out.bel
  clear A2 hA G0
  try dsimp only
  go_wp2_with fail
  refine (HB.out _).mono ?_
  rintro r w5 ⟨rfl, b5⟩
  have G5 := hid (gi_made (G2.out.below b5) o d s 0)
  clear b5 G2 HB cx e1 e1' hm
  try dsimp only
  go_wp2_with fail
  refine (HR.out _).mono ?_
  rintro r w6 ⟨rfl, b6⟩
  have G6 := hid (G5.out.below b6)
  clear b6 G5
  generalize w5.heap.size = hh at *
  try dsimp only
  have e3 := E3.out
  have e4 := E4.out
  obtain ⟨c0, c1, c2, c3⟩ := G6.out.bx
  go_wp2_with fail
  refine (HL.out _).mono ?_
  rintro r w7 ⟨rfl, b7⟩
  have G7 := hid (G6.out.below b7)
  clear b7 G6 c0 c1 c2 c3
  try dsimp only
  go_upto_region 10 with fail
  go_wp2_with fail
  go_loopw [9, 11, 45] (fun v9 v11 v45 wr => ∃ j : Nat, j ≤ 0 ∧ v11 = v11 ∧ v45 = .int .i64 (j : Nat) ∧ v9 = .int .i64 (0) ∧ wr = w7) (fun _ _ v45 _ => 0 - (intOf v45).toNat)
  case atStart => exact ⟨0, Nat.zero_le _, rfl, rfl, rfl, rfl⟩
  case round =>
    obtain ⟨j, hj, _, rfl, rfl, rfl⟩ := hrel
    obtain rfl : j = 0 := by omega
    · obtain ⟨c0, c1, c2, c3⟩ := G7.out.bx
      have f2 := G7.out.fr 2
      have f3 := G7.out.fr 3
      go_wp2_with fail
      refine (HN.out _).mono ?_
      rw [hdn]
      rintro r wy ⟨rfl, rfl⟩
      try dsimp only
      have G8 := hid (G7.out.setN 0)
      go_wp2_with fail
      refine (HR2.out _).mono ?_
      rintro r w9 ⟨rfl, b9⟩
      have G9 := hid (G8.out.below b9)
      clear b9 G8 c0 c1 c2 c3 f2 f3 G7
      try dsimp only
      obtain ⟨c0, c1, c2, c3⟩ := G9.out.bx
      obtain ⟨p0, p1, p2, p3, p4, p5, p6, p7⟩ := G9.out.bz
      go_wp2_with fail
      refine bodyPost_ret (results_243 (by kernel_rfl : Try.f52.results = #[.cell 4 24, .tmp 5, .tmp 6]) _ _ w.heap.size _ _ _ rfl (row_set4 _ _ _ _ G9.out.ra) rfl) rfl ?_
      exact ⟨rfl, bel_set4 _ _ _ _ G9.out.bel (Nat.le_refl _)⟩
end Go.Proofs.Ytaogileaeflnfaa
