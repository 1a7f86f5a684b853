/-
  Merged: Bld4 Kn3 Cxb Zj Zk Rtd.
-/
import Derived.Test.YtkfdbibgjoaefaaGreatDoorMg35
import Derived.Test.YtkfdbibgjoaefaaGreatDoorMg32
import Derived.Test.YtkfdbibgjoaefaaGreatDoorMg33
import Derived.Test.YtkfdbibgjoaefaaGreatDoorMg27
import Derived.Test.YtkfdbibgjoaefaaGreatDoorMg29
import Derived.Test.YtkfdbibgjoaefaaGreatDoorMg24
import Derived.Shelf.Slices.Clone
import Derived.BigQuiet
/-
  build: a PMatch as it begins.
-/
namespace Go.Proofs.YtkfdbibgjoaefaaGreatDoor
open Go.RowKit

set_option maxRecDepth 10000 in
set_option maxHeartbeats 1000000 in
theorem build_mch (s : Nat) (a b c r m : Int) (w : World) (hs : s ≤ 16) : Calls Tryz.prog 26 #[vP 4 s a b c r m] w fun e w' => ∃ g dr ds, e = .returned (.iface 101 (pt g)) ∧ w.heap.size ≤ g ∧ w.heap.size ≤ dr ∧ w.heap.size ≤ ds ∧ g ≠ dr ∧ g ≠ ds ∧ dr ≠ ds ∧
    Ro w' g 107 7 (maF s dr (2 ^ s) ds 0 0 0) ∧ Ro w' dr 5 (2 ^ s) (fun _ => .int .u8 0) ∧ Ro w' ds 3 (2 ^ s) (fun _ => .int .i64 0) ∧ Below w.heap.size w w' := by
  have HL : Hid (∀ bk w', w'.cell? ⟨bk, 0, none⟩ = some (.int .i64 0) → Calls Tryz.prog 48 #[.int .i64 s, .int .i64 1, .func (.func 69) #[] #[.pointer (some ⟨bk, 0, none⟩)]] w' fun e w'' => ∃ d, e = .returned (.agg #[.int .i64 s, .int .i64 1, .slice (some ⟨d, 0, none⟩) (1 * 2 ^ s) (1 * 2 ^ s)]) ∧ w'.heap.size ≤ d ∧
      Ro w'' d 3 (1 * 2 ^ s) (fun _ => .int .i64 0) ∧ Below w'.heap.size w' w'') := hid (fun g w' h => lay_same s 1 0 hs (by omega) g w' h)
  have HS := hid (fun w' => same_i 0 w')
  have hp := Nat.pow_le_pow_right (n := 2) (by decide) hs
  have e1 := shl_nat 1 s hs
  rw [Nat.one_mul] at HL e1
  obtain ⟨n, hn⟩ : ∃ n, 2 ^ s = n := ⟨_, rfl⟩
  rw [hn] at HL e1 hp ⊢
  have hmk := fun w => make_row 63 5 _ 1 _ Tryz.underlying63 Tryz.info5' (fun _ => .int .u8 0) (by intro k; simp [Value.cells, Nat.mod_one]) n (by omega) (by omega) w
  have n0 : (n : Int) ≤ 65536 := by omega
  have hs1 : (s : Int) ≤ 16 := by omega
  have e2 : (2 : Int) ^ s = (n : Int) := by rw [← e1]; simp
  have e3 : IntKind.i64.wrap (n : Int) = (n : Int) := IntWalk.i64_in _ (by omega)
  obtain ⟨W, hW⟩ : ∃ W, W = w.alloc (.cells #[.int .u8 4, .int .i64 s, .int .i64 a, .int .i64 b, .int .i64 c, .int .i64 r, .int .i64 m] 38) := ⟨_, rfl⟩
  have b0 : Below w.heap.size w W := by rw [hW]; exact (Below.refl _ _).alloc (Nat.le_refl _) _
  have m1 : W.cell? ⟨w.heap.size, 1, none⟩ = some (.int .i64 s) := by rw [hW]; go_simp
  have m0 : W.cell? ⟨w.heap.size, 0, none⟩ = some (.int .u8 4) := by rw [hW]; go_simp
  have n1 : ∀ o, (W.alloc o).cell? ⟨w.heap.size, 1, none⟩ = some (.int .i64 s) := fun o => keeps ((Below.refl W.heap.size W).alloc (Nat.le_refl _) o) m1
  have B0 := hid b0
  have ZA : Hid (∀ w' : World, Ro (w'.alloc (.cells (fL n fun _ => .int .u8 0).toArray 5)) w'.heap.size 5 n (fun _ => .int .u8 0)) := hid fun w' => heap_alloc_new w' _
  clear b0 hn hp e1 hs
  unfold vP
  unfold pt at *
  go_enter Tryz.func26, Tryz.ntmps26
  go_wp2_with (rw [← hW])
  clear hW
  go_region_held3 (fun w' => w'.cell? ⟨w.heap.size, 1, none⟩ = some (.int .i64 s))
    (first | exact m1 | exact n1 _ | exact j1 | exact j2 _ | exact k1 | exact k2 _ | go_keep)
    (first
    | (go_at_call 49; go_must ((refine (HS.out _).mono ?_); rintro r w1 ⟨rfl, c1, l1, b1⟩; have k1 : w1.cell? ⟨w.heap.size, 1, none⟩ = some (.int .i64 s) := (by first | exact keeps b1 m1 | exact keeps b1 (n1 _)); have k2 : ∀ o, (w1.alloc o).cell? ⟨w.heap.size, 1, none⟩ = some (.int .i64 s) := (fun o => keeps ((Below.refl w1.heap.size w1).alloc (Nat.le_refl _) o) k1); have B1 : Hid (Below W.heap.size W w1) := (by first | exact undrew b1 | exact bel_alo (undrew b1)); try (with_reducible have ra : Hid (Ro w1 W.heap.size 5 n (fun _ => .int .u8 0)) := (ZA.out W).below (undrew b1))))
    | (go_at_call 48; go_must ((first | with_reducible refine (HL.out _ w1 (by first | exact c1 | simpa using c1)).mono ?_ | with_reducible refine (HL.out _ (w1.alloc _) (keeps ((Below.refl w1.heap.size w1).alloc (Nat.le_refl _) _) (by first | exact c1 | simpa using c1))).mono ?_ | with_reducible refine (HL.out _ (w1.alloc _).drew (keeps ((Below.refl w1.heap.size w1).alloc (Nat.le_refl _) _).drew (by first | exact c1 | simpa using c1))).mono ?_); rintro r w2 ⟨d, rfl, d1, R1, b2⟩; have B2 : Hid (Below w1.heap.size w1 w2) := (by first | exact b2 | exact bel_alo b2); have j1 := keeps B2.out k1; have j2 : ∀ o, (w2.alloc o).cell? ⟨w.heap.size, 1, none⟩ = some (.int .i64 s) := (fun o => keeps ((Below.refl w2.heap.size w2).alloc (Nat.le_refl _) o) j1); have R1 := hid R1; have d1 := hid d1; try (have ra := hid (ra.out.below B2.out)); try (with_reducible have rb : Hid (Ro w2 w1.heap.size 5 n (fun _ => .int .u8 0)) := (ZA.out w1).below b2))))
  · have hr := ((show Ro (W.alloc (Obj.cells (fL n fun _ => Value.int .u8 0).toArray 5)).drew W.heap.size 5 n (fun _ => .int .u8 0) from ZA.out W).below b1).below B2.out
    have q1 := B0.out.size
    have q2 : W.heap.size + 1 < w1.heap.size := by simpa using l1
    have q3 := B2.out.size
    have q4 := d1.out
    have q5 := R1.out.lt
    have BB := bel3 B0.out B1.out B2.out
    have HR := hid hr
    have HBB := hid BB
    clear hr BB
    go_wp2_with fail
    go_ret
    have x2 : ∀ o, Below w2.heap.size w2 (w2.alloc o) := fun o => (Below.refl _ _).alloc (Nat.le_refl _) o
    exact ⟨w2.heap.size, W.heap.size, d, rfl, by omega, by omega, by omega, by omega, by omega, by omega, heap_alloc_new w2 _, HR.out.below (x2 _), R1.out.below (x2 _), HBB.out.trans ((x2 _).mono (by omega))⟩
  · have hr := (ZA.out w1).below b2
    have q1 := B0.out.size
    have q2 := B1.out.size
    have q3 := B2.out.size
    have q4 : w1.heap.size + 1 ≤ d := by simpa using d1.out
    have q5 := R1.out.lt
    have BB := bel3 B0.out B1.out B2.out
    have HR := hid hr
    have HBB := hid BB
    clear hr BB
    go_wp2_with fail
    go_ret
    have x2 : ∀ o, Below w2.heap.size w2 (w2.alloc o) := fun o => (Below.refl _ _).alloc (Nat.le_refl _) o
    exact ⟨w2.heap.size, w1.heap.size, d, rfl, by omega, by omega, by omega, by omega, by omega, by omega, heap_alloc_new w2 _, HR.out.below (x2 _), R1.out.below (x2 _), HBB.out.trans ((x2 _).mono (by omega))⟩
  · have q1 := B0.out.size
    have q2 := B1.out.size
    have q3 := B2.out.size
    have q4 := d1.out
    have q5 := R1.out.lt
    have BB := bel3 B0.out B1.out B2.out
    have HBB := hid BB
    clear BB
    obtain ⟨W4, hW4⟩ : ∃ W4, W4 = w2.alloc (Obj.cells (fL n fun _ => Value.int .u8 0).toArray 5) := ⟨_, rfl⟩
    have hr : Ro W4 w2.heap.size 5 n (fun _ => .int .u8 0) := by rw [hW4]; exact ZA.out w2
    have hz : W4.heap.size = w2.heap.size + 1 := by rw [hW4]; simp
    have hb : Below w2.heap.size w2 W4 := by rw [hW4]; exact (Below.refl _ _).alloc (Nat.le_refl _) _
    have HR := hid hr
    have HB4 := hid hb
    have HZ := hid hz
    have HW4 := hid hW4
    clear hr hb hz hW4
    go_wp2_with fail
    go_ret
    have x2 : ∀ o, Below W4.heap.size W4 (W4.alloc o) := fun o => (Below.refl _ _).alloc (Nat.le_refl _) o
    have hz := HZ.out
    rw [← HW4.out]
    refine ⟨w2.heap.size + 1, w2.heap.size, d, rfl, by omega, by omega, by omega, by omega, by omega, by omega, ?_, HR.out.below (x2 _), (R1.out.below HB4.out).below (x2 _), (HBB.out.trans (HB4.out.mono (by omega))).trans ((x2 _).mono (by omega))⟩
    rw [← hz]
    exact heap_alloc_new W4 _
end Go.Proofs.YtkfdbibgjoaefaaGreatDoor
/-
  What a PMatch does in memory; all kinds.
-/
namespace Go.Proofs.YtkfdbibgjoaefaaGreatDoor
open Go.RowKit

theorem mch_at {w : World} {S : Nat → Prop} {v : Value} {u : Un} {wh : Nat} (k : u.p.kind = 4) (h : UnAt w S v u wh) : ∃ g dr ds, v = .iface 101 (pt g) ∧ S g ∧ S dr ∧ S ds ∧ g ≠ dr ∧ g ≠ ds ∧ dr ≠ ds ∧
    Ro w g 107 7 (maF u.p.size dr (pw u.p.size) ds wh u.pos u.len) ∧ Ro w dr 5 (pw u.p.size) (bytesF u.ring) ∧ Ro w ds 3 (pw u.p.size) (natsF u.number) := by
  cases h with
  | mch k g dr ds hv sg sr ss n1 n2 n3 hg hr hs => exact ⟨g, dr, ds, hv, sg, sr, ss, n1, n2, n3, hg, hr, hs⟩
  | cst k' | avg k' | cm k' | icm k' | mix2 k' | mix k' | isse k' | sse k' => omega
theorem mch_at' {w : World} {S : Nat → Prop} {v : Value} {u : Un} {wh g : Nat} (k : u.p.kind = 4) (hv : v = .iface 101 (pt g)) (h : UnAt w S v u wh) : ∃ dr ds, S g ∧ S dr ∧ S ds ∧ g ≠ dr ∧ g ≠ ds ∧ dr ≠ ds ∧
    Ro w g 107 7 (maF u.p.size dr (pw u.p.size) ds wh u.pos u.len) ∧ Ro w dr 5 (pw u.p.size) (bytesF u.ring) ∧ Ro w ds 3 (pw u.p.size) (natsF u.number) := by
  obtain ⟨g', dr, ds, hv', r⟩ := mch_at k h
  rw [hv] at hv'
  obtain rfl := pt_inj (iface_inj hv').2
  exact ⟨dr, ds, r⟩
theorem ok_mch {u : Un} {wh : Nat} (k : u.p.kind = 4) (h : u.ok wh) : u.ring.length = pw u.p.size ∧ u.number.length = pw u.p.size ∧ InN u.ring 255 ∧ InN u.number wh ∧ u.pos < pw u.p.size ∧ u.len ≤ 32 := by
  unfold Un.ok at h; rw [if_neg (by omega), if_neg (by omega), if_pos k] at h; exact h
theorem leanK4 : LeanK 4 := by
  intro u S v wh i c bits le n L w0 hk a hu
  obtain ⟨g, d0, d1, hv, _⟩ := mch_at hk hu
  obtain ⟨s0, s1⟩ := one_mch a.one hk
  obtain ⟨l1, l2, q1, q2, hp, hl⟩ := ok_mch hk a.ok
  have hw := pw_le u.p.size s1
  refine ⟨101, pt g, 112, pt g, hv, Ent.of Tryz.func112 (by kernel_rfl) rfl, fun w => m_mch_lean g w, fun w kn hu _ => ?_⟩
  obtain ⟨dr, ds, sg, sr, ss, n1, n2, n3, hg, hd, hs⟩ := mch_at' hk hv hu
  have hc := hd.cell u.pos hp
  unfold bytesF at hc
  refine (w_mch_lean g dr (pw u.p.size) u.pos u.len u.h c le n bits (u.ring.getD u.pos 0) w (hg.cell 0 (by omega)) (hg.cell 5 (by omega)) (hg.cell 6 (by omega)) hp hw hl hc (by have := q1 u.pos; omega) a.b7 a.c0 a.c1).mono ?_
  rintro e w' ⟨rfl, b⟩
  have e1 : u.lean c bits L = u.foretold c bits := by
    unfold Un.lean
    simp only
    rw [if_neg (by omega), if_neg (by omega), if_neg (by omega), if_pos hk]
  rw [e1]
  exact ⟨rfl, b⟩
theorem nil_mch_learn (g : Nat) (w : World) : (nilAhead 273 101 (pt g) "quillpress/blend.learn").run Tryz.prog w = .ok (some false) w := by kernel_rfl
theorem learnK4 : LearnK 4 := learn_65 (fun u c L own one hk => by unfold Un.learn; simp [hk]) (fun u S v wh w0 hk hu => by
  obtain ⟨g, d0, d1, hv, _⟩ := mch_at hk hu
  exact ⟨101, _, hv, nil_mch_learn g, fun w hu => by obtain ⟨dr, ds, _, _, _, _, _, _, hg, _⟩ := mch_at' hk hv hu; exact (m_mch_learn g w _ hg).row⟩)
theorem endK4 : EndK 4 := by
  intro u S v wh i c w0 hk ho hok hwh hu
  obtain ⟨g, d0, d1, hv, _⟩ := mch_at hk hu
  obtain ⟨s0, s1⟩ := one_mch ho hk
  obtain ⟨l1, l2, q1, q2, hp, hl⟩ := ok_mch hk hok
  have hw := pw_le u.p.size s1
  refine ⟨101, pt g, 111, pt g, hv, Ent.of Tryz.func111 (by kernel_rfl) rfl, fun w _ => (m_mch_end g w).row, fun w kn hu => ?_⟩
  obtain ⟨dr, ds, sg, sr, ss, n1, n2, n3, hg, hd, hs⟩ := mch_at' hk hv hu
  refine (w_mch_end g dr ds (pw u.p.size) u.pos u.len wh (c % 256) u.p.size u.ring w n1 hg hd l1 ⟨pw_pos _, hw⟩ hp hl hwh (by omega) (by have := q1 u.pos; omega)).mono ?_
  rintro e w' ⟨rfl, r1, r2, b⟩
  refine ⟨rfl, ?_, b.mono fun k e => by rcases e with rfl | rfl; exact .inl sg; exact .inl sr⟩
  unfold Un.whole
  rw [if_pos hk]
  exact .mch hk g dr ds hv sg sr ss n1 n2 n3 r1 r2 (hs.on b (fun e => by rcases e with e | e; exact n2 e.symm; exact n3 e.symm))
theorem beginK4 : BeginK 4 := by
  intro u S v wh i h w0 hk ho hok hwh hh hu
  obtain ⟨g, d0, d1, hv, _⟩ := mch_at hk hu
  obtain ⟨s0, s1⟩ := one_mch ho hk
  obtain ⟨l1, l2, q1, q2, hp, hl⟩ := ok_mch hk hok
  refine ⟨101, pt g, 110, pt g, hv, Ent.of Tryz.func110 (by kernel_rfl) rfl, fun w => (m_mch_begin g w).nil, fun w _ => (m_mch_begin g w).row, fun w kn hu => ?_⟩
  obtain ⟨dr, ds, sg, sr, ss, n1, n2, n3, hg, hd, hs⟩ := mch_at' hk hv hu
  refine (w_mch_begin g dr ds u.pos u.len wh h u.p.size u.ring u.number w n1 n2 n3 hh (by omega) s1 hg hd hs l2 hl hwh (q2 _)).mono ?_
  rintro e w' ⟨rfl, r1, r2, r3, b⟩
  refine ⟨rfl, ?_, b.mono fun k e => by rcases e with rfl | rfl; exact .inl sg; exact .inl ss⟩
  unfold Un.beg
  rw [if_pos hk]
  unfold Un.find
  exact .mch hk g dr ds hv sg sr ss n1 n2 n3 r1 r2 r3
theorem begun4 {p : Pt} (hk : p.kind = 4) : begun p = { p := p, ring := List.replicate (pw p.size) 0, number := List.replicate (pw p.size) 0 } := by unfold begun; rw [if_neg (by omega), if_neg (by omega), if_pos hk]
theorem buildK4 : BuildK 4 := by
  intro p i w hk ho kn
  obtain ⟨s0, s1⟩ := one_mch ho hk
  obtain ⟨s, hs, s16, hp⟩ := pw_nat p.size (by omega) s1
  unfold vPt
  rw [hk, hs]
  refine (build_mch s p.a p.b p.c p.rate p.limit w s16).mono ?_
  rintro e w' ⟨g, dr, ds, rfl, g1, d1, d2, n1, n2, n3, hg, hd, hss, b⟩
  refine ⟨_, _, rfl, ?_, b⟩
  rw [begun4 hk]
  refine .mch hk g dr ds rfl ⟨g1, hg.lt⟩ ⟨d1, hd.lt⟩ ⟨d2, hss.lt⟩ n1 n2 n3 ?_ ?_ ?_
  · show Ro w' g 107 7 (maF p.size dr (pw p.size) ds 0 0 0)
    rw [hp, hs]; exact hg
  · show Ro w' dr 5 (pw p.size) (bytesF (List.replicate (pw p.size) 0))
    rw [hp]
    exact hd.same fun k hk2 => by unfold bytesF; rw [rep_getD _ _ _ _ hk2]; rfl
  · show Ro w' ds 3 (pw p.size) (natsF (List.replicate (pw p.size) 0))
    rw [hp]
    exact hss.same fun k hk2 => by unfold natsF; rw [rep_getD _ _ _ _ hk2]; rfl
/-- Each kind there is. -/
theorem kind_all (k : Nat) (h : 1 ≤ k ∧ k ≤ 9) : BuildK k ∧ LeanK k ∧ LearnK k ∧ EndK k ∧ BeginK k := by
  have : k = 1 ∨ k = 2 ∨ k = 3 ∨ k = 4 ∨ k = 5 ∨ k = 6 ∨ k = 7 ∨ k = 8 ∨ k = 9 := by omega
  rcases this with rfl | rfl | rfl | rfl | rfl | rfl | rfl | rfl | rfl
  · exact ⟨buildK1, leanK1, learnK1, endK1, beginK1⟩
  · exact ⟨buildK2, leanK2, learnK2, endK2, beginK2⟩
  · exact ⟨buildK3, leanK3, learnK3, endK3, beginK3⟩
  · exact ⟨buildK4, leanK4, learnK4, endK4, beginK4⟩
  · exact ⟨buildK5, leanK5, learnK5, endK5, beginK5⟩
  · exact ⟨buildK6, leanK6, learnK6, endK6, beginK6⟩
  · exact ⟨buildK7, leanK7, learnK7, endK7, beginK7⟩
  · exact ⟨buildK8, leanK8, learnK8, endK8, beginK8⟩
  · exact ⟨buildK9, leanK9, learnK9, endK9, beginK9⟩
end Go.Proofs.YtkfdbibgjoaefaaGreatDoor
/-
  A whole blend in memory is given its contexts; all kinds at once.
-/
namespace Go.Proofs.YtkfdbibgjoaefaaGreatDoor
open Go.RowKit

theorem ctx_len (b : Bl) (hs : List Nat) : (b.contexts hs).l.length = b.l.length := by unfold Bl.contexts; simp
theorem ctx_nth (b : Bl) (hs : List Nat) (i : Nat) (hi : i < b.l.length) : nth (b.contexts hs).l i = (nth b.l i).beg b.whole (hs.getD i 0) := by
  rw [nth_at _ _ (by rw [ctx_len]; exact hi), nth_at _ _ hi]
  simp [Bl.contexts, Un.beg]
theorem beg_h (u : Un) (wh h : Nat) : (u.beg wh h).h = h := by
  unfold Un.beg
  split <;> rfl
theorem ctx_h (b : Bl) (hs : List Nat) : (b.contexts hs).l.map (·.h) = (List.range b.l.length).map (fun i => hs.getD i 0) := by
  apply List.ext_getElem
  · simp [ctx_len]
  · intro i h1 h2
    have hi : i < b.l.length := by simpa using h2
    have := ctx_nth b hs i hi
    rw [nth_at _ _ (by rw [ctx_len]; exact hi)] at this
    rw [List.getElem_map, this, beg_h]
    simp
theorem ctx_ps (b : Bl) (hs : List Nat) : (b.contexts hs).l.map (·.p) = b.l.map (·.p) := by
  unfold Bl.contexts
  exact map_p (fun _ u => by split <;> rfl)
theorem hs_in {hs : List Nat} (h : ∀ x ∈ hs, x < 4294967296) (i : Nat) : hs.getD i 0 < 4294967296 := by
  by_cases e : i < hs.length
  · rw [gD_in _ _ e]; exact h _ (List.getElem_mem e)
  · rw [gD_out _ _ (by omega)]; decide
theorem Fit.contexts {b : Bl} (f : Fit b) {hs : List Nat} (h : ∀ x ∈ hs, x < 4294967296) : Fit (b.contexts hs) := by
  refine ⟨contexts_ok b hs f.ok, fun u hu => ?_, f.wh⟩
  have : u.h ∈ (b.contexts hs).l.map (·.h) := List.mem_map.2 ⟨u, hu, rfl⟩
  rw [ctx_h] at this
  obtain ⟨i, _, e⟩ := List.mem_map.1 this
  rw [← e]
  exact hs_in h i
theorem Can.contexts {b : Bl} (c : Can b.l) (hs : List Nat) : Can (b.contexts hs).l := map_p_mem (ctx_ps b hs) (q := fun k => LeanK k ∧ LearnK k ∧ EndK k) c
/-- A right part's kind is known. -/
theorem known {b : Bl} (f : Fit b) : ∀ u ∈ b.l, BuildK u.p.kind ∧ LeanK u.p.kind ∧ LearnK u.p.kind ∧ EndK u.p.kind ∧ BeginK u.p.kind := by
  intro u hu
  obtain ⟨i, hi, e⟩ := List.getElem_of_mem hu
  have := one_kinds (right_one f.ok.parts i hi)
  rw [nth_at _ _ hi, e] at this
  exact kind_all _ this
theorem kinds_right {L : List Pt} (h : rightP L = 0) : ∀ p ∈ L, Kind p.kind := by
  intro p hp
  obtain ⟨i, hi, e⟩ := List.getElem_of_mem hp
  have := one_kinds (((rightP_ok _).1 h).2.1 i hi)
  rw [e] at this
  have := kind_all _ this
  exact ⟨this.1, this.2.1, this.2.2.1, this.2.2.2.1⟩
theorem bl_contexts {w : World} {F : Nat → Prop} {g : Nat} {b : Bl} (h : BlAt w F g b) (f : Fit b) (kn : KnIs w) (hc : b.c = 1) {A : Option Addr} {m mc : Nat} {hs : List Nat} (ws : WsAt w w.heap.size A m mc hs) (hd : ∀ ad, A = some ad → 0 < m → ¬ F ad.block) :
    Calls Tryz.prog 12 #[pt g, .slice A m mc] w fun e w' => e = .returned (.int .i64 0) ∧ BlAt w' F g (b.contexts hs) ∧ But F w w' := by
  obtain ⟨pa, ct, le, cap, v, S, bx, hu, h1, h2, f1, f2, f3, f4, f5⟩ := h.ex
  have hrng := f.rdy.rng
  have f' := f.contexts ws.small
  have hlen := ctx_len b hs
  obtain ⟨T, x, K, R, hp⟩ := pick4 (n := b.l.length) (fun i hi => (known f _ (nth_mem hi)).2.2.2.2 (nth b.l i) (S i) (v i) b.whole i (hs.getD i 0) w rfl (right_one f.ok.parts i hi) (f.ok.each _ (nth_mem hi)) (by have := f.wh; omega) (hs_in ws.small i) (hu i hi))
  have fam : Fam b.l.length g pa ct le (fun i k w => if k = 0 then UnAt w (S i) (v i) (nth b.l i) b.whole else UnAt w (S i) (v i) (nth (b.contexts hs).l i) b.whole) S := by
    refine ⟨fun i k w w' X hi hP x hX => ?_, h1, h2⟩
    by_cases k0 : k = 0
    · rw [if_pos k0] at hP ⊢; exact hP.on x hX
    · rw [if_neg k0] at hP ⊢; exact hP.on x hX
  have allF : ∀ a, All b.l.length S a → F a := fun a ⟨i, hi, ha⟩ => f5 i hi a ha
  rw [hc] at bx
  refine (ctx_go bx _ S fam kn T x K R ws (fun ad e hm => fun e2 => hd ad e hm (e2 ▸ f3)) (fun i hi => (hp i hi).1) (fun i hi => (hp i hi).2.1) (fun i hi => (hp i hi).2.2.1) (fun i hi w' pw => (hp i hi).2.2.2.1 w' pw) (fun i hi w' knw pw => ?_) hu (fun w3 => BlAt w3 F g (b.contexts hs) ∧ But F w w3) (fun w' bt knw hp1 bx' => ?_)).mono ?_
  · refine ((hp i hi).2.2.2.2 w' knw pw).mono ?_
    rintro e w2 ⟨rfl, hu2, b2⟩
    refine ⟨rfl, ?_, b2⟩
    show UnAt w2 (S i) (v i) (nth (b.contexts hs).l i) b.whole
    rw [ctx_nth b hs i hi]
    exact hu2
  · have hp1 : ∀ i, i < b.l.length → UnAt w' (S i) (v i) (nth (b.contexts hs).l i) b.whole := hp1
    have bt' : But F w w' := bt.mono fun a ha => .inl (by rcases ha with ha | rfl; exact allF a ha; exact f3)
    rw [← ctx_h, ← hlen] at bx'
    have r : Rdy (b.contexts hs).l b.whole 1 b.bits := by
      have := f'.rdy
      have e : (b.contexts hs).c = 1 := hc
      rw [e] at this
      exact this
    refine (bl_ask bx' knw S r hrng (fun i hi => hp1 i (by rw [← hlen]; exact hi)) (fun i hi e => (h2 i (by rw [← hlen]; exact hi) _ e).2.2.2.1 rfl) (fun u hu => (known f' u hu).2.1)).mono ?_
    rintro e w3 ⟨rfl, b3, bx3⟩
    have b3' : But F w' w3 := b3.mono fun a ha => .inl (by rw [ha]; exact f4)
    refine ⟨rfl, ⟨pa, ct, le, cap, v, S, ?_, ?_, ?_, ?_, f1, f2, f3, f4, ?_⟩, bt'.trans b3'⟩
    · have e2 : (b.contexts hs).c = 1 := hc
      have e1 : (b.contexts hs).leans = leansGo 1 b.bits (b.contexts hs).l [] := by
        unfold Bl.leans
        rw [e2]
        rfl
      rw [e1, e2]
      exact bx3
    · intro i hi
      exact (hp1 i (by rw [← hlen]; exact hi)).on b3 (fun a ha e => (h2 i (by rw [← hlen]; exact hi) a ha).2.2.2.1 e)
    · rw [hlen]; exact h1
    · rw [hlen]; exact h2
    · rw [hlen]; exact f5
  · rintro e w' ⟨rfl, hq⟩
    exact ⟨rfl, hq⟩
section
variable {w0 w w' : World} {F F1 F2 : Nat → Prop} {g g1 g2 : Nat} {b c : Bl} {A : Option Addr} {m mc : Nat} {hs : List Nat}
/-- The caller's numbers lie ahead of the blends. -/
theorem WsAt.up {B B' : Nat} (h : WsAt w B A m mc hs) (hB : B ≤ B') : WsAt w B' A m mc hs := ⟨h.len, fun hm => by
  obtain ⟨ad, e, hb, hc⟩ := h.lies hm
  exact ⟨ad, e, Nat.lt_of_lt_of_le hb hB, hc⟩, h.small⟩
theorem WsAt.keep {B : Nat} (h : WsAt w B A m mc hs) (b : Below B w w') : WsAt w' B A m mc hs := ⟨h.len, fun hm => by
  obtain ⟨ad, e, hb, hc⟩ := h.lies hm
  exact ⟨ad, e, hb, fun j hj => (World.cell?_of_block (b.block _ (by rw [block_of_add]; exact hb))).trans (hc j hj)⟩, h.small⟩
theorem On.contexts (h : On w0 w F g b) (hc : b.c = 1) (ws : WsAt w w0.heap.size A m mc hs) : Calls Tryz.prog 12 #[pt g, .slice A m mc] w fun e w' => e = .returned (.int .i64 0) ∧ On w0 w' F g (b.contexts hs) := by
  refine (bl_contexts h.at_ h.fit h.kn hc (ws.up h.bel.size) (fun ad e hm hF => ?_)).mono ?_
  · obtain ⟨ad', e', hb, _⟩ := ws.lies hm
    rw [e] at e'
    injection e' with e'
    subst e'
    have := h.low _ hF
    omega
  · rintro e w' ⟨rfl, a, x⟩
    exact ⟨rfl, h.kn.but x (fun e => by have := h.low _ e; have := h.pos; omega), h.bel.trans (x.below h.low h.bel.size), a, h.fit.contexts ws.small, h.can.contexts hs, h.low, h.pos⟩
theorem Sd.contexts (h : Sd w0 w F1 F2 g1 g2 b c) (hc : b.c = 1) (ws : WsAt w w0.heap.size A m mc hs) : Calls Tryz.prog 12 #[pt g1, .slice A m mc] w fun e w' => e = .returned (.int .i64 0) ∧ Sd w0 w' F1 F2 g1 g2 (b.contexts hs) c := by
  refine (bl_contexts h.one.at_ h.one.fit h.one.kn hc (ws.up h.one.bel.size) (fun ad e hm hF => ?_)).mono ?_
  · obtain ⟨ad', e', hb, _⟩ := ws.lies hm
    rw [e] at e'
    injection e' with e'
    subst e'
    have := h.one.low _ hF
    omega
  · rintro e w' ⟨rfl, a, x⟩
    have z : ¬ F1 0 := fun e => by have := h.one.low _ e; have := h.one.pos; omega
    exact ⟨rfl, ⟨h.one.kn.but x z, h.one.bel.trans (x.below h.one.low h.one.bel.size), a, h.one.fit.contexts ws.small, h.one.can.contexts hs, h.one.low, h.one.pos⟩,
      ⟨h.one.kn.but x z, h.one.bel.trans (x.below h.one.low h.one.bel.size), h.two.at_.on x (fun a h2 h1 => h.apart a h1 h2), h.two.fit, h.two.can, h.two.low, h.two.pos⟩, h.apart⟩
theorem Sd.contexts2 (h : Sd w0 w F1 F2 g1 g2 b c) (hc : c.c = 1) (ws : WsAt w w0.heap.size A m mc hs) : Calls Tryz.prog 12 #[pt g2, .slice A m mc] w fun e w' => e = .returned (.int .i64 0) ∧ Sd w0 w' F1 F2 g1 g2 b (c.contexts hs) := by
  refine (h.swap.contexts hc ws).mono ?_
  rintro e w' ⟨rfl, x⟩
  exact ⟨rfl, x.swap⟩
end
end Go.Proofs.YtkfdbibgjoaefaaGreatDoor
/-
  Merged: Lns Grt Sdb Sme.
-/
/-
  Leans: a list of its own; SameInts.
-/
namespace Go.Proofs.YtkfdbibgjoaefaaGreatDoor
open Go.RowKit Go.Shelf
def Tryz.laysClone_ren : Go.Shelf.Ren := ⟨fun | 15 => 37 | n => n, fun | 22 => 46 | 3 => 3 | 4 => 4 | n => n, fun | n => n⟩
theorem Tryz.laysClone : Go.Proofs.Lays2.n15 Tryz.prog Tryz.laysClone_ren := {
  mixed := by kernel_rfl
  f15 := Tryz.func37.trans (congrArg some (by kernel_rfl))
  t3 := Tryz.underlying3
  a3 := Tryz.isAgg3
  z3 := Tryz.sizeOf3
  v3 := Tryz.zeroValue3
  t4 := Tryz.underlying4
  a4 := Tryz.isAgg4
  z4 := Tryz.sizeOf4
  v4 := Tryz.zeroValue4
  t22 := Tryz.underlying46
  a22 := Tryz.isAgg46
  z22 := Tryz.sizeOf46
  v22 := Tryz.zeroValue46
  i3 := by kernel_rfl }
/-- A list of numbers lies in block d. -/
def Ns (w : World) (d : Nat) (L : List Int) : Prop := ∀ i, i < L.length → w.cell? ⟨d, i, none⟩ = some (.int .i64 (L.getD i 0))
theorem Ns.below {w w' : World} {d : Nat} {L : List Int} (h : Ns w d L) (b : Below w.heap.size w w') : Ns w' d L := fun i hi => keeps b (h i hi)
theorem Clone_any {w : World} {b n : Nat} {L : List Int} (hl : L.length = n) (hn : n ≤ 16) (h : Ns w b L) :
    Calls Tryz.prog 37 #[sl b n] w fun e w' => ∃ d cap, e = .returned (.slice (some ⟨d, 0, none⟩) n cap) ∧ Ns w' d L ∧ Below w.heap.size w w' := by
  have hc := Any.slices_Clone_int Tryz.laysClone b 0 n n L w (by omega) (by omega) (fun j hj => by rw [Nat.zero_add]; exact h j hj)
  have ef : Tryz.laysClone_ren.f 15 = 37 := by kernel_rfl
  rw [ef] at hc
  refine hc.mono ?_
  rintro e w' ⟨v', rfl, ho, hne, hb⟩
  obtain ⟨_, ⟨rfl, _⟩ | ⟨d, cap, cur, rfl, _, hg, _, _, _, ht⟩⟩ := ho
  · exact absurd rfl hne
  · refine ⟨d, cap, rfl, fun i hi => ?_, hb⟩
    rw [row_cell hg i]
    have h1 : (cur.toList.take (n * 1))[i]? = cur.toList[i]? := List.getElem?_take_of_lt (by omega)
    rw [ht] at h1
    rw [← Array.getElem?_toList, ← h1, List.getElem?_map, List.getElem?_take_of_lt (by omega), List.getElem?_eq_getElem hi, gD_in _ _ hi]
    rfl
set_option maxRecDepth 10000 in
set_option maxHeartbeats 1000000 in
theorem Leans_any {w : World} {g pa ct le n cap c : Nat} {v : Nat → Value} {h : List Nat} {L : List Int} (b : Bx w g pa ct le n cap c v h L) :
    Calls Tryz.prog 17 #[pt g] w fun e w' => (∃ d cap, e = .returned (.slice (some ⟨d, 0, none⟩) n cap) ∧ Ns w' d L) ∧ Below w.heap.size w w' := by
  have c0 := b.c0
  have c3 := b.c3
  have HM := hid (made_yes g w c0)
  have HC := hid (Clone_any b.lenL b.most (fun i hi => b.lea.cell i (by rw [← b.lenL]; exact hi) : Ns w le L))
  clear b
  unfold sl at HC
  unfold pt
  go_enter Tryz.func17, Tryz.ntmps17
  go_wp2_with fail
  refine HM.out.mono ?_
  rintro r w1 ⟨rfl, rfl⟩
  go_wp2_with fail
  refine HC.out.mono ?_
  rintro r w1 ⟨d, cap, rfl, hN, hB⟩
  go_wp2_with fail
  go_ret
  exact ⟨⟨d, cap, rfl, hN⟩, hB⟩
set_option maxRecDepth 10000 in
set_option maxHeartbeats 1000000 in
theorem SameInts_yes {w : World} {a c n ca cc : Nat} {L : List Int} (hl : L.length = n) (hn : n ≤ 16) (ha : Ns w a L) (hc : Ns w c L) :
    Calls Tryz.prog 18 #[.slice (some ⟨a, 0, none⟩) n ca, .slice (some ⟨c, 0, none⟩) n cc] w fun e w' => e = .returned (.bool true) ∧ Below w.heap.size w w' := by
  have hN : (n : Int) ≤ 16 := by omega
  go_enter Tryz.func18, Tryz.ntmps18
  go_wp2_with fail
  go_loopw [5] (fun vi wr => ∃ i : Nat, i ≤ n ∧ vi = .int .i64 i ∧ Below w.heap.size w wr) (fun vi _ => n - (intOf vi).toNat)
  case atStart => exact ⟨0, Nat.zero_le _, rfl, Below.refl _ _⟩
  case round =>
    obtain ⟨i, hi, rfl, hw⟩ := hrel
    by_cases hgo : i < n
    · have hz : (i : Int) < (n : Int) := by omega
      have k1 := keeps hw (ha i (by omega))
      have k2 := keeps hw (hc i (by omega))
      clear ha hc
      go_wp2_with fail
      go_quiet (fail)
      go_wp2_with fail
      go_roundw
      case rel => exact ⟨i + 1, by omega, by go_num, hw.trans (Below.drewN _ _ _)⟩
      case measure => simp [intOf]; omega
    · obtain rfl : i = n := by omega
      clear ha hc
      go_wp2_with fail
      go_ret
      exact ⟨rfl, hw⟩
end Go.Proofs.YtkfdbibgjoaefaaGreatDoor
/-
  great; SameInts.
-/
namespace Go.Proofs.YtkfdbibgjoaefaaGreatDoor
open Go.RowKit

set_option maxRecDepth 10000 in
set_option maxHeartbeats 1000000 in
theorem great_any (A : Option Addr) (n c : Nat) (L : List Pt) (w : World) (h : IsP w w.heap.size A n c L) :
    Calls Tryz.prog 4 #[.slice A n c] w fun e w' => (∃ r, e = .returned (.bool r)) ∧ Below w.heap.size w w' := by
  by_cases hn : n ≤ 16
  · have HM := hid (Memory_any A n c L w h (by omega))
    have hz : (n : Int) ≤ 16 := by omega
    clear h
    go_enter Tryz.func4, Tryz.ntmps4
    go_wp2_with fail
    refine HM.out.mono ?_
    rintro e w1 ⟨rfl, b⟩
    go_wp2_with fail
    go_ret
    exact ⟨⟨_, rfl⟩, b⟩
  · have hz : ¬ (n : Int) ≤ 16 := by omega
    clear h
    go_enter Tryz.func4, Tryz.ntmps4
    go_wp2_with fail
    go_ret
    exact ⟨.inl rfl, Below.refl _ _⟩
end Go.Proofs.YtkfdbibgjoaefaaGreatDoor
/-
  Two blends that are the same, side by side, are told the same: what each call leaves.
-/
namespace Go.Proofs.YtkfdbibgjoaefaaGreatDoor
open Go.RowKit

section
variable {w0 w w' : World} {F1 F2 : Nat → Prop} {g1 g2 : Nat} {b c : Bl} {A : Option Addr} {m mc : Nat} {hs : List Nat}
theorem Sd.stay (h : Sd w0 w F1 F2 g1 g2 b c) {b' : Bl} (a : BlAt w' F1 g1 b') (x : But F1 w w') (f : Fit b') (k : Can b'.l) : Sd w0 w' F1 F2 g1 g2 b' c := by
  have z : ¬ F1 0 := fun e => by have := h.one.low _ e; have := h.one.pos; omega
  exact ⟨⟨h.one.kn.but x z, h.one.bel.trans (x.below h.one.low h.one.bel.size), a, f, k, h.one.low, h.one.pos⟩,
    ⟨h.one.kn.but x z, h.one.bel.trans (x.below h.one.low h.one.bel.size), h.two.at_.on x (fun a h2 h1 => h.apart a h1 h2), h.two.fit, h.two.can, h.two.low, h.two.pos⟩, h.apart⟩
/-- A call on the first: what Contexts says, whatever its round. -/
def ctxCode (b : Bl) : Int := if b.c = 1 then 0 else 2
def ctxThen (b : Bl) (hs : List Nat) : Bl := if b.c = 1 then b.contexts hs else b
theorem Sd.ctx (h : Sd w0 w F1 F2 g1 g2 b c) (ws : WsAt w w0.heap.size A m mc hs) : Calls Tryz.prog 12 #[pt g1, .slice A m mc] w fun e w' => e = .returned (.int .i64 (ctxCode b)) ∧ Sd w0 w' F1 F2 g1 g2 (ctxThen b hs) c ∧ But F1 w w' := by
  unfold ctxCode ctxThen
  by_cases hc : b.c = 1
  · rw [if_pos hc, if_pos hc]
    refine (bl_contexts h.one.at_ h.one.fit h.one.kn hc (ws.up h.one.bel.size) (fun ad e hm hF => ?_)).mono ?_
    · obtain ⟨ad', e', hb, _⟩ := ws.lies hm
      rw [e] at e'
      injection e' with e'
      subst e'
      have := h.one.low _ hF
      omega
    · rintro e w' ⟨rfl, a, x⟩
      exact ⟨rfl, h.stay a x (h.one.fit.contexts ws.small) (h.one.can.contexts hs), x⟩
  · rw [if_neg hc, if_neg hc]
    refine (bl_ctx_bad h.one.at_ hc _).mono ?_
    rintro e w' ⟨rfl, rfl⟩
    exact ⟨rfl, h, But.refl _ _⟩
theorem Sd.ctx2 (h : Sd w0 w F1 F2 g1 g2 b c) (ws : WsAt w w0.heap.size A m mc hs) : Calls Tryz.prog 12 #[pt g2, .slice A m mc] w fun e w' => e = .returned (.int .i64 (ctxCode c)) ∧ Sd w0 w' F1 F2 g1 g2 b (ctxThen c hs) ∧ But F2 w w' := by
  refine (h.swap.ctx ws).mono ?_
  rintro e w' ⟨rfl, x, y⟩
  exact ⟨rfl, x.swap, y⟩
def bitCode (bt : Int) : Int := if bt = 0 ∨ bt = 1 then 0 else 2
def bitThen (b : Bl) (bt : Int) : Bl := if bt = 0 then b.learn false else if bt = 1 then b.learn true else b
theorem Sd.bit (h : Sd w0 w F1 F2 g1 g2 b c) (bt : Int) (hw : b.whole < 4294967294) : Calls Tryz.prog 15 #[pt g1, .int .i64 bt] w fun e w' => e = .returned (.int .i64 (bitCode bt)) ∧ Sd w0 w' F1 F2 g1 g2 (bitThen b bt) c ∧ But F1 w w' := by
  unfold bitCode bitThen
  by_cases h0 : bt = 0
  · subst h0
    rw [if_pos (.inl rfl), if_pos rfl]
    refine (bl_learn h.one.at_ h.one.fit h.one.kn h.one.can false).mono ?_
    rintro e w' ⟨rfl, a, x⟩
    exact ⟨rfl, h.stay a x (h.one.fit.learn false hw) (h.one.can.learn false), x⟩
  · by_cases h1 : bt = 1
    · subst h1
      rw [if_pos (.inr rfl), if_neg h0, if_pos rfl]
      refine (bl_learn h.one.at_ h.one.fit h.one.kn h.one.can true).mono ?_
      rintro e w' ⟨rfl, a, x⟩
      exact ⟨rfl, h.stay a x (h.one.fit.learn true hw) (h.one.can.learn true), x⟩
    · rw [if_neg (by omega), if_neg h0, if_neg h1]
      refine (bl_learn_bad h.one.at_ bt h0 h1).mono ?_
      rintro e w' ⟨rfl, rfl⟩
      exact ⟨rfl, h, But.refl _ _⟩
theorem Sd.bit2 (h : Sd w0 w F1 F2 g1 g2 b c) (bt : Int) (hw : c.whole < 4294967294) : Calls Tryz.prog 15 #[pt g2, .int .i64 bt] w fun e w' => e = .returned (.int .i64 (bitCode bt)) ∧ Sd w0 w' F1 F2 g1 g2 b (bitThen c bt) ∧ But F2 w w' := by
  refine (h.swap.bit bt hw).mono ?_
  rintro e w' ⟨rfl, x, y⟩
  exact ⟨rfl, x.swap, y⟩
theorem Sd.leans (h : Sd w0 w F1 F2 g1 g2 b c) : Calls Tryz.prog 17 #[pt g1] w fun e w' => (∃ d cap, e = .returned (.slice (some ⟨d, 0, none⟩) b.l.length cap) ∧ Ns w' d b.leans) ∧ Sd w0 w' F1 F2 g1 g2 b c ∧ Below w.heap.size w w' := by
  obtain ⟨pa, ct, le, cap, v, S, bx, _⟩ := h.one.at_.ex
  refine (Leans_any bx).mono ?_
  rintro e w' ⟨h1, x⟩
  exact ⟨h1, h.below x, x⟩
theorem Sd.leans2 (h : Sd w0 w F1 F2 g1 g2 b c) : Calls Tryz.prog 17 #[pt g2] w fun e w' => (∃ d cap, e = .returned (.slice (some ⟨d, 0, none⟩) c.l.length cap) ∧ Ns w' d c.leans) ∧ Sd w0 w' F1 F2 g1 g2 b c ∧ Below w.heap.size w w' := by
  refine h.swap.leans.mono ?_
  rintro e w' ⟨h1, x, y⟩
  exact ⟨h1, x.swap, y⟩
theorem Sd.guessB (h : Sd w0 w F1 F2 g1 g2 b c) : Calls Tryz.prog 10 #[pt g1] w fun e w' => e = .returned (.int .i64 b.guess) ∧ Sd w0 w' F1 F2 g1 g2 b c ∧ Below w.heap.size w w' := by
  refine (bl_guess h.one.at_ h.one.fit h.one.kn).mono ?_
  rintro e w' ⟨rfl, x⟩
  exact ⟨rfl, h.below x, x⟩
theorem Sd.guessB2 (h : Sd w0 w F1 F2 g1 g2 b c) : Calls Tryz.prog 10 #[pt g2] w fun e w' => e = .returned (.int .i64 c.guess) ∧ Sd w0 w' F1 F2 g1 g2 b c ∧ Below w.heap.size w w' := by
  refine h.swap.guessB.mono ?_
  rintro e w' ⟨rfl, x, y⟩
  exact ⟨rfl, x.swap, y⟩
end
theorem ctxThen_len (b : Bl) (hs : List Nat) : (ctxThen b hs).l.length = b.l.length ∧ (ctxThen b hs).whole = b.whole := by
  unfold ctxThen
  split
  · exact ⟨ctx_len b hs, rfl⟩
  · exact ⟨rfl, rfl⟩
theorem learn_whole (b : Bl) (one : Bool) : (b.learn one).whole ≤ b.whole + 1 := by
  unfold Bl.learn
  split
  · exact Nat.le_refl _
  · exact Nat.le_succ _
theorem bitThen_len (b : Bl) (bt : Int) : (bitThen b bt).l.length = b.l.length ∧ (bitThen b bt).whole ≤ b.whole + 1 := by
  unfold bitThen
  split
  · exact ⟨(learn_l b false).1, learn_whole b false⟩
  · split
    · exact ⟨(learn_l b true).1, learn_whole b true⟩
    · exact ⟨rfl, Nat.le_succ _⟩
/-- The acts: a list of structs of three cells; the numbers of each lie below B. -/
def ActsL (w : World) (B : Nat) (a : Option Addr) (n c : Nat) : Prop :=
  n ≤ c ∧ c ≤ maxLen ∧ ∀ i, i < n → ∃ (ad : Addr) (K bt : Int) (A : Option Addr) (m mc : Nat) (hs : List Nat), a = some ad ∧ ad.block < B ∧
    w.cell? (ad.add (i * 3)) = some (.int .i64 K) ∧ w.cell? (ad.add (i * 3 + 1)) = some (.slice A m mc) ∧ w.cell? (ad.add (i * 3 + 2)) = some (.int .i64 bt) ∧ WsAt w B A m mc hs
theorem ActsL.keep {w w' : World} {B : Nat} {a : Option Addr} {n c : Nat} (h : ActsL w B a n c) (b : Below B w w') : ActsL w' B a n c :=
  ⟨h.1, h.2.1, fun i hi => by
    obtain ⟨ad, K, bt, A, m, mc, hs, e, hb, h1, h2, h3, h4⟩ := h.2.2 i hi
    have k : ∀ j v, w.cell? (ad.add j) = some v → w'.cell? (ad.add j) = some v := fun j v hv => (World.cell?_of_block (b.block _ (by rw [block_of_add]; exact hb))).trans hv
    exact ⟨ad, K, bt, A, m, mc, hs, e, hb, k _ _ h1, k _ _ h2, k _ _ h3, h4.keep b⟩⟩
end Go.Proofs.YtkfdbibgjoaefaaGreatDoor
/-
  BlendSame's walk, where it makes no blend.
-/
namespace Go.Proofs.YtkfdbibgjoaefaaGreatDoor
open Go.RowKit

theorem IsP.up {w : World} {B B' : Nat} {A : Option Addr} {n c : Nat} {L : List Pt} (h : IsP w B A n c L) (hB : B ≤ B') : IsP w B' A n c L := ⟨h.len, h.cap, h.max, fun h0 => by
  obtain ⟨ad, e, hl, ha⟩ := h.lies h0
  exact ⟨ad, e, Nat.lt_of_lt_of_le hl hB, ha⟩⟩
end Go.Proofs.YtkfdbibgjoaefaaGreatDoor
/-
  Merged: Smg SamW.
-/
/-
  BlendSame's walk: the loop over the acts.
-/
namespace Go.Proofs.YtkfdbibgjoaefaaGreatDoor
open Go.RowKit

/-- Two blends that are the same, after i acts at most. -/
def Twin (w : World) (F1 F2 : Nat → Prop) (g1 g2 n M i : Nat) (wr : World) : Prop := ∃ b, Sd w wr F1 F2 g1 g2 b b ∧ b.l.length = n ∧ b.whole ≤ i ∧ M ≤ wr.heap.size
end Go.Proofs.YtkfdbibgjoaefaaGreatDoor
/-
  BlendSame's walk, whole.
-/
namespace Go.Proofs.YtkfdbibgjoaefaaGreatDoor
open Go.RowKit

set_option maxRecDepth 10000 in
set_option maxHeartbeats 1000000 in
theorem great_is (A : Option Addr) (n c : Nat) (L : List Pt) (w : World) (h : IsP w w.heap.size A n c L) :
    ∃ r : Bool, Calls Tryz.prog 4 #[.slice A n c] w fun e w' => e = .returned (.bool r) ∧ Below w.heap.size w w' := by
  by_cases hn : n ≤ 16
  · have HM := hid (Memory_any A n c L w h (by omega))
    have hz : (n : Int) ≤ 16 := by omega
    clear h
    generalize memP L = m at *
    refine ⟨decide (40000 < m), ?_⟩
    go_enter Tryz.func4, Tryz.ntmps4
    go_wp2_with fail
    refine HM.out.mono ?_
    rintro e w1 ⟨rfl, b⟩
    go_wp2_with fail
    go_ret
    exact ⟨rfl, b⟩
  · have hz : ¬ (n : Int) ≤ 16 := by omega
    clear h
    refine ⟨false, ?_⟩
    go_enter Tryz.func4, Tryz.ntmps4
    go_wp2_with fail
    go_ret
    exact ⟨rfl, Below.refl _ _⟩
end Go.Proofs.YtkfdbibgjoaefaaGreatDoor
/-
  The program's blend and the document's side by side.
-/
namespace Go.Proofs.YtkfdbibgjoaefaaGreatDoor
open Go.RowKit
set_option linter.unusedVariables false
set_option linter.unusedSimpArgs false

theorem BM.but {W W' : World} {S : Nat → Prop} {r g N cap : Nat} {b : Bl} {Vf : Nat → Vs} {B : Nat} (h : BM W r g N cap b Vf B) (k : But S W W') (hn : ∀ x, Mine Vf r g N x → ¬ S x) : BM W' r g N cap b Vf B :=
  ⟨h.rb.but k (hn r (.inr (.inr rfl))), h.n, h.nc, fun i hi => (h.c i hi).but k (hn g (.inr (.inl rfl))), fun i hi => (h.t i hi).but k (fun x hx => hn x (.inl ⟨i, by rw [← h.n]; exact hi, hx⟩)), fun j => but_frozen k h.inside (hn g (.inr (.inl rfl))) j (h.fg j), fun j => but_frozen k (lt_cell h.rb.l) (hn r (.inr (.inr rfl))) j (h.fr j), h.hh, h.ok⟩
section
variable {w0 w w' : World} {F : Nat → Prop} {g : Nat} {b : Bl}
theorem On.but {S : Nat → Prop} (h : On w0 w F g b) (x : But S w w') (hF : ∀ a, F a → ¬ S a) (hl : ∀ a, S a → w0.heap.size ≤ a) : On w0 w' F g b :=
  ⟨h.kn.but x (fun e => by have := hl _ e; have := h.pos; omega), h.bel.trans (x.below hl h.bel.size), h.at_.on x hF, h.fit, h.can, h.low, h.pos⟩
theorem On.stay (h : On w0 w F g b) {b' : Bl} (a : BlAt w' F g b') (x : But F w w') (f : Fit b') (k : Can b'.l) : On w0 w' F g b' :=
  ⟨h.kn.but x (fun e => by have := h.low _ e; have := h.pos; omega), h.bel.trans (x.below h.low h.bel.size), a, f, k, h.low, h.pos⟩
end
/-- The program's blend b, the document's c. -/
structure Td (w0 w : World) (F : Nat → Prop) (g : Nat) (b : Bl) (r gg N cap : Nat) (c : Bl) (Vf : Nat → Vs) (B : Nat) : Prop where
  one : On w0 w F g b
  two : BM w r gg N cap c Vf B
  lay : Lay Vf r gg N
  apart : ∀ x, F x → ¬ Mine Vf r gg N x
  low : ∀ x, Mine Vf r gg N x → w0.heap.size ≤ x
section
variable {w0 w w' : World} {F : Nat → Prop} {g : Nat} {b : Bl} {r gg N cap : Nat} {c : Bl} {Vf : Nat → Vs} {B : Nat} {A : Option Addr} {m mc : Nat} {hs : List Nat}
theorem Td.below (h : Td w0 w F g b r gg N cap c Vf B) (x : Below w.heap.size w w') : Td w0 w' F g b r gg N cap c Vf B := ⟨h.one.below x, h.two.below x h.two.inside, h.lay, h.apart, h.low⟩
theorem Td.stay (h : Td w0 w F g b r gg N cap c Vf B) {b' : Bl} (a : BlAt w' F g b') (x : But F w w') (f : Fit b') (k : Can b'.l) : Td w0 w' F g b' r gg N cap c Vf B :=
  ⟨h.one.stay a x f k, h.two.but x (fun y hy hF => h.apart y hF hy), h.lay, h.apart, h.low⟩
theorem Td.stay2 (h : Td w0 w F g b r gg N cap c Vf B) {c' : Bl} (a : BM w' r gg N cap c' Vf B) (x : But (Mine Vf r gg N) w w') : Td w0 w' F g b r gg N cap c' Vf B :=
  ⟨h.one.but x h.apart h.low, a, h.lay, h.apart, h.low⟩
theorem Td.but {S : Nat → Prop} (h : Td w0 w F g b r gg N cap c Vf B) (x : But S w w') (hl : ∀ a, S a → w0.heap.size ≤ a) (h1 : ∀ a, F a → ¬ S a) (h2 : ∀ a, Mine Vf r gg N a → ¬ S a) : Td w0 w' F g b r gg N cap c Vf B :=
  ⟨h.one.but x h1 hl, h.two.but x h2, h.lay, h.apart, h.low⟩
theorem Td.ctx (h : Td w0 w F g b r gg N cap c Vf B) (ws : WsAt w w.heap.size A m mc hs) (hd : ∀ ad, A = some ad → 0 < m → ¬ F ad.block) : Calls Tryz.prog 12 #[pt g, .slice A m mc] w fun e w' => e = .returned (.int .i64 (ctxCode b)) ∧ Td w0 w' F g (ctxThen b hs) r gg N cap c Vf B ∧ But F w w' := by
  unfold ctxCode ctxThen
  by_cases hc : b.c = 1
  · rw [if_pos hc, if_pos hc]
    refine (bl_contexts h.one.at_ h.one.fit h.one.kn hc ws (fun ad e hm hF => hd ad e hm hF)).mono ?_
    rintro e w' ⟨rfl, a, x⟩
    exact ⟨rfl, h.stay a x (h.one.fit.contexts ws.small) (h.one.can.contexts hs), x⟩
  · rw [if_neg hc, if_neg hc]
    refine (bl_ctx_bad h.one.at_ hc _).mono ?_
    rintro e w' ⟨rfl, rfl⟩
    exact ⟨rfl, h, But.refl _ _⟩
theorem ok_c1 {c : Bl} (h : c.Ok) : c.c = 1 ↔ c.bits = 0 := by
  have hc := h.c
  constructor
  · intro e
    rw [e] at hc
    rcases Nat.eq_zero_or_pos c.bits with h0 | h0
    · exact h0
    · have : 2 ^ 1 ≤ 2 ^ c.bits := Nat.pow_le_pow_right (by decide) h0
      omega
  · intro e
    rw [e] at hc
    have h1 : (2 : Nat) ^ 0 = 1 := rfl
    have h2 : (2 : Nat) ^ (0 + 1) = 2 := rfl
    omega
theorem Td.ctx2 (h : Td w0 w F g b r gg N cap c Vf B) (ws : RWs w w.heap.size A m mc hs) (hw : c.whole ≤ 1000000) (hd : ∀ ad, A = some ad → 0 < m → ¬ Mine Vf r gg N ad.block) : Calls Tryz.prog 13 #[.pointer (some ⟨r, 0, none⟩), .slice A m mc] w fun e w' => e = .returned (.int .i64 (ctxCode c)) ∧ Td w0 w' F g b r gg N cap (ctxThen c hs) Vf B ∧ But (Mine Vf r gg N) w w' := by
  unfold ctxCode ctxThen
  have hcb := ok_c1 h.two.ok
  by_cases hc : c.c = 1
  · rw [if_pos hc, if_pos hc]
    refine (rContexts_any r gg N cap c Vf B w h.two h.lay hw (hcb.1 hc) A m mc hs ws hd).mono ?_
    rintro e w' ⟨rfl, a, x⟩
    exact ⟨rfl, h.stay2 a x, x⟩
  · rw [if_neg hc, if_neg hc]
    refine (rContexts_no r gg N cap c Vf B w _ h.two (fun e => hc (hcb.2 e))).mono ?_
    rintro e w' ⟨rfl, x⟩
    exact ⟨rfl, h.below x, But.of_below x⟩
theorem Td.bit (h : Td w0 w F g b r gg N cap c Vf B) (bt : Int) (hw : b.whole < 4294967294) : Calls Tryz.prog 15 #[pt g, .int .i64 bt] w fun e w' => e = .returned (.int .i64 (bitCode bt)) ∧ Td w0 w' F g (bitThen b bt) r gg N cap c Vf B ∧ But F w w' := by
  unfold bitCode bitThen
  by_cases h0 : bt = 0
  · subst h0
    rw [if_pos (.inl rfl), if_pos rfl]
    refine (bl_learn h.one.at_ h.one.fit h.one.kn h.one.can false).mono ?_
    rintro e w' ⟨rfl, a, x⟩
    exact ⟨rfl, h.stay a x (h.one.fit.learn false hw) (h.one.can.learn false), x⟩
  · by_cases h1 : bt = 1
    · subst h1
      rw [if_pos (.inr rfl), if_neg h0, if_pos rfl]
      refine (bl_learn h.one.at_ h.one.fit h.one.kn h.one.can true).mono ?_
      rintro e w' ⟨rfl, a, x⟩
      exact ⟨rfl, h.stay a x (h.one.fit.learn true hw) (h.one.can.learn true), x⟩
    · rw [if_neg (by omega), if_neg h0, if_neg h1]
      refine (bl_learn_bad h.one.at_ bt h0 h1).mono ?_
      rintro e w' ⟨rfl, rfl⟩
      exact ⟨rfl, h, But.refl _ _⟩
theorem Td.bit2 (h : Td w0 w F g b r gg N cap c Vf B) (bt : Int) (hw : c.whole ≤ 1000000) : Calls Tryz.prog 16 #[.pointer (some ⟨r, 0, none⟩), .int .i64 bt] w fun e w' => e = .returned (.int .i64 (bitCode bt)) ∧ Td w0 w' F g b r gg N cap (bitThen c bt) Vf B ∧ But (Mine Vf r gg N) w w' := by
  unfold bitCode bitThen
  by_cases h0 : bt = 0
  · subst h0
    rw [if_pos (.inl rfl), if_pos rfl]
    refine (rLearn_false r gg N cap c Vf B w h.two h.lay hw).mono ?_
    rintro e w' ⟨rfl, a, x⟩
    exact ⟨rfl, h.stay2 a x, x⟩
  · by_cases h1 : bt = 1
    · subst h1
      rw [if_pos (.inr rfl), if_neg h0, if_pos rfl]
      refine (rLearn_true r gg N cap c Vf B w h.two h.lay hw).mono ?_
      rintro e w' ⟨rfl, a, x⟩
      exact ⟨rfl, h.stay2 a x, x⟩
    · rw [if_neg (by omega), if_neg h0, if_neg h1]
      refine (rLearn_bad r bt w h0 h1).mono ?_
      rintro e w' ⟨rfl, x⟩
      exact ⟨rfl, h.below x, But.of_below x⟩
theorem Td.guess (h : Td w0 w F g b r gg N cap c Vf B) : Calls Tryz.prog 10 #[pt g] w fun e w' => e = .returned (.int .i64 b.guess) ∧ Td w0 w' F g b r gg N cap c Vf B ∧ Below w.heap.size w w' := by
  refine (bl_guess h.one.at_ h.one.fit h.one.kn).mono ?_
  rintro e w' ⟨rfl, x⟩
  exact ⟨rfl, h.below x, x⟩
theorem Td.guess2 (h : Td w0 w F g b r gg N cap c Vf B) : Calls Tryz.prog 20 #[.pointer (some ⟨r, 0, none⟩)] w fun e w' => e = .returned (.int .i64 c.guess) ∧ Td w0 w' F g b r gg N cap c Vf B ∧ Below w.heap.size w w' := by
  refine (rGuess_any r gg N cap c Vf B w h.two).mono ?_
  rintro e w' ⟨rfl, x⟩
  exact ⟨rfl, h.below x, x⟩
theorem Td.leans2 (h : Td w0 w F g b r gg N cap c Vf B) : Calls Tryz.prog 19 #[.pointer (some ⟨r, 0, none⟩)] w fun e w' => ∃ A2 c2, e = .returned (.slice A2 N c2) ∧ w'.ownsRow w.heap.size 3 1 (.slice A2 N c2) N (c.leans.map iv) ∧ Td w0 w' F g b r gg N cap c Vf B ∧ Below w.heap.size w w' := by
  refine (rLeans_any r gg N cap c Vf B w h.two).mono ?_
  rintro e w' ⟨A2, c2, rfl, o, x⟩
  exact ⟨A2, c2, rfl, o, h.below x, x⟩
theorem Td.bits (h : Td w0 w F g b r gg N cap c Vf B) : Calls Tryz.prog 21 #[pt g] w fun e w' => e = .returned (.int .i64 (b.bits : Nat)) ∧ w = w' := bl_bits h.one.at_ h.one.fit
end
end Go.Proofs.YtkfdbibgjoaefaaGreatDoor
