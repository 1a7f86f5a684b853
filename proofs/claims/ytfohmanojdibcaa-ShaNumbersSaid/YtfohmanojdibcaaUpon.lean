/-
  The contract of upon.
-/
import Derived.Test.YtfohmanojdibcaaWordB
namespace Go.Proofs.Ytfohmanojdibcaa
open Go.RowKit

def stV (s : St) : Value := .agg #[.int .u32 (s.a : Nat), .int .u32 (s.b : Nat), .int .u32 (s.c : Nat), .int .u32 (s.d : Nat), .int .u32 (s.e : Nat)]

structure UpSt (h : St) (pb po : Nat) (w wr : World) (x : Nat → Nat) : Prop where
  bel : Below w.heap.size w wr
  siz : w.heap.size + 4 ≤ wr.heap.size
  b0 : wr.heap[w.heap.size]? = some (.cells #[.int .u32 (h.a : Nat), .int .u32 (h.b : Nat), .int .u32 (h.c : Nat), .int .u32 (h.d : Nat), .int .u32 (h.e : Nat)] 34 (0, 0))
  b1 : wr.heap[w.heap.size + 1]? = some (.cells #[.pointer (some ⟨pb, po, none⟩)] 55 (0, 0))
  b2 : wr.heap[w.heap.size + 1 + 1]? = some (.cells #[.int .u32 0, .int .u32 0, .int .u32 0, .int .u32 0, .int .u32 0] 34 (0, 0))
  ring : Ring wr (w.heap.size + 1 + 1 + 1) x

theorem UpSt.set {h : St} {pb po : Nat} {w wr : World} {x : Nat → Nat} (s : UpSt h pb po w wr x) (j v k : Nat) (hj : j < 16) :
    UpSt h pb po w ((wr.setCell ⟨w.heap.size + 1 + 1 + 1, j, none⟩ (.int .u32 (v : Nat))).drewN k) (fun i => if i = j then v else x i) := by
  have hk : ((wr.setCell ⟨w.heap.size + 1 + 1 + 1, j, none⟩ (.int .u32 (v : Nat))).drewN k).heap = (wr.setCell ⟨w.heap.size + 1 + 1 + 1, j, none⟩ (.int .u32 (v : Nat))).heap := rfl
  refine ⟨?_, ?_, ?_, ?_, ?_, ?_⟩
  · exact ⟨s.bel.os, s.bel.tape, s.bel.output, by rw [hk, World.size_setCell]; exact s.bel.size, fun i hi => by rw [hk, heap_setCell_other _ _ _ _ (by show i ≠ w.heap.size + 1 + 1 + 1; omega)]; exact s.bel.block i hi⟩
  · rw [hk, World.size_setCell]; exact s.siz
  · rw [hk, heap_setCell_other _ _ _ _ (by show w.heap.size ≠ w.heap.size + 1 + 1 + 1; omega)]; exact s.b0
  · rw [hk, heap_setCell_other _ _ _ _ (by show w.heap.size + 1 ≠ w.heap.size + 1 + 1 + 1; omega)]; exact s.b1
  · rw [hk, heap_setCell_other _ _ _ _ (by show w.heap.size + 1 + 1 ≠ w.heap.size + 1 + 1 + 1; omega)]; exact s.b2
  · obtain ⟨cs, h1, h2, h3⟩ := s.ring.set j v hj
    exact ⟨cs, by rw [hk]; exact h1, h2, h3⟩
theorem upSt_start (h : St) (pb po nq : Nat) (w : World) : UpSt h pb po w
    (((((w.alloc (.cells #[.int .u32 (h.a : Nat), .int .u32 (h.b : Nat), .int .u32 (h.c : Nat), .int .u32 (h.d : Nat), .int .u32 (h.e : Nat)] 34)).alloc (.cells #[.pointer (some ⟨pb, po, none⟩)] 55)).alloc (.cells #[.int .u32 0, .int .u32 0, .int .u32 0, .int .u32 0, .int .u32 0] 34)).alloc (.cells #[.int .u32 0, .int .u32 0, .int .u32 0, .int .u32 0, .int .u32 0, .int .u32 0, .int .u32 0, .int .u32 0, .int .u32 0, .int .u32 0, .int .u32 0, .int .u32 0, .int .u32 0, .int .u32 0, .int .u32 0, .int .u32 0] 57)).drewN nq) (fun _ => 0) := by
  refine ⟨?_, ?_, ?_, ?_, ?_, ?_⟩
  · have b1 := (Below.refl w.heap.size w).alloc (Nat.le_refl _) (.cells #[.int .u32 (h.a : Nat), .int .u32 (h.b : Nat), .int .u32 (h.c : Nat), .int .u32 (h.d : Nat), .int .u32 (h.e : Nat)] 34)
    have b2 := b1.alloc b1.size (.cells #[.pointer (some ⟨pb, po, none⟩)] 55)
    have b3 := b2.alloc b2.size (.cells #[.int .u32 0, .int .u32 0, .int .u32 0, .int .u32 0, .int .u32 0] 34)
    exact below_drewN (b3.alloc b3.size _) nq
  · show w.heap.size + 4 ≤ (World.alloc _ _).heap.size
    simp
  · show (World.alloc _ _).heap[_]? = _
    rw [heap_alloc_old (h := by simp; omega), heap_alloc_old (h := by simp; omega), heap_alloc_old (h := by simp), heap_alloc_new]
  · show (World.alloc _ _).heap[_]? = _
    rw [heap_alloc_old (h := by simp), heap_alloc_old (h := by simp)]
    exact heap_alloc2_new _ _ _
  · show (World.alloc _ _).heap[_]? = _
    rw [heap_alloc_old (h := by simp)]
    have := heap_alloc_new ((w.alloc (.cells #[.int .u32 (h.a : Nat), .int .u32 (h.b : Nat), .int .u32 (h.c : Nat), .int .u32 (h.d : Nat), .int .u32 (h.e : Nat)] 34)).alloc (.cells #[.pointer (some ⟨pb, po, none⟩)] 55)) (.cells #[.int .u32 0, .int .u32 0, .int .u32 0, .int .u32 0, .int .u32 0] 34)
    simpa using this
  · refine ⟨#[.int .u32 0, .int .u32 0, .int .u32 0, .int .u32 0, .int .u32 0, .int .u32 0, .int .u32 0, .int .u32 0, .int .u32 0, .int .u32 0, .int .u32 0, .int .u32 0, .int .u32 0, .int .u32 0, .int .u32 0, .int .u32 0], ?_, ?_, ?_⟩
    · show (World.alloc _ _).heap[_]? = _
      have := heap_alloc_new (((w.alloc (.cells #[.int .u32 (h.a : Nat), .int .u32 (h.b : Nat), .int .u32 (h.c : Nat), .int .u32 (h.d : Nat), .int .u32 (h.e : Nat)] 34)).alloc (.cells #[.pointer (some ⟨pb, po, none⟩)] 55)).alloc (.cells #[.int .u32 0, .int .u32 0, .int .u32 0, .int .u32 0, .int .u32 0] 34)) (.cells #[.int .u32 0, .int .u32 0, .int .u32 0, .int .u32 0, .int .u32 0, .int .u32 0, .int .u32 0, .int .u32 0, .int .u32 0, .int .u32 0, .int .u32 0, .int .u32 0, .int .u32 0, .int .u32 0, .int .u32 0, .int .u32 0] 57)
      simpa using this
    · rfl
    · intro j hj
      have : j = 0 ∨ j = 1 ∨ j = 2 ∨ j = 3 ∨ j = 4 ∨ j = 5 ∨ j = 6 ∨ j = 7 ∨ j = 8 ∨ j = 9 ∨ j = 10 ∨ j = 11 ∨ j = 12 ∨ j = 13 ∨ j = 14 ∨ j = 15 := by omega
      rcases this with rfl | rfl | rfl | rfl | rfl | rfl | rfl | rfl | rfl | rfl | rfl | rfl | rfl | rfl | rfl | rfl <;> rfl

/-- What the sixteen numbers are ahead of word t. -/
structure Has (l : List UInt8) (t : Nat) (x : Nat → Nat) : Prop where
  lt : ∀ j, j < 16 → x j < 4294967296
  eq : ∀ i, i < t → t ≤ i + 16 → x (i % 16) = wd l i
theorem Has.next {l : List UInt8} {t : Nat} {x : Nat → Nat} (h : Has l t x) : Has l (t + 1) (fun i => if i = t % 16 then wd l t else x i) :=
  ⟨fun j hj => by by_cases e : j = t % 16 <;> simp only [e, if_true, if_false] <;> first | exact wd_lt l t | exact h.lt j hj,
   fun i hi hi2 => by
    by_cases e : i = t
    · subst e; simp
    · have : i % 16 ≠ t % 16 := by omega
      simp only [this, if_false]
      exact h.eq i (by omega) (by omega)⟩

theorem word_any (h : St) (l : List UInt8) (pb po t : Nat) (w wr : World) (x : Nat → Nat) (hl : l.length = 64)
    (hb : ∀ j (hj : j < l.length), w.cell? ⟨pb, po + j, none⟩ = some (bv l[j])) (hp : pb < w.heap.size) (ht : t < 80) (hx : Has l t x) (s : UpSt h pb po w wr x) :
    Calls Try.prog 30 #[.int .i64 t, .pointer (some ⟨w.heap.size + 1 + 1 + 1, 0, none⟩), .pointer (some ⟨w.heap.size + 1, 0, none⟩)] wr fun e w' => e = .returned (.int .u32 (wd l t : Nat)) ∧ UpSt h pb po w w' (fun i => if i = t % 16 then wd l t else x i) := by
  by_cases h16 : t < 16
  · have g : ∀ j (hj : j < 64), wr.cell? ⟨pb, po + j, none⟩ = some (.int .u8 ((l.getD j 0).toNat : Nat)) := fun j hj => by
      rw [s.bel.cell (p := ⟨pb, po + j, none⟩) hp, hb j (by omega)]
      have : l.getD j 0 = l[j]'(by omega) := by simp [List.getD, show j < l.length by omega]
      rw [this]; rfl
    have hw : wd l t = be4 (l.getD (4 * t) 0).toNat (l.getD (4 * t + 1) 0).toNat (l.getD (4 * t + 2) 0).toNat (l.getD (4 * t + 3) 0).toNat := wd_low l t h16
    rw [hw]
    refine (word0 t _ _ pb po _ _ _ _ h16 x wr s.ring (row_cell s.b1 0) (g (4 * t) (by omega)) (g (4 * t + 1) (by omega)) (g (4 * t + 2) (by omega)) (g (4 * t + 3) (by omega)) (UInt8.toNat_lt _) (UInt8.toNat_lt _) (UInt8.toNat_lt _) (UInt8.toNat_lt _)).mono ?_
    rintro e w' ⟨rfl, k, rfl⟩
    have em : t % 16 = t := by omega
    rw [em]
    exact ⟨rfl, s.set t _ k h16⟩
  · have hw : wd l t = rot 1 (x ((t - 3) % 16) ^^^ x ((t - 8) % 16) ^^^ x ((t - 14) % 16) ^^^ x (t % 16)) := by
      rw [wd_high l t (by omega), hx.eq (t - 3) (by omega) (by omega), hx.eq (t - 8) (by omega) (by omega), hx.eq (t - 14) (by omega) (by omega)]
      have := hx.eq (t - 16) (by omega) (by omega)
      rw [show (t - 16) % 16 = t % 16 by omega] at this
      rw [this]
    rw [hw]
    refine (word1 t _ _ (by omega) ht x hx.lt wr s.ring).mono ?_
    rintro e w' ⟨rfl, k, rfl⟩
    exact ⟨rfl, s.set (t % 16) _ k (by omega)⟩

theorem sum_eq (l : List UInt8) (a b c d e t : Nat) : Value.int IntKind.u32 (((rot 5 a : Nat) + (fN t b c d : Nat) + (e : Nat) + (kN t : Nat) + (wd l t : Nat) : Int) % 4294967296) = .int .u32 ((rnd l ⟨a, b, c, d, e⟩ t).a : Nat) := by
  show _ = Value.int IntKind.u32 (((sumT (rot 5 a) (fN t b c d) e (kN t) (wd l t) % 4294967296 : Nat)) : Int)
  unfold sumT
  generalize rot 5 a = x
  generalize fN t b c d = y
  generalize kN t = z
  generalize wd l t = v
  congr 1
  omega
set_option maxRecDepth 10000 in
set_option maxHeartbeats 2000000 in
theorem upon_any (h : St) (hh : h.ok) (l : List UInt8) (pb po : Nat) (w : World) (hl : l.length = 64)
    (hb : ∀ j (hj : j < l.length), w.cell? ⟨pb, po + j, none⟩ = some (bv l[j])) (hp : pb < w.heap.size) :
    Calls Try.prog 27 #[.agg #[.int .u32 (h.a : Nat), .int .u32 (h.b : Nat), .int .u32 (h.c : Nat), .int .u32 (h.d : Nat), .int .u32 (h.e : Nat)], .pointer (some ⟨pb, po, none⟩)] w fun e w' => e = .returned (stV (uponS l h)) ∧ Below w.heap.size w w' := by
  go_enter Try.func27, Try.ntmps27
  go_wp2_with fail
  go_quiet (fail)
  go_wp2_with fail
  go_loopw [27, 7, 8, 9, 10, 11] (fun i a b c d e wr => ∃ (t : Nat) (x : Nat → Nat), t ≤ 80 ∧ i = .int .i64 t ∧ Has l t x ∧ UpSt h pb po w wr x ∧ a = .int .u32 ((rnds l h t).a : Nat) ∧ b = .int .u32 ((rnds l h t).b : Nat) ∧ c = .int .u32 ((rnds l h t).c : Nat) ∧ d = .int .u32 ((rnds l h t).d : Nat) ∧ e = .int .u32 ((rnds l h t).e : Nat)) (fun i _ _ _ _ _ _ => 80 - (intOf i).toNat)
  case atStart => exact ⟨0, _, Nat.zero_le _, rfl, ⟨fun _ _ => by omega, fun _ hi => by omega⟩, upSt_start h pb po nq w, rfl, rfl, rfl, rfl, rfl⟩
  case round =>
    obtain ⟨t, x, ht, rfl, hx, hs, rfl, rfl, rfl, rfl, rfl⟩ := hrel
    by_cases hlt : t < 80
    · have hlz : (t : Int) < 80 := by omega
      have hok := rnds_ok l h hh t
      have hnx := hx.next
      have Hr := hid (show rnds l h (t + 1) = rnd l (rnds l h t) t from rfl)
      generalize rnds l h t = s at *
      obtain ⟨a, b, c, d, e⟩ := s
      have oa := hok.a
      have ob := hok.b
      have oc := hok.c
      have od := hok.d
      have oe := hok.e
      simp only at oa ob oc od oe
      go_wp2_with (first
        | (go_at_call 32; refine (step_any _ _ _ _ hlt ob oc od _).mono ?_; rintro e w' ⟨rfl, rfl⟩)
        | (go_at_call 31; with_reducible refine (rot5_any a oa _).mono ?_; rintro e w' ⟨rfl, rfl⟩)
        | (go_at_call 31; with_reducible refine (rot30_any b ob _).mono ?_; rintro e w' ⟨rfl, rfl⟩)
        | (go_at_call 30; refine (word_any h l pb po t w _ x hl hb hp hlt hx hs).mono ?_; rintro e w1 ⟨rfl, hs1⟩))
      go_roundw
      case rel =>
        exact ⟨t + 1, _, by omega, by go_num, hnx, hs1, by rw [Hr.out]; exact sum_eq l a b c d e t, by rw [Hr.out]; rfl, by rw [Hr.out]; rfl, by rw [Hr.out]; rfl, by rw [Hr.out]; rfl⟩
      case measure => simp [intOf]; omega
    · obtain rfl : t = 80 := by omega
      have hok := rnds_ok l h hh 80
      have Hu := hid (show uponS l h = add2 h (rnds l h 80) from rfl)
      generalize rnds l h 80 = s at *
      obtain ⟨a, b, c, d, e⟩ := s
      have oa := hok.a
      have ob := hok.b
      have oc := hok.c
      have od := hok.d
      have oe := hok.e
      have pa := hh.a
      have pb := hh.b
      have pc := hh.c
      have pd := hh.d
      have pe := hh.e
      simp only at oa ob oc od oe
      have c0 := row_cell hs.b0 0
      have c1 := row_cell hs.b0 1
      have c2 := row_cell hs.b0 2
      have c3 := row_cell hs.b0 3
      have c4 := row_cell hs.b0 4
      simp at c0 c1 c2 c3 c4
      have f0 := row_free hs.b2 0
      have f1 := row_free hs.b2 1
      have f2 := row_free hs.b2 2
      have f3 := row_free hs.b2 3
      have f4 := row_free hs.b2 4
      have d0 := row_cell hs.b2 0
      have d1 := row_cell hs.b2 1
      have d2 := row_cell hs.b2 2
      have d3 := row_cell hs.b2 3
      have d4 := row_cell hs.b2 4
      simp at d0 d1 d2 d3 d4
      go_wp2_with fail
      have H := row_set (row_set (row_set (row_set (row_set hs.b2 0 (.int .u32 (((h.a : Int) + a) % 4294967296))) 1 (.int .u32 (((h.b : Int) + b) % 4294967296))) 2 (.int .u32 (((h.c : Int) + c) % 4294967296))) 3 (.int .u32 (((h.d : Int) + d) % 4294967296))) 4 (.int .u32 (((h.e : Int) + e) % 4294967296))
      have hB : ∀ u0 u1 u2 u3 u4 : Value, Below w.heap.size w (((((wr.setCell ⟨w.heap.size + 1 + 1, 0, none⟩ u0).setCell ⟨w.heap.size + 1 + 1, 1, none⟩ u1).setCell ⟨w.heap.size + 1 + 1, 2, none⟩ u2).setCell ⟨w.heap.size + 1 + 1, 3, none⟩ u3).setCell ⟨w.heap.size + 1 + 1, 4, none⟩ u4) := fun u0 u1 u2 u3 u4 => by
        have k : w.heap.size ≤ w.heap.size + 1 + 1 := by omega
        exact ((((hs.bel.setCell (p := ⟨w.heap.size + 1 + 1, 0, none⟩) k u0).setCell (p := ⟨w.heap.size + 1 + 1, 1, none⟩) k u1).setCell (p := ⟨w.heap.size + 1 + 1, 2, none⟩) k u2).setCell (p := ⟨w.heap.size + 1 + 1, 3, none⟩) k u3).setCell (p := ⟨w.heap.size + 1 + 1, 4, none⟩) k u4
      refine bodyPost_ret (results_cell_row (by kernel_rfl : Try.f27.results = #[.cell 4 34]) _ _ (w.heap.size + 1 + 1) 34 _ (0, 0) _ rfl H Try.underlying34 rfl (by kernel_rfl)) rfl ⟨?_, hB _ _ _ _ _⟩
      rw [Hu.out]
      rfl
end Go.Proofs.Ytfohmanojdibcaa
