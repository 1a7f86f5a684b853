/-
  The contract of do for the comparisons, of a machine whose lists are only read (written by tools/stage17/gen_doc.py).
-/
import Derived.Test.YtaogileaeflnfaaDox
set_option linter.unusedVariables false
set_option linter.unusedSimpArgs false
namespace Go.Proofs.Ytaogileaeflnfaa
open Go.RowKit

/-- What a comparison comes to. -/
def cmpM (o s n : Int) (x : Mn) : Bool := if o = 19 then decide (x.a = atM x s n) else if o = 20 then decide (x.a < atM x s n) else decide (atM x s n < x.a)
structure Dor (w W : World) (t g : Nat) (x : Mn) (AH : Option Addr) (nH cH : Nat) (AM : Option Addr) (nM cM : Nat) (o d s n : Int) : Prop where
  t : TlAt W t g n
  row : W.heap[w.heap.size]? = some (.cells #[.int .u8 o, .int .i64 d, .int .i64 s, .int .i64 n] 24 (0, 0))
  b : Below w.heap.size w W
  m : MR W g x AH nH cH AM nM cM
theorem Dor.drew {w W : World} {t g : Nat} {x : Mn} {AH AM : Option Addr} {nH cH nM cM : Nat} {o d s n : Int} (h : Dor w W t g x AH nH cH AM nM cM o d s n) : Dor w W.drew t g x AH nH cH AM nM cM o d s n := ⟨⟨h.t.one, h.t.two⟩, h.row, h.b.drew, h.m.drew⟩
theorem Dor.tell {w W : World} {t g : Nat} {x : Mn} {AH AM : Option Addr} {nH cH nM cM : Nat} {o d s n : Int} (h : Dor w W t g x AH nH cH AM nM cM o d s n) (hok : x.ok) (p z : Int) (hz : ((atM x p n).toNat : Int) = z) :
    Calls Try.prog 57 #[.int .i64 p, .pointer (some ⟨t, 0, none⟩), .pointer (some ⟨t + 1, 0, none⟩)] W fun e w' => e = .returned (.int .u32 z) ∧ ∃ k, w' = W.drewN k := by
  subst hz
  exact h.t.call h.m hok p
theorem MR.putf {w : World} {g : Nat} {x : Mn} {AH AM : Option Addr} {nH cH nM cM : Nat} (h : MR w g x AH nH cH AM nM cM) (q : Bool) : (w.setCell ⟨g, 4, none⟩ (.bool q)).heap[g]? = some (.cells (mcL { x with f := q } (.slice AH nH cH) (.slice AM nM cM)).toArray 30 (0, 0)) := by
  rw [row_set h.row 4 _, set_toArray, ms_4]
theorem drewN_row {w : World} {g : Nat} {o : Obj} (h : w.heap[g]? = some o) (k : Nat) : (w.drewN k).heap[g]? = some o := h
theorem MR.drewN {w : World} {g : Nat} {x : Mn} {AH AM : Option Addr} {nH cH nM cM : Nat} (h : MR w g x AH nH cH AM nM cM) (k : Nat) : MR (w.drewN k) g x AH nH cH AM nM cM := ⟨h.row, ⟨⟨h.h.len, h.h.cap, h.h.max, h.h.small, h.h.lies⟩, h.h.low⟩, ⟨⟨h.m.len, h.m.cap, h.m.max, h.m.small, h.m.lies⟩, h.m.low⟩⟩
set_option maxRecDepth 10000 in
set_option maxHeartbeats 16000000 in
theorem doc_19 (w : World) (g : Nat) (AH AM : Option Addr) (nH cH nM cM : Nat) (x : Mn) (d s n : Int) (h : MR w g x AH nH cH AM nM cM) (hok : x.ok) :
    Calls Try.prog 25 #[vI 19 d s n, .pointer (some ⟨g, 0, none⟩)] w fun e w' => e = .returned (.tuple #[]) ∧ w'.cell? ⟨g, 4, none⟩ = some (.bool (cmpM 19 s n x)) ∧ Below g w w' := by
  have HM := hid h
  have HL : Hid (g < w.heap.size) := h.lt
  have HN := hid (teller_any g n)
  have HY : Hid (decide (x.a = atM x s n) = cmpM 19 s n x) := rfl
  unfold vI
  have b0 := hid ((Below.refl _ w).alloc (Nat.le_refl _) (.cells #[.int .u8 19, .int .i64 d, .int .i64 s, .int .i64 n] 24))
  have BX := hid (heap_alloc_new w (.cells #[.int .u8 19, .int .i64 d, .int .i64 s, .int .i64 n] 24))
  clear h
  go_enter Try.func25, Try.ntmps25
  go_upto_region 2 with (go_at_call 44; refine (HN.out _).mono ?_; rintro r W1 ⟨t, rfl, ht, hb1, hge⟩)
  have HD : Hid (Dor w W1 t g x AH nH cH AM nM cM 19 d s n) := ⟨ht, (hb1.block _ (lt_of_heap BX.out)).trans BX.out, bel_trans b0.out hb1, HM.out.on (bel_trans b0.out hb1)⟩
  clear ht hb1 hge BX b0 HM HN
  have c0 : W1.cell? ⟨w.heap.size, 0, none⟩ = some (.int .u8 19) := row_cell HD.out.row 0
  have c1 : W1.cell? ⟨w.heap.size, 1, none⟩ = some (.int .i64 d) := row_cell HD.out.row 1
  have c2 : W1.cell? ⟨w.heap.size, 2, none⟩ = some (.int .i64 s) := row_cell HD.out.row 2
  have c3 : W1.cell? ⟨w.heap.size, 3, none⟩ = some (.int .i64 n) := row_cell HD.out.row 3
  have ca : W1.cell? ⟨g, 0, none⟩ = some (U.bv x.a) := HD.out.m.ca
  have f4 : ∀ k, (W1.drewN k).frozen? ⟨g, 4, none⟩ = false := fun k => row_free HD.out.m.row 4
  have c4 : W1.cell? ⟨g, 4, none⟩ = some (.bool x.f) := HD.out.m.cf
  have ks : ∀ k u, ((W1.drewN k).setCell ⟨g, 4, none⟩ u).cell? ⟨w.heap.size, 2, none⟩ = some (.int .i64 s) := fun k u => off_cell (W := W1.drewN k) c2 (by have := HL.out; show w.heap.size ≠ g; omega)
  have EQ : decide ((x.a.toNat : Int) = ((atM x s n).toNat : Int)) = decide (x.a = atM x s n) := by
    have e0 : (x.a = atM x s n) ↔ (x.a.toNat = (atM x s n).toNat) := UInt32.toNat_inj.symm
    by_cases e : x.a.toNat = (atM x s n).toNat
    · rw [decide_eq_true (e0.2 e), decide_eq_true (by omega)]
    · rw [decide_eq_false (fun h => e (e0.1 h)), decide_eq_false (by omega)]
  have HQ := hid (fun k => (row_get ((HD.out.m.drewN k).putf (decide (x.a = atM x s n))) 4).trans (mc_4 _ _ _))
  have ka : ∀ k v, ((W1.drewN k).setCell ⟨g, 4, none⟩ (.bool v)).cell? ⟨g, 0, none⟩ = some (U.bv x.a) := fun k v => (row_get ((HD.out.m.drewN k).putf v) 0).trans (mc_0 _ _ _)
  have HB := hid (fun k v => (But.of_below (below_drewN HD.out.b k) : But (· = g) w _).set ⟨g, 4, none⟩ (.bool v) (.inl rfl))
  unfold U.bv at ca ka
  obtain ⟨z, hz⟩ : ∃ z : Int, ((atM x s n).toNat : Int) = z := ⟨_, rfl⟩
  have HS := hid (HD.out.drew.tell hok s z hz)
  rw [hz] at EQ
  obtain ⟨q, hq⟩ : ∃ q : Bool, decide (x.a = atM x s n) = q := ⟨_, rfl⟩
  have HF : Hid (q = cmpM 19 s n x) := hid (by rw [← HY.out, hq])
  rw [hq] at EQ HQ
  generalize (x.a.toNat : Int) = a at *
  have EB : (a == z) = q := EQ
  clear hz HY hq
  go_upto_region 21 with fail
  go_region_held3 (fun w' => w'.cell? ⟨w.heap.size, 2, none⟩ = some (.int .i64 s) ∧ w'.cell? ⟨g, 0, none⟩ = some (.int .u32 a)) (first | exact ⟨c2, ca⟩ | exact ⟨ks _ _, ka _ _⟩ | go_keep) (first
    | (go_at_call 57; with_reducible refine HS.out.mono ?_; rintro r W2 ⟨rfl, k, rfl⟩))
  all_goals
    go_end0
    refine ⟨rfl, ?_, (HB.out _ _).below (fun i hi => by rw [hi]; exact Nat.le_refl _) (Nat.le_of_lt HL.out)⟩
    rw [← HF.out]
    exact HQ.out _
set_option maxRecDepth 10000 in
set_option maxHeartbeats 16000000 in
theorem doc_20 (w : World) (g : Nat) (AH AM : Option Addr) (nH cH nM cM : Nat) (x : Mn) (d s n : Int) (h : MR w g x AH nH cH AM nM cM) (hok : x.ok) :
    Calls Try.prog 25 #[vI 20 d s n, .pointer (some ⟨g, 0, none⟩)] w fun e w' => e = .returned (.tuple #[]) ∧ w'.cell? ⟨g, 4, none⟩ = some (.bool (cmpM 20 s n x)) ∧ Below g w w' := by
  have HM := hid h
  have HL : Hid (g < w.heap.size) := h.lt
  have HN := hid (teller_any g n)
  have HY : Hid (decide (x.a < atM x s n) = cmpM 20 s n x) := rfl
  unfold vI
  have b0 := hid ((Below.refl _ w).alloc (Nat.le_refl _) (.cells #[.int .u8 20, .int .i64 d, .int .i64 s, .int .i64 n] 24))
  have BX := hid (heap_alloc_new w (.cells #[.int .u8 20, .int .i64 d, .int .i64 s, .int .i64 n] 24))
  clear h
  go_enter Try.func25, Try.ntmps25
  go_upto_region 2 with (go_at_call 44; refine (HN.out _).mono ?_; rintro r W1 ⟨t, rfl, ht, hb1, hge⟩)
  have HD : Hid (Dor w W1 t g x AH nH cH AM nM cM 20 d s n) := ⟨ht, (hb1.block _ (lt_of_heap BX.out)).trans BX.out, bel_trans b0.out hb1, HM.out.on (bel_trans b0.out hb1)⟩
  clear ht hb1 hge BX b0 HM HN
  have c0 : W1.cell? ⟨w.heap.size, 0, none⟩ = some (.int .u8 20) := row_cell HD.out.row 0
  have c1 : W1.cell? ⟨w.heap.size, 1, none⟩ = some (.int .i64 d) := row_cell HD.out.row 1
  have c2 : W1.cell? ⟨w.heap.size, 2, none⟩ = some (.int .i64 s) := row_cell HD.out.row 2
  have c3 : W1.cell? ⟨w.heap.size, 3, none⟩ = some (.int .i64 n) := row_cell HD.out.row 3
  have ca : W1.cell? ⟨g, 0, none⟩ = some (U.bv x.a) := HD.out.m.ca
  have f4 : ∀ k, (W1.drewN k).frozen? ⟨g, 4, none⟩ = false := fun k => row_free HD.out.m.row 4
  have c4 : W1.cell? ⟨g, 4, none⟩ = some (.bool x.f) := HD.out.m.cf
  have ks : ∀ k u, ((W1.drewN k).setCell ⟨g, 4, none⟩ u).cell? ⟨w.heap.size, 2, none⟩ = some (.int .i64 s) := fun k u => off_cell (W := W1.drewN k) c2 (by have := HL.out; show w.heap.size ≠ g; omega)
  have EQ : decide ((x.a.toNat : Int) < ((atM x s n).toNat : Int)) = decide (x.a < atM x s n) := by
    have e0 : (x.a < atM x s n) ↔ (x.a.toNat < (atM x s n).toNat) := UInt32.lt_iff_toNat_lt
    by_cases e : x.a.toNat < (atM x s n).toNat
    · rw [decide_eq_true (e0.2 e), decide_eq_true (by omega)]
    · rw [decide_eq_false (fun h => e (e0.1 h)), decide_eq_false (by omega)]
  have HQ := hid (fun k => (row_get ((HD.out.m.drewN k).putf (decide (x.a < atM x s n))) 4).trans (mc_4 _ _ _))
  have ka : ∀ k v, ((W1.drewN k).setCell ⟨g, 4, none⟩ (.bool v)).cell? ⟨g, 0, none⟩ = some (U.bv x.a) := fun k v => (row_get ((HD.out.m.drewN k).putf v) 0).trans (mc_0 _ _ _)
  have HB := hid (fun k v => (But.of_below (below_drewN HD.out.b k) : But (· = g) w _).set ⟨g, 4, none⟩ (.bool v) (.inl rfl))
  unfold U.bv at ca ka
  obtain ⟨z, hz⟩ : ∃ z : Int, ((atM x s n).toNat : Int) = z := ⟨_, rfl⟩
  have HS := hid (HD.out.drew.tell hok s z hz)
  rw [hz] at EQ
  obtain ⟨q, hq⟩ : ∃ q : Bool, decide (x.a < atM x s n) = q := ⟨_, rfl⟩
  have HF : Hid (q = cmpM 20 s n x) := hid (by rw [← HY.out, hq])
  rw [hq] at EQ HQ
  generalize (x.a.toNat : Int) = a at *
  have EB : decide (a < z) = q := EQ
  clear hz HY hq
  go_upto_region 23 with fail
  go_region_held3 (fun w' => w'.cell? ⟨w.heap.size, 2, none⟩ = some (.int .i64 s) ∧ w'.cell? ⟨g, 0, none⟩ = some (.int .u32 a)) (first | exact ⟨c2, ca⟩ | exact ⟨ks _ _, ka _ _⟩ | go_keep) (first
    | (go_at_call 57; with_reducible refine HS.out.mono ?_; rintro r W2 ⟨rfl, k, rfl⟩))
  all_goals
    go_end0
    refine ⟨rfl, ?_, (HB.out _ _).below (fun i hi => by rw [hi]; exact Nat.le_refl _) (Nat.le_of_lt HL.out)⟩
    rw [← HF.out]
    exact HQ.out _
set_option maxRecDepth 10000 in
set_option maxHeartbeats 16000000 in
theorem doc_21 (w : World) (g : Nat) (AH AM : Option Addr) (nH cH nM cM : Nat) (x : Mn) (d s n : Int) (h : MR w g x AH nH cH AM nM cM) (hok : x.ok) :
    Calls Try.prog 25 #[vI 21 d s n, .pointer (some ⟨g, 0, none⟩)] w fun e w' => e = .returned (.tuple #[]) ∧ w'.cell? ⟨g, 4, none⟩ = some (.bool (cmpM 21 s n x)) ∧ Below g w w' := by
  have HM := hid h
  have HL : Hid (g < w.heap.size) := h.lt
  have HN := hid (teller_any g n)
  have HY : Hid (decide (atM x s n < x.a) = cmpM 21 s n x) := rfl
  unfold vI
  have b0 := hid ((Below.refl _ w).alloc (Nat.le_refl _) (.cells #[.int .u8 21, .int .i64 d, .int .i64 s, .int .i64 n] 24))
  have BX := hid (heap_alloc_new w (.cells #[.int .u8 21, .int .i64 d, .int .i64 s, .int .i64 n] 24))
  clear h
  go_enter Try.func25, Try.ntmps25
  go_upto_region 2 with (go_at_call 44; refine (HN.out _).mono ?_; rintro r W1 ⟨t, rfl, ht, hb1, hge⟩)
  have HD : Hid (Dor w W1 t g x AH nH cH AM nM cM 21 d s n) := ⟨ht, (hb1.block _ (lt_of_heap BX.out)).trans BX.out, bel_trans b0.out hb1, HM.out.on (bel_trans b0.out hb1)⟩
  clear ht hb1 hge BX b0 HM HN
  have c0 : W1.cell? ⟨w.heap.size, 0, none⟩ = some (.int .u8 21) := row_cell HD.out.row 0
  have c1 : W1.cell? ⟨w.heap.size, 1, none⟩ = some (.int .i64 d) := row_cell HD.out.row 1
  have c2 : W1.cell? ⟨w.heap.size, 2, none⟩ = some (.int .i64 s) := row_cell HD.out.row 2
  have c3 : W1.cell? ⟨w.heap.size, 3, none⟩ = some (.int .i64 n) := row_cell HD.out.row 3
  have ca : W1.cell? ⟨g, 0, none⟩ = some (U.bv x.a) := HD.out.m.ca
  have f4 : ∀ k, (W1.drewN k).frozen? ⟨g, 4, none⟩ = false := fun k => row_free HD.out.m.row 4
  have c4 : W1.cell? ⟨g, 4, none⟩ = some (.bool x.f) := HD.out.m.cf
  have ks : ∀ k u, ((W1.drewN k).setCell ⟨g, 4, none⟩ u).cell? ⟨w.heap.size, 2, none⟩ = some (.int .i64 s) := fun k u => off_cell (W := W1.drewN k) c2 (by have := HL.out; show w.heap.size ≠ g; omega)
  have EQ : decide (((atM x s n).toNat : Int) < (x.a.toNat : Int)) = decide (atM x s n < x.a) := by
    have e0 : (atM x s n < x.a) ↔ ((atM x s n).toNat < x.a.toNat) := UInt32.lt_iff_toNat_lt
    by_cases e : (atM x s n).toNat < x.a.toNat
    · rw [decide_eq_true (e0.2 e), decide_eq_true (by omega)]
    · rw [decide_eq_false (fun h => e (e0.1 h)), decide_eq_false (by omega)]
  have HQ := hid (fun k => (row_get ((HD.out.m.drewN k).putf (decide (atM x s n < x.a))) 4).trans (mc_4 _ _ _))
  have ka : ∀ k v, ((W1.drewN k).setCell ⟨g, 4, none⟩ (.bool v)).cell? ⟨g, 0, none⟩ = some (U.bv x.a) := fun k v => (row_get ((HD.out.m.drewN k).putf v) 0).trans (mc_0 _ _ _)
  have HB := hid (fun k v => (But.of_below (below_drewN HD.out.b k) : But (· = g) w _).set ⟨g, 4, none⟩ (.bool v) (.inl rfl))
  unfold U.bv at ca ka
  obtain ⟨z, hz⟩ : ∃ z : Int, ((atM x s n).toNat : Int) = z := ⟨_, rfl⟩
  have HS := hid (HD.out.drew.tell hok s z hz)
  rw [hz] at EQ
  obtain ⟨q, hq⟩ : ∃ q : Bool, decide (atM x s n < x.a) = q := ⟨_, rfl⟩
  have HF : Hid (q = cmpM 21 s n x) := hid (by rw [← HY.out, hq])
  rw [hq] at EQ HQ
  generalize (x.a.toNat : Int) = a at *
  have EB : decide (a > z) = q := EQ
  clear hz HY hq
  go_upto_region 25 with fail
  go_region_held3 (fun w' => w'.cell? ⟨w.heap.size, 2, none⟩ = some (.int .i64 s) ∧ w'.cell? ⟨g, 0, none⟩ = some (.int .u32 a)) (first | exact ⟨c2, ca⟩ | exact ⟨ks _ _, ka _ _⟩ | go_keep) (first
    | (go_at_call 57; with_reducible refine HS.out.mono ?_; rintro r W2 ⟨rfl, k, rfl⟩))
  all_goals
    go_end0
    refine ⟨rfl, ?_, (HB.out _ _).below (fun i hi => by rw [hi]; exact Nat.le_refl _) (Nat.le_of_lt HL.out)⟩
    rw [← HF.out]
    exact HQ.out _
theorem doc_any (w : World) (g : Nat) (AH AM : Option Addr) (nH cH nM cM : Nat) (x : Mn) (o d s n : Int) (ho : 19 ≤ o ∧ o ≤ 21) (h : MR w g x AH nH cH AM nM cM) (hok : x.ok) :
    Calls Try.prog 25 #[vI o d s n, .pointer (some ⟨g, 0, none⟩)] w fun e w' => e = .returned (.tuple #[]) ∧ w'.cell? ⟨g, 4, none⟩ = some (.bool (cmpM o s n x)) ∧ Below g w w' := by
  rcases (by omega : o = 19 ∨ o = 20 ∨ o = 21) with rfl | rfl | rfl
  · exact doc_19 w g AH AM nH cH nM cM x d s n h hok
  · exact doc_20 w g AH AM nH cH nM cM x d s n h hok
  · exact doc_21 w g AH AM nH cH nM cM x d s n h hok
end Go.Proofs.Ytaogileaeflnfaa
