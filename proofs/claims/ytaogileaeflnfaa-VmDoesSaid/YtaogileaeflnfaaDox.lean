/-
  The contract of do (written by tools/stage17/gen_dox.py).
-/
import Derived.Test.YtaogileaeflnfaaPut
import Derived.Test.YtaogileaeflnfaaRof
import Derived.Deep.RegionHeld3
import Derived.Deep.RegionWith
set_option linter.unusedVariables false
set_option linter.unusedSimpArgs false
namespace Go.Proofs.Ytaogileaeflnfaa
open Go.RowKit

/-- What do leaves. -/
def DoneIn (w : World) (B g hb mb nH cH nM cM : Nat) (y : Mn) (e : Ending) (w' : World) : Prop := e = .returned (.tuple #[]) ∧ MO w' B g hb mb nH cH nM cM y ∧ But (Its g hb mb) w w'
/-- A put behind what was read. -/
theorem put_at {w W : World} {B g hb mb nH cH nM cM : Nat} {x y : Mn} {p : Int} {v : UInt32} (z : Int) (hz : z = (v.toNat : Int)) (hy : putM x p v = y) (b : But (Its g hb mb) w W) (h : MO W B g hb mb nH cH nM cM x) (hl : g < w.heap.size ∧ hb < w.heap.size ∧ mb < w.heap.size) (hok : x.ok) :
    Calls Try.prog 45 #[.pointer (some ⟨g, 0, none⟩), .int .i64 p, .int .u32 z] W fun e w' => e = .returned (.tuple #[]) ∧ DoneIn w B g hb mb nH cH nM cM y e w' ∧ ∀ p v, w.heap.size ≤ p.block → W.cell? p = some v → w'.cell? p = some v := by
  subst hz hy
  refine (put_any W B g hb mb nH cH nM cM x p v h hok).mono ?_
  rintro e w' ⟨rfl, h1, h2⟩
  refine ⟨rfl, ⟨rfl, h1, b.trans h2 (fun i hi => .inl hi)⟩, fun p v hp hc => h2.cell hc ?_⟩
  rintro (e | e | e) <;> omega
/-- What stands behind teller's call. -/
structure Dob (w W : World) (t B g hb mb nH cH nM cM : Nat) (x : Mn) (o d s n : Int) : Prop where
  t : TlAt W t g n
  row : W.heap[w.heap.size]? = some (.cells #[.int .u8 o, .int .i64 d, .int .i64 s, .int .i64 n] 24 (0, 0))
  b : Below w.heap.size w W
  m : MO W B g hb mb nH cH nM cM x
theorem Dob.drew {w W : World} {t B g hb mb nH cH nM cM : Nat} {x : Mn} {o d s n : Int} (h : Dob w W t B g hb mb nH cH nM cM x o d s n) : Dob w W.drew t B g hb mb nH cH nM cM x o d s n := ⟨⟨h.t.one, h.t.two⟩, h.row, h.b.drew, h.m.drew⟩
theorem Dob.drewN {w W : World} {t B g hb mb nH cH nM cM : Nat} {x : Mn} {o d s n : Int} (h : Dob w W t B g hb mb nH cH nM cM x o d s n) (k : Nat) : Dob w (W.drewN k) t B g hb mb nH cH nM cM x o d s n := ⟨⟨h.t.one, h.t.two⟩, h.row, below_drewN h.b k, h.m.drewN k⟩
theorem Dob.tell {w W : World} {t B g hb mb nH cH nM cM : Nat} {x : Mn} {o d s n : Int} (h : Dob w W t B g hb mb nH cH nM cM x o d s n) (hok : x.ok) (p z : Int) (hz : ((atM x p n).toNat : Int) = z) :
    Calls Try.prog 57 #[.int .i64 p, .pointer (some ⟨t, 0, none⟩), .pointer (some ⟨t + 1, 0, none⟩)] W fun e w' => e = .returned (.int .u32 z) ∧ ∃ k, w' = W.drewN k := by
  subst hz
  exact h.t.call h.m.mr hok p
theorem xor_max (x : Nat) (h : x < 4294967296) : 4294967295 ^^^ x = 4294967295 - x := by
  have := UInt32.toNat_not (UInt32.ofNat x)
  have e : (UInt32.ofNat x).toNat = x := UInt32.toNat_ofNat_of_lt h
  apply Nat.eq_of_testBit_eq
  intro i
  rw [Nat.testBit_xor]
  have h1 : (4294967295 : Nat) = 2 ^ 32 - 1 := rfl
  rw [h1, Nat.testBit_two_pow_sub_one, show 2 ^ 32 - 1 - x = 2 ^ 32 - (x + 1) by omega, Nat.testBit_two_pow_sub_succ h]
  by_cases hi : i < 32
  · simp [hi]
  · have : x.testBit i = false := Nat.testBit_lt_two_pow (Nat.lt_of_lt_of_le h (Nat.pow_le_pow_right (n := 2) (by omega) (by omega : 32 ≤ i)))
    simp [hi, this]
set_option maxRecDepth 10000 in
set_option maxHeartbeats 16000000 in
theorem do_1 (w : World) (B g hb mb nH cH nM cM : Nat) (x : Mn) (d s n : Int) (h : MO w B g hb mb nH cH nM cM x) (hok : x.ok) :
    Calls Try.prog 25 #[vI 1 d s n, .pointer (some ⟨g, 0, none⟩)] w (DoneIn w B g hb mb nH cH nM cM (doM 1 d s n x)) := by
  have HM := hid h
  have HL : Hid (g < w.heap.size ∧ hb < w.heap.size ∧ mb < w.heap.size) := ⟨h.lt, h.hlt.2, h.mlt.2⟩
  have HN := hid (teller_any g n)
  have HY : Hid (∀ z : Int, z = ((atM x s n).toNat : Int) → ∀ W, But (Its g hb mb) w W → MO W B g hb mb nH cH nM cM x → Calls Try.prog 45 #[.pointer (some ⟨g, 0, none⟩), .int .i64 d, .int .u32 z] W fun e w' => e = .returned (.tuple #[]) ∧ DoneIn w B g hb mb nH cH nM cM (doM 1 d s n x) e w' ∧ ∀ p v, w.heap.size ≤ p.block → W.cell? p = some v → w'.cell? p = some v) :=
    fun z hz W b h => put_at z hz rfl b h HL.out hok
  generalize doM 1 d s n x = y at *
  unfold vI
  have b0 := hid ((Below.refl _ w).alloc (Nat.le_refl _) (.cells #[.int .u8 1, .int .i64 d, .int .i64 s, .int .i64 n] 24))
  have BX := hid (heap_alloc_new w (.cells #[.int .u8 1, .int .i64 d, .int .i64 s, .int .i64 n] 24))
  clear h
  go_enter Try.func25, Try.ntmps25
  go_upto_region 2 with (go_at_call 44; refine (HN.out _).mono ?_; rintro r W1 ⟨t, rfl, ht, hb1, hge⟩)
  have HD : Hid (Dob w W1 t B g hb mb nH cH nM cM x 1 d s n) := ⟨ht, (hb1.block _ (lt_of_heap BX.out)).trans BX.out, bel_trans b0.out hb1, HM.out.below (bel_trans b0.out hb1)⟩
  clear ht hb1 hge BX b0 HM HN
  have c0 : W1.cell? ⟨w.heap.size, 0, none⟩ = some (.int .u8 1) := row_cell HD.out.row 0
  have c1 : W1.cell? ⟨w.heap.size, 1, none⟩ = some (.int .i64 d) := row_cell HD.out.row 1
  have c2 : W1.cell? ⟨w.heap.size, 2, none⟩ = some (.int .i64 s) := row_cell HD.out.row 2
  have c3 : W1.cell? ⟨w.heap.size, 3, none⟩ = some (.int .i64 n) := row_cell HD.out.row 3
  obtain ⟨z, hz⟩ : ∃ z : Int, ((atM x s n).toNat : Int) = z := ⟨_, rfl⟩
  have HS := hid (HD.out.drew.tell hok s z hz)
  have HYz := hid (HY.out z hz.symm)
  have HYk := hid (fun k => HYz.out (W1.drewN k) (.of_below (below_drewN HD.out.b k)) (HD.out.m.drewN k))
  clear HY hz HYz
  go_upto_region 5 with fail
  go_region_held3 (fun w' => w'.cell? ⟨w.heap.size, 1, none⟩ = some (.int .i64 d) ∧ w'.cell? ⟨w.heap.size, 2, none⟩ = some (.int .i64 s)) (first | exact ⟨c1, c2⟩ | exact ⟨c1', c2'⟩ | go_keep) (first
    | (go_at_call 57; with_reducible refine HS.out.mono ?_; rintro r W2 ⟨rfl, k, rfl⟩)
    | (go_at_call 45; refine (HYk.out _).mono ?_; rintro r W3 ⟨rfl, hd, hc⟩; have c1' := hc ⟨w.heap.size, 1, none⟩ _ (Nat.le_refl _) c1; have c2' := hc ⟨w.heap.size, 2, none⟩ _ (Nat.le_refl _) c2; clear hc))
  all_goals
    go_end0
    exact hd
end Go.Proofs.Ytaogileaeflnfaa
