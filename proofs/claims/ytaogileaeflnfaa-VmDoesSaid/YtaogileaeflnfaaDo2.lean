/-
  The contract of do (written by tools/stage17/gen_dox.py).
-/
import Derived.Test.YtaogileaeflnfaaDox
import Derived.Test.YtaogileaeflnfaaRof
import Derived.Deep.RegionHeld3
import Derived.Deep.RegionWith
set_option linter.unusedVariables false
set_option linter.unusedSimpArgs false
namespace Go.Proofs.Ytaogileaeflnfaa
open Go.RowKit

set_option maxRecDepth 10000 in
set_option maxHeartbeats 16000000 in
theorem do_2 (w : World) (B g hb mb nH cH nM cM : Nat) (x : Mn) (d s n : Int) (h : MO w B g hb mb nH cH nM cM x) (hok : x.ok) :
    Calls Try.prog 25 #[vI 2 d s n, .pointer (some ⟨g, 0, none⟩)] w (DoneIn w B g hb mb nH cH nM cM (doM 2 d s n x)) := by
  have HM := hid h
  have HL : Hid (g < w.heap.size ∧ hb < w.heap.size ∧ mb < w.heap.size) := ⟨h.lt, h.hlt.2, h.mlt.2⟩
  have HN := hid (teller_any g n)
  have HY : Hid (∀ z : Int, z = ((u32 n).toNat : Int) → ∀ W, But (Its g hb mb) w W → MO W B g hb mb nH cH nM cM x → Calls Try.prog 45 #[.pointer (some ⟨g, 0, none⟩), .int .i64 d, .int .u32 z] W fun e w' => e = .returned (.tuple #[]) ∧ DoneIn w B g hb mb nH cH nM cM (doM 2 d s n x) e w' ∧ ∀ p v, w.heap.size ≤ p.block → W.cell? p = some v → w'.cell? p = some v) :=
    fun z hz W b h => put_at z hz rfl b h HL.out hok
  generalize doM 2 d s n x = y at *
  unfold vI
  have b0 := hid ((Below.refl _ w).alloc (Nat.le_refl _) (.cells #[.int .u8 2, .int .i64 d, .int .i64 s, .int .i64 n] 24))
  have BX := hid (heap_alloc_new w (.cells #[.int .u8 2, .int .i64 d, .int .i64 s, .int .i64 n] 24))
  clear h
  go_enter Try.func25, Try.ntmps25
  go_upto_region 2 with (go_at_call 44; refine (HN.out _).mono ?_; rintro r W1 ⟨t, rfl, ht, hb1, hge⟩)
  have HD : Hid (Dob w W1 t B g hb mb nH cH nM cM x 2 d s n) := ⟨ht, (hb1.block _ (lt_of_heap BX.out)).trans BX.out, bel_trans b0.out hb1, HM.out.below (bel_trans b0.out hb1)⟩
  clear ht hb1 hge BX b0 HM HN
  have c0 : W1.cell? ⟨w.heap.size, 0, none⟩ = some (.int .u8 2) := row_cell HD.out.row 0
  have c1 : W1.cell? ⟨w.heap.size, 1, none⟩ = some (.int .i64 d) := row_cell HD.out.row 1
  have c2 : W1.cell? ⟨w.heap.size, 2, none⟩ = some (.int .i64 s) := row_cell HD.out.row 2
  have c3 : W1.cell? ⟨w.heap.size, 3, none⟩ = some (.int .i64 n) := row_cell HD.out.row 3
  obtain ⟨z, hz⟩ : ∃ z : Int, ((atM x 7 n).toNat : Int) = z := ⟨_, rfl⟩
  have HS := hid (HD.out.drew.tell hok 7 z hz)
  have HYz := hid (HY.out z hz.symm)
  have HYk := hid (fun k => HYz.out (W1.drewN k) (.of_below (below_drewN HD.out.b k)) (HD.out.m.drewN k))
  clear HY hz HYz
  go_upto_region 7 with fail
  go_region_held3 (fun w' => w'.cell? ⟨w.heap.size, 1, none⟩ = some (.int .i64 d) ∧ w'.cell? ⟨w.heap.size, 2, none⟩ = some (.int .i64 s)) (first | exact ⟨c1, c2⟩ | exact ⟨c1', c2'⟩ | go_keep) (first
    | (go_at_call 57; with_reducible refine HS.out.mono ?_; rintro r W2 ⟨rfl, k, rfl⟩)
    | (go_at_call 45; refine (HYk.out _).mono ?_; rintro r W3 ⟨rfl, hd, hc⟩; have c1' := hc ⟨w.heap.size, 1, none⟩ _ (Nat.le_refl _) c1; have c2' := hc ⟨w.heap.size, 2, none⟩ _ (Nat.le_refl _) c2; clear hc))
  all_goals
    go_end0
    exact hd
set_option maxRecDepth 10000 in
set_option maxHeartbeats 16000000 in
theorem do_3 (w : World) (B g hb mb nH cH nM cM : Nat) (x : Mn) (d s n : Int) (h : MO w B g hb mb nH cH nM cM x) (hok : x.ok) :
    Calls Try.prog 25 #[vI 3 d s n, .pointer (some ⟨g, 0, none⟩)] w (DoneIn w B g hb mb nH cH nM cM (doM 3 d s n x)) := by
  have HM := hid h
  have HL : Hid (g < w.heap.size ∧ hb < w.heap.size ∧ mb < w.heap.size) := ⟨h.lt, h.hlt.2, h.mlt.2⟩
  have HN := hid (teller_any g n)
  have HY : Hid (∀ z : Int, z = ((atM x d n + 1).toNat : Int) → ∀ W, But (Its g hb mb) w W → MO W B g hb mb nH cH nM cM x → Calls Try.prog 45 #[.pointer (some ⟨g, 0, none⟩), .int .i64 d, .int .u32 z] W fun e w' => e = .returned (.tuple #[]) ∧ DoneIn w B g hb mb nH cH nM cM (doM 3 d s n x) e w' ∧ ∀ p v, w.heap.size ≤ p.block → W.cell? p = some v → w'.cell? p = some v) :=
    fun z hz W b h => put_at z hz rfl b h HL.out hok
  generalize doM 3 d s n x = y at *
  unfold vI
  have b0 := hid ((Below.refl _ w).alloc (Nat.le_refl _) (.cells #[.int .u8 3, .int .i64 d, .int .i64 s, .int .i64 n] 24))
  have BX := hid (heap_alloc_new w (.cells #[.int .u8 3, .int .i64 d, .int .i64 s, .int .i64 n] 24))
  clear h
  go_enter Try.func25, Try.ntmps25
  go_upto_region 2 with (go_at_call 44; refine (HN.out _).mono ?_; rintro r W1 ⟨t, rfl, ht, hb1, hge⟩)
  have HD : Hid (Dob w W1 t B g hb mb nH cH nM cM x 3 d s n) := ⟨ht, (hb1.block _ (lt_of_heap BX.out)).trans BX.out, bel_trans b0.out hb1, HM.out.below (bel_trans b0.out hb1)⟩
  clear ht hb1 hge BX b0 HM HN
  have c0 : W1.cell? ⟨w.heap.size, 0, none⟩ = some (.int .u8 3) := row_cell HD.out.row 0
  have c1 : W1.cell? ⟨w.heap.size, 1, none⟩ = some (.int .i64 d) := row_cell HD.out.row 1
  have c2 : W1.cell? ⟨w.heap.size, 2, none⟩ = some (.int .i64 s) := row_cell HD.out.row 2
  have c3 : W1.cell? ⟨w.heap.size, 3, none⟩ = some (.int .i64 n) := row_cell HD.out.row 3
  obtain ⟨z, hz⟩ : ∃ z : Int, ((atM x d n).toNat : Int) = z := ⟨_, rfl⟩
  have HS := hid (HD.out.drew.tell hok d z hz)
  obtain ⟨z1, E⟩ : ∃ z1 : Int, (z + 1) % 4294967296 = z1 := ⟨_, rfl⟩
  have HYz := hid (HY.out z1 (by rw [← E, ← hz, UInt32.toNat_add]; have := (atM x d n).toNat_lt; show _ = (((_ + 1) % 4294967296 : Nat) : Int); omega))
  have E2 : IntKind.u32.wrap (z + 1) = z1 := E
  have HYk := hid (fun k => HYz.out (W1.drewN k) (.of_below (below_drewN HD.out.b k)) (HD.out.m.drewN k))
  clear HY hz HYz
  go_upto_region 9 with fail
  go_region_held3 (fun w' => w'.cell? ⟨w.heap.size, 1, none⟩ = some (.int .i64 d) ∧ w'.cell? ⟨w.heap.size, 2, none⟩ = some (.int .i64 s)) (first | exact ⟨c1, c2⟩ | exact ⟨c1', c2'⟩ | go_keep) (first
    | (go_at_call 57; with_reducible refine HS.out.mono ?_; rintro r W2 ⟨rfl, k, rfl⟩)
    | (go_at_call 45; refine (HYk.out _).mono ?_; rintro r W3 ⟨rfl, hd, hc⟩; have c1' := hc ⟨w.heap.size, 1, none⟩ _ (Nat.le_refl _) c1; have c2' := hc ⟨w.heap.size, 2, none⟩ _ (Nat.le_refl _) c2; clear hc))
  all_goals
    go_end0
    exact hd
set_option maxRecDepth 10000 in
set_option maxHeartbeats 16000000 in
theorem do_4 (w : World) (B g hb mb nH cH nM cM : Nat) (x : Mn) (d s n : Int) (h : MO w B g hb mb nH cH nM cM x) (hok : x.ok) :
    Calls Try.prog 25 #[vI 4 d s n, .pointer (some ⟨g, 0, none⟩)] w (DoneIn w B g hb mb nH cH nM cM (doM 4 d s n x)) := by
  have HM := hid h
  have HL : Hid (g < w.heap.size ∧ hb < w.heap.size ∧ mb < w.heap.size) := ⟨h.lt, h.hlt.2, h.mlt.2⟩
  have HN := hid (teller_any g n)
  have HY : Hid (∀ z : Int, z = ((atM x d n - 1).toNat : Int) → ∀ W, But (Its g hb mb) w W → MO W B g hb mb nH cH nM cM x → Calls Try.prog 45 #[.pointer (some ⟨g, 0, none⟩), .int .i64 d, .int .u32 z] W fun e w' => e = .returned (.tuple #[]) ∧ DoneIn w B g hb mb nH cH nM cM (doM 4 d s n x) e w' ∧ ∀ p v, w.heap.size ≤ p.block → W.cell? p = some v → w'.cell? p = some v) :=
    fun z hz W b h => put_at z hz rfl b h HL.out hok
  generalize doM 4 d s n x = y at *
  unfold vI
  have b0 := hid ((Below.refl _ w).alloc (Nat.le_refl _) (.cells #[.int .u8 4, .int .i64 d, .int .i64 s, .int .i64 n] 24))
  have BX := hid (heap_alloc_new w (.cells #[.int .u8 4, .int .i64 d, .int .i64 s, .int .i64 n] 24))
  clear h
  go_enter Try.func25, Try.ntmps25
  go_upto_region 2 with (go_at_call 44; refine (HN.out _).mono ?_; rintro r W1 ⟨t, rfl, ht, hb1, hge⟩)
  have HD : Hid (Dob w W1 t B g hb mb nH cH nM cM x 4 d s n) := ⟨ht, (hb1.block _ (lt_of_heap BX.out)).trans BX.out, bel_trans b0.out hb1, HM.out.below (bel_trans b0.out hb1)⟩
  clear ht hb1 hge BX b0 HM HN
  have c0 : W1.cell? ⟨w.heap.size, 0, none⟩ = some (.int .u8 4) := row_cell HD.out.row 0
  have c1 : W1.cell? ⟨w.heap.size, 1, none⟩ = some (.int .i64 d) := row_cell HD.out.row 1
  have c2 : W1.cell? ⟨w.heap.size, 2, none⟩ = some (.int .i64 s) := row_cell HD.out.row 2
  have c3 : W1.cell? ⟨w.heap.size, 3, none⟩ = some (.int .i64 n) := row_cell HD.out.row 3
  obtain ⟨z, hz⟩ : ∃ z : Int, ((atM x d n).toNat : Int) = z := ⟨_, rfl⟩
  have HS := hid (HD.out.drew.tell hok d z hz)
  obtain ⟨z1, E⟩ : ∃ z1 : Int, (z - 1) % 4294967296 = z1 := ⟨_, rfl⟩
  have HYz := hid (HY.out z1 (by rw [← E, ← hz, UInt32.toNat_sub]; have := (atM x d n).toNat_lt; show _ = (((4294967296 - 1 + _) % 4294967296 : Nat) : Int); omega))
  have E2 : IntKind.u32.wrap (z - 1) = z1 := E
  have HYk := hid (fun k => HYz.out (W1.drewN k) (.of_below (below_drewN HD.out.b k)) (HD.out.m.drewN k))
  clear HY hz HYz
  go_upto_region 11 with fail
  go_region_held3 (fun w' => w'.cell? ⟨w.heap.size, 1, none⟩ = some (.int .i64 d) ∧ w'.cell? ⟨w.heap.size, 2, none⟩ = some (.int .i64 s)) (first | exact ⟨c1, c2⟩ | exact ⟨c1', c2'⟩ | go_keep) (first
    | (go_at_call 57; with_reducible refine HS.out.mono ?_; rintro r W2 ⟨rfl, k, rfl⟩)
    | (go_at_call 45; refine (HYk.out _).mono ?_; rintro r W3 ⟨rfl, hd, hc⟩; have c1' := hc ⟨w.heap.size, 1, none⟩ _ (Nat.le_refl _) c1; have c2' := hc ⟨w.heap.size, 2, none⟩ _ (Nat.le_refl _) c2; clear hc))
  all_goals
    go_end0
    exact hd
set_option maxRecDepth 10000 in
set_option maxHeartbeats 16000000 in
theorem do_5 (w : World) (B g hb mb nH cH nM cM : Nat) (x : Mn) (d s n : Int) (h : MO w B g hb mb nH cH nM cM x) (hok : x.ok) :
    Calls Try.prog 25 #[vI 5 d s n, .pointer (some ⟨g, 0, none⟩)] w (DoneIn w B g hb mb nH cH nM cM (doM 5 d s n x)) := by
  have HM := hid h
  have HL : Hid (g < w.heap.size ∧ hb < w.heap.size ∧ mb < w.heap.size) := ⟨h.lt, h.hlt.2, h.mlt.2⟩
  have HN := hid (teller_any g n)
  have HY : Hid (∀ z : Int, z = ((~~~ (atM x d n)).toNat : Int) → ∀ W, But (Its g hb mb) w W → MO W B g hb mb nH cH nM cM x → Calls Try.prog 45 #[.pointer (some ⟨g, 0, none⟩), .int .i64 d, .int .u32 z] W fun e w' => e = .returned (.tuple #[]) ∧ DoneIn w B g hb mb nH cH nM cM (doM 5 d s n x) e w' ∧ ∀ p v, w.heap.size ≤ p.block → W.cell? p = some v → w'.cell? p = some v) :=
    fun z hz W b h => put_at z hz rfl b h HL.out hok
  generalize doM 5 d s n x = y at *
  unfold vI
  have b0 := hid ((Below.refl _ w).alloc (Nat.le_refl _) (.cells #[.int .u8 5, .int .i64 d, .int .i64 s, .int .i64 n] 24))
  have BX := hid (heap_alloc_new w (.cells #[.int .u8 5, .int .i64 d, .int .i64 s, .int .i64 n] 24))
  clear h
  go_enter Try.func25, Try.ntmps25
  go_upto_region 2 with (go_at_call 44; refine (HN.out _).mono ?_; rintro r W1 ⟨t, rfl, ht, hb1, hge⟩)
  have HD : Hid (Dob w W1 t B g hb mb nH cH nM cM x 5 d s n) := ⟨ht, (hb1.block _ (lt_of_heap BX.out)).trans BX.out, bel_trans b0.out hb1, HM.out.below (bel_trans b0.out hb1)⟩
  clear ht hb1 hge BX b0 HM HN
  have c0 : W1.cell? ⟨w.heap.size, 0, none⟩ = some (.int .u8 5) := row_cell HD.out.row 0
  have c1 : W1.cell? ⟨w.heap.size, 1, none⟩ = some (.int .i64 d) := row_cell HD.out.row 1
  have c2 : W1.cell? ⟨w.heap.size, 2, none⟩ = some (.int .i64 s) := row_cell HD.out.row 2
  have c3 : W1.cell? ⟨w.heap.size, 3, none⟩ = some (.int .i64 n) := row_cell HD.out.row 3
  obtain ⟨z, hz⟩ : ∃ z : Int, ((atM x d n).toNat : Int) = z := ⟨_, rfl⟩
  have HS := hid (HD.out.drew.tell hok d z hz)
  obtain ⟨z1, E⟩ : ∃ z1 : Int, bits BinOp.xor IntKind.u32 IntKind.u32.max z = z1 := ⟨_, rfl⟩
  have HYz := hid (HY.out z1 (by rw [← E, ← hz, show IntKind.u32.max = ((4294967295 : Nat) : Int) from rfl, u32_xor_nat _ _ (by omega) (atM x d n).toNat_lt, UInt32.toNat_not, xor_max _ (atM x d n).toNat_lt]; rfl))
  have E2 : bits BinOp.xor IntKind.u32 4294967295 z = z1 := E
  have E3 := hid (show bits BinOp.xor IntKind.u32 (if IntKind.u32.signed = true then -1 else IntKind.u32.max) z = z1 from E)
  have HYk := hid (fun k => HYz.out (W1.drewN k) (.of_below (below_drewN HD.out.b k)) (HD.out.m.drewN k))
  clear HY hz HYz
  go_upto_region 13 with fail
  go_region_held3 (fun w' => w'.cell? ⟨w.heap.size, 1, none⟩ = some (.int .i64 d) ∧ w'.cell? ⟨w.heap.size, 2, none⟩ = some (.int .i64 s)) (first | exact ⟨c1, c2⟩ | exact ⟨c1', c2'⟩ | go_keep) (first
    | (go_at_call 57; with_reducible refine HS.out.mono ?_; rintro r W2 ⟨rfl, k, rfl⟩)
    | (go_at_call 45; rw [E3.out]; refine (HYk.out _).mono ?_; rintro r W3 ⟨rfl, hd, hc⟩; have c1' := hc ⟨w.heap.size, 1, none⟩ _ (Nat.le_refl _) c1; have c2' := hc ⟨w.heap.size, 2, none⟩ _ (Nat.le_refl _) c2; clear hc))
  all_goals
    go_end0
    exact hd
end Go.Proofs.Ytaogileaeflnfaa
