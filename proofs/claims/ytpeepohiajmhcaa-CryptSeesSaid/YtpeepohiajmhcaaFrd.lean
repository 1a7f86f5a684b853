/-
  The contracts of a file's Size, Sync, ReadAt and Truncate.
-/
import Derived.Test.YtpeepohiajmhcaaFap
import Derived.Test.YtpeepohiajmhcaaZb
namespace Go.Proofs.Ytpeepohiajmhcaa
open Go.RowKit

theorem ahd_le (o : Option En) : ahd o ≤ 32 := by cases o <;> simp [ahd]
set_option maxRecDepth 10000 in
set_option maxHeartbeats 2000000 in
theorem FSize_any {B : Nat} {S X : Nat → Prop} {w : World} {g : Nat} {F L : Value} {d : Dk} {e : Int} {h : Nat} {o : Option En} (hd : DkAt B S w g F L d e) (f : FlAt X w h g o) :
    Calls Try.prog 14 #[.pointer (some ⟨h, 0, none⟩)] w fun r w' => r = .returned (.int .i64 ((d.now.length - ahd o : Nat) : Int)) ∧ w' = w.drewN 1 := by
  have HM := hid (fmade_any f)
  have HZ := hid (Size_any hd.drew)
  obtain ⟨_, c1, c2, _⟩ := f.cells
  have hmx := hd.ok.mx
  have hm4 := hd.ok.m4
  have hah := ahd_le o
  obtain ⟨z, hz⟩ : ∃ z, d.now.length = z := ⟨_, rfl⟩
  obtain ⟨a, ha⟩ : ∃ a, ahd o = a := ⟨_, rfl⟩
  obtain ⟨q, hq⟩ : ∃ q : Nat, z - a = q := ⟨_, rfl⟩
  obtain ⟨r, hr⟩ : ∃ r : Int, (z : Int) - (a : Int) = r := ⟨_, rfl⟩
  rw [hz] at HZ hmx ⊢
  rw [ha] at c2 hah ⊢
  rw [hq]
  have hw : IntKind.i64.wrap ((z : Int) - (a : Int)) = r := by rw [IntWalk.i64_in _ (by omega), hr]
  have hmax : (if 0 < r then r else 0) = (q : Int) := by split <;> omega
  have hmax2 : (if r < 0 then 0 else r) = (q : Int) := by split <;> omega
  have HQ := hid hq
  clear f hd hz ha hr hq
  go_enter Try.func14, Try.ntmps14
  go_wp2_with (go_at_call 33; refine HM.out.mono ?_; rintro r w' ⟨rfl, rfl⟩)
  go_region_held3 (fun w' => w'.cell? ⟨h, 1, none⟩ = some (.pointer (some ⟨g, 0, none⟩)) ∧ w'.cell? ⟨h, 2, none⟩ = some (.int .i64 (a : Nat))) (go_keep)
    (first | (go_at_call 10; (with_reducible refine HZ.out.mono ?_); rintro r w1 ⟨rfl, rfl⟩))
  all_goals
    go_wp2_with fail
    go_ret
    exact ⟨rfl, rfl⟩
set_option maxRecDepth 10000 in
set_option maxHeartbeats 1000000 in
theorem FSync_any {B : Nat} {S : Nat → Prop} {w : World} {g : Nat} {F L : Value} {d : Dk} {e : Int} {h : Nat} {o : Option En} (hd : DkAt B S w g F L d e) (f : FlAt S w h g o) :
    Calls Try.prog 17 #[.pointer (some ⟨h, 0, none⟩)] w fun r w' => r = .returned (.int .i64 (d.syn.2 : Nat)) ∧ (∃ L', DkAt B S w' g F L' d.syn.1 e) ∧ But S w w' := by
  have HM := hid (fmade_any f)
  have HS := hid (Sync_any hd)
  obtain ⟨_, c1, _, _⟩ := f.cells
  clear f hd
  go_enter Try.func17, Try.ntmps17
  go_wp2_with (first
    | (go_at_call 33; (with_reducible refine HM.out.mono ?_); rintro r w' ⟨rfl, rfl⟩)
    | (go_at_call 19; (with_reducible refine HS.out.mono ?_); rintro r w' ⟨rfl, h1⟩; have H1 := hid h1; clear h1))
  go_ret
  exact ⟨rfl, H1.out⟩
set_option maxRecDepth 10000 in
set_option maxHeartbeats 1000000 in
theorem FTrunc_bad {B : Nat} {S : Nat → Prop} {w : World} {g : Nat} {F L : Value} {d : Dk} {e : Int} {h : Nat} {o : Option En} (hd : DkAt B S w g F L d e) (f : FlAt S w h g o) (n : Int) (hb : ¬ (0 ≤ n ∧ n ≤ ((d.now.length - ahd o : Nat) : Int))) :
    Calls Try.prog 13 #[.pointer (some ⟨h, 0, none⟩), .int .i64 n] w fun r w' => r = .returned (.int .i64 2) ∧ ∃ k, w' = w.drewN k := by
  have HM := hid (fmade_any f)
  have HZ := hid (FSize_any hd f)
  obtain ⟨q, hq⟩ : ∃ q : Nat, d.now.length - ahd o = q := ⟨_, rfl⟩
  rw [hq] at HZ hb
  clear f hd hq
  by_cases h1 : n < 0
  · clear hb
    go_enter Try.func13, Try.ntmps13
    go_wp2_with (first
      | (go_at_call 33; (with_reducible refine HM.out.mono ?_); rintro r w' ⟨rfl, rfl⟩)
      | (go_at_call 14; (with_reducible refine HZ.out.mono ?_); rintro r w' ⟨rfl, rfl⟩))
    go_ret
    exact ⟨rfl, 0, rfl⟩
  · have h2 : (q : Int) < n := by omega
    have h3 : 0 ≤ n := by omega
    clear hb h1
    go_enter Try.func13, Try.ntmps13
    go_wp2_with (first
      | (go_at_call 33; (with_reducible refine HM.out.mono ?_); rintro r w' ⟨rfl, rfl⟩)
      | (go_at_call 14; (with_reducible refine HZ.out.mono ?_); rintro r w' ⟨rfl, rfl⟩))
    go_ret
    exact ⟨rfl, 1, rfl⟩
set_option maxRecDepth 10000 in
set_option maxHeartbeats 1000000 in
theorem FTrunc_any {B : Nat} {S : Nat → Prop} {w : World} {g : Nat} {F L : Value} {d : Dk} {e : Int} {h : Nat} {o : Option En} (hd : DkAt B S w g F L d e) (f : FlAt S w h g o) (n : Nat) (hn : n ≤ d.now.length - ahd o) (hz : ahd o ≤ d.now.length) :
    Calls Try.prog 13 #[.pointer (some ⟨h, 0, none⟩), .int .i64 (n : Nat)] w fun r w' => r = .returned (.int .i64 ((d.trunc (n + ahd o)).2 : Nat)) ∧ ∃ F' L' S', DkAt B S' w' g F' L' (d.trunc (n + ahd o)).1 e ∧ Stp S S' w w' := by
  have HM := hid (fmade_any f)
  have HZ := hid (FSize_any hd f)
  have HT := hid (Truncate_any (hd.drewN 2) (n + ahd o) (by omega))
  obtain ⟨_, c1, c2, _⟩ := f.cells
  have Hc1 := hid c1
  have Hc2 := hid c2
  have HO : Hid (¬ S h) := f.out
  have hmx := hd.ok.mx
  have hm4 := hd.ok.m4
  obtain ⟨q, hq⟩ : ∃ q : Nat, d.now.length - ahd o = q := ⟨_, rfl⟩
  obtain ⟨a, ha⟩ : ∃ a, ahd o = a := ⟨_, rfl⟩
  obtain ⟨m, hm⟩ : ∃ m : Nat, m = n + ahd o := ⟨_, rfl⟩
  have hs : IntKind.i64.wrap ((a : Int) + (n : Int)) = (m : Int) := by rw [IntWalk.i64_in _ (by omega)]; omega
  rw [← hm] at HT ⊢
  rw [hq] at HZ hn
  rw [ha] at c2 Hc2
  have h2 : (n : Int) ≤ (q : Int) := by omega
  have b0 : But S w (w.drewN 2) := (But.refl S w).drewN 2
  have B0 := hid b0
  clear f hd hq ha hm hn hmx hm4 hz b0
  go_enter Try.func13, Try.ntmps13
  go_wp2_with (first
    | (go_at_call 33; (with_reducible refine HM.out.mono ?_); rintro r w' ⟨rfl, rfl⟩)
    | (go_at_call 14; (with_reducible refine HZ.out.mono ?_); rintro r w' ⟨rfl, rfl⟩))
  go_region_held3 (fun w' => w'.cell? ⟨h, 1, none⟩ = some (.pointer (some ⟨g, 0, none⟩)) ∧ w'.cell? ⟨h, 2, none⟩ = some (.int .i64 (a : Nat))) (first | go_keep | exact ⟨k1, k2⟩)
    (first | (go_at_call 15; (with_reducible refine HT.out.mono ?_); rintro r w3 ⟨rfl, F', L', S', h3, s3⟩; have k1 := s3.but.cell (p := ⟨h, 1, none⟩) Hc1.out HO.out; have k2 := s3.but.cell (p := ⟨h, 2, none⟩) Hc2.out HO.out; have H3 := hid h3; have S3 := hid s3; clear h3 s3))
  all_goals
    go_wp2_with fail
    go_ret
    exact ⟨rfl, F', L', S', H3.out, (Stp.of_but B0.out).trans S3.out⟩
theorem rd_split (q : Nat) (i n : Int) (h : ¬ (0 ≤ i ∧ 0 ≤ n ∧ i ≤ (q : Int) - n)) : i < 0 ∨ (0 ≤ i ∧ n < 0) ∨ (0 ≤ i ∧ 0 ≤ n ∧ (q : Int) - n < i) := by omega
set_option maxRecDepth 10000 in
set_option maxHeartbeats 1000000 in
theorem FRead_bad {B : Nat} {S : Nat → Prop} {w : World} {g : Nat} {F L : Value} {d : Dk} {e : Int} {h : Nat} {o : Option En} (hd : DkAt B S w g F L d e) (f : FlAt S w h g o) (i n : Int) (hb : ¬ (0 ≤ i ∧ 0 ≤ n ∧ i ≤ ((d.now.length - ahd o : Nat) : Int) - n)) (hn : n ≤ 9223372036854775807) :
    Calls Try.prog 11 #[.pointer (some ⟨h, 0, none⟩), .int .i64 i, .int .i64 n] w fun r w' => r = .returned (.tuple #[.slice none 0 0, .int .i64 2]) ∧ ∃ k, w' = w.drewN k := by
  have HM := hid (fmade_any f)
  have HZ := hid (FSize_any hd f)
  have hmx := hd.ok.mx
  have hm4 := hd.ok.m4
  obtain ⟨q, hq⟩ : ∃ q : Nat, d.now.length - ahd o = q := ⟨_, rfl⟩
  rw [hq] at HZ hb
  have hq2 : (q : Int) ≤ 4194304 := by omega
  clear f hd hq hmx hm4
  rcases rd_split q i n hb with h1 | ⟨h1, h2⟩ | ⟨h1, h2, h3⟩
  · clear hb
    go_enter Try.func11, Try.ntmps11
    go_wp2_with (first
      | (go_at_call 33; (with_reducible refine HM.out.mono ?_); rintro r w' ⟨rfl, rfl⟩)
      | (go_at_call 14; (with_reducible refine HZ.out.mono ?_); rintro r w' ⟨rfl, rfl⟩))
    go_ret2
    exact ⟨rfl, 0, rfl⟩
  · clear hb
    go_enter Try.func11, Try.ntmps11
    go_wp2_with (first
      | (go_at_call 33; (with_reducible refine HM.out.mono ?_); rintro r w' ⟨rfl, rfl⟩)
      | (go_at_call 14; (with_reducible refine HZ.out.mono ?_); rintro r w' ⟨rfl, rfl⟩))
    go_ret2
    exact ⟨rfl, 0, rfl⟩
  · obtain ⟨s, hs⟩ : ∃ s : Int, (q : Int) - n = s := ⟨_, rfl⟩
    have hw : IntKind.i64.wrap ((q : Int) - n) = s := by rw [IntWalk.i64_in _ (by omega), hs]
    rw [hs] at h3
    clear hb hs
    go_enter Try.func11, Try.ntmps11
    go_wp2_with (first
      | (go_at_call 33; (with_reducible refine HM.out.mono ?_); rintro r w' ⟨rfl, rfl⟩)
      | (go_at_call 14; (with_reducible refine HZ.out.mono ?_); rintro r w' ⟨rfl, rfl⟩))
    go_ret2
    exact ⟨rfl, 1, rfl⟩
set_option maxRecDepth 10000 in
set_option maxHeartbeats 2000000 in
theorem FRead_no {B : Nat} {S : Nat → Prop} {w : World} {g : Nat} {F L : Value} {d : Dk} {e : Int} {h : Nat} {o : Option En} (hd : DkAt B S w g F L d e) (f : FlAt S w h g o) (i n : Nat) (hb : i + n ≤ d.now.length - ahd o) (hz : ahd o ≤ d.now.length) (hop : d.op.2 ≠ 0) :
    Calls Try.prog 11 #[.pointer (some ⟨h, 0, none⟩), .int .i64 (i : Nat), .int .i64 (n : Nat)] w fun r w' => r = .returned (.tuple #[.slice none 0 0, .int .i64 (d.op.2 : Nat)]) ∧ DkAt B S w' g F L d.op.1 e ∧ But S w w' := by
  have HM := hid (fmade_any f)
  have HZ := hid (FSize_any hd f)
  have HR := hid (ReadAt_no (hd.drewN 2) (i + ahd o) n (by omega) hop)
  obtain ⟨_, c1, c2, _⟩ := f.cells
  have Hc1 := hid c1
  have Hc2 := hid c2
  have HO : Hid (¬ S h) := f.out
  have hmx := hd.ok.mx
  have hm4 := hd.ok.m4
  obtain ⟨q, hq⟩ : ∃ q : Nat, d.now.length - ahd o = q := ⟨_, rfl⟩
  obtain ⟨a, ha⟩ : ∃ a, ahd o = a := ⟨_, rfl⟩
  obtain ⟨m, hm⟩ : ∃ m : Nat, m = i + ahd o := ⟨_, rfl⟩
  obtain ⟨x, hx⟩ : ∃ x : Nat, d.op.2 = x := ⟨_, rfl⟩
  have hs : IntKind.i64.wrap ((a : Int) + (i : Int)) = (m : Int) := by rw [IntWalk.i64_in _ (by omega)]; omega
  rw [← hm, hx] at HR
  rw [hq] at HZ hb
  rw [ha] at c2 Hc2
  rw [hx] at hop ⊢
  obtain ⟨s, hs2⟩ : ∃ s : Int, (q : Int) - (n : Int) = s := ⟨_, rfl⟩
  have hw : IntKind.i64.wrap ((q : Int) - (n : Int)) = s := by rw [IntWalk.i64_in _ (by omega), hs2]
  have h3 : (i : Int) ≤ s := by omega
  have bx : ((x : Int) != 0) = true := by simp; omega
  have B0 : Hid (But S w (w.drewN 2)) := (But.refl S w).drewN 2
  clear f hd hq ha hm hb hmx hm4 hz hx hs2
  go_enter Try.func11, Try.ntmps11
  go_wp2_with (first
    | (go_at_call 33; (with_reducible refine HM.out.mono ?_); rintro r w' ⟨rfl, rfl⟩)
    | (go_at_call 14; (with_reducible refine HZ.out.mono ?_); rintro r w' ⟨rfl, rfl⟩))
  go_region_held3 (fun w' => w'.cell? ⟨h, 1, none⟩ = some (.pointer (some ⟨g, 0, none⟩)) ∧ w'.cell? ⟨h, 2, none⟩ = some (.int .i64 (a : Nat))) (first | go_keep | exact ⟨k1, k2⟩)
    (first | (go_at_call 31; (with_reducible refine HR.out.mono ?_); rintro r w3 ⟨rfl, h3, s3⟩; have k1 := s3.cell (p := ⟨h, 1, none⟩) Hc1.out HO.out; have k2 := s3.cell (p := ⟨h, 2, none⟩) Hc2.out HO.out; have H3 := hid h3; have S3 := hid s3; clear h3 s3))
  all_goals
    go_wp2_with fail
    go_ret2
    exact ⟨rfl, H3.out, B0.out.trans S3.out (fun i hi => .inl hi)⟩
end Go.Proofs.Ytpeepohiajmhcaa
