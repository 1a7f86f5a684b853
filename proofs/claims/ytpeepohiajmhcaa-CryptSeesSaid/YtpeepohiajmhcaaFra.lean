/-
  The contract of a file's ReadAt, where it may be.
-/
import Derived.Test.YtpeepohiajmhcaaFrd
namespace Go.Proofs.Ytpeepohiajmhcaa
open Go.RowKit

theorem own_out {S : Nat → Prop} {w' : World} {base n c : Nat} {A : Option Addr} {l : List UInt8} (h : w'.ownsRow base 5 1 (.slice A n c) n (l.map bv)) (hs : n ≤ 140737488355328) (hS : ∀ i, S i → i < base) : Out S w' A n c l := by
  have hI := own_isB2 h hs
  refine ⟨hI.toIsB, fun hp ad e => ⟨fun hx => ?_, hI.low hp ad e⟩⟩
  subst e
  have := (own_lt h ad.block rfl).1
  have := hS _ hx
  omega
set_option maxRecDepth 10000 in
set_option maxHeartbeats 4000000 in
theorem FRead_any {B : Nat} {S : Nat → Prop} {w : World} {g : Nat} {F L : Value} {d : Dk} {e : Int} {h : Nat} {o : Option En} (hd : DkAt B S w g F L d e) (f : FlAt S w h g o) (i n : Nat) (hb : i + n ≤ d.now.length - ahd o) (hz : ahd o ≤ d.now.length) (hop : d.op.2 = 0) :
    Calls Try.prog 11 #[.pointer (some ⟨h, 0, none⟩), .int .i64 (i : Nat), .int .i64 (n : Nat)] w fun r w' => ∃ A c, r = .returned (.tuple #[.slice A n c, .int .i64 0]) ∧ DkAt B S w' g F L d.op.1 e ∧ But S w w' ∧ ∀ T : Nat → Prop, (∀ i, T i → i < w.heap.size) → Out T w' A n c (trn o (i + ahd o) ((d.now.drop (i + ahd o)).take n)) := by
  have HM := hid (fmade_any f)
  have HZ := hid (FSize_any hd f)
  have HR := hid (ReadAt_any (hd.drewN 2) (i + ahd o) n (by omega) hop)
  obtain ⟨_, c1, c2, fv, c3, hv⟩ := f.cells
  have HF := hid f
  have Hc1 := hid c1
  have Hc2 := hid c2
  have Hc3 := hid c3
  have HO : Hid (¬ S h) := f.out
  have hmx := hd.ok.mx
  have hm4 := hd.ok.m4
  have Hlt : Hid (∀ i, S i → i < w.heap.size) := fun i hi => (hd.lt i hi).2
  obtain ⟨q, hq⟩ : ∃ q : Nat, d.now.length - ahd o = q := ⟨_, rfl⟩
  obtain ⟨a, ha⟩ : ∃ a, ahd o = a := ⟨_, rfl⟩
  obtain ⟨m, hm⟩ : ∃ m : Nat, m = i + ahd o := ⟨_, rfl⟩
  have hs : IntKind.i64.wrap ((a : Int) + (i : Int)) = (m : Int) := by rw [IntWalk.i64_in _ (by omega)]; omega
  have Hmb : Hid (m ≤ 4194304 ∧ n ≤ 4194304) := by exact ⟨by omega, by omega⟩
  rw [← hm] at HR ⊢
  rw [hq] at HZ hb
  rw [ha] at c2 Hc2
  obtain ⟨s, hs2⟩ : ∃ s : Int, (q : Int) - (n : Int) = s := ⟨_, rfl⟩
  have hw : IntKind.i64.wrap ((q : Int) - (n : Int)) = s := by rw [IntWalk.i64_in _ (by omega), hs2]
  have h3 : (i : Int) ≤ s := by omega
  have B0 : Hid (But S w (w.drewN 2)) := (But.refl S w).drewN 2
  obtain ⟨l, hl⟩ : ∃ l, l = (d.now.drop m).take n := ⟨_, rfl⟩
  rw [← hl] at HR ⊢
  cases o with
  | none =>
    subst hv
    clear f hd hq ha hm hb hmx hm4 hz hs2 hl
    go_enter Try.func11, Try.ntmps11
    go_wp2_with (first
      | (go_at_call 33; (with_reducible refine HM.out.mono ?_); rintro r w' ⟨rfl, rfl⟩)
      | (go_at_call 14; (with_reducible refine HZ.out.mono ?_); rintro r w' ⟨rfl, rfl⟩))
    go_region_held3 (fun w' => w'.cell? ⟨h, 1, none⟩ = some (.pointer (some ⟨g, 0, none⟩)) ∧ w'.cell? ⟨h, 2, none⟩ = some (.int .i64 (a : Nat))) (first | go_keep | exact ⟨k1, k2⟩)
      (first | (go_at_call 31; (with_reducible refine HR.out.mono ?_); rintro r w3 ⟨A, c, rfl, h3, s3, o3⟩; have k1 := s3.cell (p := ⟨h, 1, none⟩) Hc1.out HO.out; have k2 := s3.cell (p := ⟨h, 2, none⟩) Hc2.out HO.out; have k3 := s3.cell (p := ⟨h, 3, none⟩) Hc3.out HO.out; have H3 := hid h3; have S3 := hid s3; have O3 := hid o3; clear h3 s3 o3))
    all_goals
      go_wp2_with fail
      have HT := hid (turn48 (m : Nat) A n c w3.drew)
      go_region_held3 (fun w' => w'.cell? ⟨h, 3, none⟩ = some (.func (.func 48) #[] #[]) ∧ w'.cell? ⟨h, 2, none⟩ = some (.int .i64 (a : Nat))) (go_keep)
        (first | (go_at_call 48; (with_reducible refine HT.out.mono ?_); rintro r w4 ⟨rfl, rfl⟩))
      go_wp2_with fail
      go_ret2
      exact ⟨A, c, rfl, H3.out.drew, (B0.out.trans S3.out (fun i hi => .inl hi)).drew, fun T hT => (own_out O3.out (by have := Hmb.out; omega) hT).drew⟩
  | some en =>
    obtain ⟨cb, nb, rfl, ht⟩ := hv
    have HT0 := hid ht
    clear f hd hq ha hm hb hmx hm4 hz hs2 hl ht
    go_enter Try.func11, Try.ntmps11
    go_wp2_with (first
      | (go_at_call 33; (with_reducible refine HM.out.mono ?_); rintro r w' ⟨rfl, rfl⟩)
      | (go_at_call 14; (with_reducible refine HZ.out.mono ?_); rintro r w' ⟨rfl, rfl⟩))
    go_region_held3 (fun w' => w'.cell? ⟨h, 1, none⟩ = some (.pointer (some ⟨g, 0, none⟩)) ∧ w'.cell? ⟨h, 2, none⟩ = some (.int .i64 (a : Nat))) (first | go_keep | exact ⟨k1, k2⟩)
      (first | (go_at_call 31; (with_reducible refine HR.out.mono ?_); rintro r w3 ⟨A, c, rfl, h3, s3, o3⟩; have k1 := s3.cell (p := ⟨h, 1, none⟩) Hc1.out HO.out; have k2 := s3.cell (p := ⟨h, 2, none⟩) Hc2.out HO.out; have k3 := s3.cell (p := ⟨h, 3, none⟩) Hc3.out HO.out; have H3 := hid h3; have S3 := hid s3; have O3 := hid o3; clear h3 s3 o3))
    all_goals
      go_wp2_with fail
      have S4 := hid ((B0.out.trans S3.out (fun i hi => .inl hi)).drew)
      have HT := hid (turn50 (HT0.out.stp (.of_but S4.out)) m A n c l (own_out O3.out (by have := Hmb.out; omega) Hlt.out).drew.isBB (by have := Hmb.out; omega) Hmb.out.2)
      have Hk2 := hid k2
      have Hk3 := hid k3
      go_region_held3 (fun w' => w'.cell? ⟨h, 3, none⟩ = some (.func (.func 50) #[] #[.pointer (some ⟨cb, 0, none⟩), .pointer (some ⟨nb, 0, none⟩)]) ∧ w'.cell? ⟨h, 2, none⟩ = some (.int .i64 (a : Nat))) (first | go_keep | exact ⟨q3, q2⟩)
        (first | (go_at_call 50; (with_reducible refine HT.out.mono ?_); rintro r w4 ⟨g4, rfl, h4⟩; have q2 := (h4.bel.cell (lt_of_cell Hk2.out)).trans Hk2.out; have q3 := (h4.bel.cell (lt_of_cell Hk3.out)).trans Hk3.out; have H4 := hid h4; clear h4))
      go_wp2_with fail
      go_ret2
      exact ⟨_, _, rfl, H3.out.drew.below H4.out.bel, S4.out.trans (.of_below H4.out.bel) (fun i hi => .inl hi), fun T hT => H4.out.out (fun i hi => Nat.lt_of_lt_of_le (hT i hi) S4.out.size)⟩
end Go.Proofs.Ytpeepohiajmhcaa
