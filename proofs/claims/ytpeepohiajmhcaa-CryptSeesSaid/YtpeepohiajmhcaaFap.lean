/-
  A file's turning, and the contracts of Append and Sync.
-/
import Derived.Test.YtpeepohiajmhcaaFl
import Derived.Deep.RegionHeld3
namespace Go.Proofs.Ytpeepohiajmhcaa
open Go.RowKit

set_option maxRecDepth 10000 in
set_option maxHeartbeats 1000000 in
theorem turn48 (a : Int) (A : Option Addr) (n cap : Nat) (w : World) :
    Calls Try.prog 48 #[.int .i64 a, .slice A n cap] w fun r w' => r = .returned (.slice A n cap) ∧ w = w' := by
  go_enter Try.func48, Try.ntmps48
  go_wp2_with fail
  go_ret
  exact ⟨rfl, rfl⟩
set_option maxRecDepth 10000 in
set_option maxHeartbeats 1000000 in
theorem turn50 {X : Nat → Prop} {w : World} {cb nb : Nat} {e : En} (t : TnAt X w cb nb e) (a : Nat) (A : Option Addr) (n cap : Nat) (l : List UInt8) (hl : IsBB w w.heap.size A n cap l) (ha : a ≤ 1099511627776) (hn : n ≤ 4194304) :
    Calls Try.prog 50 #[.int .i64 (a : Nat), .slice A n cap, .pointer (some ⟨cb, 0, none⟩), .pointer (some ⟨nb, 0, none⟩)] w fun r w' => ∃ g, r = .returned (.slice (some ⟨g, 0, none⟩) n n) ∧ New w w' g n n (c.turnL e.K e.non a l) := by
  obtain ⟨⟨gc, N, k, h1, h2, h3, h4, _⟩, _, _, lo⟩ := t
  have HT := hid (c.Turn_any gc e.K N A k cap e.non l a n w h4 lo h3.isBB hl ha hn)
  clear h3 h4 lo hl
  go_enter Try.func50, Try.ntmps50
  go_wp2_with (go_at_call 51; refine HT.out.mono ?_; rintro r w1 ⟨g, rfl, hN⟩; have HN := hid hN; clear hN)
  go_ret
  exact ⟨g, rfl, HN.out⟩
set_option maxRecDepth 10000 in
set_option maxHeartbeats 2000000 in
theorem FAppend_any {B : Nat} {S : Nat → Prop} {w : World} {g : Nat} {F L : Value} {d : Dk} {e : Int} {h : Nat} {o : Option En} (hd : DkAt B S w g F L d e) (f : FlAt S w h g o) (A : Option Addr) (n cap : Nat) (l : List UInt8) (hi : Out S w A n cap l) (hn : n ≤ 4194304) :
    Calls Try.prog 12 #[.pointer (some ⟨h, 0, none⟩), .slice A n cap] w fun r w' => r = .returned (.int .i64 ((d.app (trn o d.now.length l)).2 : Nat)) ∧ ∃ F' S', DkAt B S' w' g F' L (d.app (trn o d.now.length l)).1 e ∧ Stp S S' w w' := by
  have HM := hid (fmade_any f)
  have HZ := hid (Size_any hd.drew)
  obtain ⟨_, c1, _, fv, c3, hv⟩ := f.cells
  have hmx := hd.ok.mx
  have hm4 := hd.ok.m4
  have HO : Hid (¬ S h) := f.out
  have Hc1 := hid c1
  have Hc3 := hid c3
  cases o with
  | none =>
    subst hv
    have HT := hid (turn48 (d.now.length : Nat) A n cap w.drew)
    have HA := hid (Append_any A n cap l hd.drew hi.drew)
    clear f hd hi
    go_enter Try.func12, Try.ntmps12
    go_wp2_with (go_at_call 33; refine HM.out.mono ?_; rintro r w' ⟨rfl, rfl⟩)
    go_region_held3 (fun w' => w'.cell? ⟨h, 1, none⟩ = some (.pointer (some ⟨g, 0, none⟩)) ∧ w'.cell? ⟨h, 3, none⟩ = some (.func (.func 48) #[] #[])) (first | go_keep | exact ⟨k1, k3⟩)
      (first
      | (go_at_call 10; (with_reducible refine HZ.out.mono ?_); rintro r w1 ⟨rfl, rfl⟩)
      | (go_at_call 48; (with_reducible refine HT.out.mono ?_); rintro r w2 ⟨rfl, rfl⟩)
      | (go_at_call 29; (with_reducible refine HA.out.mono ?_); rintro r w3 ⟨rfl, F', S', h3, s3⟩; have k1 := s3.but.cell (p := ⟨h, 1, none⟩) Hc1.out HO.out; have k3 := s3.but.cell (p := ⟨h, 3, none⟩) Hc3.out HO.out; have H3 := hid h3; have S3 := hid s3; clear h3 s3))
    all_goals
      go_wp2_with fail
      go_ret
      exact ⟨rfl, F', S', H3.out, ((But.refl S w).drew.trans S3.out.but (fun i hi => .inl hi)) |> fun b => ⟨b, S3.out.new⟩⟩
  | some en =>
    obtain ⟨cb, nb, rfl, ht⟩ := hv
    have HT := hid (turn50 (X := S) (w := w.drew) (ht.stp (.of_below (below_drewN (Below.refl _ w) 1))) d.now.length A n cap l hi.drew.isBB (by omega) hn)
    have HD := hid hd.drew
    clear f hd hi ht
    go_enter Try.func12, Try.ntmps12
    go_wp2_with (go_at_call 33; refine HM.out.mono ?_; rintro r w' ⟨rfl, rfl⟩)
    go_region_held3 (fun w' => w'.cell? ⟨h, 1, none⟩ = some (.pointer (some ⟨g, 0, none⟩)) ∧ w'.cell? ⟨h, 3, none⟩ = some (.func (.func 50) #[] #[.pointer (some ⟨cb, 0, none⟩), .pointer (some ⟨nb, 0, none⟩)])) (first | go_keep | exact ⟨k1, k3⟩ | exact ⟨q1, q3⟩)
      (first
      | (go_at_call 10; (with_reducible refine HZ.out.mono ?_); rintro r w1 ⟨rfl, rfl⟩)
      | (go_at_call 50; (with_reducible refine HT.out.mono ?_); rintro r w2 ⟨g2, rfl, h2⟩; have q1 := (h2.bel.cell (lt_of_cell Hc1.out)).trans Hc1.out; have q3 := (h2.bel.cell (lt_of_cell Hc3.out)).trans Hc3.out; have HA := hid (Append_any _ n n _ (HD.out.below h2.bel) (h2.out (fun i hi => (HD.out.lt i hi).2))); have B2 := hid h2.bel; clear h2)
      | (go_at_call 29; (with_reducible refine HA.out.mono ?_); rintro r w3 ⟨rfl, F', S', h3, s3⟩; have k1 := s3.but.cell (p := ⟨h, 1, none⟩) q1 HO.out; have k3 := s3.but.cell (p := ⟨h, 3, none⟩) q3 HO.out; have H3 := hid h3; have S3 := hid s3; clear h3 s3))
    all_goals
      go_wp2_with fail
      go_ret
      exact ⟨rfl, F', S', H3.out, ((But.refl S w).drew.trans ((But.of_below B2.out).trans S3.out.but (fun i hi => .inl hi)) (fun i hi => .inl hi)) |> fun b => ⟨b, fun i hi => (S3.out.new i hi).imp id (fun q => Nat.le_trans B2.out.size q)⟩⟩
end Go.Proofs.Ytpeepohiajmhcaa
