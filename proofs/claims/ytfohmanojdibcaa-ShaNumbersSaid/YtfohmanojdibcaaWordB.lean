/-
  The contract of the closure that tells a word, of the later ones.
-/
import Derived.Test.YtfohmanojdibcaaWordA
import Derived.Outline
import Derived.IntWalk
import Derived.StillTailTactics
namespace Go.Proofs.Ytfohmanojdibcaa
open Go.RowKit

set_option maxRecDepth 10000 in
set_option maxHeartbeats 1000000 in
theorem word1 (t L Bv : Nat) (ht : 16 ≤ t) (ht2 : t < 80) (x : Nat → Nat) (hx : ∀ j, j < 16 → x j < 4294967296) (w : World) (hR : Ring w L x) :
    Calls Try.prog 30 #[.int .i64 t, .pointer (some ⟨L, 0, none⟩), .pointer (some ⟨Bv, 0, none⟩)] w fun e w' => e = .returned (.int .u32 (rot 1 (x ((t - 3) % 16) ^^^ x ((t - 8) % 16) ^^^ x ((t - 14) % 16) ^^^ x (t % 16)) : Nat)) ∧ ∃ k, w' = (w.setCell ⟨L, t % 16, none⟩ (.int .u32 (rot 1 (x ((t - 3) % 16) ^^^ x ((t - 8) % 16) ^^^ x ((t - 14) % 16) ^^^ x (t % 16)) : Nat))).drewN k := by
  have c0 := hR.cell (t % 16) (by omega)
  have f0 := hR.free (t % 16)
  have c1 := hR.cell ((t - 3) % 16) (by omega)
  have c2 := hR.cell ((t - 8) % 16) (by omega)
  have c3 := hR.cell ((t - 14) % 16) (by omega)
  have l0 := hx (t % 16) (by omega)
  have l1 := hx ((t - 3) % 16) (by omega)
  have l2 := hx ((t - 8) % 16) (by omega)
  have l3 := hx ((t - 14) % 16) (by omega)
  generalize x (t % 16) = y0 at *
  generalize x ((t - 3) % 16) = y1 at *
  generalize x ((t - 8) % 16) = y2 at *
  generalize x ((t - 14) % 16) = y3 at *
  have hq := xor4_eq y1 y2 y3 y0 l1 l2 l3 l0
  have hq2 := xor4_lt y1 y2 y3 y0 l1 l2 l3 l0
  have htz : (16 : Int) ≤ t := by omega
  have htz2 : (t : Int) < 80 := by omega
  have s3 : IntKind.i64.wrap ((t : Int) - 3) = (t : Int) - 3 := IntWalk.i64_in _ (by omega)
  have q3 : ((t : Int) - 3).tmod 16 = (((t - 3) % 16 : Nat) : Int) := by rw [Int.tmod_eq_emod_of_nonneg (by omega)]; omega
  have p3 : (((t - 3) % 16 : Nat) : Int) < 16 := by omega
  have s8 : IntKind.i64.wrap ((t : Int) - 8) = (t : Int) - 8 := IntWalk.i64_in _ (by omega)
  have q8 : ((t : Int) - 8).tmod 16 = (((t - 8) % 16 : Nat) : Int) := by rw [Int.tmod_eq_emod_of_nonneg (by omega)]; omega
  have p8 : (((t - 8) % 16 : Nat) : Int) < 16 := by omega
  have s14 : IntKind.i64.wrap ((t : Int) - 14) = (t : Int) - 14 := IntWalk.i64_in _ (by omega)
  have q14 : ((t : Int) - 14).tmod 16 = (((t - 14) % 16 : Nat) : Int) := by rw [Int.tmod_eq_emod_of_nonneg (by omega)]; omega
  have p14 : (((t - 14) % 16 : Nat) : Int) < 16 := by omega
  generalize (t - 3) % 16 = m3 at *
  generalize (t - 8) % 16 = m8 at *
  generalize (t - 14) % 16 = m14 at *
  have Hq := hid hq
  clear hR hq hx
  go_enter Try.func30, Try.ntmps30
  go_wp2_with fail
  go_still_tail 24, (by kernel_rfl)
  refine wpStill_step (fun K hK => ?_)
  go_simp
  refine ⟨_, (rot1_at _ _ Hq.out hq2 _).mono (fun e w' h => ⟨h.1, h.2.symm⟩), hK _ ?_⟩
  clear hK K
  repeat still_step
  refine wpStill_nil ?_
  change wpList _ _ _ _ _ w.drew
  go_wp2
  go_ret
  exact ⟨rfl, 1, rfl⟩
end Go.Proofs.Ytfohmanojdibcaa
