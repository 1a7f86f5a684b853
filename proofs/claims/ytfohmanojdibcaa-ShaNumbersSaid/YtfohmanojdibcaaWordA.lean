/-
  The contract of the closure that tells a word, of the first sixteen.
-/
import Derived.Test.YtfohmanojdibcaaStep
import Derived.RegionTactic
import Derived.BigRegion
import Derived.Deep.QuietTactic
import Derived.BigQuiet
import Derived.Deep.RegionWith
namespace Go.Proofs.Ytfohmanojdibcaa
open Go.RowKit

/-- Sixteen numbers in block L. -/
def Ring (w : World) (L : Nat) (x : Nat → Nat) : Prop := ∃ cs : Array Value, w.heap[L]? = some (.cells cs 57 (0, 0)) ∧ cs.size = 16 ∧ ∀ j, j < 16 → cs[j]? = some (.int .u32 (x j : Nat))
theorem Ring.cell {w : World} {L : Nat} {x : Nat → Nat} (h : Ring w L x) (j : Nat) (hj : j < 16) : w.cell? ⟨L, j, none⟩ = some (.int .u32 (x j : Nat)) := by
  obtain ⟨cs, hh, hs, hc⟩ := h
  rw [row_cell hh]; exact hc j hj
theorem Ring.free {w : World} {L : Nat} {x : Nat → Nat} (h : Ring w L x) (j : Nat) : w.frozen? ⟨L, j, none⟩ = false := by
  obtain ⟨cs, hh, hs, hc⟩ := h
  exact row_free hh j
theorem Ring.set {w : World} {L : Nat} {x : Nat → Nat} (h : Ring w L x) (j v : Nat) (hj : j < 16) : Ring (w.setCell ⟨L, j, none⟩ (.int .u32 (v : Nat))) L (fun i => if i = j then v else x i) := by
  obtain ⟨cs, hh, hs, hc⟩ := h
  refine ⟨_, row_set hh j _, by simp [hs], fun i hi => ?_⟩
  by_cases e : i = j
  · subst e; simp [hs, hi]
  · rw [Array.getElem?_setIfInBounds_ne (by omega)]; simp only [if_neg e]; exact hc i hi

theorem or4_eq (x0 x1 x2 x3 : Nat) (b0 : x0 < 256) (b1 : x1 < 256) (b2 : x2 < 256) (b3 : x3 < 256) :
    bits BinOp.or IntKind.u32 (bits BinOp.or IntKind.u32 (bits BinOp.or IntKind.u32 ((x0 : Int) * 16777216) ((x1 : Int) * 65536)) ((x2 : Int) * 256)) (x3 : Int) = ((be4 x0 x1 x2 x3 : Nat) : Int) := by
  have e1 : (x0 : Int) * 16777216 = ((2 ^ 24 * x0 : Nat) : Int) := by show _ = ((16777216 * x0 : Nat) : Int); omega
  have e2 : (x1 : Int) * 65536 = ((65536 * x1 : Nat) : Int) := by omega
  have e3 : (x2 : Int) * 256 = ((256 * x2 : Nat) : Int) := by omega
  have h24 : (2 : Nat) ^ 24 = 16777216 := rfl
  have h16 : (2 : Nat) ^ 16 = 65536 := rfl
  have h8 : (2 : Nat) ^ 8 = 256 := rfl
  rw [e1, e2, e3, u32_or_nat _ _ (by omega) (by omega), or_add 24 x0 (65536 * x1) (by omega)]
  have e4 : 2 ^ 24 * x0 + 65536 * x1 = 2 ^ 16 * (256 * x0 + x1) := by omega
  rw [e4, u32_or_nat _ _ (by omega) (by omega), or_add 16 _ (256 * x2) (by omega)]
  have e5 : 2 ^ 16 * (256 * x0 + x1) + 256 * x2 = 2 ^ 8 * (256 * (256 * x0 + x1) + x2) := by omega
  rw [e5, u32_or_nat _ _ (by omega) (by omega), or_add 8 _ x3 (by omega)]
  unfold be4
  omega
theorem xor4_eq (a b c d : Nat) (ha : a < 4294967296) (hb : b < 4294967296) (hc : c < 4294967296) (hd : d < 4294967296) :
    bits BinOp.xor IntKind.u32 (bits BinOp.xor IntKind.u32 (bits BinOp.xor IntKind.u32 a b) c) d = ((a ^^^ b ^^^ c ^^^ d : Nat) : Int) := by
  rw [u32_xor_nat _ _ ha hb, u32_xor_nat _ _ (xor_lt _ _ ha hb) hc, u32_xor_nat _ _ (xor_lt _ _ (xor_lt _ _ ha hb) hc) hd]
theorem xor4_lt (a b c d : Nat) (ha : a < 4294967296) (hb : b < 4294967296) (hc : c < 4294967296) (hd : d < 4294967296) : a ^^^ b ^^^ c ^^^ d < 4294967296 := xor_lt _ _ (xor_lt _ _ (xor_lt _ _ ha hb) hc) hd
theorem rot1_at (X : Int) (x : Nat) (e : X = (x : Int)) (hx : x < 4294967296) (w : World) : Calls Try.prog 31 #[.int .u32 X, .int .i64 1] w fun e w' => e = .returned (.int .u32 (rot 1 x : Nat)) ∧ w = w' := by
  subst e; exact rot1_any x hx w
theorem turn1_at (X : Int) (x : Nat) (e : X = (x : Int)) (hx : x < 4294967296) (w : World) : Calls Try.prog 24 #[.int .u32 X, .int .u64 1] w fun e w' => e = .returned (.int .u32 (rot 1 x : Nat)) ∧ w = w' := by
  subst e; exact turn1_any x hx w
theorem slice35 (pb po t : Nat) (ht : t < 16) (w : World) : (Instr.sliceAt 35 (.pointer (some ⟨pb, po, none⟩)) (some (.int .i64 (4 * (t : Int)))) (some (.int .i64 (4 * (t : Int) + 4))) none).run Try.prog w = .ok (.slice (some ⟨pb, po + 4 * t, none⟩) 4 (64 - 4 * t)) w := by
  have hs : (sizeOf (Try.prog.elem 35)).run Try.prog w = .ok 1 w := by kernel_rfl
  have hl : Try.prog.arrayLen 35 = 64 := by kernel_rfl
  rw [run_sliceAt_array_lh w 35 ⟨pb, po, none⟩ (by kernel_rfl) .i64 .i64 (4 * (t : Int)) (4 * (t : Int) + 4) (by omega) (by omega) (by rw [hl]; omega), hs, hl]
  have e1 : (4 * (t : Int)).toNat = 4 * t := by omega
  have e2 : (4 * (t : Int) + 4).toNat = 4 * t + 4 := by omega
  simp only [Result.andThen, slicedAt, e1, e2, Nat.mul_one]
  rw [if_neg (by omega)]
  have e3 : 4 * t + 4 - 4 * t = 4 := by omega
  rw [e3]
  cases t with
  | zero => rfl
  | succ k => rfl
set_option maxRecDepth 10000 in
set_option maxHeartbeats 1000000 in
theorem word0 (t L Bv pb po x0 x1 x2 x3 : Nat) (ht : t < 16) (x : Nat → Nat) (w : World) (hR : Ring w L x)
    (hB : w.cell? ⟨Bv, 0, none⟩ = some (.pointer (some ⟨pb, po, none⟩)))
    (h0 : w.cell? ⟨pb, po + 4 * t, none⟩ = some (.int .u8 x0)) (h1 : w.cell? ⟨pb, po + 4 * t + 1, none⟩ = some (.int .u8 x1)) (h2 : w.cell? ⟨pb, po + 4 * t + 2, none⟩ = some (.int .u8 x2)) (h3 : w.cell? ⟨pb, po + 4 * t + 3, none⟩ = some (.int .u8 x3))
    (b0 : x0 < 256) (b1 : x1 < 256) (b2 : x2 < 256) (b3 : x3 < 256) :
    Calls Try.prog 30 #[.int .i64 t, .pointer (some ⟨L, 0, none⟩), .pointer (some ⟨Bv, 0, none⟩)] w fun e w' => e = .returned (.int .u32 (be4 x0 x1 x2 x3 : Nat)) ∧ ∃ k, w' = (w.setCell ⟨L, t, none⟩ (.int .u32 (be4 x0 x1 x2 x3 : Nat))).drewN k := by
  have tm : t % 16 = t := by omega
  have c0 : w.cell? ⟨L, t % 16, none⟩ = some (.int .u32 (x t : Nat)) := by rw [tm]; exact hR.cell t ht
  have f0 := hR.free (t % 16)
  have htz : (t : Int) < 16 := by omega
  have tm2 : w.setCell ⟨L, t, none⟩ (.int .u32 (be4 x0 x1 x2 x3 : Nat)) = w.setCell ⟨L, t % 16, none⟩ (.int .u32 (be4 x0 x1 x2 x3 : Nat)) := by rw [tm]
  rw [tm2]
  clear tm2
  have HR := hid hR
  clear hR
  clear tm
  have sl := slice35 pb po t ht w
  go_enter Try.func30, Try.ntmps30
  go_wp2_with fail
  clear sl
  go_region
  go_wp2
  go_ret
  rw [or4_eq x0 x1 x2 x3 b0 b1 b2 b3]
  exact ⟨rfl, 1, rfl⟩
end Go.Proofs.Ytfohmanojdibcaa
