/-
  The chapter's first examples: awake.
-/
import Derived.Test.YtgccjclloomfgaaStr
namespace Go.Proofs.Ytgccjclloomfgaa
open Go.RowKit

theorem same1 (w : World) : (binOp BinOp.eql 9 (.string ⟨#[97, 98, 99, 100]⟩) (.string ⟨#[97, 98, 99, 100]⟩)).run Try.prog w = .ok (.bool true) w := by kernel_rfl
theorem same2 (w : World) : (binOp BinOp.eql 9 (.string ⟨#[97, 98, 99, 120]⟩) (.string ⟨#[97, 98, 99, 120]⟩)).run Try.prog w = .ok (.bool true) w := by kernel_rfl
theorem same3 (w : World) : (binOp BinOp.eql 9 (.string ⟨#[97, 98, 99]⟩) (.string ⟨#[97, 98, 99]⟩)).run Try.prog w = .ok (.bool true) w := by kernel_rfl
theorem same4 (w : World) : (binOp BinOp.eql 9 (.string ⟨#[97, 98, 99, 100, 101]⟩) (.string ⟨#[97, 98, 99, 100, 101]⟩)).run Try.prog w = .ok (.bool true) w := by kernel_rfl
theorem ex1 : ((abcD [100, 101]).crash 1 []).now.toArray = #[97, 98, 99, 100] := by decide +kernel
theorem ex2 : ((abcD [100, 101]).crash 1 [120]).now.toArray = #[97, 98, 99, 120] := by decide +kernel
theorem ex3 : ((abcD [100, 101]).crash 0 [120]).now.toArray = #[97, 98, 99] := by decide +kernel
theorem ex4 : ((abcD [100, 101]).crash (-1) [120]).now.toArray = #[97, 98, 99] := by decide +kernel
theorem ex5 : ((abcD [100, 101]).crash 9 []).now.toArray = #[97, 98, 99, 100, 101] := by decide +kernel
theorem crashed_to {B : Nat} {S : Nat → Prop} {w : World} {g : Nat} {F L : Value} {d : Dk} {e : Int} (k : Int) (junk : Array UInt8) (l : Array UInt8) (h : DkAt B S w g F L d e) (hk : k ≤ 9223372036854775807) (hj : junk.toList.length ≤ 1000) (hl : (d.crash k junk.toList).now.toArray = l) :
    Calls Try.prog 12 #[.pointer (some ⟨g, 0, none⟩), .int .i64 k, .string ⟨junk⟩] w fun r w' => r = .returned (.string ⟨l⟩) ∧ Below w.heap.size w w' := by
  have := crashed_any k junk.toList h hk hj
  rw [hl] at this
  exact this
set_option maxRecDepth 10000 in
set_option maxHeartbeats 2000000 in
theorem awake_any (w : World) : Calls Try.prog 21 #[] w fun r w' => r = .returned (.bool true) ∧ Below w.heap.size w w' := by
  have HA := hid (abc_any [100, 101] (by decide) w)
  have t1 := same1
  have t2 := same2
  have t3 := same3
  have t5 := same4
  go_enter Try.func21, Try.ntmps21
  go_wp2_with (first
    | (go_at_call 8; refine HA.out.mono ?_; rintro r w1 ⟨g, S, F, L, rfl, h1, b1⟩; have H1 := hid h1; have B1 := hid b1; have HZ := hid (Size_any h1); have HY := hid (Synced_any h1); clear h1 b1 HA)
    | (go_at_call 34; refine HZ.out.mono ?_; rintro r w2 ⟨rfl, rfl⟩)
    | (go_at_call 11; refine HY.out.mono ?_; rintro r w2 ⟨rfl, rfl⟩)
    | (go_at_call 12; with_reducible refine (crashed_to 1 #[] _ H1.out (by omega) (by decide) ex1).mono ?_; rintro r w3 ⟨rfl, b3⟩; have H3 := hid (H1.out.below b3); have B3 := hid (bel_trans B1.out b3); clear b3 H1 B1 HZ HY)
    | (go_at_call 12; with_reducible refine (crashed_to 1 #[120] _ H3.out (by omega) (by decide) ex2).mono ?_; rintro r w4 ⟨rfl, b4⟩; have H4 := hid (H3.out.below b4); have B4 := hid (bel_trans B3.out b4); clear b4 H3 B3)
    | (go_at_call 12; with_reducible refine (crashed_to 0 #[120] _ H4.out (by omega) (by decide) ex3).mono ?_; rintro r w5 ⟨rfl, b5⟩; have H5 := hid (H4.out.below b5); have B5 := hid (bel_trans B4.out b5); clear b5 H4 B4)
    | (go_at_call 12; with_reducible refine (crashed_to (-1) #[120] _ H5.out (by omega) (by decide) ex4).mono ?_; rintro r w6 ⟨rfl, b6⟩; have H6 := hid (H5.out.below b6); have B6 := hid (bel_trans B5.out b6); clear b6 H5 B5)
    | (go_at_call 12; with_reducible refine (crashed_to 9 #[] _ H6.out (by omega) (by decide) ex5).mono ?_; rintro r w7 ⟨rfl, b7⟩; have B7 := hid (bel_trans B6.out b7); clear b7 H6 B6))
  go_ret
  exact ⟨rfl, B7.out⟩
end Go.Proofs.Ytgccjclloomfgaa
