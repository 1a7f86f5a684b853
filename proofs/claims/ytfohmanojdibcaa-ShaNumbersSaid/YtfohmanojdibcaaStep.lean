/-
  The contracts of math/bits.RotateLeft32, of step, and of the document's turn.
-/
import Derived.Test.YtfohmanojdibcaaProg
import Derived.Test.YtfohmanojdibcaaNum
import Derived.Test.YtfohmanojdibcaaMem
import Derived.WalkKit
import Derived.WalkSpells
import Derived.WalkLawsBesides
import Derived.Laws.BitsAllLaws
namespace Go.Proofs.Ytfohmanojdibcaa
open Go.RowKit


theorem ret_u32 {a b : Int} (h : a = b) : Ending.returned (.int .u32 a) = .returned (.int .u32 b) := by rw [h]
theorem ret2_u32 {a b c d : Int} (h : a = b) (h2 : c = d) : Ending.returned (.tuple #[.int .u32 a, .int .u32 c]) = .returned (.tuple #[.int .u32 b, .int .u32 d]) := by rw [h, h2]
theorem not_eq (b : Nat) (hb : b < 4294967296) : bits BinOp.xor IntKind.u32 IntKind.u32.max (b : Int) = ((4294967295 ^^^ b : Nat) : Int) := u32_xor_nat 4294967295 b (by omega) hb
theorem xor_lt (a b : Nat) (ha : a < 4294967296) (hb : b < 4294967296) : a ^^^ b < 4294967296 := Nat.xor_lt_two_pow (n := 32) ha hb
theorem or_lt (a b : Nat) (ha : a < 4294967296) (hb : b < 4294967296) : a ||| b < 4294967296 := Nat.or_lt_two_pow (n := 32) ha hb
theorem and_lt (a b : Nat) (ha : a < 4294967296) : a &&& b < 4294967296 := Nat.lt_of_le_of_lt Nat.and_le_left ha
theorem ch_eq (b c d : Nat) (hb : b < 4294967296) (hc : c < 4294967296) (hd : d < 4294967296) :
    bits BinOp.or IntKind.u32 (bits BinOp.and IntKind.u32 b c) (bits BinOp.and IntKind.u32 (bits BinOp.xor IntKind.u32 IntKind.u32.max b) d) = (((b &&& c) ||| ((4294967295 ^^^ b) &&& d) : Nat) : Int) := by
  rw [not_eq b hb, u32_and_nat _ _ hb hc, u32_and_nat _ _ (xor_lt _ _ (by omega) hb) hd, u32_or_nat _ _ (and_lt _ _ hb) (and_lt _ _ (xor_lt _ _ (by omega) hb))]
theorem par_eq (b c d : Nat) (hb : b < 4294967296) (hc : c < 4294967296) (hd : d < 4294967296) :
    bits BinOp.xor IntKind.u32 (bits BinOp.xor IntKind.u32 b c) d = ((b ^^^ c ^^^ d : Nat) : Int) := by
  rw [u32_xor_nat _ _ hb hc, u32_xor_nat _ _ (xor_lt _ _ hb hc) hd]
theorem maj_eq (b c d : Nat) (hb : b < 4294967296) (hc : c < 4294967296) (hd : d < 4294967296) :
    bits BinOp.or IntKind.u32 (bits BinOp.or IntKind.u32 (bits BinOp.and IntKind.u32 b c) (bits BinOp.and IntKind.u32 b d)) (bits BinOp.and IntKind.u32 c d) = ((((b &&& c) ||| (b &&& d)) ||| (c &&& d) : Nat) : Int) := by
  rw [u32_and_nat _ _ hb hc, u32_and_nat _ _ hb hd, u32_and_nat _ _ hc hd, u32_or_nat _ _ (and_lt _ _ hb) (and_lt _ _ hb), u32_or_nat _ _ (or_lt _ _ (and_lt _ _ hb) (and_lt _ _ hb)) (and_lt _ _ hc)]

set_option maxRecDepth 10000 in
set_option maxHeartbeats 400000 in
theorem step0_any (t b c d : Nat) (h : t < 20) (hb : b < 4294967296) (hc : c < 4294967296) (hd : d < 4294967296) (w : World) : Calls Try.prog 32 #[.int .i64 t, .int .u32 b, .int .u32 c, .int .u32 d] w fun e w' => e = .returned (.tuple #[.int .u32 (fN t b c d : Nat), .int .u32 (kN t : Nat)]) ∧ w = w' := by
  have hf : fN t b c d = (b &&& c) ||| ((4294967295 ^^^ b) &&& d) := by
    unfold fN
    rw [if_pos h]
  have hk : kN t = 1518500249 := by
    unfold kN
    rw [if_pos h]
  rw [hf, hk]
  clear hf hk
  
  go_enter Try.func32, Try.ntmps32
  go_wp2_with fail
  all_goals first
    | (exfalso; omega)
    | (go_ret2; exact ⟨ret2_u32 (ch_eq b c d hb hc hd) rfl, rfl⟩)

set_option maxRecDepth 10000 in
set_option maxHeartbeats 400000 in
theorem step1_any (t b c d : Nat) (h : 20 ≤ t ∧ t < 40) (hb : b < 4294967296) (hc : c < 4294967296) (hd : d < 4294967296) (w : World) : Calls Try.prog 32 #[.int .i64 t, .int .u32 b, .int .u32 c, .int .u32 d] w fun e w' => e = .returned (.tuple #[.int .u32 (fN t b c d : Nat), .int .u32 (kN t : Nat)]) ∧ w = w' := by
  have hf : fN t b c d = b ^^^ c ^^^ d := by
    unfold fN
    rw [if_neg (by omega), if_pos h.2]
  have hk : kN t = 1859775393 := by
    unfold kN
    rw [if_neg (by omega), if_pos h.2]
  rw [hf, hk]
  clear hf hk
  obtain ⟨h1, h2⟩ := h
  go_enter Try.func32, Try.ntmps32
  go_wp2_with fail
  all_goals first
    | (exfalso; omega)
    | (go_ret2; exact ⟨ret2_u32 (par_eq b c d hb hc hd) rfl, rfl⟩)

set_option maxRecDepth 10000 in
set_option maxHeartbeats 400000 in
theorem step2_any (t b c d : Nat) (h : 40 ≤ t ∧ t < 60) (hb : b < 4294967296) (hc : c < 4294967296) (hd : d < 4294967296) (w : World) : Calls Try.prog 32 #[.int .i64 t, .int .u32 b, .int .u32 c, .int .u32 d] w fun e w' => e = .returned (.tuple #[.int .u32 (fN t b c d : Nat), .int .u32 (kN t : Nat)]) ∧ w = w' := by
  have hf : fN t b c d = ((b &&& c) ||| (b &&& d)) ||| (c &&& d) := by
    unfold fN
    rw [if_neg (by omega), if_neg (by omega), if_pos h.2]
  have hk : kN t = 2400959708 := by
    unfold kN
    rw [if_neg (by omega), if_neg (by omega), if_pos h.2]
  rw [hf, hk]
  clear hf hk
  obtain ⟨h1, h2⟩ := h
  go_enter Try.func32, Try.ntmps32
  go_wp2_with fail
  all_goals first
    | (exfalso; omega)
    | (go_ret2; exact ⟨ret2_u32 (maj_eq b c d hb hc hd) rfl, rfl⟩)

set_option maxRecDepth 10000 in
set_option maxHeartbeats 400000 in
theorem step3_any (t b c d : Nat) (h : 60 ≤ t ∧ t < 9223372036854775808) (hb : b < 4294967296) (hc : c < 4294967296) (hd : d < 4294967296) (w : World) : Calls Try.prog 32 #[.int .i64 t, .int .u32 b, .int .u32 c, .int .u32 d] w fun e w' => e = .returned (.tuple #[.int .u32 (fN t b c d : Nat), .int .u32 (kN t : Nat)]) ∧ w = w' := by
  have hf : fN t b c d = b ^^^ c ^^^ d := by
    unfold fN
    rw [if_neg (by omega), if_neg (by omega), if_neg (by omega)]
  have hk : kN t = 3395469782 := by
    unfold kN
    rw [if_neg (by omega), if_neg (by omega), if_neg (by omega)]
  rw [hf, hk]
  clear hf hk
  obtain ⟨h1, h2⟩ := h
  go_enter Try.func32, Try.ntmps32
  go_wp2_with fail
  all_goals first
    | (exfalso; omega)
    | (go_ret2; exact ⟨ret2_u32 (par_eq b c d hb hc hd) rfl, rfl⟩)

theorem step_any (t b c d : Nat) (h : t < 80) (hb : b < 4294967296) (hc : c < 4294967296) (hd : d < 4294967296) (w : World) : Calls Try.prog 32 #[.int .i64 t, .int .u32 b, .int .u32 c, .int .u32 d] w fun e w' => e = .returned (.tuple #[.int .u32 (fN t b c d : Nat), .int .u32 (kN t : Nat)]) ∧ w = w' := by
  rcases (show t < 20 ∨ (20 ≤ t ∧ t < 40) ∨ (40 ≤ t ∧ t < 60) ∨ (60 ≤ t ∧ t < 9223372036854775808) by omega) with h | h | h | h
  · exact step0_any t b c d h hb hc hd w
  · exact step1_any t b c d h hb hc hd w
  · exact step2_any t b c d h hb hc hd w
  · exact step3_any t b c d h hb hc hd w


theorem or_add (k x y : Nat) (h : y < 2 ^ k) : 2 ^ k * x ||| y = 2 ^ k * x + y := (Nat.two_pow_add_eq_or_of_lt h x).symm

theorem rot1_eq (x : Nat) (hx : x < 4294967296) : (x : Int) * 2 % 4294967296 + (x : Int) / 2147483648 = (rot 1 x : Nat) := by
  show _ = ((x * 2 % 4294967296 + x / 2147483648 : Nat) : Int)
  omega
theorem or1_eq (x : Nat) (hx : x < 4294967296) : bits BinOp.or IntKind.u32 ((x : Int) * 2 % 4294967296) ((x : Int) / 2147483648) = (rot 1 x : Nat) := by
  have e1 : (x : Int) * 2 % 4294967296 = ((2 * (x % 2147483648) : Nat) : Int) := by omega
  have e2 : (x : Int) / 2147483648 = ((x / 2147483648 : Nat) : Int) := by omega
  rw [e1, e2, u32_or_nat _ _ (by omega) (by omega)]
  have e3 := or_add 1 (x % 2147483648) (x / 2147483648) (by show _ < 2; omega)
  have e4 : (2 : Nat) ^ 1 = 2 := rfl
  rw [e4] at e3
  rw [e3]
  show _ = ((x * 2 % 4294967296 + x / 2147483648 : Nat) : Int)
  omega
theorem rot1_lt (x : Nat) (hx : x < 4294967296) : rot 1 x < 4294967296 := by
  show x * 2 % 4294967296 + x / 2147483648 < 4294967296
  omega
set_option maxRecDepth 10000 in
set_option maxHeartbeats 400000 in
theorem rot1_any (x : Nat) (hx : x < 4294967296) (w : World) : Calls Try.prog 31 #[.int .u32 x, .int .i64 1] w fun e w' => e = .returned (.int .u32 (rot 1 x : Nat)) ∧ w = w' := by
  have e1 : bits BinOp.and IntKind.u64 1 31 = 1 := by kernel_rfl
  go_enter Try.func31, Try.ntmps31
  go_wp2_with fail
  go_ret
  exact ⟨ret_u32 (or1_eq x hx), rfl⟩
set_option maxRecDepth 10000 in
set_option maxHeartbeats 400000 in
theorem turn1_any (x : Nat) (hx : x < 4294967296) (w : World) : Calls Try.prog 24 #[.int .u32 x, .int .u64 1] w fun e w' => e = .returned (.int .u32 (rot 1 x : Nat)) ∧ w = w' := by
  go_enter Try.func24, Try.ntmps24
  go_wp2_with fail
  go_ret
  exact ⟨ret_u32 (rot1_eq x hx), rfl⟩

theorem rot5_eq (x : Nat) (hx : x < 4294967296) : (x : Int) * 32 % 4294967296 + (x : Int) / 134217728 = (rot 5 x : Nat) := by
  show _ = ((x * 32 % 4294967296 + x / 134217728 : Nat) : Int)
  omega
theorem or5_eq (x : Nat) (hx : x < 4294967296) : bits BinOp.or IntKind.u32 ((x : Int) * 32 % 4294967296) ((x : Int) / 134217728) = (rot 5 x : Nat) := by
  have e1 : (x : Int) * 32 % 4294967296 = ((32 * (x % 134217728) : Nat) : Int) := by omega
  have e2 : (x : Int) / 134217728 = ((x / 134217728 : Nat) : Int) := by omega
  rw [e1, e2, u32_or_nat _ _ (by omega) (by omega)]
  have e3 := or_add 5 (x % 134217728) (x / 134217728) (by show _ < 32; omega)
  have e4 : (2 : Nat) ^ 5 = 32 := rfl
  rw [e4] at e3
  rw [e3]
  show _ = ((x * 32 % 4294967296 + x / 134217728 : Nat) : Int)
  omega
theorem rot5_lt (x : Nat) (hx : x < 4294967296) : rot 5 x < 4294967296 := by
  show x * 32 % 4294967296 + x / 134217728 < 4294967296
  omega
set_option maxRecDepth 10000 in
set_option maxHeartbeats 400000 in
theorem rot5_any (x : Nat) (hx : x < 4294967296) (w : World) : Calls Try.prog 31 #[.int .u32 x, .int .i64 5] w fun e w' => e = .returned (.int .u32 (rot 5 x : Nat)) ∧ w = w' := by
  have e1 : bits BinOp.and IntKind.u64 5 31 = 5 := by kernel_rfl
  go_enter Try.func31, Try.ntmps31
  go_wp2_with fail
  go_ret
  exact ⟨ret_u32 (or5_eq x hx), rfl⟩
set_option maxRecDepth 10000 in
set_option maxHeartbeats 400000 in
theorem turn5_any (x : Nat) (hx : x < 4294967296) (w : World) : Calls Try.prog 24 #[.int .u32 x, .int .u64 5] w fun e w' => e = .returned (.int .u32 (rot 5 x : Nat)) ∧ w = w' := by
  go_enter Try.func24, Try.ntmps24
  go_wp2_with fail
  go_ret
  exact ⟨ret_u32 (rot5_eq x hx), rfl⟩

theorem rot30_eq (x : Nat) (hx : x < 4294967296) : (x : Int) * 1073741824 % 4294967296 + (x : Int) / 4 = (rot 30 x : Nat) := by
  show _ = ((x * 1073741824 % 4294967296 + x / 4 : Nat) : Int)
  omega
theorem or30_eq (x : Nat) (hx : x < 4294967296) : bits BinOp.or IntKind.u32 ((x : Int) * 1073741824 % 4294967296) ((x : Int) / 4) = (rot 30 x : Nat) := by
  have e1 : (x : Int) * 1073741824 % 4294967296 = ((1073741824 * (x % 4) : Nat) : Int) := by omega
  have e2 : (x : Int) / 4 = ((x / 4 : Nat) : Int) := by omega
  rw [e1, e2, u32_or_nat _ _ (by omega) (by omega)]
  have e3 := or_add 30 (x % 4) (x / 4) (by show _ < 1073741824; omega)
  have e4 : (2 : Nat) ^ 30 = 1073741824 := rfl
  rw [e4] at e3
  rw [e3]
  show _ = ((x * 1073741824 % 4294967296 + x / 4 : Nat) : Int)
  omega
theorem rot30_lt (x : Nat) (hx : x < 4294967296) : rot 30 x < 4294967296 := by
  show x * 1073741824 % 4294967296 + x / 4 < 4294967296
  omega
set_option maxRecDepth 10000 in
set_option maxHeartbeats 400000 in
theorem rot30_any (x : Nat) (hx : x < 4294967296) (w : World) : Calls Try.prog 31 #[.int .u32 x, .int .i64 30] w fun e w' => e = .returned (.int .u32 (rot 30 x : Nat)) ∧ w = w' := by
  have e1 : bits BinOp.and IntKind.u64 30 31 = 30 := by kernel_rfl
  go_enter Try.func31, Try.ntmps31
  go_wp2_with fail
  go_ret
  exact ⟨ret_u32 (or30_eq x hx), rfl⟩
set_option maxRecDepth 10000 in
set_option maxHeartbeats 400000 in
theorem turn30_any (x : Nat) (hx : x < 4294967296) (w : World) : Calls Try.prog 24 #[.int .u32 x, .int .u64 30] w fun e w' => e = .returned (.int .u32 (rot 30 x : Nat)) ∧ w = w' := by
  go_enter Try.func24, Try.ntmps24
  go_wp2_with fail
  go_ret
  exact ⟨ret_u32 (rot30_eq x hx), rfl⟩

set_option maxRecDepth 10000 in
set_option maxHeartbeats 1000000 in
theorem Word_any (ad : Addr) (l : List UInt8) (n c p : Nat) (w : World) (h : IsB w (some ad) n c l) (hp : p + 4 ≤ n) :
    Calls Try.prog 23 #[.slice (some ad) n c, .int .i64 p] w fun e w' => e = .returned (.int .u32 (be4 (l.getD p 0).toNat (l.getD (p + 1) 0).toNat (l.getD (p + 2) 0).toNat (l.getD (p + 3) 0).toNat : Nat)) ∧ w = w' := by
  have hm := h.max
  have hc := h.cap
  unfold maxLen at hm
  have hlen := h.len
  obtain ⟨ad', e, hr⟩ := h.lies (by omega)
  cases e
  have g0 := hr p (by omega)
  have g1 := hr (p + 1) (by omega)
  have g2 := hr (p + 2) (by omega)
  have g3 := hr (p + 3) (by omega)
  rw [show l.getD p 0 = l[p]'(by omega) from by simp [List.getD, show p < l.length by omega], show l.getD (p + 1) 0 = l[p + 1]'(by omega) from by simp [List.getD, show p + 1 < l.length by omega], show l.getD (p + 2) 0 = l[p + 2]'(by omega) from by simp [List.getD, show p + 2 < l.length by omega], show l.getD (p + 3) 0 = l[p + 3]'(by omega) from by simp [List.getD, show p + 3 < l.length by omega]]
  have b0 : (l[p]'(by omega)).toNat < 256 := (l[p]'(by omega)).toNat_lt
  have b1 : (l[p + 1]'(by omega)).toNat < 256 := (l[p + 1]'(by omega)).toNat_lt
  have b2 : (l[p + 2]'(by omega)).toNat < 256 := (l[p + 2]'(by omega)).toNat_lt
  have b3 : (l[p + 3]'(by omega)).toNat < 256 := (l[p + 3]'(by omega)).toNat_lt
  generalize (l[p]'(by omega)).toNat = x0 at *
  generalize (l[p + 1]'(by omega)).toNat = x1 at *
  generalize (l[p + 2]'(by omega)).toNat = x2 at *
  generalize (l[p + 3]'(by omega)).toNat = x3 at *
  have hpn : (p : Int) + 4 ≤ (n : Int) := by omega
  have hnm : (n : Int) ≤ 9223372036854775807 := by omega
  have f1 : w.cell? { block := ad.block, off := ad.off + (p + 1) } = some (Value.int IntKind.u8 x1) := g1
  have f2 : w.cell? { block := ad.block, off := ad.off + (p + 1 + 1) } = some (Value.int IntKind.u8 x2) := g2
  have f3 : w.cell? { block := ad.block, off := ad.off + (p + 1 + 1 + 1) } = some (Value.int IntKind.u8 x3) := g3
  have f2' : w.cell? { block := ad.block, off := ad.off + (p + 2) } = some (Value.int IntKind.u8 x2) := g2
  have f3' : w.cell? { block := ad.block, off := ad.off + (p + 3) } = some (Value.int IntKind.u8 x3) := g3
  clear hr hlen hm hc h g1 g2 g3
  go_enter Try.func23, Try.ntmps23
  go_wp2_with fail
  refine wp_loop_rounds 5 ?_
  rw [rounds_succ]
  go_wp2_with fail
  rw [rounds_succ]
  go_wp2_with fail
  rw [rounds_succ]
  go_wp2_with fail
  rw [rounds_succ]
  go_wp2_with fail
  rw [rounds_succ]
  go_wp2_with fail
  go_ret
  refine ⟨ret_u32 ?_, rfl⟩
  unfold be4
  omega
end Go.Proofs.Ytfohmanojdibcaa
