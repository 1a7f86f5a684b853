/-
  The chapter's examples; a number below k.
-/
import Derived.Test.YtdlmcfknmdaabaaSta
import Derived.Test.YtdlmcfknmdaabaaPick
import Derived.Test.YtdlmcfknmdaabaaKit
namespace Go.Proofs.Ytdlmcfknmdaabaa
open Go.RowKit
set_option linter.unusedVariables false
set_option linter.unusedSimpArgs false

theorem two_isB (W : World) (a b : UInt8) (x y : Int) (hx : x = (a.toNat : Int)) (hy : y = (b.toNat : Int)) : IsB (W.alloc (.cells #[.int .u8 x, .int .u8 y] 5)) (some ⟨W.heap.size, 0, none⟩) 2 2 [a, b] := by
  have hh : (W.alloc (.cells #[.int .u8 x, .int .u8 y] 5)).heap[W.heap.size]? = some (.cells #[.int .u8 x, .int .u8 y] 5 (0, 0)) := heap_alloc_new W _
  refine ⟨rfl, Nat.le_refl _, by unfold maxLen; omega, by omega, fun _ => ⟨_, rfl, fun j hj => ?_⟩⟩
  match j, hj with
  | 0, _ => rw [Addr.add_lit, Nat.zero_add, row_cell hh 0, hx]; rfl
  | 1, _ => rw [Addr.add_lit, Nat.zero_add, row_cell hh 1, hy]; rfl
theorem two_isBB (W : World) (a b : UInt8) (x y : Int) (hx : x = (a.toNat : Int)) (hy : y = (b.toNat : Int)) : IsBB (W.alloc (.cells #[.int .u8 x, .int .u8 y] 5)) (W.alloc (.cells #[.int .u8 x, .int .u8 y] 5)).heap.size (some ⟨W.heap.size, 0, none⟩) 2 2 [a, b] :=
  ⟨two_isB W a b x y hx hy, fun _ ad e => by cases e; simp⟩
theorem one_isBB (W : World) (a : UInt8) (x : Int) (hx : x = (a.toNat : Int)) : IsBB (W.alloc (.cells #[.int .u8 x] 5)) (W.alloc (.cells #[.int .u8 x] 5)).heap.size (some ⟨W.heap.size, 0, none⟩) 1 1 [a] :=
  ⟨one_isB W a x hx, fun _ ad e => by cases e; simp⟩
set_option maxRecDepth 10000 in
theorem x0 : ∀ S, (stE [0] = 0 → starts [0] = some S) → chkE [0] false S = 0 := by
  intro S h
  have h1 : stE [0] = 0 := by decide +kernel
  have h2 : starts [0] = some [0] := by decide +kernel
  have h3 := h h1
  rw [h2] at h3
  injection h3 with h3
  subst h3
  decide +kernel
set_option maxRecDepth 10000 in
theorem x1 : ∀ S, (stE [24] = 0 → starts [24] = some S) → chkE [24] false S = 110 := by
  intro S h
  have h1 : stE [24] = 0 := by decide +kernel
  have h2 : starts [24] = some [0] := by decide +kernel
  have h3 := h h1
  rw [h2] at h3
  injection h3 with h3
  subst h3
  decide +kernel
set_option maxRecDepth 10000 in
theorem x2 : ∀ S, (stE [232, 254] = 0 → starts [232, 254] = some S) → chkE [232, 254] false S = 0 := by
  intro S h
  have h1 : stE [232, 254] = 0 := by decide +kernel
  have h2 : starts [232, 254] = some [0] := by decide +kernel
  have h3 := h h1
  rw [h2] at h3
  injection h3 with h3
  subst h3
  decide +kernel
set_option maxRecDepth 10000 in
theorem x3 : ∀ S, (stE [232, 255] = 0 → starts [232, 255] = some S) → chkE [232, 255] false S = 110 := by
  intro S h
  have h1 : stE [232, 255] = 0 := by decide +kernel
  have h2 : starts [232, 255] = some [0] := by decide +kernel
  have h3 := h h1
  rw [h2] at h3
  injection h3 with h3
  subst h3
  decide +kernel
set_option maxRecDepth 10000 in
theorem x4 : ∀ S, (stE [208, 0] = 0 → starts [208, 0] = some S) → chkE [208, 0] false S = 110 := by
  intro S h
  have h1 : stE [208, 0] = 0 := by decide +kernel
  have h2 : starts [208, 0] = some [0, 1] := by decide +kernel
  have h3 := h h1
  rw [h2] at h3
  injection h3 with h3
  subst h3
  decide +kernel
set_option maxRecDepth 10000 in
theorem x5 : ∀ S, (stE [208, 0] = 0 → starts [208, 0] = some S) → chkE [208, 0] true S = 0 := by
  intro S h
  have h1 : stE [208, 0] = 0 := by decide +kernel
  have h2 : starts [208, 0] = some [0, 1] := by decide +kernel
  have h3 := h h1
  rw [h2] at h3
  injection h3 with h3
  subst h3
  decide +kernel
set_option maxRecDepth 10000 in
theorem x6 : ∀ S, (stE [] = 0 → starts [] = some S) → chkE [] true S = 110 := by
  intro S _
  have h : stE ([] : List UInt8) = 110 := by decide +kernel
  unfold chkE
  rw [h]
  rfl
set_option maxRecDepth 10000 in
set_option maxHeartbeats 4000000 in
theorem awake_any (w : World) : Calls Try.prog 6 #[] w fun e w' => e = .returned (.bool true) ∧ Below w.heap.size w w' := by
  have HC := hid (fun A n c l post w h => Check_any A n c l post w h)
  have B0 := hid (Below.refl w.heap.size w)
  go_enter Try.func6, Try.ntmps6
  have I0 := hid (one_isBB w 0 0 rfl)
  have D0 := hid ((Below.refl _ w).alloc (Nat.le_refl _) (.cells #[.int .u8 0] 5))
  try dsimp only
  go_wp2_with fail
  refine (HC.out _ 1 1 _ false _ I0.out).mono ?_
  rintro r w1 ⟨S, rfl, b, hs⟩
  rw [x0 S hs]
  have B1 := hid (B0.out.trans ((D0.out.trans (b.mono D0.out.size)).mono B0.out.size))
  clear b hs I0 D0 B0
  have I1 := hid (one_isBB w1 24 24 rfl)
  have D1 := hid ((Below.refl _ w1).alloc (Nat.le_refl _) (.cells #[.int .u8 24] 5))
  try dsimp only
  go_wp2_with fail
  refine (HC.out _ 1 1 _ false _ I1.out).mono ?_
  rintro r w2 ⟨S, rfl, b, hs⟩
  rw [x1 S hs]
  have B2 := hid (B1.out.trans ((D1.out.trans (b.mono D1.out.size)).mono B1.out.size))
  clear b hs I1 D1 B1
  have I2 := hid (two_isBB w2 232 254 232 254 rfl rfl)
  have D2 := hid ((Below.refl _ w2).alloc (Nat.le_refl _) (.cells #[.int .u8 232, .int .u8 254] 5))
  try dsimp only
  go_wp2_with fail
  refine (HC.out _ 2 2 _ false _ I2.out).mono ?_
  rintro r w3 ⟨S, rfl, b, hs⟩
  rw [x2 S hs]
  have B3 := hid (B2.out.trans ((D2.out.trans (b.mono D2.out.size)).mono B2.out.size))
  clear b hs I2 D2 B2
  have I3 := hid (two_isBB w3 232 255 232 255 rfl rfl)
  have D3 := hid ((Below.refl _ w3).alloc (Nat.le_refl _) (.cells #[.int .u8 232, .int .u8 255] 5))
  try dsimp only
  go_wp2_with fail
  refine (HC.out _ 2 2 _ false _ I3.out).mono ?_
  rintro r w4 ⟨S, rfl, b, hs⟩
  rw [x3 S hs]
  have B4 := hid (B3.out.trans ((D3.out.trans (b.mono D3.out.size)).mono B3.out.size))
  clear b hs I3 D3 B3
  have I4 := hid (two_isBB w4 208 0 208 0 rfl rfl)
  have D4 := hid ((Below.refl _ w4).alloc (Nat.le_refl _) (.cells #[.int .u8 208, .int .u8 0] 5))
  try dsimp only
  go_wp2_with fail
  refine (HC.out _ 2 2 _ false _ I4.out).mono ?_
  rintro r w5 ⟨S, rfl, b, hs⟩
  rw [x4 S hs]
  have B5 := hid (B4.out.trans ((D4.out.trans (b.mono D4.out.size)).mono B4.out.size))
  clear b hs I4 D4 B4
  have I5 := hid (two_isBB w5 208 0 208 0 rfl rfl)
  have D5 := hid ((Below.refl _ w5).alloc (Nat.le_refl _) (.cells #[.int .u8 208, .int .u8 0] 5))
  try dsimp only
  go_wp2_with fail
  refine (HC.out _ 2 2 _ true _ I5.out).mono ?_
  rintro r w6 ⟨S, rfl, b, hs⟩
  rw [x5 S hs]
  have B6 := hid (B5.out.trans ((D5.out.trans (b.mono D5.out.size)).mono B5.out.size))
  clear b hs I5 D5 B5
  have I6 := hid (isBB_nil w6 w6.heap.size)
  have D6 := hid (Below.refl w6.heap.size w6)
  try dsimp only
  go_wp2_with fail
  refine (HC.out _ 0 0 _ true _ I6.out).mono ?_
  rintro r w7 ⟨S, rfl, b, hs⟩
  rw [x6 S hs]
  have B7 := hid (B6.out.trans ((D6.out.trans (b.mono D6.out.size)).mono B6.out.size))
  clear b hs I6 D6 B6
  try dsimp only
  go_wp2_with fail
  go_ret
  exact ⟨rfl, B7.out⟩
set_option maxRecDepth 10000 in
theorem pick_any (x k : Int) (h1 : 1 ≤ k) (h2 : k ≤ 4611686018427387904) (w : World) : ∃ p : Nat, (p : Int) < k ∧ Calls Try.prog 14 #[.int .i64 x, .int .i64 k] w fun r w' => r = .returned (.int .i64 (p : Nat)) ∧ w' = w := by
  have h3 := Int.tmod_lt_of_pos x (show 0 < k by omega)
  have h4 := Int.lt_tmod_of_pos x (show 0 < k by omega)
  have hk : decide (k < 1) = false := decide_eq_false (by omega)
  have hk0 : ¬ k = 0 := by omega
  by_cases hn : x.tmod k < 0
  · refine ⟨(x.tmod k + k).toNat, by omega, ?_⟩
    have e3 : wrap64 (x.tmod k + k) = (((x.tmod k + k).toNat : Nat) : Int) := by unfold wrap64; omega
    generalize (x.tmod k + k).toNat = p at e3
    clear h1 h2 h3 h4
    go_enter Try.func14, Try.ntmps14
    go_wp2_with fail
    go_ret
    exact ⟨by rw [e3]; rfl, rfl⟩
  · refine ⟨(x.tmod k).toNat, by omega, ?_⟩
    have e3 : x.tmod k = (((x.tmod k).toNat : Nat) : Int) := by omega
    have hnb : decide (x.tmod k < 0) = false := decide_eq_false hn
    generalize (x.tmod k).toNat = p at e3
    clear h1 h2 h3 h4
    go_enter Try.func14, Try.ntmps14
    go_wp2_with fail
    go_ret
    exact ⟨rfl, rfl⟩
end Go.Proofs.Ytdlmcfknmdaabaa
