/-
  The contracts of quillpresslow's made, first, taken and Made: a new list of so many bytes.
-/
import Derived.Test.YtgdofhidjfeehaaMem
import Derived.Outline
namespace Go.Proofs.Ytgdofhidjfeehaa
open Go.RowKit

set_option maxRecDepth 100000 in
set_option maxHeartbeats 1000000 in
theorem made_any (x : Int) (_h0 : 0 ≤ x) (w : World) : Calls Try.prog 20 #[.int .u64 x] w fun e w' => e = .returned (.int .u64 (IntKind.u64.wrap (IntKind.u64.wrap (x * 2862933555777941757) + 3037000493))) ∧ w = w' := by
  go_enter Try.func20, Try.ntmps20
  go_wp2_with fail
  go_ret
  exact ⟨rfl, rfl⟩
set_option maxRecDepth 100000 in
set_option maxHeartbeats 1000000 in
theorem taken_any (x : Nat) (h : x < 18446744073709551616) (w : World) : Calls Try.prog 21 #[.int .u64 x] w fun e w' => e = .returned (.int .u8 ((x / 1099511627776 % 256 : Nat) : Int)) ∧ w = w' := by
  have H := hid h
  clear h
  go_enter Try.func21, Try.ntmps21
  go_wp2_with fail
  go_ret
  exact ⟨rfl, rfl⟩
def mk (x : Nat) : Nat := (x * 2862933555777941757 + 3037000493) % 18446744073709551616
theorem mk_lt (x : Nat) : mk x < 18446744073709551616 := Nat.mod_lt _ (by omega)
theorem mk_eq (x : Nat) : IntKind.u64.wrap (IntKind.u64.wrap ((x : Int) * 2862933555777941757) + 3037000493) = (mk x : Nat) := by
  rw [IntKind.wrap_u64, IntKind.wrap_u64]
  unfold mk
  rw [Int.emod_add_emod]
  rfl
theorem made_nat (x : Nat) (w : World) : Calls Try.prog 20 #[.int .u64 x] w fun e w' => e = .returned (.int .u64 (mk x : Nat)) ∧ w = w' := by
  have := made_any (x : Int) (by omega) w
  rw [mk_eq] at this
  exact this
set_option maxRecDepth 100000 in
set_option maxHeartbeats 1000000 in
theorem first_any (n : Nat) (hn : n ≤ 1000) (w : World) : Calls Try.prog 19 #[.int .i64 n] w fun e w' => e = .returned (.int .u64 (mk n : Nat)) ∧ w = w' := by
  have hz : (n : Int) ≤ 1000 := by omega
  go_enter Try.func19, Try.ntmps19
  go_wp2_with (go_at_call 20; refine (made_nat n _).mono ?_; rintro e w' ⟨rfl, rfl⟩)
  go_ret
  exact ⟨rfl, rfl⟩

set_option maxRecDepth 100000 in
set_option maxHeartbeats 2000000 in
theorem Made_any (s n : Nat) (hs : s ≤ 1000) (h0 : 0 < n) (hn : n ≤ 1000) (w : World) :
    Calls Try.prog 9 #[.int .i64 s, .int .i64 n] w fun e w' => ∃ g c X, e = .returned (.slice (some ⟨g, 0, none⟩) n c) ∧ New w w' g n c X := by
  obtain ⟨i0, hi, hz0, hz1, hz2⟩ := info_parts Try.info5
  have hnz : (n : Int) ≤ 1000 := by omega
  go_enter Try.func9, Try.ntmps9
  go_wp2_with (go_at_call 19; refine (first_any s hs _).mono ?_; rintro e w' ⟨rfl, rfl⟩)
  go_loopw [6, 5, 11] (fun v x i wr => ∃ (k y : Nat) (X : List UInt8), k ≤ n ∧ Hid (y < 18446744073709551616) ∧ i = .int .i64 k ∧ x = .int .u64 y ∧ Hid (wr.ownsRow w.heap.size 5 1 v k (X.map bv)) ∧ Hid (Below w.heap.size w wr)) (fun _ _ i _ => n - (intOf i).toNat)
  case atStart => exact ⟨0, mk s, [], Nat.zero_le _, mk_lt s, rfl, rfl, World.ownsRow_nil _ _ _ _, Below.refl _ _⟩
  case round =>
    obtain ⟨k, y, X, hk, hy, rfl, rfl, hR, hB⟩ := hrel
    by_cases hlt : k < n
    · have hkz : (k : Int) < n := by omega
      cases hb : (bits BinOp.and IntKind.i64 (k : Int) 7 == 0) with
      | false =>
        have Hb := hid hb
        obtain ⟨z, hz⟩ : ∃ z, z = UInt8.ofNat (y / 1099511627776 % 256) := ⟨_, rfl⟩
        have hzz : ((y / 1099511627776 % 256 : Nat) : Int) = (z.toNat : Int) := by rw [hz, toNat_mod]
        have Hz := hid hzz
        have Hyl : Hid (y < 18446744073709551616) := hy
        clear hz hzz
        go_wp2_with (first
          | (go_at_call 21; refine (taken_any y Hyl.out _).mono ?_; rintro e w' ⟨rfl, rfl⟩; rw [Hz.out])
          | (at_builtin; refine wpList_append_own _ rfl (.tmp 19) (.tmp 22) 25 rfl w.heap.size 5 i0 (.int .u8 0) 1 1 Try.underlying25 hi hz0 hz1 hz2 rfl (by decide) u6 k (X.map bv) rfl (hR.out.alloc _) ⟨wr.heap.size, 0, none⟩ 1 1 [bv z] rfl rfl ?c1 ?c2 ?c3 ?c4 ?c5 ?_))
        case c1 => exact one_cell wr _ _ rfl
        case c2 => intro u hu; simp at hu; subst hu; rfl
        case c3 => unfold maxLen; omega
        case c4 => omega
        case c5 => have := hB.out.size; simp <;> omega
        intro v2 W3 hown2 hgrow2 _
        have hown3 : Hid (W3.ownsRow w.heap.size 5 1 v2 (k + 1) ((X ++ [z]).map bv)) := by show World.ownsRow _ _ _ _ _ _ _; simpa using hown2
        have hB3 : Hid (Below w.heap.size w W3) := (hB.out.alloc hB.out.size _).grown hgrow2 (by have := hB.out.size; simp <;> omega) (fun q hq => (hR.out.lt q hq).1)
        clear hown2 hgrow2
        go_wp2_with fail
        go_roundw
        case rel => exact ⟨k + 1, y, X ++ [z], by omega, Hyl, by go_num, rfl, hown3, hB3⟩
        case measure => simp [intOf]; omega
      | true =>
        have Hb := hid hb
        obtain ⟨z, hz⟩ : ∃ z, z = UInt8.ofNat ((mk y) / 1099511627776 % 256) := ⟨_, rfl⟩
        have hzz : (((mk y) / 1099511627776 % 256 : Nat) : Int) = (z.toNat : Int) := by rw [hz, toNat_mod]
        have Hz := hid hzz
        have Hyl : Hid ((mk y) < 18446744073709551616) := mk_lt y
        clear hz hzz
        go_wp2_with (first
          | (go_at_call 20; refine (made_nat y _).mono ?_; rintro e w' ⟨rfl, rfl⟩)
          | (go_at_call 21; refine (taken_any (mk y) Hyl.out _).mono ?_; rintro e w' ⟨rfl, rfl⟩; rw [Hz.out])
          | (at_builtin; refine wpList_append_own _ rfl (.tmp 19) (.tmp 22) 25 rfl w.heap.size 5 i0 (.int .u8 0) 1 1 Try.underlying25 hi hz0 hz1 hz2 rfl (by decide) u6 k (X.map bv) rfl (hR.out.alloc _) ⟨wr.heap.size, 0, none⟩ 1 1 [bv z] rfl rfl ?c1 ?c2 ?c3 ?c4 ?c5 ?_))
        case c1 => exact one_cell wr _ _ rfl
        case c2 => intro u hu; simp at hu; subst hu; rfl
        case c3 => unfold maxLen; omega
        case c4 => omega
        case c5 => have := hB.out.size; simp <;> omega
        intro v2 W3 hown2 hgrow2 _
        have hown3 : Hid (W3.ownsRow w.heap.size 5 1 v2 (k + 1) ((X ++ [z]).map bv)) := by show World.ownsRow _ _ _ _ _ _ _; simpa using hown2
        have hB3 : Hid (Below w.heap.size w W3) := (hB.out.alloc hB.out.size _).grown hgrow2 (by have := hB.out.size; simp <;> omega) (fun q hq => (hR.out.lt q hq).1)
        clear hown2 hgrow2
        go_wp2_with fail
        go_roundw
        case rel => exact ⟨k + 1, (mk y), X ++ [z], by omega, Hyl, by go_num, rfl, hown3, hB3⟩
        case measure => simp [intOf]; omega
    · obtain rfl : k = n := by omega
      go_wp2_with fail
      go_ret
      have hX : X.length = k := by have := hR.out.1; simpa using this
      obtain ⟨g, c, rfl⟩ := own_nil hR.out h0
      exact ⟨g, c, X, rfl, hR.out, hB.out, by omega⟩
end Go.Proofs.Ytgdofhidjfeehaa
