/-
  SameWords, CopyWords, CopyBytes, slices.Clone of words and of bytes (written by tools/stage17/gen_cpy.py).
-/
import Derived.Test.YtaogileaeflnfaaUw
set_option linter.unusedVariables false
set_option linter.unusedSimpArgs false
namespace Go.Proofs.Ytaogileaeflnfaa
open Go.RowKit
theorem nil_nil (n c : Nat) (w : World) : (binOp BinOp.eql 28 (.slice none n c) (.slice none 0 0)).run Try.prog w = .ok (.bool true) w := by kernel_rfl
theorem some_nil (a : Addr) (n c : Nat) (w : World) : (binOp BinOp.eql 28 (.slice (some a) n c) (.slice none 0 0)).run Try.prog w = .ok (.bool false) w := by kernel_rfl

set_option maxHeartbeats 1000000 in
set_option maxRecDepth 10000 in
theorem CopyBytes_any (A : Option Addr) (l : List UInt8) (n c : Nat) (w : World) (h : IsBB w w.heap.size A n c l) (hn : n ≤ 20000) :
    Calls Try.prog 20 #[.slice A n c] w fun e w' => ∃ v, e = .returned v ∧ OwnB w w' v l := by
  have hx := h.max
  have hnc := h.cap
  have L1 := hid h.len
  unfold maxLen at hx
  have S0 : Hid (OwnB w w (.slice none 0 0) (l.take 0)) := by rw [List.take_zero]; exact OwnB.nil w w (Below.refl _ w)
  go_enter Try.func20, Try.ntmps20
  go_wp2_with fail
  go_loopw [3, 4] (fun vv i wr => ∃ (v : Value) (k : Nat), k ≤ n ∧ i = .int .i64 k ∧ v = vv ∧ Hid (OwnB w wr v (l.take k))) (fun _ i _ => n - (intOf i).toNat)
  case atStart => exact ⟨_, 0, Nat.zero_le _, rfl, rfl, S0⟩
  case round =>
    obtain ⟨v, k, hk, rfl, rfl, hs⟩ := hrel
    clear S0
    by_cases hlt : k < n
    · have hk1 : k < l.length := by rw [L1.out]; exact hlt
      have hkz : (k : Int) < (n : Int) := by omega
      obtain ⟨ad, rfl, ha⟩ := (h.below hs.out.bel).lies (by rw [L1.out]; omega)
      have ca := ha k hk1
      have hnx := hid (copy_next hk1)
      have hzl := l[k].toNat_lt
      have hlk := hid (show (l.take k).length ≤ 1000000 by rw [List.length_take]; omega)
      clear ha h
      generalize l[k].toNat = z at ca hnx hzl
      go_wp2_with (at_builtin; go_loud (refine wpList_app1 rfl (.tmp 11) (.tmp 16) rfl w wr v (l.take k) z rfl rfl hs.out hlk.out hzl ?_); intro v2 W2 hv2)
      rw [hnx.out] at hv2
      go_roundw
      case rel => exact ⟨v2, k + 1, by omega, by go_num, rfl, hv2⟩
      case measure => simp [intOf]; omega
    · obtain rfl : k = n := by omega
      go_wp2_with fail
      go_ret
      have e : l.take k = l := List.take_of_length_le (by rw [L1.out]; omega)
      have o := hs.out
      rw [e] at o
      exact ⟨_, rfl, o⟩
set_option maxHeartbeats 1000000 in
set_option maxRecDepth 10000 in
theorem Clone_any (A : Option Addr) (l : List UInt8) (n c : Nat) (w : World) (h : IsBB w w.heap.size A n c l) :
    Calls Try.prog 40 #[.slice A n c] w fun e w' => ∃ v, e = .returned v ∧ w'.ownsRow w.heap.size 5 1 v n (l.map bv) ∧ Below w.heap.size w w' := by
  obtain ⟨i0, hi, hz0, hz1, hz2⟩ := info_parts Try.info5
  have Hlen := hid h.len
  have hs := h.small
  rcases A with _ | ad
  · have hn : n = 0 := by
      rcases Nat.eq_zero_or_pos n with h0 | h0
      · exact h0
      · obtain ⟨ad, e, _⟩ := h.lies (by rw [Hlen.out]; exact h0)
        cases e
    subst hn
    obtain rfl : l = [] := List.eq_nil_of_length_eq_zero Hlen.out
    go_enter Try.func40, Try.ntmps40
    have hnn := nil_nil 0 c
    go_wp2
    go_ret
    exact ⟨_, rfl, ⟨by simp, .inl ⟨rfl, rfl⟩⟩, Below.refl _ _⟩
  · have hnn := some_nil ad n c
    go_enter Try.func40, Try.ntmps40
    have h0 : (w.alloc (.cells #[] 5)).ownsRow w.heap.size 5 1 (.slice (some ⟨w.heap.size, 0, none⟩) 0 0) 0 [] := World.ownsRow_made w #[] 0 (Nat.le_refl _) (Nat.zero_le _) rfl
    have hb0 : Below w.heap.size w (w.alloc (.cells #[] 5)) := (Below.refl _ w).alloc (Nat.le_refl _) _
    go_wp2_with (at_builtin; go_loud (refine wpList_append_own _ rfl _ _ 28 rfl w.heap.size 5 i0 (.int .u8 0) 1 1 Try.underlying28 hi hz0 hz1 hz2 rfl (by decide) (.slice (some ⟨w.heap.size, 0, none⟩) 0 0) 0 [] rfl h0 ad n c (l.map bv) rfl ?c0 ?c1 (bv_one l) ?c3 ?c4 ?c5 ?_))
    case c0 => rw [List.length_map, Hlen.out, Nat.mul_one]
    case c1 =>
      intro j u hu
      have hp : 0 < (l.map bv).length := by
        have := (List.getElem?_eq_some_iff.1 hu).1
        omega
      obtain ⟨ad', e, hc⟩ := h.src hb0 hp
      cases e
      exact hc j u hu
    case c3 => unfold maxLen; omega
    case c4 => omega
    case c5 => exact hb0.size
    intro v' w1 hown hgrow _
    go_wp2
    go_ret
    exact ⟨_, rfl, by simpa using hown, hb0.grown hgrow hb0.size (fun k e => by cases e; exact Nat.le_refl _)⟩

namespace U
theorem copy_next {l : List UInt32} {i : Nat} (h : i < l.length) : l.take i ++ [UInt32.ofNat l[i].toNat] = l.take (i + 1) := by
  rw [List.take_succ_eq_append_getElem h]
  simp

theorem nil_nil (n c : Nat) (w : World) : (binOp BinOp.eql 27 (.slice none n c) (.slice none 0 0)).run Try.prog w = .ok (.bool true) w := by kernel_rfl
theorem some_nil (a : Addr) (n c : Nat) (w : World) : (binOp BinOp.eql 27 (.slice (some a) n c) (.slice none 0 0)).run Try.prog w = .ok (.bool false) w := by kernel_rfl

set_option maxHeartbeats 1000000 in
set_option maxRecDepth 10000 in
theorem SameBytes_true (A B : Option Addr) (l : List UInt32) (n c d : Nat) (w : World) (h1 : IsB w A n c l) (h2 : IsB w B n d l) :
    Calls Try.prog 26 #[.slice A n c, .slice B n d] w fun e w' => e = .returned (.bool true) ∧ ∃ k, w' = w.drewN k := by
  have hx := h1.max
  have hs := h1.small
  have hnc := h1.cap
  have hnd := h2.cap
  have L1 := hid h1.len
  unfold maxLen at hx
  go_enter Try.func26, Try.ntmps26
  go_wp2_with fail
  go_loopw [5] (fun i wr => ∃ k j : Nat, k ≤ n ∧ i = .int .i64 k ∧ wr = w.drewN j) (fun i _ => n - (intOf i).toNat)
  case atStart => exact ⟨0, 0, Nat.zero_le _, rfl, rfl⟩
  case round =>
    obtain ⟨k, j, hk, rfl, rfl⟩ := hrel
    by_cases hlt : k < n
    · have hk1 : k < l.length := by rw [L1.out]; exact hlt
      obtain ⟨ad, rfl, ha⟩ := h1.lies (by rw [h1.len]; omega)
      obtain ⟨bd, rfl, hb⟩ := h2.lies (by rw [h2.len]; omega)
      have ca := ha k hk1
      have cb := hb k hk1
      clear ha hb h1 h2
      have hkz : (k : Int) < (n : Int) := by omega
      generalize l[k].toNat = y at ca cb
      go_wp2_with fail
      go_quiet (fail)
      go_wp2
      go_roundw
      case rel => exact ⟨k + 1, _, by omega, by go_num, rfl⟩
      case measure => simp [intOf]; omega
    · obtain rfl : k = n := by omega
      go_wp2
      go_ret
      exact ⟨rfl, j, rfl⟩
set_option maxHeartbeats 1000000 in
set_option maxRecDepth 10000 in
theorem CopyBytes_any (A : Option Addr) (l : List UInt32) (n c : Nat) (w : World) (h : IsBB w w.heap.size A n c l) (hn : n ≤ 20000) :
    Calls Try.prog 19 #[.slice A n c] w fun e w' => ∃ v, e = .returned v ∧ OwnB w w' v l := by
  have hx := h.max
  have hnc := h.cap
  have L1 := hid h.len
  unfold maxLen at hx
  have S0 : Hid (OwnB w w (.slice none 0 0) (l.take 0)) := by rw [List.take_zero]; exact OwnB.nil w w (Below.refl _ w)
  go_enter Try.func19, Try.ntmps19
  go_wp2_with fail
  go_loopw [3, 4] (fun vv i wr => ∃ (v : Value) (k : Nat), k ≤ n ∧ i = .int .i64 k ∧ v = vv ∧ Hid (OwnB w wr v (l.take k))) (fun _ i _ => n - (intOf i).toNat)
  case atStart => exact ⟨_, 0, Nat.zero_le _, rfl, rfl, S0⟩
  case round =>
    obtain ⟨v, k, hk, rfl, rfl, hs⟩ := hrel
    clear S0
    by_cases hlt : k < n
    · have hk1 : k < l.length := by rw [L1.out]; exact hlt
      have hkz : (k : Int) < (n : Int) := by omega
      obtain ⟨ad, rfl, ha⟩ := (h.below hs.out.bel).lies (by rw [L1.out]; omega)
      have ca := ha k hk1
      have hnx := hid (copy_next hk1)
      have hzl := l[k].toNat_lt
      have hlk := hid (show (l.take k).length ≤ 1000000 by rw [List.length_take]; omega)
      clear ha h
      generalize l[k].toNat = z at ca hnx hzl
      go_wp2_with (at_builtin; go_loud (refine wpList_app1 rfl (.tmp 11) (.tmp 16) rfl w wr v (l.take k) z rfl rfl hs.out hlk.out hzl ?_); intro v2 W2 hv2)
      rw [hnx.out] at hv2
      go_roundw
      case rel => exact ⟨v2, k + 1, by omega, by go_num, rfl, hv2⟩
      case measure => simp [intOf]; omega
    · obtain rfl : k = n := by omega
      go_wp2_with fail
      go_ret
      have e : l.take k = l := List.take_of_length_le (by rw [L1.out]; omega)
      have o := hs.out
      rw [e] at o
      exact ⟨_, rfl, o⟩
set_option maxHeartbeats 1000000 in
set_option maxRecDepth 10000 in
theorem Clone_any (A : Option Addr) (l : List UInt32) (n c : Nat) (w : World) (h : IsBB w w.heap.size A n c l) :
    Calls Try.prog 39 #[.slice A n c] w fun e w' => ∃ v, e = .returned v ∧ w'.ownsRow w.heap.size 25 1 v n (l.map bv) ∧ Below w.heap.size w w' := by
  obtain ⟨i0, hi, hz0, hz1, hz2⟩ := info_parts Try.info25
  have Hlen := hid h.len
  have hs := h.small
  rcases A with _ | ad
  · have hn : n = 0 := by
      rcases Nat.eq_zero_or_pos n with h0 | h0
      · exact h0
      · obtain ⟨ad, e, _⟩ := h.lies (by rw [Hlen.out]; exact h0)
        cases e
    subst hn
    obtain rfl : l = [] := List.eq_nil_of_length_eq_zero Hlen.out
    go_enter Try.func39, Try.ntmps39
    have hnn := nil_nil 0 c
    go_wp2
    go_ret
    exact ⟨_, rfl, ⟨by simp, .inl ⟨rfl, rfl⟩⟩, Below.refl _ _⟩
  · have hnn := some_nil ad n c
    go_enter Try.func39, Try.ntmps39
    have h0 : (w.alloc (.cells #[] 25)).ownsRow w.heap.size 25 1 (.slice (some ⟨w.heap.size, 0, none⟩) 0 0) 0 [] := World.ownsRow_made w #[] 0 (Nat.le_refl _) (Nat.zero_le _) rfl
    have hb0 : Below w.heap.size w (w.alloc (.cells #[] 25)) := (Below.refl _ w).alloc (Nat.le_refl _) _
    go_wp2_with (at_builtin; go_loud (refine wpList_append_own _ rfl _ _ 27 rfl w.heap.size 25 i0 (.int .u32 0) 1 4 Try.underlying27 hi hz0 hz1 hz2 rfl (by decide) (.slice (some ⟨w.heap.size, 0, none⟩) 0 0) 0 [] rfl h0 ad n c (l.map bv) rfl ?c0 ?c1 (bv_one l) ?c3 ?c4 ?c5 ?_))
    case c0 => rw [List.length_map, Hlen.out, Nat.mul_one]
    case c1 =>
      intro j u hu
      have hp : 0 < (l.map bv).length := by
        have := (List.getElem?_eq_some_iff.1 hu).1
        omega
      obtain ⟨ad', e, hc⟩ := h.src hb0 hp
      cases e
      exact hc j u hu
    case c3 => unfold maxLen; omega
    case c4 => omega
    case c5 => exact hb0.size
    intro v' w1 hown hgrow _
    go_wp2
    go_ret
    exact ⟨_, rfl, by simpa using hown, hb0.grown hgrow hb0.size (fun k e => by cases e; exact Nat.le_refl _)⟩
end U
end Go.Proofs.Ytaogileaeflnfaa
