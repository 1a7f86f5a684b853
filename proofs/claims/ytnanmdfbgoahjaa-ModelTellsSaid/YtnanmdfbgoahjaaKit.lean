/-
  SameBytes, CopyBytes; a model in memory; SameModel, CopyModel.
-/
import Derived.Test.YtnanmdfbgoahjaaRow
import Derived.Test.YtnanmdfbgoahjaaMdn
import Derived.BigQuiet
import Derived.Deep.RegionHeld3
namespace Go.Proofs.Ytnanmdfbgoahjaa
open Go.RowKit

set_option maxHeartbeats 1000000 in
set_option maxRecDepth 10000 in
theorem SameBytes_true (A B : Option Addr) (l : List UInt8) (n c d : Nat) (w : World) (h1 : IsB w A n c l) (h2 : IsB w B n d l) :
    Calls Try.prog 14 #[.slice A n c, .slice B n d] w fun e w' => e = .returned (.bool true) ∧ ∃ k, w' = w.drewN k := by
  have hx := h1.max
  have hs := h1.small
  have hnc := h1.cap
  have hnd := h2.cap
  have L1 := hid h1.len
  unfold maxLen at hx
  go_enter Try.func14, Try.ntmps14
  go_wp2_with fail
  go_loopw [5] (fun i wr => ∃ k j : Nat, k ≤ n ∧ i = .int .i64 k ∧ wr = w.drewN j) (fun i _ => n - (intOf i).toNat)
  case atStart => exact ⟨0, 0, Nat.zero_le _, rfl, rfl⟩
  case round =>
    obtain ⟨k, j, hk, rfl, rfl⟩ := hrel
    by_cases hlt : k < n
    · have hk1 : k < l.length := by rw [L1.out]; exact hlt
      obtain ⟨ad, rfl, ha⟩ := h1.lies (by rw [h1.len]; omega)
      obtain ⟨bd, rfl, hb⟩ := h2.lies (by rw [h2.len]; omega)
      have ca := ha k hk1
      have cb := hb k hk1
      clear ha hb h1 h2
      have hkz : (k : Int) < (n : Int) := by omega
      generalize l[k].toNat = y at ca cb
      go_wp2_with fail
      go_quiet (fail)
      go_wp2
      go_roundw
      case rel => exact ⟨k + 1, _, by omega, by go_num, rfl⟩
      case measure => simp [intOf]; omega
    · obtain rfl : k = n := by omega
      go_wp2
      go_ret
      exact ⟨rfl, j, rfl⟩
theorem copy_next {l : List UInt8} {i : Nat} (h : i < l.length) : l.take i ++ [UInt8.ofNat l[i].toNat] = l.take (i + 1) := by
  rw [List.take_succ_eq_append_getElem h]
  simp
set_option maxHeartbeats 1000000 in
set_option maxRecDepth 10000 in
theorem CopyBytes_any (A : Option Addr) (l : List UInt8) (n c : Nat) (w : World) (h : IsBB w w.heap.size A n c l) (hn : n ≤ 20000) :
    Calls Try.prog 7 #[.slice A n c] w fun e w' => ∃ v, e = .returned v ∧ OwnB w w' v l := by
  have hx := h.max
  have hnc := h.cap
  have L1 := hid h.len
  unfold maxLen at hx
  have S0 : Hid (OwnB w w (.slice none 0 0) (l.take 0)) := by rw [List.take_zero]; exact OwnB.nil w w (Below.refl _ w)
  go_enter Try.func7, Try.ntmps7
  go_wp2_with fail
  go_loopw [3, 4] (fun vv i wr => ∃ (v : Value) (k : Nat), k ≤ n ∧ i = .int .i64 k ∧ v = vv ∧ Hid (OwnB w wr v (l.take k))) (fun _ i _ => n - (intOf i).toNat)
  case atStart => exact ⟨_, 0, Nat.zero_le _, rfl, rfl, S0⟩
  case round =>
    obtain ⟨v, k, hk, rfl, rfl, hs⟩ := hrel
    clear S0
    by_cases hlt : k < n
    · have hk1 : k < l.length := by rw [L1.out]; exact hlt
      have hkz : (k : Int) < (n : Int) := by omega
      obtain ⟨ad, rfl, ha⟩ := (h.below hs.out.bel).lies (by rw [L1.out]; omega)
      have ca := ha k hk1
      have hnx := hid (copy_next hk1)
      have hzl := l[k].toNat_lt
      have hlk := hid (show (l.take k).length ≤ 1000000 by rw [List.length_take]; omega)
      clear ha h
      generalize l[k].toNat = z at ca hnx hzl
      go_wp2_with (at_builtin; go_loud (refine wpList_app1 rfl (.tmp 11) (.tmp 16) rfl w wr v (l.take k) z rfl rfl hs.out hlk.out hzl ?_); intro v2 W2 hv2)
      rw [hnx.out] at hv2
      go_roundw
      case rel => exact ⟨v2, k + 1, by omega, by go_num, rfl, hv2⟩
      case measure => simp [intOf]; omega
    · obtain rfl : k = n := by omega
      go_wp2_with fail
      go_ret
      have e : l.take k = l := List.take_of_length_le (by rw [L1.out]; omega)
      have o := hs.out
      rw [e] at o
      exact ⟨_, rfl, o⟩
/-- Where a slice lies: its address and its room. -/
structure Sl where
  a : Option Addr
  c : Nat
def vMdl (h m ph pm : Int) (n : Nat) (P : Sl) (i : Nat) (C : Sl) (j : Nat) (Q : Sl) : Value :=
  .agg #[.int .i64 h, .int .i64 m, .int .i64 ph, .int .i64 pm, .slice P.a n P.c, .slice C.a i C.c, .slice Q.a j Q.c]
/-- A model as a value. -/
def vMd (x : Md) (P C Q : Sl) : Value := vMdl x.h x.m x.ph x.pm x.parts.length P x.code.length C x.post.length Q
/-- And its lists in memory, below B. -/
structure MdAt (w : World) (B : Nat) (x : Md) (P C Q : Sl) : Prop where
  parts : IsP w B P.a x.parts.length P.c x.parts
  code : IsBB w B C.a x.code.length C.c x.code
  post : IsBB w B Q.a x.post.length Q.c x.post
theorem MdAt.below {w w' : World} {B : Nat} {x : Md} {P C Q : Sl} (h : MdAt w B x P C Q) (b : Below B w w') : MdAt w' B x P C Q := ⟨h.parts.below b, h.code.below b, h.post.below b⟩
theorem MdAt.later {w w' : World} {x : Md} {P C Q : Sl} (h : MdAt w w.heap.size x P C Q) (b : Below w.heap.size w w') : MdAt w' w'.heap.size x P C Q := ⟨h.parts.later b, h.code.on b, h.post.on b⟩
end Go.Proofs.Ytnanmdfbgoahjaa
