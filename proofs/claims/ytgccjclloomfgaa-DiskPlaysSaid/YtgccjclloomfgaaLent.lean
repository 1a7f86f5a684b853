/-
  The contracts of quillpresslow's own, lent, LentBytes, KeptBytes, CopyBytes, and of slices.Equal.
-/
import Derived.Test.YtgccjclloomfgaaMem
import Derived.Lib.AppendStr
import Derived.Deep.QuietTactic
import Derived.BigQuiet
import Derived.Deep.RegionWith
namespace Go.Proofs.Ytgccjclloomfgaa
open Go.RowKit

set_option maxHeartbeats 1000000 in
set_option maxRecDepth 10000 in
theorem own_any (A : Option Addr) (l : List UInt8) (n c : Nat) (w : World) (h : IsBB w w.heap.size A n c l) :
    Calls Try.prog 54 #[.slice A n c] w fun e w' => ∃ v, e = .returned v ∧ w'.ownsRow w.heap.size 5 1 v n (l.map bv) ∧ Below w.heap.size w w' := by
  obtain ⟨i0, hi, hz0, hz1, hz2⟩ := info_parts Try.info5
  have Hlen := hid h.len
  have hs := h.small
  rcases A with _ | ad
  · have hn : n = 0 := by
      rcases Nat.eq_zero_or_pos n with h0 | h0
      · exact h0
      · obtain ⟨ad, e, _⟩ := h.lies (by rw [Hlen.out]; exact h0)
        cases e
    subst hn
    obtain rfl : l = [] := List.eq_nil_of_length_eq_zero Hlen.out
    go_enter Try.func54, Try.ntmps54
    go_wp2
    go_ret
    exact ⟨_, rfl, ⟨by simp, .inl ⟨rfl, rfl⟩⟩, Below.refl _ _⟩
  · go_enter Try.func54, Try.ntmps54
    go_wp2_with (at_builtin; go_loud (refine wpList_append_own _ rfl _ _ 27 rfl w.heap.size 5 i0 (.int .u8 0) 1 1 Try.underlying27 hi hz0 hz1 hz2 rfl (by decide) (.slice none 0 0) 0 [] rfl ⟨by simp, .inl ⟨rfl, rfl⟩⟩ ad n c (l.map bv) rfl ?c0 ?c1 (bv_one l) ?c3 ?c4 (Nat.le_refl _) ?_))
    case c0 => rw [List.length_map, Hlen.out, Nat.mul_one]
    case c1 =>
      intro j u hu
      have hp : 0 < (l.map bv).length := by
        have := (List.getElem?_eq_some_iff.1 hu).1
        omega
      obtain ⟨ad', e, hc⟩ := h.src (Below.refl _ _) hp
      cases e
      exact hc j u hu
    case c3 => unfold maxLen; omega
    case c4 => omega
    intro v' w1 hown hgrow _
    go_wp2
    go_ret
    exact ⟨_, rfl, by simpa using hown, (Below.refl _ _).grown hgrow (Nat.le_refl _) (by simp [Value.ownBlock])⟩
def tailL : List UInt8 := [116, 97, 105, 108]
set_option maxHeartbeats 1000000 in
set_option maxRecDepth 10000 in
theorem lent_any (A : Option Addr) (l : List UInt8) (n c : Nat) (w : World) (h : IsBB w w.heap.size A n c l) (hn : n + 4 ≤ 140737488355328) :
    Calls Try.prog 51 #[.slice A n c] w fun e w' => ∃ g c', e = .returned (.slice (some ⟨g, 0, none⟩) (n + 4) c') ∧ New w w' g (n + 4) c' (l ++ tailL) := by
  obtain ⟨i0, hi, hz0, hz1, hz2⟩ := info_parts Try.info5
  go_enter Try.func51, Try.ntmps51
  go_wp2_with (first
    | (go_at_call 54; refine (own_any _ _ _ _ _ h).mono ?_; rintro e w1 ⟨v, rfl, hown, hbel⟩)
    | (at_builtin; go_loud (with_reducible refine Lib.wpList_append_own_string w1 rfl (.tmp 4) _ 27 9 rfl w.heap.size 5 i0 Try.underlying27 Try.underlying9 hi hz0 hz1 hz2 v n _ rfl hown ⟨#[116, 97, 105, 108]⟩ rfl ?h1 ?h2 hbel.size ?_)))
  case h1 => show n + 4 ≤ maxLen; unfold maxLen; omega
  case h2 => exact hn
  intro v' w2 hown2 hgrow _
  go_wp2
  go_ret
  have hown3 : w2.ownsRow w.heap.size 5 1 v' (n + 4) (l.map bv ++ Lib.strCells ⟨#[116, 97, 105, 108]⟩) := hown2
  obtain ⟨g, c', rfl⟩ := own_nil hown3 (by omega)
  refine ⟨g, c', rfl, ⟨?_, hbel.grown hgrow hbel.size (fun k hk => ?_), hn⟩⟩
  · have e : (l ++ tailL).map bv = l.map bv ++ Lib.strCells ⟨#[116, 97, 105, 108]⟩ := by rw [List.map_append]; rfl
    rw [e]
    exact hown3
  · exact (hown.lt k hk).1
set_option maxHeartbeats 1000000 in
theorem LentBytes_any (A : Option Addr) (l : List UInt8) (n c : Nat) (w : World) (h : IsBB w w.heap.size A n c l) (hn : n + 4 ≤ 140737488355328) :
    Calls Try.prog 23 #[.slice A n c] w fun e w' => ∃ g c', e = .returned (.slice (some ⟨g, 0, none⟩) n c') ∧ New w w' g (n + 4) c' (l ++ tailL) := by
  go_enter Try.func23, Try.ntmps23
  go_wp2_with (go_at_call 51; refine (lent_any _ _ _ _ _ h hn).mono ?_; rintro e w1 ⟨g, c', rfl, hN⟩; have hcap := hN.row.2.2.1; have hmax := hN.row.2.2.2.1; unfold maxLen at hmax)
  go_ret
  exact ⟨g, c', rfl, hN⟩
set_option maxHeartbeats 1000000 in
set_option maxRecDepth 10000 in
theorem Equal_same (A B : Option Addr) (l : List UInt8) (n c d : Nat) (w : World) (h1 : IsB w A n c l) (h2 : IsB w B n d l) :
    Calls Try.prog 53 #[.slice A n c, .slice B n d] w fun e w' => e = .returned (.bool true) ∧ ∃ k, w' = w.drewN k := by
  have hx := h1.max
  have hs := h1.small
  have hnc := h1.cap
  have hnd := h2.cap
  unfold maxLen at hx
  go_enter Try.func53, Try.ntmps53
  go_wp2_with fail
  go_loopw [13] (fun i wr => ∃ k j : Nat, k ≤ n ∧ i = .int .i64 k ∧ wr = w.drewN j) (fun i _ => n - (intOf i).toNat)
  case atStart => exact ⟨0, 0, Nat.zero_le _, rfl, rfl⟩
  case round =>
    obtain ⟨k, j, hk, rfl, rfl⟩ := hrel
    by_cases hlt : k < n
    · obtain ⟨ad, rfl, ha⟩ := h1.lies (by rw [h1.len]; omega)
      obtain ⟨bd, rfl, hb⟩ := h2.lies (by rw [h2.len]; omega)
      obtain ⟨y, ca, cb⟩ : ∃ y : Int, w.cell? (ad.add k) = some (.int .u8 y) ∧ w.cell? (bd.add k) = some (.int .u8 y) := ⟨_, ha k (by rw [h1.len]; exact hlt), hb k (by rw [h2.len]; exact hlt)⟩
      clear ha hb h1 h2
      have hkz : (k : Int) < (n : Int) := by omega
      go_wp2_with fail
      go_quiet (fail)
      go_wp2
      go_roundw
      case rel => exact ⟨k + 1, _, by omega, by go_num, rfl⟩
      case measure => simp [intOf]; omega
    · go_wp2
      go_ret
      exact ⟨rfl, j, rfl⟩
set_option maxHeartbeats 1000000 in
set_option maxRecDepth 10000 in
theorem KeptBytes_true (A : Option Addr) (l : List UInt8) (g n c d : Nat) (w : World) (h : IsBB w w.heap.size A n d l) (ho : IsBB w w.heap.size (some ⟨g, 0, none⟩) (n + 4) c (l ++ tailL)) :
    Calls Try.prog 33 #[.slice (some ⟨g, 0, none⟩) n c, .slice A n d] w fun e w' => e = .returned (.bool true) ∧ Below w.heap.size w w' := by
  have hx := ho.max
  have hc := ho.cap
  have hs := ho.small
  have hcz : (n : Int) + 4 ≤ c := by omega
  unfold maxLen at hx
  have e1 : IntKind.i64.wrap ((n : Int) + 4) = (n : Int) + 4 := IntWalk.i64_in _ (by omega)
  have e2 : ((n : Int) + 4).toNat = n + 4 := by omega
  have e3 : (0 : Int) ≤ (n : Int) + 4 := by omega
  go_enter Try.func33, Try.ntmps33
  go_wp2_with fail
  go_region_with (first
    | (go_at_call 51; refine (lent_any _ _ _ _ _ (by first | exact h.drew | exact h) hs).mono ?_; rintro e w1 ⟨g1, c1, rfl, hN⟩; have bel : Below w.heap.size w w1 := (by first | exact hN.bel | exact ((Below.refl _ w).drew).trans hN.bel))
    | (go_at_call 53; refine (Equal_same _ _ _ _ _ _ _ (by exact (ho.below bel).toIsB) (by exact hN.isB)).mono ?_; rintro e w2 ⟨rfl, k, rfl⟩))
  all_goals
    go_wp2
    go_ret
    exact ⟨rfl, below_drewN bel k⟩
end Go.Proofs.Ytgccjclloomfgaa
