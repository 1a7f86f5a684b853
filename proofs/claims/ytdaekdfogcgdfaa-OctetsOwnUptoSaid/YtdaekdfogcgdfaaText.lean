/-
  The contracts of AddText and Text.
-/
import Derived.Test.YtdaekdfogcgdfaaPut
import Derived.Lib.AppendStr
import Derived.Laws.BytesArg
namespace Go.Proofs.Ytdaekdfogcgdfaa
open Go.RowKit

theorem run_string_zero (P : Program) (w : World) (src e dst : TypeId) (hs : P.underlying src = some (.slice e)) (he : P.underlying e = some (.int .u8)) (hd : P.underlying dst = some .string) (A : Option Addr) (c : Nat) :
    (convert src dst (.slice A 0 c)).run P w = .ok (.string ⟨#[]⟩) w := by
  cases A with
  | none => exact run_convert_bytes_nil w src e hs he 0 c dst hd
  | some a => exact run_convert_bytes_back w src dst e a c [] hs he hd (fun j hj => absurd hj (by simp))
/-- 'string(b)'. -/
theorem IsB.conv {w : World} {A : Option Addr} {n c : Nat} {l : List UInt8} (h : IsB w A n c l) : (convert 24 9 (.slice A n c)).run Try.prog w = .ok (.string ⟨l.toArray⟩) w := by
  obtain rfl := h.len
  rcases Nat.eq_zero_or_pos l.length with h0 | h0
  · obtain rfl := List.eq_nil_of_length_eq_zero h0
    exact run_string_zero _ w 24 5 9 Try.underlying24 Try.underlying5 Try.underlying9 A c
  · obtain ⟨ad, rfl, hc⟩ := h.lies h0
    exact run_convert_bytes_back w 24 9 5 ad c l Try.underlying24 Try.underlying5 Try.underlying9 hc

/-- Does a text stand at a place? -/
def txtHas (l : List UInt8) (n : Nat) (at_ : Int) : Bool := has 2 n at_ && decide (at_ + 2 + num 2 l at_ ≤ n)
/-- The text that stands at a place: none where none does. -/
def txt (l : List UInt8) (n : Nat) (at_ : Int) : List UInt8 := if txtHas l n at_ = true then (l.drop (at_.toNat + 2)).take (num 2 l at_).toNat else []
/-- Where it ends: 0 where none does. -/
def txtTo (l : List UInt8) (n : Nat) (at_ : Int) : Int := if txtHas l n at_ = true then at_ + 2 + num 2 l at_ else 0
theorem txt_no {l : List UInt8} {n : Nat} {at_ : Int} (h : txtHas l n at_ = false) : txt l n at_ = [] ∧ txtTo l n at_ = 0 := by
  unfold txt txtTo; rw [h]; exact ⟨rfl, rfl⟩

theorem txt3 {a b : List UInt8} {x y : Int} {p q : Bool} (h1 : a = b) (h2 : x = y) (h3 : p = q) : Ending.returned (.tuple #[.string ⟨a.toArray⟩, .int .i64 x, .bool p]) = .returned (.tuple #[.string ⟨b.toArray⟩, .int .i64 y, .bool q]) := by rw [h1, h2, h3]

set_option maxRecDepth 10000 in
set_option maxHeartbeats 400000 in
theorem text_none (A : Option Addr) (l : List UInt8) (n c : Nat) (at_ : Int) (w : World) (h : IsB w A n c l) (hh : has 2 n at_ = false) :
    Calls Try.prog 13 #[.slice A n c, .int .i64 at_] w fun e w' => e = .returned (.tuple #[.string ⟨#[]⟩, .int .i64 0, .bool false]) ∧ w = w' := by
  go_enter Try.func13, Try.ntmps13
  go_wp2_with (go_at_call 12; refine (U16_any _ _ _ _ _ _ h).mono ?_; rintro e w' ⟨rfl, rfl⟩)
  go_ret3
  exact ⟨rfl, rfl⟩
set_option maxRecDepth 10000 in
set_option maxHeartbeats 400000 in
theorem text_short (A : Option Addr) (l : List UInt8) (n c k m : Nat) (w : World) (h : IsB w A n c l) (hk : k + 2 ≤ n) (hm : num 2 l (k : Int) = (m : Int)) (hm2 : (m : Int) ≤ 65535) (hs : n < k + 2 + m) :
    Calls Try.prog 13 #[.slice A n c, .int .i64 k] w fun e w' => e = .returned (.tuple #[.string ⟨#[]⟩, .int .i64 0, .bool false]) ∧ w = w' := by
  have hh : has 2 n (k : Int) = true := has_yes hk
  have hx := h.max
  have hx2 := h.cap
  have hx3 := h.small
  unfold maxLen at hx
  go_enter Try.func13, Try.ntmps13
  go_wp2_with (go_at_call 12; refine (U16_any _ _ _ _ _ _ h).mono ?_; rintro e w' ⟨rfl, rfl⟩)
  go_ret3
  exact ⟨rfl, rfl⟩
set_option maxRecDepth 10000 in
set_option maxHeartbeats 400000 in
theorem text_yes (A : Option Addr) (l : List UInt8) (n c k m : Nat) (w : World) (h : IsB w A n c l) (hk : k + 2 ≤ n) (hm : num 2 l (k : Int) = (m : Int)) (hm2 : (m : Int) ≤ 65535) (hs : k + 2 + m ≤ n) :
    Calls Try.prog 13 #[.slice A n c, .int .i64 k] w fun e w' => e = .returned (.tuple #[.string ⟨((l.drop (k + 2)).take m).toArray⟩, .int .i64 (k + 2 + m), .bool true]) ∧ w = w' := by
  have hh : has 2 n (k : Int) = true := has_yes hk
  have hx := h.max
  have hx2 := h.cap
  have hx3 := h.small
  unfold maxLen at hx
  obtain ⟨ad, rfl, hc⟩ := h.lies (by rw [h.len]; omega)
  rcases Nat.eq_zero_or_pos m with h0 | h0
  · subst h0
    have hz := fun (A' : Option Addr) (cc : Nat) => run_string_zero Try.prog w 24 5 9 Try.underlying24 Try.underlying5 Try.underlying9 A' cc
    have Hc := hid hc
    clear hc
    go_enter Try.func13, Try.ntmps13
    go_wp2_with (go_at_call 12; refine (U16_any _ _ _ _ _ _ h).mono ?_; rintro e w' ⟨rfl, rfl⟩)
    all_goals
      go_ret3
      exact ⟨by simp, rfl⟩
  · have hsub : IsB w (some (ad.add (k + 2))) m (c - (k + 2)) ((l.drop (k + 2)).take m) := by
      refine ⟨by simp [h.len]; omega, by omega, by unfold maxLen; omega, by omega, fun _ => ⟨_, rfl, fun j hj => ?_⟩⟩
      rw [add_of_add]
      have hj2 : j < m := by simp at hj; omega
      rw [hc (k + 2 + j) (by rw [h.len]; omega)]
      simp
    have hz := hsub.conv
    have ea : ad.add (k + 2) = { block := ad.block, off := ad.off + (k + 1 + 1) } := by unfold Addr.add; rw [if_neg (by omega)]
    rw [ea] at hz
    have Hc := hid hc
    clear hc ea
    go_enter Try.func13, Try.ntmps13
    go_wp2_with (go_at_call 12; refine (U16_any _ _ _ _ _ _ h).mono ?_; rintro e w' ⟨rfl, rfl⟩)
    go_ret3
    exact ⟨rfl, rfl⟩
theorem num16_lt (l : List UInt8) (k : Nat) (h : k + 2 ≤ l.length) : ∃ m : Nat, num 2 l (k : Int) = (m : Int) ∧ (m : Int) ≤ 65535 := by
  refine ⟨_, num_yes h, ?_⟩
  have := beN_lt 2 ((l.drop k).take 2) (by simp; omega)
  have h2 : (256 : Nat) ^ 2 = 65536 := rfl
  omega
theorem Text_any (A : Option Addr) (l : List UInt8) (n c : Nat) (at_ : Int) (w : World) (h : IsB w A n c l) :
    Calls Try.prog 13 #[.slice A n c, .int .i64 at_] w fun e w' => e = .returned (.tuple #[.string ⟨(txt l n at_).toArray⟩, .int .i64 (txtTo l n at_), .bool (txtHas l n at_)]) ∧ w = w' := by
  cases hh : has 2 n at_ with
  | false =>
    have ht : txtHas l n at_ = false := by unfold txtHas; rw [hh]; rfl
    refine (text_none A l n c at_ w h hh).mono ?_
    rintro e w' ⟨rfl, rfl⟩
    exact ⟨by rw [(txt_no ht).1, (txt_no ht).2, ht], rfl⟩
  | true =>
    have hp : 0 ≤ at_ ∧ at_ + 2 ≤ n := by
      have := hh
      unfold has at this
      rw [decide_eq_true_iff] at this
      omega
    obtain ⟨k, rfl⟩ := Int.eq_ofNat_of_zero_le hp.1
    have hk : k + 2 ≤ n := by omega
    obtain ⟨m, hm, hm2⟩ := num16_lt l k (by rw [h.len]; exact hk)
    by_cases hs : k + 2 + m ≤ n
    · have ht : txtHas l n (k : Int) = true := by
        unfold txtHas; rw [hh, hm]; simp; omega
      refine (text_yes A l n c k m w h hk hm hm2 hs).mono ?_
      rintro e w' ⟨rfl, rfl⟩
      refine ⟨?_, rfl⟩
      unfold txt txtTo
      rw [if_pos ht, if_pos ht, ht, hm]
      rfl
    · have ht : txtHas l n (k : Int) = false := by
        unfold txtHas; rw [hh, hm]; simp; omega
      refine (text_short A l n c k m w h hk hm hm2 (by omega)).mono ?_
      rintro e w' ⟨rfl, rfl⟩
      exact ⟨by rw [(txt_no ht).1, (txt_no ht).2, ht], rfl⟩

set_option maxRecDepth 10000 in
set_option maxHeartbeats 400000 in
theorem AddText_long (A : Option Addr) (n c : Nat) (s : ByteArray) (w : World) (hs : 65535 < s.size) (hm : s.size ≤ maxLen) :
    Calls Try.prog 14 #[.slice A n c, .string s] w fun e w' => e = .returned (.tuple #[.slice none 0 0, .int .i64 3]) ∧ w = w' := by
  unfold maxLen at hm
  go_enter Try.func14, Try.ntmps14
  go_wp2_with fail
  go_ret2
  exact ⟨rfl, rfl⟩
set_option maxRecDepth 10000 in
set_option maxHeartbeats 400000 in
theorem AddText_any (A : Option Addr) (l : List UInt8) (n c : Nat) (s : ByteArray) (w : World) (h : IsBB w w.heap.size A n c l) (hs : s.size ≤ 65535) (hn : n + 100000 ≤ 140737488355328) :
    Calls Try.prog 14 #[.slice A n c, .string s] w fun e w' => ∃ g c', e = .returned (.tuple #[.slice (some ⟨g, 0, none⟩) (n + 2 + s.size) c', .int .i64 0]) ∧ New w w' g (n + 2 + s.size) c' (l ++ bytesN 2 s.size ++ s.data.toList) := by
  obtain ⟨i0, hi, hz0, hz1, hz2⟩ := info_parts Try.info5
  have E1 : IntKind.u16.wrap (s.size : Int) = ((s.size : Nat) : Int) := wrap_u16_be _ (by have : (256 : Nat) ^ 2 = 65536 := rfl; omega)
  go_enter Try.func14, Try.ntmps14
  go_wp2_with (first
    | (go_at_call 17; refine (Add16_any _ _ _ _ _ _ h (by omega) (by omega)).mono ?_; rintro e w1 ⟨g, c1, rfl, hN⟩)
    | (at_builtin; go_loud (with_reducible refine Lib.wpList_append_own_string w1 rfl (.tmp 13) (.tmp 14) 24 9 rfl w.heap.size 5 i0 Try.underlying24 Try.underlying9 hi hz0 hz1 hz2 (.slice (some ⟨g, 0, none⟩) (n + 2) c1) (n + 2) _ rfl hN.own s rfl ?h1 ?h2 hN.bel.size ?_)))
  case h1 => unfold maxLen; omega
  case h2 => omega
  intro v' w2 hown hgrow _
  go_wp2
  go_ret2
  obtain ⟨g2, cap, rfl⟩ : ∃ g2 cap, v' = .slice (some ⟨g2, 0, none⟩) (n + 2 + s.size) cap := by
    rcases hown.2 with ⟨_, h0⟩ | ⟨g', cap, cur, hv, _⟩
    · omega
    · exact ⟨g', cap, hv⟩
  refine ⟨g2, cap, rfl, ⟨?_, hN.bel.grown hgrow hN.bel.size (fun k hk => ?_), by omega⟩⟩
  · have e : Lib.strCells s = s.data.toList.map bv := rfl
    rw [e] at hown
    rw [List.map_append, List.map_append, List.append_assoc]
    exact hown
  · simp [Value.ownBlock] at hk
    subst hk
    exact hN.row.1
end Go.Proofs.Ytdaekdfogcgdfaa
