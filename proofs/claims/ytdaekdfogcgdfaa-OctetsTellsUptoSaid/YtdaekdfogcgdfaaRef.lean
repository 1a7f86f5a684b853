/-
  The contracts of the document's own answers (quillpressref01): Number, Add, AddText, Text.
-/
import Derived.Test.YtdaekdfogcgdfaaLent
namespace Go.Proofs.Ytdaekdfogcgdfaa
open Go.RowKit

theorem has_y {k n : Nat} {a : Int} (h0 : 0 ≤ a) (h : a + k ≤ n) : has k n a = true := by
  unfold has; rw [decide_eq_true_iff]; omega
theorem has_n {k n : Nat} {a : Int} (h : a < 0 ∨ (n : Int) < a + k) : has k n a = false := by
  unfold has; rw [decide_eq_false_iff_not]; omega
theorem num_succ (k P : Nat) (l : List UInt8) (h : P + (k + 1) ≤ l.length) : num (k + 1) l (P : Int) = num k l (P : Int) * 256 + ((l[P + k]'(by omega)).toNat : Int) := by
  rw [num_yes h, num_yes (by omega), take_succ_drop l P k (by omega), beN_snoc]
  simp
theorem mul_u64 (x : Nat) (h : x < 72057594037927936) : IntKind.u64.wrap ((x : Int) * 256) = (x : Int) * 256 := by rw [IntKind.wrap_u64]; omega
theorem add_u64 (x y : Nat) (h : x < 72057594037927936) (hy : y < 256) : IntKind.u64.wrap ((x : Int) * 256 + (y : Int)) = (x : Int) * 256 + (y : Int) := by rw [IntKind.wrap_u64]; omega

set_option maxHeartbeats 1000000 in
set_option maxRecDepth 10000 in
theorem Number_any (A : Option Addr) (l : List UInt8) (n c : Nat) (at_ : Int) (w : World) (h : IsB w A n c l) : ∀ k : Nat, k ≤ 8 →
    Calls Try.prog 23 #[.slice A n c, .int .i64 at_, .int .i64 k] w fun e w' => e = .returned (.tuple #[.int .u64 (num k l at_), .bool (has k n at_)]) ∧ w = w' := by
  have hs := h.small
  have hx := h.cap
  intro k
  induction k with
  | zero =>
    intro _
    by_cases h0 : at_ < 0
    · have e1 : has 0 n at_ = false := has_n (by omega)
      have e2 : num 0 l at_ = 0 := num_no (by rw [h.len]; exact e1)
      go_enter Try.func23, Try.ntmps23
      go_wp2_with fail
      go_ret2
      exact ⟨by first | rfl | (rw [e1, e2]; rfl), rfl⟩
    · by_cases h1 : (n : Int) < at_
      · have e1 : has 0 n at_ = false := has_n (by omega)
        have e2 : num 0 l at_ = 0 := num_no (by rw [h.len]; exact e1)
        go_enter Try.func23, Try.ntmps23
        go_wp2_with fail
        go_ret2
        exact ⟨by first | rfl | (rw [e1, e2]; rfl), rfl⟩
      · obtain ⟨P, rfl⟩ := Int.eq_ofNat_of_zero_le (show 0 ≤ at_ by omega)
        have e1 : has 0 n (P : Int) = true := has_y (by omega) (by omega)
        have e2 : num 0 l (P : Int) = 0 := by rw [num_yes (by rw [h.len]; omega)]; simp [beN]
        go_enter Try.func23, Try.ntmps23
        go_wp2_with fail
        go_ret2
        exact ⟨by first | rfl | (rw [e1, e2]; rfl), rfl⟩
  | succ k ih =>
    intro hk
    by_cases h0 : at_ < 0
    · have e1 : has (k + 1) n at_ = false := has_n (by omega)
      have e2 : num (k + 1) l at_ = 0 := num_no (by rw [h.len]; exact e1)
      have E1 := hid e1
      have E2 := hid e2
      clear e1 e2
      go_enter Try.func23, Try.ntmps23
      go_wp2_with fail
      go_ret2
      exact ⟨by first | rfl | (rw [E1.out, E2.out]; rfl), rfl⟩
    · by_cases h1 : (n : Int) < at_ + (k + 1)
      · have e1 : has (k + 1) n at_ = false := has_n (by omega)
        have e2 : num (k + 1) l at_ = 0 := num_no (by rw [h.len]; exact e1)
        have E1 := hid e1
        have E2 := hid e2
        clear e1 e2
        by_cases h2 : (n : Int) < at_
        · go_enter Try.func23, Try.ntmps23
          go_wp2_with fail
          go_ret2
          exact ⟨by first | rfl | (rw [E1.out, E2.out]; rfl), rfl⟩
        · have h3 : (n : Int) - at_ < k + 1 := by omega
          go_enter Try.func23, Try.ntmps23
          go_wp2_with fail
          go_ret2
          exact ⟨by first | rfl | (rw [E1.out, E2.out]; rfl), rfl⟩
      · obtain ⟨P, rfl⟩ := Int.eq_ofNat_of_zero_le (show 0 ≤ at_ by omega)
        have hle : P + (k + 1) ≤ l.length := by rw [h.len]; omega
        have e1 : has (k + 1) n (P : Int) = true := has_y (by omega) (by omega)
        have e2 := num_succ k P l hle
        have hb : beN ((l.drop P).take k) < 256 ^ k := beN_lt _ _ (by simp; omega)
        rw [num_yes (n := k) (by omega)] at e2
        have ih' := ih (by omega)
        rw [num_yes (n := k) (by omega)] at ih'
        obtain ⟨ad, rfl, hc⟩ := h.lies (by omega)
        have hcell := hc (P + k) (by omega)
        obtain ⟨x, hxx⟩ : ∃ x, x = beN ((l.drop P).take k) := ⟨_, rfl⟩
        obtain ⟨y, hyy⟩ : ∃ y, y = l[P + k].toNat := ⟨_, rfl⟩
        have hy2 : y < 256 := by rw [hyy]; exact l[P + k].toNat_lt
        rw [← hxx] at hb e2 ih'
        rw [← hyy] at hcell e2
        have hx2 : x < 72057594037927936 := by
          have : 256 ^ k ≤ 256 ^ 7 := Nat.pow_le_pow_right (by omega) (by omega)
          omega
        have m1 := mul_u64 x hx2
        have m2 := add_u64 x y hx2 hy2
        have m3 := wrap_u64_byte y hy2
        have E1 := hid e1
        have E2 := hid e2
        have IH := hid ih'
        have h3 : ((P : Int) + ((k : Int) + 1) - 1).toNat = P + k := by omega
        have h4 : (P : Int) + ((k : Int) + 1) - 1 = (P : Int) + k := by omega
        clear e1 e2 hxx hyy hc hb hx2 ih' ih
        go_enter Try.func23, Try.ntmps23
        go_wp2_with (go_at_call 23; refine IH.out.mono ?_; rintro e w' ⟨rfl, rfl⟩)
        go_ret2
        exact ⟨by rw [E1.out, E2.out]; rfl, rfl⟩

theorem toNat_mod (v : Nat) : (UInt8.ofNat (v % 256)).toNat = v % 256 := by simp
theorem one_cell (W : World) (b : UInt8) (x : Int) (hx : x = (b.toNat : Int)) : ∀ (j : Nat) (u : Value), [bv b][j]? = some u →
    (W.alloc (.cells #[.int .u8 x] 5)).cell? (({ block := W.heap.size, off := 0 } : Addr).add j) = some u := by
  intro j u hu
  have hh : (W.alloc (.cells #[.int .u8 x] 5)).heap[W.heap.size]? = some (.cells #[.int .u8 x] 5 (0, 0)) := heap_alloc_new W _
  match j, hu with
  | 0, hu =>
    rw [Addr.add_lit, Nat.zero_add, row_cell hh 0]
    simp [bv] at hu
    subst hu
    rw [hx]
    rfl
  | j + 1, hu => simp at hu
/-- What the row is while the first i bytes are copied. -/
def filled (l : List UInt8) (i : Nat) : List Value := (l.take i).map bv ++ List.replicate (l.length - i) (Value.int .u8 0)
theorem filled_len (l : List UInt8) (i : Nat) (h : i ≤ l.length) : (filled l i).length = l.length := by simp [filled]; omega
theorem filled_all (l : List UInt8) : filled l l.length = l.map bv := by simp [filled]
theorem filled_none (l : List UInt8) : filled l 0 = List.replicate l.length (Value.int .u8 0) := by simp [filled]
theorem filled_set (l : List UInt8) (i : Nat) (h : i < l.length) : (filled l i).set i (.int .u8 (l[i].toNat : Int)) = filled l (i + 1) := by
  unfold filled
  have e : ((l.take i).map bv).length = i := by simp; omega
  rw [List.set_append_right _ _ (by omega), e, Nat.sub_self]
  obtain ⟨d, hd⟩ : ∃ d, l.length - i = d + 1 := ⟨l.length - i - 1, by omega⟩
  have hd2 : l.length - (i + 1) = d := by omega
  rw [hd, hd2, List.replicate_succ, List.set_cons_zero, List.take_succ_eq_append_getElem h, List.map_append, List.append_assoc]
  rfl
set_option maxHeartbeats 1000000 in
set_option maxRecDepth 10000 in
theorem RefAdd_zero (A : Option Addr) (l : List UInt8) (n c : Nat) (v : Int) (w : World) (h : IsBB w w.heap.size A n c l) :
    Calls Try.prog 24 #[.slice A n c, .int .u64 v, .int .i64 0] w fun e w' => ∃ g c', e = .returned (.slice (some ⟨g, 0, none⟩) n c') ∧ New w w' g n c' l := by
  obtain ⟨i0, hi, hz0, hz1, hz2⟩ := info_parts Try.info5
  have hs := h.small
  have hx := h.cap
  go_enter Try.func24, Try.ntmps24
  go_wp2_with (at_make; refine wpList_make_full _ rfl _ _ 24 rfl w.heap.size 5 i0 (.int .u8 0) 1 Try.underlying24 hi hz0 hz1 _ _ _ _ n rfl rfl rfl rfl (by rw [hz2]; omega) (by unfold maxLen; omega) (Nat.le_refl _) ?_; intro w1 hown1 hgrow1; have Hrow := hid (own_row hown1); have hb1 : Below w.heap.size w w1 := (Below.refl _ _).grown hgrow1 (Nat.le_refl _) (by simp); clear hown1 hgrow1)
  go_loopw [8] (fun i wr => ∃ k : Nat, k ≤ n ∧ i = .int .i64 k ∧ Hid (wr.heap[w.heap.size]? = some (.cells (filled l k).toArray 5 (0, 0))) ∧ Below w.heap.size w wr) (fun i _ => n - (intOf i).toNat)
  case atStart =>
    refine ⟨0, Nat.zero_le _, rfl, ?_, hb1⟩
    have e := Hrow.out
    rw [made_cells] at e
    rw [filled_none, h.len]
    exact e
  case round =>
    obtain ⟨k, hk, rfl, hrow, hbel⟩ := hrel
    by_cases hlt : k < n
    · have hkl : k < l.length := by rw [h.len]; exact hlt
      obtain ⟨ad, rfl, hc⟩ := (h.below hbel).lies (by omega)
      have hcell := hc k hkl
      have hset := filled_set l k hkl
      have hm : k < (filled l k).length := by rw [filled_len l k (by omega)]; exact hkl
      have hold := row_cell hrow.out k
      rw [List.getElem?_toArray, List.getElem?_eq_getElem hm] at hold
      have hfree := row_free hrow.out k
      obtain ⟨y, hy⟩ : ∃ y : Int, y = (l[k].toNat : Int) := ⟨_, rfl⟩
      rw [← hy] at hcell hset
      have Hs := hid hset
      clear hset hy hc
      go_wp2_with fail
      go_roundw
      case rel =>
        refine ⟨k + 1, by omega, by go_num, ?_, hbel.setCell (Nat.le_refl _) _⟩
        have e := row_set hrow.out k (.int .u8 y)
        rw [set_toArray, Hs.out] at e
        exact e
      case measure => simp [intOf]; omega
    · obtain rfl : k = n := by omega
      go_wp2_with fail
      go_ret
      have e := hrow.out
      have hl := h.len
      rw [← hl] at e
      rw [filled_all] at e
      have := row_own e (Nat.le_refl _) (by omega) hbel
      rw [hl] at this
      exact ⟨_, _, rfl, this⟩
set_option maxHeartbeats 1000000 in
set_option maxRecDepth 10000 in
theorem RefAdd_any (A : Option Addr) (l : List UInt8) (n c : Nat) (w : World) (h : IsBB w w.heap.size A n c l) (hn : n + 8 ≤ 140737488355328) : ∀ (k v : Nat) (x : Int), x = (v : Int) → v < 18446744073709551616 → k ≤ 8 →
    Calls Try.prog 24 #[.slice A n c, .int .u64 x, .int .i64 k] w fun e w' => ∃ g c', e = .returned (.slice (some ⟨g, 0, none⟩) (n + k) c') ∧ New w w' g (n + k) c' (l ++ bytesN k v) := by
  intro k
  induction k with
  | zero =>
    intro v x _ _ _
    refine (RefAdd_zero A l n c x w h).mono ?_
    rintro e w' ⟨g, c', rfl, hN⟩
    exact ⟨g, c', rfl, by simpa [bytesN] using hN⟩
  | succ k ih =>
    intro v x hx hv hk
    subst hx
    have E1 : IntKind.u64.wrap ((v : Int) / 256) = (v : Int) / 256 := by rw [IntKind.wrap_u64]; omega
    have HV := hid hv
    clear hv
    obtain ⟨i0, hi, hz0, hz1, hz2⟩ := info_parts Try.info5
    have IH := hid (ih (v / 256))
    clear ih
    go_enter Try.func24, Try.ntmps24
    go_wp2_with (first
      | (go_at_call 24; refine (IH.out _ (by omega) (by have := HV.out; omega) (by omega)).mono ?_; rintro e w1 ⟨g, c1, rfl, hN⟩)
      | (at_builtin; go_loud (refine wpList_append_own _ rfl (.tmp 16) (.tmp 20) 24 rfl w.heap.size 5 i0 (.int .u8 0) 1 1 Try.underlying24 hi hz0 hz1 hz2 rfl (by decide) (.slice (some ⟨g, 0, none⟩) (n + k) c1) (n + k) ((l ++ bytesN k (v / 256)).map bv) rfl (hN.own.alloc _) ⟨w1.heap.size, 0, none⟩ 1 1 [bv (UInt8.ofNat (v % 256))] rfl rfl ?c1 ?c2 ?c3 ?c4 ?c5 ?_)))
    case c1 => exact one_cell w1 _ _ (by rw [toNat_mod]; rfl)
    case c2 => intro u hu; simp at hu; subst hu; rfl
    case c3 => unfold maxLen; omega
    case c4 => omega
    case c5 => have := hN.bel.size; simp; omega
    intro v' w2 hown hgrow _
    go_wp2
    go_ret
    have hown1 : w2.ownsRow w.heap.size 5 1 v' (n + k + 1) ((l ++ bytesN k (v / 256)).map bv ++ [bv (UInt8.ofNat (v % 256))]) := by simpa using hown
    have hown2 : w2.ownsRow w.heap.size 5 1 v' (n + (k + 1)) ((l ++ bytesN k (v / 256)).map bv ++ [bv (UInt8.ofNat (v % 256))]) := hown1
    obtain ⟨g2, c2, rfl⟩ := own_nil hown2 (by omega)
    refine ⟨g2, c2, rfl, ⟨?_, (hN.bel.alloc hN.bel.size _).grown hgrow (by have := hN.bel.size; simp; omega) (fun q hq => ?_), by omega⟩⟩
    · rw [bytesN, ← List.append_assoc, List.map_append (l₂ := [_])]
      exact hown2
    · simp [Value.ownBlock] at hq
      subst hq
      exact hN.row.1
set_option maxHeartbeats 1000000 in
set_option maxRecDepth 10000 in
theorem RefAddText_long (A : Option Addr) (n c : Nat) (s : ByteArray) (w : World) (hs : 65535 < s.size) (hm : s.size ≤ maxLen) :
    Calls Try.prog 25 #[.slice A n c, .string s] w fun e w' => e = .returned (.tuple #[.slice none 0 0, .int .i64 3]) ∧ w = w' := by
  unfold maxLen at hm
  go_enter Try.func25, Try.ntmps25
  go_wp2_with fail
  go_ret2
  exact ⟨rfl, rfl⟩
theorem str_cell (s : ByteArray) (k : Nat) (h : k < s.size) : s.data.toList.take (k + 1) = s.data.toList.take k ++ [s[k]] := by
  rw [List.take_succ_eq_append_getElem (by simpa using h)]; rfl
set_option maxHeartbeats 1000000 in
set_option maxRecDepth 10000 in
theorem RefAddText_any (A : Option Addr) (l : List UInt8) (n c : Nat) (s : ByteArray) (w : World) (h : IsBB w w.heap.size A n c l) (hs : s.size ≤ 65535) (hn : n + 100000 ≤ 140737488355328) :
    Calls Try.prog 25 #[.slice A n c, .string s] w fun e w' => ∃ g c', e = .returned (.tuple #[.slice (some ⟨g, 0, none⟩) (n + 2 + s.size) c', .int .i64 0]) ∧ New w w' g (n + 2 + s.size) c' (l ++ bytesN 2 s.size ++ s.data.toList) := by
  obtain ⟨i0, hi, hz0, hz1, hz2⟩ := info_parts Try.info5
  have E1 : IntKind.u64.wrap (s.size : Int) = (s.size : Int) := by rw [IntKind.wrap_u64]; omega
  go_enter Try.func25, Try.ntmps25
  go_wp2_with (go_at_call 24; refine (RefAdd_any _ _ _ _ _ h (by omega) 2 s.size _ rfl (by omega) (by omega)).mono ?_; rintro e w1 ⟨g, c1, rfl, hN⟩)
  go_loopw [6, 7] (fun o i wr => ∃ k g c : Nat, k ≤ s.size ∧ i = .int .i64 k ∧ o = .slice (some ⟨g, 0, none⟩) (n + 2 + k) c ∧ New w wr g (n + 2 + k) c (l ++ bytesN 2 s.size ++ s.data.toList.take k)) (fun _ i _ => s.size - (intOf i).toNat)
  case atStart => exact ⟨0, g, c1, Nat.zero_le _, rfl, rfl, by simpa using hN⟩
  case round =>
    obtain ⟨k, g', c', hk, rfl, rfl, hR⟩ := hrel
    by_cases hlt : k < s.size
    · have hts := str_cell s k hlt
      obtain ⟨b, hb⟩ : ∃ b, b = s[k] := ⟨_, rfl⟩
      rw [← hb] at hts
      have Ht := hid hts
      clear hts
      go_wp2_with (at_builtin; go_loud (refine wpList_append_own _ rfl (.tmp 22) (.tmp 26) 24 rfl w.heap.size 5 i0 (.int .u8 0) 1 1 Try.underlying24 hi hz0 hz1 hz2 rfl (by decide) (.slice (some ⟨g', 0, none⟩) (n + 2 + k) c') (n + 2 + k) ((l ++ bytesN 2 s.size ++ s.data.toList.take k).map bv) rfl (hR.own.alloc _) ⟨wr.heap.size, 0, none⟩ 1 1 [bv s[k]] rfl rfl ?c1 ?c2 ?c3 ?c4 ?c5 ?_))
      case c1 => exact one_cell wr _ _ (by simp)
      case c2 => intro u hu; simp at hu; subst hu; rfl
      case c3 => unfold maxLen; omega
      case c4 => omega
      case c5 => have := hR.bel.size; simp; omega
      intro v' w2 hown hgrow _
      have hown2 : w2.ownsRow w.heap.size 5 1 v' (n + 2 + (k + 1)) ((l ++ bytesN 2 s.size ++ s.data.toList.take (k + 1)).map bv) := by
        rw [Ht.out, hb]
        have e : ((l ++ bytesN 2 s.size ++ (s.data.toList.take k ++ [s[k]])).map bv) = List.map bv l ++ (List.map bv (bytesN 2 s.size) ++ (List.take k (List.map bv s.data.toList) ++ [bv s[k]])) := by simp
        rw [e]
        exact hown
      obtain ⟨g2, c2, rfl⟩ := own_nil hown2 (by omega)
      have hN2 : New w w2 g2 (n + 2 + (k + 1)) c2 (l ++ bytesN 2 s.size ++ s.data.toList.take (k + 1)) := ⟨hown2, (hR.bel.alloc hR.bel.size _).grown hgrow (by have := hR.bel.size; simp; omega) (fun q hq => by simp [Value.ownBlock] at hq; subst hq; exact hR.row.1), by omega⟩
      clear hown hown2 hgrow Ht hb hR
      go_wp2
      go_roundw
      case rel => exact ⟨k + 1, g2, c2, by omega, by go_num, rfl, hN2⟩
      case measure => simp [intOf]; omega
    · obtain rfl : k = s.size := by omega
      have ht : s.data.toList.take s.size = s.data.toList := List.take_of_length_le (by rw [Array.length_toList]; exact Nat.le_refl _)
      rw [ht] at hR
      go_wp2_with fail
      go_ret2
      exact ⟨g', c', rfl, hR⟩

set_option maxRecDepth 10000 in
set_option maxHeartbeats 400000 in
theorem reftext_none (A : Option Addr) (l : List UInt8) (n c : Nat) (at_ : Int) (w : World) (h : IsB w A n c l) (hh : has 2 n at_ = false) :
    Calls Try.prog 26 #[.slice A n c, .int .i64 at_] w fun e w' => e = .returned (.tuple #[.string ⟨#[]⟩, .int .i64 0, .bool false]) ∧ w = w' := by
  go_enter Try.func26, Try.ntmps26
  go_wp2_with (go_at_call 23; refine (Number_any _ _ _ _ _ _ h 2 (by omega)).mono ?_; rintro e w' ⟨rfl, rfl⟩)
  go_ret3
  exact ⟨rfl, rfl⟩
set_option maxRecDepth 10000 in
set_option maxHeartbeats 400000 in
theorem reftext_short (A : Option Addr) (l : List UInt8) (n c k m : Nat) (w : World) (h : IsB w A n c l) (hk : k + 2 ≤ n) (hm : num 2 l (k : Int) = (m : Int)) (hm2 : (m : Int) ≤ 65535) (hs : n < k + 2 + m) :
    Calls Try.prog 26 #[.slice A n c, .int .i64 k] w fun e w' => e = .returned (.tuple #[.string ⟨#[]⟩, .int .i64 0, .bool false]) ∧ w = w' := by
  have hh : has 2 n (k : Int) = true := has_yes hk
  have hx := h.max
  have hx2 := h.cap
  have hx3 := h.small
  unfold maxLen at hx
  go_enter Try.func26, Try.ntmps26
  go_wp2_with (go_at_call 23; refine (Number_any _ _ _ _ _ _ h 2 (by omega)).mono ?_; rintro e w' ⟨rfl, rfl⟩)
  go_ret3
  exact ⟨rfl, rfl⟩
set_option maxRecDepth 10000 in
set_option maxHeartbeats 400000 in
theorem reftext_yes (A : Option Addr) (l : List UInt8) (n c k m : Nat) (w : World) (h : IsB w A n c l) (hk : k + 2 ≤ n) (hm : num 2 l (k : Int) = (m : Int)) (hm2 : (m : Int) ≤ 65535) (hs : k + 2 + m ≤ n) :
    Calls Try.prog 26 #[.slice A n c, .int .i64 k] w fun e w' => e = .returned (.tuple #[.string ⟨((l.drop (k + 2)).take m).toArray⟩, .int .i64 (k + 2 + m), .bool true]) ∧ w = w' := by
  have hh : has 2 n (k : Int) = true := has_yes hk
  have hx := h.max
  have hx2 := h.cap
  have hx3 := h.small
  unfold maxLen at hx
  obtain ⟨ad, rfl, hc⟩ := h.lies (by rw [h.len]; omega)
  rcases Nat.eq_zero_or_pos m with h0 | h0
  · subst h0
    have hz := fun (A' : Option Addr) (cc : Nat) => run_string_zero Try.prog w 24 5 9 Try.underlying24 Try.underlying5 Try.underlying9 A' cc
    have Hc := hid hc
    clear hc
    go_enter Try.func26, Try.ntmps26
    go_wp2_with (go_at_call 23; refine (Number_any _ _ _ _ _ _ h 2 (by omega)).mono ?_; rintro e w' ⟨rfl, rfl⟩)
    all_goals
      go_ret3
      exact ⟨by simp, rfl⟩
  · have hsub : IsB w (some (ad.add (k + 2))) m (c - (k + 2)) ((l.drop (k + 2)).take m) := by
      refine ⟨by simp [h.len]; omega, by omega, by unfold maxLen; omega, by omega, fun _ => ⟨_, rfl, fun j hj => ?_⟩⟩
      rw [add_of_add]
      have hj2 : j < m := by simp at hj; omega
      rw [hc (k + 2 + j) (by rw [h.len]; omega)]
      simp
    have hz := hsub.conv
    have ea : ad.add (k + 2) = { block := ad.block, off := ad.off + (k + 1 + 1) } := by unfold Addr.add; rw [if_neg (by omega)]
    rw [ea] at hz
    have Hc := hid hc
    clear hc ea
    go_enter Try.func26, Try.ntmps26
    go_wp2_with (go_at_call 23; refine (Number_any _ _ _ _ _ _ h 2 (by omega)).mono ?_; rintro e w' ⟨rfl, rfl⟩)
    go_ret3
    exact ⟨rfl, rfl⟩
theorem RefText_any (A : Option Addr) (l : List UInt8) (n c : Nat) (at_ : Int) (w : World) (h : IsB w A n c l) :
    Calls Try.prog 26 #[.slice A n c, .int .i64 at_] w fun e w' => e = .returned (.tuple #[.string ⟨(txt l n at_).toArray⟩, .int .i64 (txtTo l n at_), .bool (txtHas l n at_)]) ∧ w = w' := by
  cases hh : has 2 n at_ with
  | false =>
    have ht : txtHas l n at_ = false := by unfold txtHas; rw [hh]; rfl
    refine (reftext_none A l n c at_ w h hh).mono ?_
    rintro e w' ⟨rfl, rfl⟩
    exact ⟨by rw [(txt_no ht).1, (txt_no ht).2, ht], rfl⟩
  | true =>
    have hp : 0 ≤ at_ ∧ at_ + 2 ≤ n := by
      have := hh
      unfold has at this
      rw [decide_eq_true_iff] at this
      omega
    obtain ⟨k, rfl⟩ := Int.eq_ofNat_of_zero_le hp.1
    have hk : k + 2 ≤ n := by omega
    obtain ⟨m, hm, hm2⟩ := num16_lt l k (by rw [h.len]; exact hk)
    by_cases hs : k + 2 + m ≤ n
    · have ht : txtHas l n (k : Int) = true := by
        unfold txtHas; rw [hh, hm]; simp; omega
      refine (reftext_yes A l n c k m w h hk hm hm2 hs).mono ?_
      rintro e w' ⟨rfl, rfl⟩
      refine ⟨?_, rfl⟩
      unfold txt txtTo
      rw [if_pos ht, if_pos ht, ht, hm]
      rfl
    · have ht : txtHas l n (k : Int) = false := by
        unfold txtHas; rw [hh, hm]; simp; omega
      refine (reftext_short A l n c k m w h hk hm hm2 (by omega)).mono ?_
      rintro e w' ⟨rfl, rfl⟩
      exact ⟨by rw [(txt_no ht).1, (txt_no ht).2, ht], rfl⟩
end Go.Proofs.Ytdaekdfogcgdfaa
