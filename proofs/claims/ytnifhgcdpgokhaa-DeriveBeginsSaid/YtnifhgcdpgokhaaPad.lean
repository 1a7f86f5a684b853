/-
  The contract of padding: a new list, the padding's bytes.
-/
import Derived.Test.YtnifhgcdpgokhaaLent
import Derived.Test.YtnifhgcdpgokhaaNum
namespace Go.Proofs.Ytnifhgcdpgokhaa
open Go.RowKit

theorem slot_u64 {a b : Int} (h : a = b) : Value.int .u64 a = .int .u64 b := by rw [h]
/-- What the row is while the last k of the nb bytes are written. -/
def part (l : List UInt8) (nb k v : Nat) : List Value := l.map bv ++ (List.replicate (nb - k) (Value.int .u8 0) ++ (bytesN k v).map bv)
theorem part_len (l : List UInt8) (nb k v : Nat) (h : k ≤ nb) : (part l nb k v).length = l.length + nb := by
  simp [part, length_bytesN]; omega
theorem part_end (l : List UInt8) (nb v : Nat) : part l nb nb v = (l ++ bytesN nb v).map bv := by simp [part]
theorem part_start (l : List UInt8) (nb v : Nat) : part l nb 0 v = l.map bv ++ List.replicate nb (Value.int .u8 0) := by simp [part, bytesN]
theorem part_set (l : List UInt8) (nb k v m : Nat) (hk : k < nb) (hm : m + k + 1 = l.length + nb) :
    (part l nb k v).set m (.int .u8 (((v / 256 ^ k % 256 : Nat) : Int))) = part l nb (k + 1) v := by
  unfold part
  rw [List.set_append_right _ _ (by simp; omega)]
  congr 1
  obtain ⟨d, hd⟩ : ∃ d, nb - k = d + 1 := ⟨nb - k - 1, by omega⟩
  have hd2 : nb - (k + 1) = d := by omega
  rw [hd, hd2, List.replicate_succ', List.append_assoc, bytesN_cons]
  have hi : m - (l.map bv).length = d := by simp; omega
  rw [hi, List.set_append_right _ _ (by simp)]
  simp [bv]
def headP (n : Nat) : List UInt8 := 128 :: List.replicate (noughts n) 0
theorem headP_len (n : Nat) : (headP n).length = noughts n + 1 := by simp [headP]
theorem pad_eq (n : Nat) : pad n = headP n ++ bytesN 8 (8 * n) := by simp [pad, headP, be8]
theorem part_first (n : Nat) : (List.replicate (9 + noughts n) (Value.int .u8 0)).set 0 (.int .u8 128) = part (headP n) 8 0 (8 * n) := by
  rw [part_start, headP, show 9 + noughts n = (noughts n + 8) + 1 by omega, List.replicate_succ, List.set_cons_zero, List.map_cons, List.map_replicate, List.cons_append]
  have e : List.replicate (noughts n) (bv 0) ++ List.replicate 8 (Value.int .u8 0) = List.replicate (noughts n + 8) (Value.int .u8 0) := by
    rw [show bv 0 = Value.int .u8 0 from rfl, List.replicate_append_replicate]
  rw [e]
  rfl
theorem first_nought (n : Nat) : (List.replicate (9 + noughts n) (Value.int .u8 0)).toArray[0]? = some (.int .u8 0) := by
  rw [List.getElem?_toArray, List.getElem?_replicate, if_pos (by omega)]
theorem noughts_eq (n : Nat) : ((noughts n : Nat) : Int) = (64 - ((n : Int) + 9) % 64) % 64 := by unfold noughts; omega

set_option maxRecDepth 10000 in
set_option maxHeartbeats 1000000 in
theorem padding_any (n : Nat) (w : World) (hn : n < 1152921504606846976) :
    Calls Try.prog 36 #[.int .i64 n] w fun e w' => ∃ g, e = .returned (.slice (some ⟨g, 0, none⟩) (9 + noughts n) (9 + noughts n)) ∧ New w w' g (9 + noughts n) (9 + noughts n) (pad n) := by
  obtain ⟨i0, hi, hz0, hz1, hz2⟩ := info_parts Try.info5
  have hq := noughts_eq n
  have hq2 : noughts n < 64 := by unfold noughts; omega
  have Hq := hid hq
  clear hq
  go_enter Try.func36, Try.ntmps36
  go_wp2_with (first
    | (at_make; (refine wpList_make_full _ rfl _ _ 22 rfl w.heap.size 5 i0 (.int .u8 0) 1 Try.underlying22 hi hz0 hz1 _ _ _ _ (9 + noughts n) rfl rfl (by have q := Hq.out; omega) (by have q := Hq.out; omega) (by rw [hz2]; omega) (by unfold maxLen; omega) (Nat.le_refl _) ?_); intro w1 hown1 hgrow1; have q := own_row hown1; rw [made_cells] at q; have Hrow := hid q; clear q; have hb1 : Below w.heap.size w w1 := (Below.refl _ _).grown hgrow1 (Nat.le_refl _) (by simp); have hcell : w1.cell? ⟨w.heap.size, 0, none⟩ = some (.int .u8 0) := (by rw [row_cell Hrow.out 0]; exact first_nought n); have hfree := row_free Hrow.out 0; clear hown1 hgrow1))
  have hb2 : Below w.heap.size w (w1.setCell ⟨w.heap.size, 0, none⟩ (.int .u8 128)) := hb1.setCell (Nat.le_refl _) _
  have Hr2 := row_set Hrow.out 0 (.int .u8 128)
  rw [set_toArray, part_first] at Hr2
  have Hr3 := hid Hr2
  have hlz := headP_len n
  have Hlz := hid hlz
  clear Hr2 hlz hcell hfree Hrow hb1
  go_loopw [22] (fun i wr => ∃ (k : Nat), k ≤ 8 ∧ i = .int .i64 k ∧ Hid (wr.heap[w.heap.size]? = some (.cells (part (headP n) 8 k (8 * n)).toArray 5 (0, 0))) ∧ Below w.heap.size w wr) (fun i _ => 8 - (intOf i).toNat)
  case atStart => exact ⟨0, Nat.zero_le _, rfl, Hr3, hb2⟩
  case round =>
    obtain ⟨k, hk, rfl, hrow, hbel⟩ := hrel
    by_cases hlt : k < 8
    · have hset := part_set (headP n) 8 k (8 * n) (noughts n + 8 - k) hlt (by rw [Hlz.out]; omega)
      have hlen := part_len (headP n) 8 k (8 * n) hk
      have hm : noughts n + 8 - k < (part (headP n) 8 k (8 * n)).length := by rw [hlen, Hlz.out]; omega
      have hcell := row_cell hrow.out (noughts n + 8 - k)
      rw [List.getElem?_toArray, List.getElem?_eq_getElem hm] at hcell
      have hfree := row_free hrow.out (noughts n + 8 - k)
      obtain ⟨m, hmm⟩ : ∃ m, m = noughts n + 8 - k := ⟨_, rfl⟩
      obtain ⟨v0, hv0⟩ : ∃ v0, v0 = (part (headP n) 8 k (8 * n))[noughts n + 8 - k]'hm := ⟨_, rfl⟩
      rw [← hv0] at hcell
      rw [← hmm] at hcell hfree hset
      clear hm hv0 hlen
      obtain ⟨Nn, hNn⟩ : ∃ Nn, Nn = noughts n := ⟨_, rfl⟩
      rw [← hNn] at hmm hq2 ⊢
      have hmi : 9 + (Nn : Int) - 1 - (k : Int) = (m : Int) := by omega
      have hmz : (m : Int) < 9 + (Nn : Int) := by omega
      have HN := hid (And.intro hNn hmm)
      have Hset := hid hset
      clear hNn hmm hset
      rcases (show k = 0 ∨ k = 1 ∨ k = 2 ∨ k = 3 ∨ k = 4 ∨ k = 5 ∨ k = 6 ∨ k = 7 by omega) with rfl | rfl | rfl | rfl | rfl | rfl | rfl | rfl
      · simp only [Int.sub_zero, Int.natCast_zero] at hmi
        go_wp2_with fail
        go_roundw
        case rel =>
          have e := row_set hrow.out m (.int .u8 ((8 * n / 256 ^ 0 % 256 : Nat) : Int))
          rw [set_toArray, Hset.out] at e
          have ev : ((8 * n / 256 ^ 0 % 256 : Nat) : Int) = 8 * (n : Int) % 256 := by
            show ((8 * n / 1 % 256 : Nat) : Int) = _
            omega
          rw [ev] at e
          exact ⟨0 + 1, by omega, rfl, e, hbel.setCell (Nat.le_refl _) _⟩
        case measure => simp [intOf]
      · simp only [Int.natCast_one] at hmi
        go_wp2_with fail
        go_roundw
        case rel =>
          have e := row_set hrow.out m (.int .u8 ((8 * n / 256 ^ 1 % 256 : Nat) : Int))
          rw [set_toArray, Hset.out] at e
          have ev : ((8 * n / 256 ^ 1 % 256 : Nat) : Int) = 8 * (n : Int) / 256 % 256 := by
            show ((8 * n / 256 % 256 : Nat) : Int) = _
            omega
          rw [ev] at e
          exact ⟨1 + 1, by omega, rfl, e, hbel.setCell (Nat.le_refl _) _⟩
        case measure => simp [intOf]
      · rw [show ((2 : Nat) : Int) = 2 from rfl] at hmi
        go_wp2_with fail
        go_roundw
        case rel =>
          have e := row_set hrow.out m (.int .u8 ((8 * n / 256 ^ 2 % 256 : Nat) : Int))
          rw [set_toArray, Hset.out] at e
          have ev : ((8 * n / 256 ^ 2 % 256 : Nat) : Int) = 8 * (n : Int) / 65536 % 256 := by
            show ((8 * n / 65536 % 256 : Nat) : Int) = _
            omega
          rw [ev] at e
          exact ⟨2 + 1, by omega, rfl, e, hbel.setCell (Nat.le_refl _) _⟩
        case measure => simp [intOf]
      · rw [show ((3 : Nat) : Int) = 3 from rfl] at hmi
        go_wp2_with fail
        go_roundw
        case rel =>
          have e := row_set hrow.out m (.int .u8 ((8 * n / 256 ^ 3 % 256 : Nat) : Int))
          rw [set_toArray, Hset.out] at e
          have ev : ((8 * n / 256 ^ 3 % 256 : Nat) : Int) = 8 * (n : Int) / 16777216 % 256 := by
            show ((8 * n / 16777216 % 256 : Nat) : Int) = _
            omega
          rw [ev] at e
          exact ⟨3 + 1, by omega, rfl, e, hbel.setCell (Nat.le_refl _) _⟩
        case measure => simp [intOf]
      · rw [show ((4 : Nat) : Int) = 4 from rfl] at hmi
        go_wp2_with fail
        go_roundw
        case rel =>
          have e := row_set hrow.out m (.int .u8 ((8 * n / 256 ^ 4 % 256 : Nat) : Int))
          rw [set_toArray, Hset.out] at e
          have ev : ((8 * n / 256 ^ 4 % 256 : Nat) : Int) = 8 * (n : Int) / 4294967296 % 256 := by
            show ((8 * n / 4294967296 % 256 : Nat) : Int) = _
            omega
          rw [ev] at e
          exact ⟨4 + 1, by omega, rfl, e, hbel.setCell (Nat.le_refl _) _⟩
        case measure => simp [intOf]
      · rw [show ((5 : Nat) : Int) = 5 from rfl] at hmi
        go_wp2_with fail
        go_roundw
        case rel =>
          have e := row_set hrow.out m (.int .u8 ((8 * n / 256 ^ 5 % 256 : Nat) : Int))
          rw [set_toArray, Hset.out] at e
          have ev : ((8 * n / 256 ^ 5 % 256 : Nat) : Int) = 8 * (n : Int) / 1099511627776 % 256 := by
            show ((8 * n / 1099511627776 % 256 : Nat) : Int) = _
            omega
          rw [ev] at e
          exact ⟨5 + 1, by omega, rfl, e, hbel.setCell (Nat.le_refl _) _⟩
        case measure => simp [intOf]
      · rw [show ((6 : Nat) : Int) = 6 from rfl] at hmi
        go_wp2_with fail
        go_roundw
        case rel =>
          have e := row_set hrow.out m (.int .u8 ((8 * n / 256 ^ 6 % 256 : Nat) : Int))
          rw [set_toArray, Hset.out] at e
          have ev : ((8 * n / 256 ^ 6 % 256 : Nat) : Int) = 8 * (n : Int) / 281474976710656 % 256 := by
            show ((8 * n / 281474976710656 % 256 : Nat) : Int) = _
            omega
          rw [ev] at e
          exact ⟨6 + 1, by omega, rfl, e, hbel.setCell (Nat.le_refl _) _⟩
        case measure => simp [intOf]
      · rw [show ((7 : Nat) : Int) = 7 from rfl] at hmi
        go_wp2_with fail
        go_roundw
        case rel =>
          have e := row_set hrow.out m (.int .u8 ((8 * n / 256 ^ 7 % 256 : Nat) : Int))
          rw [set_toArray, Hset.out] at e
          have ev : ((8 * n / 256 ^ 7 % 256 : Nat) : Int) = 8 * (n : Int) / 72057594037927936 := by
            show ((8 * n / 72057594037927936 % 256 : Nat) : Int) = _
            omega
          rw [ev] at e
          exact ⟨7 + 1, by omega, rfl, e, hbel.setCell (Nat.le_refl _) _⟩
        case measure => simp [intOf]
    · obtain rfl : k = 8 := by omega
      go_wp2
      go_ret
      refine ⟨w.heap.size, rfl, ?_⟩
      have e := hrow.out
      rw [part_end, ← pad_eq] at e
      have hl : (pad n).length = 9 + noughts n := by rw [pad_eq, List.length_append, length_bytesN, Hlz.out]; omega
      have := row_own e (Nat.le_refl _) (by rw [hl]; omega) hbel
      rw [hl] at this
      exact this
end Go.Proofs.Ytnifhgcdpgokhaa
