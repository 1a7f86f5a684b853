/-
  The contracts of put and Add8 to Add64: a new list of the bytes and the number's; nothing that was there is written.
-/
import Derived.Test.YtdaekdfogcgdfaaAsk
import Derived.Laws.CopyOwn
namespace Go.Proofs.Ytdaekdfogcgdfaa
open Go.RowKit

theorem Try.info5 : (Try.prog.info? 5).map (fun i => (i.zero, i.size, i.bytes)) = some (some (.int .u8 0), 1, 1) := by kernel_rfl
theorem Try.size5 : (Try.prog.info? 5).map (·.size) = some 1 := by kernel_rfl

/-- A new list of bytes, in memory of the call's own: block g, not frozen. -/
structure New (w w' : World) (g n c : Nat) (l : List UInt8) : Prop where
  own : w'.ownsRow w.heap.size 5 1 (.slice (some ⟨g, 0, none⟩) n c) n (l.map bv)
  bel : Below w.heap.size w w'
  small : n ≤ 140737488355328

theorem map_bv_getElem? (l : List UInt8) (j : Nat) (h : j < l.length) : (l.map bv)[j]? = some (.int .u8 (l[j].toNat : Int)) := by
  simp [bv, h]
theorem New.len {w w' : World} {g n c : Nat} {l : List UInt8} (h : New w w' g n c l) : l.length = n := by simpa using h.own.1
theorem New.row {w w' : World} {g n c : Nat} {l : List UInt8} (h : New w w' g n c l) :
    w.heap.size ≤ g ∧ g < w'.heap.size ∧ n ≤ c ∧ c ≤ maxLen ∧ ∃ cur, w'.heap[g]? = some (.cells cur 5 (0, 0)) ∧ cur.size = c ∧ cur.toList.take n = l.map bv := by
  rcases h.own.2 with ⟨h1, _⟩ | ⟨g', cap, cur, hv, hg, hh, hn, hm, hs, ht⟩
  · cases h1
  · cases hv
    refine ⟨hg, ?_, hn, hm, cur, hh, by simpa using hs, by simpa using ht⟩
    rcases Nat.lt_or_ge g w'.heap.size with hlt | hge
    · exact hlt
    · rw [Array.getElem?_eq_none hge] at hh; cases hh
theorem New.isB {w w' : World} {g n c : Nat} {l : List UInt8} (h : New w w' g n c l) : IsB w' (some ⟨g, 0, none⟩) n c l := by
  obtain ⟨_, _, hn, hm, _⟩ := h.row
  refine ⟨h.len, hn, hm, h.small, fun _ => ⟨_, rfl, fun j hj => ?_⟩⟩
  exact h.own.cells (g := g) rfl j _ (map_bv_getElem? l j hj)
theorem IsB.to {w w' : World} {A : Option Addr} {n c : Nat} {l : List UInt8} (h : IsB w A n c l) (hk : ∀ ad, A = some ad → ∀ j, w'.cell? (ad.add j) = w.cell? (ad.add j)) : IsB w' A n c l :=
  ⟨h.len, h.cap, h.max, h.small, fun hp => by
    obtain ⟨ad, e, hc⟩ := h.lies hp
    exact ⟨ad, e, fun j hj => (hk ad e j).trans (hc j hj)⟩⟩
theorem block_of_add (a : Addr) (n : Nat) : (a.add n).block = a.block := by unfold Addr.add; split <;> rfl
/-- Bytes that lie in a block below B. -/
structure IsBB (w : World) (B : Nat) (A : Option Addr) (n c : Nat) (l : List UInt8) : Prop extends IsB w A n c l where
  low : 0 < l.length → ∀ ad, A = some ad → ad.block < B
theorem IsBB.below {w w' : World} {B : Nat} {A : Option Addr} {n c : Nat} {l : List UInt8} (h : IsBB w B A n c l) (hb : Below B w w') : IsBB w' B A n c l :=
  ⟨⟨h.len, h.cap, h.max, h.small, fun hp => by
    obtain ⟨ad, e, hc⟩ := h.lies hp
    exact ⟨ad, e, fun j hj => (hb.cell (p := ad.add j) (by rw [block_of_add]; exact h.low hp ad e)).trans (hc j hj)⟩⟩, h.low⟩
theorem New.isBB {w w' : World} {g n c : Nat} {l : List UInt8} (h : New w w' g n c l) : IsBB w' w'.heap.size (some ⟨g, 0, none⟩) n c l :=
  ⟨h.isB, fun _ ad e => by cases e; exact h.row.2.1⟩
theorem isBB_nil (w : World) (B : Nat) : IsBB w B none 0 0 [] := ⟨⟨rfl, Nat.le_refl _, Nat.zero_le _, Nat.zero_le _, fun h => absurd h (by simp)⟩, fun h => absurd h (by simp)⟩

theorem row_set {w : World} {g : Nat} {t : TypeId} {cs : Array Value} (h : w.heap[g]? = some (.cells cs t (0, 0))) (i : Nat) (u : Value) :
    (w.setCell ⟨g, i, none⟩ u).heap[g]? = some (.cells (cs.setIfInBounds i u) t (0, 0)) := by
  simp [World.setCell, Array.getElem?_modify, h]
theorem row_cell {w : World} {g : Nat} {t : TypeId} {cs : Array Value} (h : w.heap[g]? = some (.cells cs t (0, 0))) (i : Nat) : w.cell? ⟨g, i, none⟩ = cs[i]? := cell_of_row w g i cs t (0, 0) h
theorem row_free {w : World} {g : Nat} {t : TypeId} {cs : Array Value} (h : w.heap[g]? = some (.cells cs t (0, 0))) (i : Nat) : w.frozen? ⟨g, i, none⟩ = false := by
  simp [World.frozen?, h]
theorem row_own {w w' : World} {g : Nat} {l : List UInt8} (h : w'.heap[g]? = some (.cells (l.map bv).toArray 5 (0, 0))) (hg : w.heap.size ≤ g) (hm : l.length ≤ 140737488355328) (hb : Below w.heap.size w w') : New w w' g l.length l.length l :=
  ⟨⟨by simp, .inr ⟨g, l.length, _, rfl, hg, h, Nat.le_refl _, by unfold maxLen; omega, by simp, by rw [List.take_of_length_le (by simp)]⟩⟩, hb, hm⟩
theorem own_row {w : World} {base g n : Nat} {xs : List Value} (h : w.ownsRow base 5 1 (.slice (some ⟨g, 0, none⟩) n n) n xs) : w.heap[g]? = some (.cells xs.toArray 5 (0, 0)) := by
  rcases h.2 with ⟨h1, _⟩ | ⟨g', cap, cur, hv, hg, hh, hn, hm, hs, ht⟩
  · cases h1
  · cases hv
    have : cur = xs.toArray := by
      apply Array.ext'
      rw [← ht, List.take_of_length_le (by simp; omega)]
    rw [hh, this]
theorem slot_u64 {a b : Int} (h : a = b) : Value.int .u64 a = .int .u64 b := by rw [h]
/-- What the row is while the last k of the nb bytes are written. -/
def part (l : List UInt8) (nb k v : Nat) : List Value := l.map bv ++ (List.replicate (nb - k) (Value.int .u8 0) ++ (bytesN k v).map bv)
theorem part_len (l : List UInt8) (nb k v : Nat) (h : k ≤ nb) : (part l nb k v).length = l.length + nb := by
  simp [part, length_bytesN]; omega
theorem part_end (l : List UInt8) (nb v : Nat) : part l nb nb v = (l ++ bytesN nb v).map bv := by simp [part]
theorem part_start (l : List UInt8) (nb v : Nat) : part l nb 0 v = l.map bv ++ List.replicate nb (Value.int .u8 0) := by simp [part, bytesN]
theorem part_set (l : List UInt8) (nb k v m : Nat) (hk : k < nb) (hm : m + k + 1 = l.length + nb) :
    (part l nb k v).set m (.int .u8 (((v / 256 ^ k % 256 : Nat) : Int))) = part l nb (k + 1) v := by
  unfold part
  rw [List.set_append_right _ _ (by simp; omega)]
  congr 1
  obtain ⟨d, hd⟩ : ∃ d, nb - k = d + 1 := ⟨nb - k - 1, by omega⟩
  have hd2 : nb - (k + 1) = d := by omega
  rw [hd, hd2, List.replicate_succ', List.append_assoc, bytesN_cons]
  have hi : m - (l.map bv).length = d := by simp; omega
  rw [hi, List.set_append_right _ _ (by simp)]
  simp [bv]
theorem set_toArray (L : List Value) (m : Nat) (u : Value) : L.toArray.setIfInBounds m u = (L.set m u).toArray := by simp
theorem wrap_u64_in (v : Nat) (h : v < 18446744073709551616) : IntKind.u64.wrap (v : Int) = (v : Int) := by rw [IntKind.wrap_u64]; omega
theorem splice_front (cs Z : List Value) : splice (cs ++ Z) 0 cs = cs ++ Z := by simp [splice]
theorem splice_zero (cs : List Value) (n nb : Nat) (z : Value) (h : cs.length = n) : splice (List.replicate (n + nb) z) 0 cs = cs ++ List.replicate nb z := by
  unfold splice
  rw [List.drop_replicate]
  simp
  omega
theorem made_cells (n : Nat) : (madeCells (Value.int .u8 0).cells (n * 1)).toList = List.replicate n (Value.int .u8 0) := by
  have e : (Value.int .u8 0).cells = #[Value.int .u8 0] := rfl
  rw [e, Nat.mul_one]
  apply List.ext_getElem
  · simp [size_madeCells]
  · intro i h1 h2
    simp [madeCells, Nat.mod_one]

theorem IsBB.src {w w' : World} {B : Nat} {A : Option Addr} {n c : Nat} {l : List UInt8} (h : IsBB w B A n c l) (hb : Below B w w') :
    0 < (l.map bv).length → ∃ ad, A = some ad ∧ ∀ j v, (l.map bv)[j]? = some v → w'.cell? (ad.add j) = some v := by
  intro hp
  obtain ⟨ad, e, hc⟩ := (h.below hb).lies (by simpa using hp)
  refine ⟨ad, e, fun j v hv => ?_⟩
  have hj : j < l.length := by
    have := (List.getElem?_eq_some_iff.1 hv).1
    simpa using this
  rw [map_bv_getElem? l j hj] at hv
  cases hv
  exact hc j hj
theorem IsBB.src2 {w w' : World} {B : Nat} {A : Option Addr} {n c : Nat} {l : List UInt8} (h : IsBB w B A n c l) (hb : Below B w w') :
    0 < l.length → ∃ ad, A = some ad ∧ ∀ (j : Nat) (a : UInt8), l[j]? = some a → w'.cell? (ad.add j) = some (bv a) := by
  intro hp
  obtain ⟨ad, e, hc⟩ := h.src hb (by simpa using hp)
  exact ⟨ad, e, fun j a ha => hc j (bv a) (by simp [ha])⟩
theorem bv_one (l : List UInt8) : ∀ v ∈ l.map bv, v.oneCell' = true := by
  intro v hv
  obtain ⟨b, _, rfl⟩ := List.mem_map.1 hv
  rfl

set_option maxRecDepth 10000 in
set_option maxHeartbeats 400000 in
theorem put8_any (A : Option Addr) (l : List UInt8) (n c v : Nat) (w : World) (h : IsBB w w.heap.size A n c l) (hv : v < 256) (hn : n + 8 ≤ 140737488355328) :
    Calls Try.prog 38 #[.slice A n c, .int .u8 v] w fun e w' => ∃ g c', e = .returned (.slice (some ⟨g, 0, none⟩) (n + 1) c') ∧ New w w' g (n + 1) c' (l ++ bytesN 1 v) := by
  obtain ⟨i0, hi, hz0, hz1, hz2⟩ := info_parts Try.info5
  have Hlen := hid h.len
  have E1 := wrap_u64_in v (by omega)
  go_enter Try.func38, Try.ntmps38
  go_wp2_with (first
    | (go_at_call 51; refine (width8 _).mono ?_; rintro e w' ⟨rfl, rfl⟩)
    | (at_make; (refine wpList_make_full _ rfl _ _ 24 rfl w.heap.size 5 i0 (.int .u8 0) 1 Try.underlying24 hi hz0 hz1 _ _ _ _ (n + 1) rfl rfl (by omega) (by omega) (by rw [hz2]; omega) (by unfold maxLen; omega) (Nat.le_refl _) ?_); intro w1 hown1 hgrow1; have Hrow := hid (own_row hown1); have hb1 : Below w.heap.size w w1 := (Below.refl _ _).grown hgrow1 (Nat.le_refl _) (by simp); clear hown1 hgrow1)
    | (with_reducible refine wpList_copy_splice rfl (.tmp 13) (.tmp 14) 24 24 rfl 5 Try.underlying24 Try.size5 _ _ _ _ _ _ rfl rfl w.heap.size 0 (List.replicate (n + 1) (.int .u8 0)) 5 ?g1 (l.map bv) ?g2 ?g3 ?g4 (bv_one l) w.heap.size w hb1 (Nat.le_refl _) ?_))
  case g1 => rw [← made_cells]; exact Hrow.out
  case g2 => rw [List.length_map, Hlen.out]; exact (Nat.min_eq_left (by omega)).symm
  case g3 => intro hp; first | exact ⟨rfl, h.src hb1 hp⟩ | exact h.src2 hb1 (by simpa using hp)
  case g4 => rw [List.length_map, Hlen.out, List.length_replicate]; omega
  intro w2 Hr2 hb2
  go_wp2
  go_loopw [6, 7] (fun r i wr => ∃ (j : Int) (k : Nat), k ≤ 1 ∧ j + k + 1 = n + 1 ∧ i = .int .i64 j ∧ r = .int .u64 ((v / 256 ^ k : Nat) : Int) ∧ Hid (wr.heap[w.heap.size]? = some (.cells (part l 1 k v).toArray 5 (0, 0))) ∧ Below w.heap.size w wr) (fun _ i _ => (intOf i + 1 - n).toNat)
  case atStart =>
    refine ⟨_, 0, Nat.zero_le _, ?_, rfl, ?_, ?_, hb2⟩
    · omega
    · exact slot_u64 (by simp)
    · rw [part_start]
      have e := Hr2.out
      rw [splice_zero _ n 1 _ (by rw [List.length_map, Hlen.out])] at e
      exact e
  case round =>
    obtain ⟨j, k, hk, hjk, rfl, rfl, hrow, hbel⟩ := hrel
    by_cases hlt : k < 1
    · obtain ⟨m, rfl⟩ := Int.eq_ofNat_of_zero_le (show 0 ≤ j by omega)
      have hset := hid (part_set l 1 k v m hlt (by rw [Hlen.out]; omega))
      have hlen := part_len l 1 k v hk
      have hm : m < (part l 1 k v).length := by rw [hlen, Hlen.out]; omega
      have hcell := row_cell hrow.out m
      rw [List.getElem?_toArray, List.getElem?_eq_getElem hm] at hcell
      have hfree := row_free hrow.out m
      obtain ⟨r, hr⟩ : ∃ r, r = v / 256 ^ k := ⟨_, rfl⟩
      have hr2 : r / 256 = v / 256 ^ (k + 1) := by rw [hr, Nat.div_div_eq_div_mul, Nat.pow_succ]
      rw [← hr] at hset
      rw [← hr]
      have Hr := hid hr2
      clear hr hr2 hlen
      go_wp2
      go_roundw
      case rel =>
        refine ⟨(m : Int) - 1, k + 1, by omega, by omega, rfl, slot_u64 (by rw [← Hr.out]; omega), ?_, hbel.setCell (Nat.le_refl _) _⟩
        have e := row_set hrow.out m (.int .u8 ((r % 256 : Nat) : Int))
        rw [set_toArray, hset.out] at e
        exact e
      case measure => simp [intOf]; omega
    · obtain rfl : k = 1 := by omega
      go_wp2
      go_ret
      refine ⟨w.heap.size, n + 1, rfl, ?_⟩
      have e := hrow.out
      rw [part_end] at e
      have hl : (l ++ bytesN 1 v).length = n + 1 := by rw [List.length_append, length_bytesN, Hlen.out]
      have := row_own e (Nat.le_refl _) (by rw [hl]; omega) hbel
      rw [hl] at this
      exact this
set_option maxHeartbeats 400000 in
theorem Add8_any (A : Option Addr) (l : List UInt8) (n c v : Nat) (w : World) (h : IsBB w w.heap.size A n c l) (hv : v < 256) (hn : n + 8 ≤ 140737488355328) :
    Calls Try.prog 18 #[.slice A n c, .int .u8 v] w fun e w' => ∃ g c', e = .returned (.slice (some ⟨g, 0, none⟩) (n + 1) c') ∧ New w w' g (n + 1) c' (l ++ bytesN 1 v) := by
  have HV := hid hv
  clear hv
  go_enter Try.func18, Try.ntmps18
  go_wp2_with (go_at_call 38; refine (put8_any _ _ _ _ _ _ h HV.out hn).mono ?_; rintro e w' ⟨g, c', rfl, hN⟩)
  go_ret
  exact ⟨g, c', rfl, hN⟩
set_option maxRecDepth 10000 in
set_option maxHeartbeats 400000 in
theorem put16_any (A : Option Addr) (l : List UInt8) (n c v : Nat) (w : World) (h : IsBB w w.heap.size A n c l) (hv : v < 65536) (hn : n + 8 ≤ 140737488355328) :
    Calls Try.prog 37 #[.slice A n c, .int .u16 v] w fun e w' => ∃ g c', e = .returned (.slice (some ⟨g, 0, none⟩) (n + 2) c') ∧ New w w' g (n + 2) c' (l ++ bytesN 2 v) := by
  obtain ⟨i0, hi, hz0, hz1, hz2⟩ := info_parts Try.info5
  have Hlen := hid h.len
  have E1 := wrap_u64_in v (by omega)
  go_enter Try.func37, Try.ntmps37
  go_wp2_with (first
    | (go_at_call 49; refine (width16 _).mono ?_; rintro e w' ⟨rfl, rfl⟩)
    | (at_make; (refine wpList_make_full _ rfl _ _ 24 rfl w.heap.size 5 i0 (.int .u8 0) 1 Try.underlying24 hi hz0 hz1 _ _ _ _ (n + 2) rfl rfl (by omega) (by omega) (by rw [hz2]; omega) (by unfold maxLen; omega) (Nat.le_refl _) ?_); intro w1 hown1 hgrow1; have Hrow := hid (own_row hown1); have hb1 : Below w.heap.size w w1 := (Below.refl _ _).grown hgrow1 (Nat.le_refl _) (by simp); clear hown1 hgrow1)
    | (with_reducible refine wpList_copy_splice rfl (.tmp 13) (.tmp 14) 24 24 rfl 5 Try.underlying24 Try.size5 _ _ _ _ _ _ rfl rfl w.heap.size 0 (List.replicate (n + 2) (.int .u8 0)) 5 ?g1 (l.map bv) ?g2 ?g3 ?g4 (bv_one l) w.heap.size w hb1 (Nat.le_refl _) ?_))
  case g1 => rw [← made_cells]; exact Hrow.out
  case g2 => rw [List.length_map, Hlen.out]; exact (Nat.min_eq_left (by omega)).symm
  case g3 => intro hp; first | exact ⟨rfl, h.src hb1 hp⟩ | exact h.src2 hb1 (by simpa using hp)
  case g4 => rw [List.length_map, Hlen.out, List.length_replicate]; omega
  intro w2 Hr2 hb2
  go_wp2
  go_loopw [6, 7] (fun r i wr => ∃ (j : Int) (k : Nat), k ≤ 2 ∧ j + k + 1 = n + 2 ∧ i = .int .i64 j ∧ r = .int .u64 ((v / 256 ^ k : Nat) : Int) ∧ Hid (wr.heap[w.heap.size]? = some (.cells (part l 2 k v).toArray 5 (0, 0))) ∧ Below w.heap.size w wr) (fun _ i _ => (intOf i + 1 - n).toNat)
  case atStart =>
    refine ⟨_, 0, Nat.zero_le _, ?_, rfl, ?_, ?_, hb2⟩
    · omega
    · exact slot_u64 (by simp)
    · rw [part_start]
      have e := Hr2.out
      rw [splice_zero _ n 2 _ (by rw [List.length_map, Hlen.out])] at e
      exact e
  case round =>
    obtain ⟨j, k, hk, hjk, rfl, rfl, hrow, hbel⟩ := hrel
    by_cases hlt : k < 2
    · obtain ⟨m, rfl⟩ := Int.eq_ofNat_of_zero_le (show 0 ≤ j by omega)
      have hset := hid (part_set l 2 k v m hlt (by rw [Hlen.out]; omega))
      have hlen := part_len l 2 k v hk
      have hm : m < (part l 2 k v).length := by rw [hlen, Hlen.out]; omega
      have hcell := row_cell hrow.out m
      rw [List.getElem?_toArray, List.getElem?_eq_getElem hm] at hcell
      have hfree := row_free hrow.out m
      obtain ⟨r, hr⟩ : ∃ r, r = v / 256 ^ k := ⟨_, rfl⟩
      have hr2 : r / 256 = v / 256 ^ (k + 1) := by rw [hr, Nat.div_div_eq_div_mul, Nat.pow_succ]
      rw [← hr] at hset
      rw [← hr]
      have Hr := hid hr2
      clear hr hr2 hlen
      go_wp2
      go_roundw
      case rel =>
        refine ⟨(m : Int) - 1, k + 1, by omega, by omega, rfl, slot_u64 (by rw [← Hr.out]; omega), ?_, hbel.setCell (Nat.le_refl _) _⟩
        have e := row_set hrow.out m (.int .u8 ((r % 256 : Nat) : Int))
        rw [set_toArray, hset.out] at e
        exact e
      case measure => simp [intOf]; omega
    · obtain rfl : k = 2 := by omega
      go_wp2
      go_ret
      refine ⟨w.heap.size, n + 2, rfl, ?_⟩
      have e := hrow.out
      rw [part_end] at e
      have hl : (l ++ bytesN 2 v).length = n + 2 := by rw [List.length_append, length_bytesN, Hlen.out]
      have := row_own e (Nat.le_refl _) (by rw [hl]; omega) hbel
      rw [hl] at this
      exact this
set_option maxHeartbeats 400000 in
theorem Add16_any (A : Option Addr) (l : List UInt8) (n c v : Nat) (w : World) (h : IsBB w w.heap.size A n c l) (hv : v < 65536) (hn : n + 8 ≤ 140737488355328) :
    Calls Try.prog 17 #[.slice A n c, .int .u16 v] w fun e w' => ∃ g c', e = .returned (.slice (some ⟨g, 0, none⟩) (n + 2) c') ∧ New w w' g (n + 2) c' (l ++ bytesN 2 v) := by
  have HV := hid hv
  clear hv
  go_enter Try.func17, Try.ntmps17
  go_wp2_with (go_at_call 37; refine (put16_any _ _ _ _ _ _ h HV.out hn).mono ?_; rintro e w' ⟨g, c', rfl, hN⟩)
  go_ret
  exact ⟨g, c', rfl, hN⟩
set_option maxRecDepth 10000 in
set_option maxHeartbeats 400000 in
theorem put32_any (A : Option Addr) (l : List UInt8) (n c v : Nat) (w : World) (h : IsBB w w.heap.size A n c l) (hv : v < 4294967296) (hn : n + 8 ≤ 140737488355328) :
    Calls Try.prog 36 #[.slice A n c, .int .u32 v] w fun e w' => ∃ g c', e = .returned (.slice (some ⟨g, 0, none⟩) (n + 4) c') ∧ New w w' g (n + 4) c' (l ++ bytesN 4 v) := by
  obtain ⟨i0, hi, hz0, hz1, hz2⟩ := info_parts Try.info5
  have Hlen := hid h.len
  have E1 := wrap_u64_in v (by omega)
  go_enter Try.func36, Try.ntmps36
  go_wp2_with (first
    | (go_at_call 50; refine (width32 _).mono ?_; rintro e w' ⟨rfl, rfl⟩)
    | (at_make; (refine wpList_make_full _ rfl _ _ 24 rfl w.heap.size 5 i0 (.int .u8 0) 1 Try.underlying24 hi hz0 hz1 _ _ _ _ (n + 4) rfl rfl (by omega) (by omega) (by rw [hz2]; omega) (by unfold maxLen; omega) (Nat.le_refl _) ?_); intro w1 hown1 hgrow1; have Hrow := hid (own_row hown1); have hb1 : Below w.heap.size w w1 := (Below.refl _ _).grown hgrow1 (Nat.le_refl _) (by simp); clear hown1 hgrow1)
    | (with_reducible refine wpList_copy_splice rfl (.tmp 13) (.tmp 14) 24 24 rfl 5 Try.underlying24 Try.size5 _ _ _ _ _ _ rfl rfl w.heap.size 0 (List.replicate (n + 4) (.int .u8 0)) 5 ?g1 (l.map bv) ?g2 ?g3 ?g4 (bv_one l) w.heap.size w hb1 (Nat.le_refl _) ?_))
  case g1 => rw [← made_cells]; exact Hrow.out
  case g2 => rw [List.length_map, Hlen.out]; exact (Nat.min_eq_left (by omega)).symm
  case g3 => intro hp; first | exact ⟨rfl, h.src hb1 hp⟩ | exact h.src2 hb1 (by simpa using hp)
  case g4 => rw [List.length_map, Hlen.out, List.length_replicate]; omega
  intro w2 Hr2 hb2
  go_wp2
  go_loopw [6, 7] (fun r i wr => ∃ (j : Int) (k : Nat), k ≤ 4 ∧ j + k + 1 = n + 4 ∧ i = .int .i64 j ∧ r = .int .u64 ((v / 256 ^ k : Nat) : Int) ∧ Hid (wr.heap[w.heap.size]? = some (.cells (part l 4 k v).toArray 5 (0, 0))) ∧ Below w.heap.size w wr) (fun _ i _ => (intOf i + 1 - n).toNat)
  case atStart =>
    refine ⟨_, 0, Nat.zero_le _, ?_, rfl, ?_, ?_, hb2⟩
    · omega
    · exact slot_u64 (by simp)
    · rw [part_start]
      have e := Hr2.out
      rw [splice_zero _ n 4 _ (by rw [List.length_map, Hlen.out])] at e
      exact e
  case round =>
    obtain ⟨j, k, hk, hjk, rfl, rfl, hrow, hbel⟩ := hrel
    by_cases hlt : k < 4
    · obtain ⟨m, rfl⟩ := Int.eq_ofNat_of_zero_le (show 0 ≤ j by omega)
      have hset := hid (part_set l 4 k v m hlt (by rw [Hlen.out]; omega))
      have hlen := part_len l 4 k v hk
      have hm : m < (part l 4 k v).length := by rw [hlen, Hlen.out]; omega
      have hcell := row_cell hrow.out m
      rw [List.getElem?_toArray, List.getElem?_eq_getElem hm] at hcell
      have hfree := row_free hrow.out m
      obtain ⟨r, hr⟩ : ∃ r, r = v / 256 ^ k := ⟨_, rfl⟩
      have hr2 : r / 256 = v / 256 ^ (k + 1) := by rw [hr, Nat.div_div_eq_div_mul, Nat.pow_succ]
      rw [← hr] at hset
      rw [← hr]
      have Hr := hid hr2
      clear hr hr2 hlen
      go_wp2
      go_roundw
      case rel =>
        refine ⟨(m : Int) - 1, k + 1, by omega, by omega, rfl, slot_u64 (by rw [← Hr.out]; omega), ?_, hbel.setCell (Nat.le_refl _) _⟩
        have e := row_set hrow.out m (.int .u8 ((r % 256 : Nat) : Int))
        rw [set_toArray, hset.out] at e
        exact e
      case measure => simp [intOf]; omega
    · obtain rfl : k = 4 := by omega
      go_wp2
      go_ret
      refine ⟨w.heap.size, n + 4, rfl, ?_⟩
      have e := hrow.out
      rw [part_end] at e
      have hl : (l ++ bytesN 4 v).length = n + 4 := by rw [List.length_append, length_bytesN, Hlen.out]
      have := row_own e (Nat.le_refl _) (by rw [hl]; omega) hbel
      rw [hl] at this
      exact this
set_option maxHeartbeats 400000 in
theorem Add32_any (A : Option Addr) (l : List UInt8) (n c v : Nat) (w : World) (h : IsBB w w.heap.size A n c l) (hv : v < 4294967296) (hn : n + 8 ≤ 140737488355328) :
    Calls Try.prog 16 #[.slice A n c, .int .u32 v] w fun e w' => ∃ g c', e = .returned (.slice (some ⟨g, 0, none⟩) (n + 4) c') ∧ New w w' g (n + 4) c' (l ++ bytesN 4 v) := by
  have HV := hid hv
  clear hv
  go_enter Try.func16, Try.ntmps16
  go_wp2_with (go_at_call 36; refine (put32_any _ _ _ _ _ _ h HV.out hn).mono ?_; rintro e w' ⟨g, c', rfl, hN⟩)
  go_ret
  exact ⟨g, c', rfl, hN⟩
set_option maxRecDepth 10000 in
set_option maxHeartbeats 400000 in
theorem put64_any (A : Option Addr) (l : List UInt8) (n c v : Nat) (w : World) (h : IsBB w w.heap.size A n c l) (_hv : v < 18446744073709551616) (hn : n + 8 ≤ 140737488355328) :
    Calls Try.prog 35 #[.slice A n c, .int .u64 v] w fun e w' => ∃ g c', e = .returned (.slice (some ⟨g, 0, none⟩) (n + 8) c') ∧ New w w' g (n + 8) c' (l ++ bytesN 8 v) := by
  obtain ⟨i0, hi, hz0, hz1, hz2⟩ := info_parts Try.info5
  have Hlen := hid h.len
  go_enter Try.func35, Try.ntmps35
  go_wp2_with (first
    | (go_at_call 48; refine (width64 _).mono ?_; rintro e w' ⟨rfl, rfl⟩)
    | (at_make; (refine wpList_make_full _ rfl _ _ 24 rfl w.heap.size 5 i0 (.int .u8 0) 1 Try.underlying24 hi hz0 hz1 _ _ _ _ (n + 8) rfl rfl (by omega) (by omega) (by rw [hz2]; omega) (by unfold maxLen; omega) (Nat.le_refl _) ?_); intro w1 hown1 hgrow1; have Hrow := hid (own_row hown1); have hb1 : Below w.heap.size w w1 := (Below.refl _ _).grown hgrow1 (Nat.le_refl _) (by simp); clear hown1 hgrow1)
    | (with_reducible refine wpList_copy_splice rfl (.tmp 13) (.tmp 14) 24 24 rfl 5 Try.underlying24 Try.size5 _ _ _ _ _ _ rfl rfl w.heap.size 0 (List.replicate (n + 8) (.int .u8 0)) 5 ?g1 (l.map bv) ?g2 ?g3 ?g4 (bv_one l) w.heap.size w hb1 (Nat.le_refl _) ?_))
  case g1 => rw [← made_cells]; exact Hrow.out
  case g2 => rw [List.length_map, Hlen.out]; exact (Nat.min_eq_left (by omega)).symm
  case g3 => intro hp; first | exact ⟨rfl, h.src hb1 hp⟩ | exact h.src2 hb1 (by simpa using hp)
  case g4 => rw [List.length_map, Hlen.out, List.length_replicate]; omega
  intro w2 Hr2 hb2
  go_wp2
  go_loopw [6, 7] (fun r i wr => ∃ (j : Int) (k : Nat), k ≤ 8 ∧ j + k + 1 = n + 8 ∧ i = .int .i64 j ∧ r = .int .u64 ((v / 256 ^ k : Nat) : Int) ∧ Hid (wr.heap[w.heap.size]? = some (.cells (part l 8 k v).toArray 5 (0, 0))) ∧ Below w.heap.size w wr) (fun _ i _ => (intOf i + 1 - n).toNat)
  case atStart =>
    refine ⟨_, 0, Nat.zero_le _, ?_, rfl, ?_, ?_, hb2⟩
    · omega
    · exact slot_u64 (by simp)
    · rw [part_start]
      have e := Hr2.out
      rw [splice_zero _ n 8 _ (by rw [List.length_map, Hlen.out])] at e
      exact e
  case round =>
    obtain ⟨j, k, hk, hjk, rfl, rfl, hrow, hbel⟩ := hrel
    by_cases hlt : k < 8
    · obtain ⟨m, rfl⟩ := Int.eq_ofNat_of_zero_le (show 0 ≤ j by omega)
      have hset := hid (part_set l 8 k v m hlt (by rw [Hlen.out]; omega))
      have hlen := part_len l 8 k v hk
      have hm : m < (part l 8 k v).length := by rw [hlen, Hlen.out]; omega
      have hcell := row_cell hrow.out m
      rw [List.getElem?_toArray, List.getElem?_eq_getElem hm] at hcell
      have hfree := row_free hrow.out m
      obtain ⟨r, hr⟩ : ∃ r, r = v / 256 ^ k := ⟨_, rfl⟩
      have hr2 : r / 256 = v / 256 ^ (k + 1) := by rw [hr, Nat.div_div_eq_div_mul, Nat.pow_succ]
      rw [← hr] at hset
      rw [← hr]
      have Hr := hid hr2
      clear hr hr2 hlen
      go_wp2
      go_roundw
      case rel =>
        refine ⟨(m : Int) - 1, k + 1, by omega, by omega, rfl, slot_u64 (by rw [← Hr.out]; omega), ?_, hbel.setCell (Nat.le_refl _) _⟩
        have e := row_set hrow.out m (.int .u8 ((r % 256 : Nat) : Int))
        rw [set_toArray, hset.out] at e
        exact e
      case measure => simp [intOf]; omega
    · obtain rfl : k = 8 := by omega
      go_wp2
      go_ret
      refine ⟨w.heap.size, n + 8, rfl, ?_⟩
      have e := hrow.out
      rw [part_end] at e
      have hl : (l ++ bytesN 8 v).length = n + 8 := by rw [List.length_append, length_bytesN, Hlen.out]
      have := row_own e (Nat.le_refl _) (by rw [hl]; omega) hbel
      rw [hl] at this
      exact this
set_option maxHeartbeats 400000 in
theorem Add64_any (A : Option Addr) (l : List UInt8) (n c v : Nat) (w : World) (h : IsBB w w.heap.size A n c l) (hv : v < 18446744073709551616) (hn : n + 8 ≤ 140737488355328) :
    Calls Try.prog 15 #[.slice A n c, .int .u64 v] w fun e w' => ∃ g c', e = .returned (.slice (some ⟨g, 0, none⟩) (n + 8) c') ∧ New w w' g (n + 8) c' (l ++ bytesN 8 v) := by
  have HV := hid hv
  clear hv
  go_enter Try.func15, Try.ntmps15
  go_wp2_with (go_at_call 35; refine (put64_any _ _ _ _ _ _ h HV.out hn).mono ?_; rintro e w' ⟨g, c', rfl, hN⟩)
  go_ret
  exact ⟨g, c', rfl, hN⟩
end Go.Proofs.Ytdaekdfogcgdfaa
