/-
  The contract of the document's Padded: a new list, the bytes and their padding.
-/
import Derived.Test.YtnifhgcdpgokhaaPad
import Derived.Deep.Cut
namespace Go.Proofs.Ytnifhgcdpgokhaa
open Go.RowKit

def lenW : Value → Nat | .slice _ n _ => n | _ => 0
theorem be8_take (n j : Nat) (h : j < 8) : (bytesN 8 n).take (j + 1) = (bytesN 8 n).take j ++ [UInt8.ofNat (n / 256 ^ (7 - j) % 256)] := by
  rw [List.take_succ_eq_append_getElem (by rw [length_bytesN]; exact h)]
  congr 1
  have : j = 0 ∨ j = 1 ∨ j = 2 ∨ j = 3 ∨ j = 4 ∨ j = 5 ∨ j = 6 ∨ j = 7 := by omega
  rcases this with rfl | rfl | rfl | rfl | rfl | rfl | rfl | rfl <;> simp [bytesN, Nat.div_div_eq_div_mul]
theorem own_push {w w2 : World} {L : List UInt8} {b : UInt8} {v' : Value} (h : w2.ownsRow w.heap.size 5 1 v' (L.length + 1) (L.map bv ++ [bv b])) : w2.ownsRow w.heap.size 5 1 v' (L ++ [b]).length ((L ++ [b]).map bv) := by
  simpa using h
theorem padded_len (l : List UInt8) : (padded l).length = l.length + 9 + noughts l.length := by
  unfold padded; rw [pad_eq, List.length_append, List.length_append, headP_len, length_bytesN]; omega
theorem headP_take (n k : Nat) (h : k ≤ noughts n) : (headP n).take (k + 1) = 128 :: List.replicate k 0 := by
  simp [headP, List.take_replicate, Nat.min_eq_left h]

set_option maxRecDepth 10000 in
set_option maxHeartbeats 8000000 in
theorem Padded_some (ad : Addr) (l : List UInt8) (n c : Nat) (w : World) (h : IsBB w w.heap.size (some ad) n c l) (hn : n ≤ 1000000000) :
    Calls Try.prog 30 #[.slice (some ad) n c] w fun e w' => ∃ g c', e = .returned (.slice (some ⟨g, 0, none⟩) (n + 9 + noughts n) c') ∧ New w w' g (n + 9 + noughts n) c' (padded l) := by
    obtain ⟨i0, hi, hz0, hz1, hz2⟩ := info_parts Try.info5
    have Hlen := hid h.len
    have hq2 : noughts n < 64 := by unfold noughts; omega
    go_enter Try.func30, Try.ntmps30
    go_upto_region 3 with (at_builtin; refine wpList_append_own _ rfl (.tmp 6) (.tmp 7) 22 rfl w.heap.size 5 i0 (.int .u8 0) 1 1 Try.underlying22 hi hz0 hz1 hz2 rfl (by decide) (.slice none 0 0) 0 [] rfl ⟨by simp, .inl ⟨rfl, rfl⟩⟩ ad n c (l.map bv) rfl ?c0 ?c1 (bv_one l) ?c3 ?c4 (Nat.le_refl _) ?_)
    case c0 => rw [List.length_map, Hlen.out, Nat.mul_one]
    case c1 =>
      intro j u hu
      have hp : 0 < (l.map bv).length := by
        have := (List.getElem?_eq_some_iff.1 hu).1
        omega
      obtain ⟨ad', e, hc⟩ := h.src (Below.refl _ _) hp
      cases e
      exact hc j u hu
    case c3 => unfold maxLen; omega
    case c4 => omega
    intro v W1 hown0 hgrow0 _
    have hown : W1.ownsRow w.heap.size 5 1 v n (l.map bv) := by simpa using hown0
    have hbel : Below w.heap.size w W1 := (Below.refl _ _).grown hgrow0 (Nat.le_refl _) (by simp [Value.ownBlock])
    clear hown0 hgrow0
    go_upto_region 3 with (fail)
    go_wp2_with (at_builtin; refine wpList_append_own _ rfl (.tmp 9) (.tmp 10) 22 rfl w.heap.size 5 i0 (.int .u8 0) 1 1 Try.underlying22 hi hz0 hz1 hz2 rfl (by decide) (v) (n) (l.map bv) rfl (hown.alloc _) ⟨W1.heap.size, 0, none⟩ 1 1 [bv 128] rfl rfl ?c1 ?c2 ?c3 ?c4 ?c5 ?_)
    case c1 => exact one_cell W1 _ _ (by simp)
    case c2 => intro u hu; simp at hu; subst hu; rfl
    case c3 => unfold maxLen; omega
    case c4 => omega
    case c5 => have := hbel.size; simp <;> omega
    intro v2 W2 hown2 hgrow2 _
    have hown3 : W2.ownsRow w.heap.size 5 1 v2 (n + 1) ((l ++ [128]).map bv) := by simpa using hown2
    obtain ⟨g3, c3, rfl⟩ := own_nil hown3 (by omega)
    have HN3 : Hid (New w W2 g3 (n + 1) c3 (l ++ [128])) := ⟨hown3, (hbel.alloc hbel.size _).grown hgrow2 (by have := hbel.size; simp <;> omega) (fun q hq => (hown.lt q hq).1), by omega⟩
    clear hown hbel hown2 hown3 hgrow2
    go_wp2_with fail
    go_loopw [3] (fun v wr => ∃ (k m c g : Nat) (X : List UInt8), k ≤ noughts n ∧ Hid (m = n + 1 + k) ∧ v = .slice (some ⟨g, 0, none⟩) m c ∧ Hid (New w wr g m c X) ∧ Hid (X = l ++ (128 :: List.replicate k 0))) (fun v _ => n + 1 + noughts n - lenW v)
    case atStart => exact ⟨0, _, c3, g3, _, Nat.zero_le _, rfl, rfl, HN3.out, rfl⟩
    case round =>
      obtain ⟨k, m, c4, g4, X, hk, hm, rfl, hR, hX⟩ := hrel
      have hmz : (m : Int) ≤ 2000000000 := by have := hm.out; omega
      by_cases hlt : k < noughts n
      · have t1 : ((m : Int) % 64 != 56) = true := by rw [bne_iff_ne]; have := hm.out; unfold noughts at hlt; omega
        go_wp2_with (at_builtin; refine wpList_append_own _ rfl (.tmp 16) (.tmp 17) 22 rfl w.heap.size 5 i0 (.int .u8 0) 1 1 Try.underlying22 hi hz0 hz1 hz2 rfl (by decide) (.slice (some ⟨g4, 0, none⟩) m c4) (m) (X.map bv) rfl (hR.out.own.alloc _) ⟨wr.heap.size, 0, none⟩ 1 1 [bv 0] rfl rfl ?c1 ?c2 ?c3 ?c4 ?c5 ?_)
        case c1 => exact one_cell wr _ _ (by simp)
        case c2 => intro u hu; simp at hu; subst hu; rfl
        case c3 => unfold maxLen; omega
        case c4 => omega
        case c5 => have := hR.out.bel.size; simp; omega
        intro v2 W3 hown2 hgrow2 _
        have hown3 : W3.ownsRow w.heap.size 5 1 v2 (m + 1) ((X ++ [0]).map bv) := by simpa using hown2
        obtain ⟨g5, c5, rfl⟩ := own_nil hown3 (by omega)
        have hN5 : Hid (New w W3 g5 (m + 1) c5 (X ++ [0])) := ⟨hown3, (hR.out.bel.alloc hR.out.bel.size _).grown hgrow2 (by have := hR.out.bel.size; simp; omega) (fun q hq => by simp [Value.ownBlock] at hq; subst hq; exact hR.out.row.1), by omega⟩
        have hX5 : Hid (X ++ [0] = l ++ (128 :: List.replicate (k + 1) 0)) := by show _ = _; rw [hX.out, List.replicate_succ']; simp
        generalize X ++ [0] = X5 at hN5 hX5
        clear hown2 hown3 hgrow2 t1
        go_wp2_with fail
        go_roundw
        case rel => exact ⟨k + 1, m + 1, c5, g5, X5, by omega, (by have := hm.out; show m + 1 = _; omega), rfl, hN5, hX5⟩
        case measure => show n + 1 + noughts n - (m + 1) < n + 1 + noughts n - m; have := hm.out; omega
      · obtain rfl : k = noughts n := by omega
        have t1 : ((m : Int) % 64 != 56) = false := by rw [bne_eq_false_iff_eq]; have := hm.out; unfold noughts at this; omega
        obtain ⟨wo, rfl⟩ : ∃ wo : World, wo = wr := ⟨_, rfl⟩
        go_wp2_with fail
        go_loopw [3, 5] (fun v i wr2 => ∃ (j m2 c g : Nat) (X : List UInt8), j ≤ 8 ∧ Hid (m2 = n + 1 + noughts n + j) ∧ i = .int .i64 (7 - (j : Int)) ∧ v = .slice (some ⟨g, 0, none⟩) m2 c ∧ Hid (New w wr2 g m2 c X) ∧ Hid (X = l ++ headP (n) ++ (bytesN 8 (8 * n)).take j)) (fun _ i _ => (intOf i + 1).toNat)
        case atStart => exact ⟨0, m, c4, g4, X, Nat.zero_le _, hm.out, rfl, rfl, hR.out, (by have e := hX.out; show X = _; rw [List.take_zero, List.append_nil]; exact e)⟩
        case round =>
          obtain ⟨j, m2, c6, g6, X2, hj, hm2, rfl, rfl, hR2, hX2⟩ := hrel
          have hmz2 : (m2 : Int) ≤ 2000000100 := by have := hm2.out; omega
          clear t1 hR hmz hX
          by_cases hlt : j < 8
          · have Htk := hid (be8_take (8 * n) j hlt)
            rcases (show j = 0 ∨ j = 1 ∨ j = 2 ∨ j = 3 ∨ j = 4 ∨ j = 5 ∨ j = 6 ∨ j = 7 by omega) with rfl | rfl | rfl | rfl | rfl | rfl | rfl | rfl
            · go_wp2_with (at_builtin; refine wpList_append_own _ rfl (.tmp 27) (.tmp 34) 22 rfl w.heap.size 5 i0 (.int .u8 0) 1 1 Try.underlying22 hi hz0 hz1 hz2 rfl (by decide) (.slice (some ⟨g6, 0, none⟩) m2 c6) (m2) (X2.map bv) rfl (hR2.out.own.alloc _) ⟨wr.heap.size, 0, none⟩ 1 1 [bv (UInt8.ofNat (8 * n / 72057594037927936 % 256))] rfl rfl ?c1 ?c2 ?c3 ?c4 ?c5 ?_)
              case c1 => exact one_cell wr _ _ (by rw [toNat_mod]; omega)
              case c2 => intro u hu; simp at hu; subst hu; rfl
              case c3 => unfold maxLen; omega
              case c4 => omega
              case c5 => have := hR2.out.bel.size; simp; omega
              intro v2 W3 hown2 hgrow2 _
              have hown3 : W3.ownsRow w.heap.size 5 1 v2 (m2 + 1) ((X2 ++ [UInt8.ofNat (8 * n / 72057594037927936 % 256)]).map bv) := by simpa using hown2
              obtain ⟨g7, c7, rfl⟩ := own_nil hown3 (by omega)
              have hN7 : Hid (New w W3 g7 (m2 + 1) c7 (X2 ++ [UInt8.ofNat (8 * n / 72057594037927936 % 256)])) := ⟨hown3, (hR2.out.bel.alloc hR2.out.bel.size _).grown hgrow2 (by have := hR2.out.bel.size; simp; omega) (fun q hq => by simp [Value.ownBlock] at hq; subst hq; exact hR2.out.row.1), by omega⟩
              have hX7 : Hid (X2 ++ [UInt8.ofNat (8 * n / 72057594037927936 % 256)] = l ++ headP (n) ++ (bytesN 8 (8 * n)).take (0 + 1)) := by show _ = _; rw [Htk.out, hX2.out]; simp
              generalize X2 ++ [UInt8.ofNat (8 * n / 72057594037927936 % 256)] = X7 at hN7 hX7
              clear hown2 hown3 hgrow2 Htk
              go_wp2_with fail
              go_roundw
              case rel => exact ⟨0 + 1, m2 + 1, c7, g7, X7, by omega, (by have := hm2.out; show m2 + 1 = _; omega), (by go_num), rfl, hN7, hX7⟩
              case measure => simp [intOf]
            · go_wp2_with (at_builtin; refine wpList_append_own _ rfl (.tmp 27) (.tmp 34) 22 rfl w.heap.size 5 i0 (.int .u8 0) 1 1 Try.underlying22 hi hz0 hz1 hz2 rfl (by decide) (.slice (some ⟨g6, 0, none⟩) m2 c6) (m2) (X2.map bv) rfl (hR2.out.own.alloc _) ⟨wr.heap.size, 0, none⟩ 1 1 [bv (UInt8.ofNat (8 * n / 281474976710656 % 256))] rfl rfl ?c1 ?c2 ?c3 ?c4 ?c5 ?_)
              case c1 => exact one_cell wr _ _ (by rw [toNat_mod]; omega)
              case c2 => intro u hu; simp at hu; subst hu; rfl
              case c3 => unfold maxLen; omega
              case c4 => omega
              case c5 => have := hR2.out.bel.size; simp; omega
              intro v2 W3 hown2 hgrow2 _
              have hown3 : W3.ownsRow w.heap.size 5 1 v2 (m2 + 1) ((X2 ++ [UInt8.ofNat (8 * n / 281474976710656 % 256)]).map bv) := by simpa using hown2
              obtain ⟨g7, c7, rfl⟩ := own_nil hown3 (by omega)
              have hN7 : Hid (New w W3 g7 (m2 + 1) c7 (X2 ++ [UInt8.ofNat (8 * n / 281474976710656 % 256)])) := ⟨hown3, (hR2.out.bel.alloc hR2.out.bel.size _).grown hgrow2 (by have := hR2.out.bel.size; simp; omega) (fun q hq => by simp [Value.ownBlock] at hq; subst hq; exact hR2.out.row.1), by omega⟩
              have hX7 : Hid (X2 ++ [UInt8.ofNat (8 * n / 281474976710656 % 256)] = l ++ headP (n) ++ (bytesN 8 (8 * n)).take (1 + 1)) := by show _ = _; rw [Htk.out, hX2.out]; simp
              generalize X2 ++ [UInt8.ofNat (8 * n / 281474976710656 % 256)] = X7 at hN7 hX7
              clear hown2 hown3 hgrow2 Htk
              go_wp2_with fail
              go_roundw
              case rel => exact ⟨1 + 1, m2 + 1, c7, g7, X7, by omega, (by have := hm2.out; show m2 + 1 = _; omega), (by go_num), rfl, hN7, hX7⟩
              case measure => simp [intOf]
            · go_wp2_with (at_builtin; refine wpList_append_own _ rfl (.tmp 27) (.tmp 34) 22 rfl w.heap.size 5 i0 (.int .u8 0) 1 1 Try.underlying22 hi hz0 hz1 hz2 rfl (by decide) (.slice (some ⟨g6, 0, none⟩) m2 c6) (m2) (X2.map bv) rfl (hR2.out.own.alloc _) ⟨wr.heap.size, 0, none⟩ 1 1 [bv (UInt8.ofNat (8 * n / 1099511627776 % 256))] rfl rfl ?c1 ?c2 ?c3 ?c4 ?c5 ?_)
              case c1 => exact one_cell wr _ _ (by rw [toNat_mod]; omega)
              case c2 => intro u hu; simp at hu; subst hu; rfl
              case c3 => unfold maxLen; omega
              case c4 => omega
              case c5 => have := hR2.out.bel.size; simp; omega
              intro v2 W3 hown2 hgrow2 _
              have hown3 : W3.ownsRow w.heap.size 5 1 v2 (m2 + 1) ((X2 ++ [UInt8.ofNat (8 * n / 1099511627776 % 256)]).map bv) := by simpa using hown2
              obtain ⟨g7, c7, rfl⟩ := own_nil hown3 (by omega)
              have hN7 : Hid (New w W3 g7 (m2 + 1) c7 (X2 ++ [UInt8.ofNat (8 * n / 1099511627776 % 256)])) := ⟨hown3, (hR2.out.bel.alloc hR2.out.bel.size _).grown hgrow2 (by have := hR2.out.bel.size; simp; omega) (fun q hq => by simp [Value.ownBlock] at hq; subst hq; exact hR2.out.row.1), by omega⟩
              have hX7 : Hid (X2 ++ [UInt8.ofNat (8 * n / 1099511627776 % 256)] = l ++ headP (n) ++ (bytesN 8 (8 * n)).take (2 + 1)) := by show _ = _; rw [Htk.out, hX2.out]; simp
              generalize X2 ++ [UInt8.ofNat (8 * n / 1099511627776 % 256)] = X7 at hN7 hX7
              clear hown2 hown3 hgrow2 Htk
              go_wp2_with fail
              go_roundw
              case rel => exact ⟨2 + 1, m2 + 1, c7, g7, X7, by omega, (by have := hm2.out; show m2 + 1 = _; omega), (by go_num), rfl, hN7, hX7⟩
              case measure => simp [intOf]
            · go_wp2_with (at_builtin; refine wpList_append_own _ rfl (.tmp 27) (.tmp 34) 22 rfl w.heap.size 5 i0 (.int .u8 0) 1 1 Try.underlying22 hi hz0 hz1 hz2 rfl (by decide) (.slice (some ⟨g6, 0, none⟩) m2 c6) (m2) (X2.map bv) rfl (hR2.out.own.alloc _) ⟨wr.heap.size, 0, none⟩ 1 1 [bv (UInt8.ofNat (8 * n / 4294967296 % 256))] rfl rfl ?c1 ?c2 ?c3 ?c4 ?c5 ?_)
              case c1 => exact one_cell wr _ _ (by rw [toNat_mod]; omega)
              case c2 => intro u hu; simp at hu; subst hu; rfl
              case c3 => unfold maxLen; omega
              case c4 => omega
              case c5 => have := hR2.out.bel.size; simp; omega
              intro v2 W3 hown2 hgrow2 _
              have hown3 : W3.ownsRow w.heap.size 5 1 v2 (m2 + 1) ((X2 ++ [UInt8.ofNat (8 * n / 4294967296 % 256)]).map bv) := by simpa using hown2
              obtain ⟨g7, c7, rfl⟩ := own_nil hown3 (by omega)
              have hN7 : Hid (New w W3 g7 (m2 + 1) c7 (X2 ++ [UInt8.ofNat (8 * n / 4294967296 % 256)])) := ⟨hown3, (hR2.out.bel.alloc hR2.out.bel.size _).grown hgrow2 (by have := hR2.out.bel.size; simp; omega) (fun q hq => by simp [Value.ownBlock] at hq; subst hq; exact hR2.out.row.1), by omega⟩
              have hX7 : Hid (X2 ++ [UInt8.ofNat (8 * n / 4294967296 % 256)] = l ++ headP (n) ++ (bytesN 8 (8 * n)).take (3 + 1)) := by show _ = _; rw [Htk.out, hX2.out]; simp
              generalize X2 ++ [UInt8.ofNat (8 * n / 4294967296 % 256)] = X7 at hN7 hX7
              clear hown2 hown3 hgrow2 Htk
              go_wp2_with fail
              go_roundw
              case rel => exact ⟨3 + 1, m2 + 1, c7, g7, X7, by omega, (by have := hm2.out; show m2 + 1 = _; omega), (by go_num), rfl, hN7, hX7⟩
              case measure => simp [intOf]
            · go_wp2_with (at_builtin; refine wpList_append_own _ rfl (.tmp 27) (.tmp 34) 22 rfl w.heap.size 5 i0 (.int .u8 0) 1 1 Try.underlying22 hi hz0 hz1 hz2 rfl (by decide) (.slice (some ⟨g6, 0, none⟩) m2 c6) (m2) (X2.map bv) rfl (hR2.out.own.alloc _) ⟨wr.heap.size, 0, none⟩ 1 1 [bv (UInt8.ofNat (8 * n / 16777216 % 256))] rfl rfl ?c1 ?c2 ?c3 ?c4 ?c5 ?_)
              case c1 => exact one_cell wr _ _ (by rw [toNat_mod]; omega)
              case c2 => intro u hu; simp at hu; subst hu; rfl
              case c3 => unfold maxLen; omega
              case c4 => omega
              case c5 => have := hR2.out.bel.size; simp; omega
              intro v2 W3 hown2 hgrow2 _
              have hown3 : W3.ownsRow w.heap.size 5 1 v2 (m2 + 1) ((X2 ++ [UInt8.ofNat (8 * n / 16777216 % 256)]).map bv) := by simpa using hown2
              obtain ⟨g7, c7, rfl⟩ := own_nil hown3 (by omega)
              have hN7 : Hid (New w W3 g7 (m2 + 1) c7 (X2 ++ [UInt8.ofNat (8 * n / 16777216 % 256)])) := ⟨hown3, (hR2.out.bel.alloc hR2.out.bel.size _).grown hgrow2 (by have := hR2.out.bel.size; simp; omega) (fun q hq => by simp [Value.ownBlock] at hq; subst hq; exact hR2.out.row.1), by omega⟩
              have hX7 : Hid (X2 ++ [UInt8.ofNat (8 * n / 16777216 % 256)] = l ++ headP (n) ++ (bytesN 8 (8 * n)).take (4 + 1)) := by show _ = _; rw [Htk.out, hX2.out]; simp
              generalize X2 ++ [UInt8.ofNat (8 * n / 16777216 % 256)] = X7 at hN7 hX7
              clear hown2 hown3 hgrow2 Htk
              go_wp2_with fail
              go_roundw
              case rel => exact ⟨4 + 1, m2 + 1, c7, g7, X7, by omega, (by have := hm2.out; show m2 + 1 = _; omega), (by go_num), rfl, hN7, hX7⟩
              case measure => simp [intOf]
            · go_wp2_with (at_builtin; refine wpList_append_own _ rfl (.tmp 27) (.tmp 34) 22 rfl w.heap.size 5 i0 (.int .u8 0) 1 1 Try.underlying22 hi hz0 hz1 hz2 rfl (by decide) (.slice (some ⟨g6, 0, none⟩) m2 c6) (m2) (X2.map bv) rfl (hR2.out.own.alloc _) ⟨wr.heap.size, 0, none⟩ 1 1 [bv (UInt8.ofNat (8 * n / 65536 % 256))] rfl rfl ?c1 ?c2 ?c3 ?c4 ?c5 ?_)
              case c1 => exact one_cell wr _ _ (by rw [toNat_mod]; omega)
              case c2 => intro u hu; simp at hu; subst hu; rfl
              case c3 => unfold maxLen; omega
              case c4 => omega
              case c5 => have := hR2.out.bel.size; simp; omega
              intro v2 W3 hown2 hgrow2 _
              have hown3 : W3.ownsRow w.heap.size 5 1 v2 (m2 + 1) ((X2 ++ [UInt8.ofNat (8 * n / 65536 % 256)]).map bv) := by simpa using hown2
              obtain ⟨g7, c7, rfl⟩ := own_nil hown3 (by omega)
              have hN7 : Hid (New w W3 g7 (m2 + 1) c7 (X2 ++ [UInt8.ofNat (8 * n / 65536 % 256)])) := ⟨hown3, (hR2.out.bel.alloc hR2.out.bel.size _).grown hgrow2 (by have := hR2.out.bel.size; simp; omega) (fun q hq => by simp [Value.ownBlock] at hq; subst hq; exact hR2.out.row.1), by omega⟩
              have hX7 : Hid (X2 ++ [UInt8.ofNat (8 * n / 65536 % 256)] = l ++ headP (n) ++ (bytesN 8 (8 * n)).take (5 + 1)) := by show _ = _; rw [Htk.out, hX2.out]; simp
              generalize X2 ++ [UInt8.ofNat (8 * n / 65536 % 256)] = X7 at hN7 hX7
              clear hown2 hown3 hgrow2 Htk
              go_wp2_with fail
              go_roundw
              case rel => exact ⟨5 + 1, m2 + 1, c7, g7, X7, by omega, (by have := hm2.out; show m2 + 1 = _; omega), (by go_num), rfl, hN7, hX7⟩
              case measure => simp [intOf]
            · go_wp2_with (at_builtin; refine wpList_append_own _ rfl (.tmp 27) (.tmp 34) 22 rfl w.heap.size 5 i0 (.int .u8 0) 1 1 Try.underlying22 hi hz0 hz1 hz2 rfl (by decide) (.slice (some ⟨g6, 0, none⟩) m2 c6) (m2) (X2.map bv) rfl (hR2.out.own.alloc _) ⟨wr.heap.size, 0, none⟩ 1 1 [bv (UInt8.ofNat (8 * n / 256 % 256))] rfl rfl ?c1 ?c2 ?c3 ?c4 ?c5 ?_)
              case c1 => exact one_cell wr _ _ (by rw [toNat_mod]; omega)
              case c2 => intro u hu; simp at hu; subst hu; rfl
              case c3 => unfold maxLen; omega
              case c4 => omega
              case c5 => have := hR2.out.bel.size; simp; omega
              intro v2 W3 hown2 hgrow2 _
              have hown3 : W3.ownsRow w.heap.size 5 1 v2 (m2 + 1) ((X2 ++ [UInt8.ofNat (8 * n / 256 % 256)]).map bv) := by simpa using hown2
              obtain ⟨g7, c7, rfl⟩ := own_nil hown3 (by omega)
              have hN7 : Hid (New w W3 g7 (m2 + 1) c7 (X2 ++ [UInt8.ofNat (8 * n / 256 % 256)])) := ⟨hown3, (hR2.out.bel.alloc hR2.out.bel.size _).grown hgrow2 (by have := hR2.out.bel.size; simp; omega) (fun q hq => by simp [Value.ownBlock] at hq; subst hq; exact hR2.out.row.1), by omega⟩
              have hX7 : Hid (X2 ++ [UInt8.ofNat (8 * n / 256 % 256)] = l ++ headP (n) ++ (bytesN 8 (8 * n)).take (6 + 1)) := by show _ = _; rw [Htk.out, hX2.out]; simp
              generalize X2 ++ [UInt8.ofNat (8 * n / 256 % 256)] = X7 at hN7 hX7
              clear hown2 hown3 hgrow2 Htk
              go_wp2_with fail
              go_roundw
              case rel => exact ⟨6 + 1, m2 + 1, c7, g7, X7, by omega, (by have := hm2.out; show m2 + 1 = _; omega), (by go_num), rfl, hN7, hX7⟩
              case measure => simp [intOf]
            · go_wp2_with (at_builtin; refine wpList_append_own _ rfl (.tmp 27) (.tmp 34) 22 rfl w.heap.size 5 i0 (.int .u8 0) 1 1 Try.underlying22 hi hz0 hz1 hz2 rfl (by decide) (.slice (some ⟨g6, 0, none⟩) m2 c6) (m2) (X2.map bv) rfl (hR2.out.own.alloc _) ⟨wr.heap.size, 0, none⟩ 1 1 [bv (UInt8.ofNat (8 * n / 1 % 256))] rfl rfl ?c1 ?c2 ?c3 ?c4 ?c5 ?_)
              case c1 => exact one_cell wr _ _ (by rw [toNat_mod]; omega)
              case c2 => intro u hu; simp at hu; subst hu; rfl
              case c3 => unfold maxLen; omega
              case c4 => omega
              case c5 => have := hR2.out.bel.size; simp; omega
              intro v2 W3 hown2 hgrow2 _
              have hown3 : W3.ownsRow w.heap.size 5 1 v2 (m2 + 1) ((X2 ++ [UInt8.ofNat (8 * n / 1 % 256)]).map bv) := by simpa using hown2
              obtain ⟨g7, c7, rfl⟩ := own_nil hown3 (by omega)
              have hN7 : Hid (New w W3 g7 (m2 + 1) c7 (X2 ++ [UInt8.ofNat (8 * n / 1 % 256)])) := ⟨hown3, (hR2.out.bel.alloc hR2.out.bel.size _).grown hgrow2 (by have := hR2.out.bel.size; simp; omega) (fun q hq => by simp [Value.ownBlock] at hq; subst hq; exact hR2.out.row.1), by omega⟩
              have hX7 : Hid (X2 ++ [UInt8.ofNat (8 * n / 1 % 256)] = l ++ headP (n) ++ (bytesN 8 (8 * n)).take (7 + 1)) := by show _ = _; rw [Htk.out, hX2.out]; simp
              generalize X2 ++ [UInt8.ofNat (8 * n / 1 % 256)] = X7 at hN7 hX7
              clear hown2 hown3 hgrow2 Htk
              go_wp2_with fail
              go_roundw
              case rel => exact ⟨7 + 1, m2 + 1, c7, g7, X7, by omega, (by have := hm2.out; show m2 + 1 = _; omega), (by go_num), rfl, hN7, hX7⟩
              case measure => simp [intOf]
          · obtain rfl : j = 8 := by omega
            go_wp2_with fail
            go_ret
            have e := hR2.out
            have em := hm2.out
            have ex : X2 = padded l := by
              rw [hX2.out, List.take_of_length_le (by rw [length_bytesN]; omega), List.append_assoc, ← pad_eq]
              unfold padded; rw [Hlen.out]
            rw [ex] at e
            obtain rfl : m2 = n + 9 + noughts n := by omega
            exact ⟨g6, c6, rfl, e⟩
end Go.Proofs.Ytnifhgcdpgokhaa
