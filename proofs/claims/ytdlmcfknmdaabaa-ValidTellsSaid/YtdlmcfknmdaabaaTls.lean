/-
  The document's Starts; a copy of bytes; numbers compared.
-/
import Derived.Test.YtdlmcfknmdaabaaRfj
import Derived.Test.YtdlmcfknmdaabaaRpl
import Derived.Test.YtdlmcfknmdaabaaKit
import Derived.BigQuiet
namespace Go.Proofs.Ytdlmcfknmdaabaa
open Go.RowKit
set_option linter.unusedVariables false
set_option linter.unusedSimpArgs false

set_option maxHeartbeats 1000000 in
set_option maxRecDepth 10000 in
theorem CopyBytes_any (A : Option Addr) (l : List UInt8) (n c : Nat) (w : World) (h : IsBB w w.heap.size A n c l) (hn : n ≤ 20000) :
    Calls Try.prog 7 #[.slice A n c] w fun e w' => ∃ v, e = .returned v ∧ OwnB w w' v l := by
  have hx := h.max
  have hnc := h.cap
  have L1 := hid h.len
  unfold maxLen at hx
  have S0 : Hid (OwnB w w (.slice none 0 0) (l.take 0)) := by rw [List.take_zero]; exact OwnB.nil w w (Below.refl _ w)
  go_enter Try.func7, Try.ntmps7
  go_wp2_with fail
  go_loopw [3, 4] (fun vv i wr => ∃ (v : Value) (k : Nat), k ≤ n ∧ i = .int .i64 k ∧ v = vv ∧ Hid (OwnB w wr v (l.take k))) (fun _ i _ => n - (intOf i).toNat)
  case atStart => exact ⟨_, 0, Nat.zero_le _, rfl, rfl, S0⟩
  case round =>
    obtain ⟨v, k, hk, rfl, rfl, hs⟩ := hrel
    clear S0
    by_cases hlt : k < n
    · have hk1 : k < l.length := by rw [L1.out]; exact hlt
      have hkz : (k : Int) < (n : Int) := by omega
      obtain ⟨ad, rfl, ha⟩ := (h.below hs.out.bel).lies (by rw [L1.out]; omega)
      have ca := ha k hk1
      have hnx := hid (copy_next hk1)
      have hzl := l[k].toNat_lt
      have hlk := hid (show (l.take k).length ≤ 1000000 by rw [List.length_take]; omega)
      clear ha h
      generalize l[k].toNat = z at ca hnx hzl
      go_wp2_with (at_builtin; go_loud (refine wpList_app1 rfl (.tmp 11) (.tmp 16) rfl w wr v (l.take k) z rfl rfl hs.out hlk.out hzl ?_); intro v2 W2 hv2)
      rw [hnx.out] at hv2
      go_roundw
      case rel => exact ⟨v2, k + 1, by omega, by go_num, rfl, hv2⟩
      case measure => simp [intOf]; omega
    · obtain rfl : k = n := by omega
      go_wp2_with fail
      go_ret
      have e : l.take k = l := List.take_of_length_le (by rw [L1.out]; omega)
      have o := hs.out
      rw [e] at o
      exact ⟨_, rfl, o⟩
set_option maxRecDepth 10000 in
set_option maxHeartbeats 4000000 in
theorem RefStarts_any (A : Option Addr) (n c : Nat) (l : List UInt8) (w : World) (h : IsBB w w.heap.size A n c l) :
    Calls Try.prog 9 #[.slice A n c] w fun e w' => ∃ v S, e = .returned (.tuple #[v, .int .i64 (stE l)]) ∧ Below w.heap.size w w' ∧ w'.ownsRow w.heap.size 3 1 v (nats S).length ((nats S).map iv) ∧ (stE l = 0 → starts l = some S) ∧ (stE l ≠ 0 → S = []) := by
  have hlen := h.len
  have hB := hid (Below.refl w.heap.size w)
  by_cases h1 : 4096 < n
  · have e : stE l = 3 := if_pos (by omega)
    have h1z : (4096 : Int) < (n : Int) := by omega
    rw [e]
    clear h e hlen
    go_enter Try.func9, Try.ntmps9
    go_wp2
    go_ret2
    exact ⟨_, [], rfl, hB.out, World.ownsRow_nil _ _ _ _, fun h => absurd h (by decide), fun _ => rfl⟩
  by_cases h2 : n = 0
  · have e : stE l = 110 := by unfold stE; rw [if_neg (by omega), if_pos (by omega)]
    subst h2
    rw [e]
    clear h e hlen
    go_enter Try.func9, Try.ntmps9
    go_wp2
    go_ret2
    exact ⟨_, [], rfl, hB.out, World.ownsRow_nil _ _ _ _, fun h => absurd h (by decide), fun _ => rfl⟩
  obtain ⟨i0, hi, hz0, hz1, hz2⟩ := info_parts Try.info3
  have HI := hid h
  have HL := hid (And.intro hlen (And.intro h1 h2))
  have hnz : (n : Int) ≤ 4096 := by omega
  have hn0 : ((n : Int) == 0) = false := by simpa using h2
  have HG := hid (fun w h k hk => RefGet_any A n c l w h k hk (by omega))
  obtain ⟨se, hse⟩ : ∃ se, stE l = se := ⟨_, rfl⟩
  have SE := hid hse
  rw [hse]
  clear h hlen h1 h2 hse
  go_enter Try.func9, Try.ntmps9
  go_wp2_with fail
  go_loopw [4, 5] (fun v4 v5 wr => ∃ (v : Value) (k : Nat) (S : List Nat), v = v4 ∧ k ≤ n ∧ v5 = .int .i64 (k : Nat) ∧ Hid (Pre l S k) ∧ Hid (wr.ownsRow w.heap.size 3 1 v (nats S).length ((nats S).map iv)) ∧ Hid (Below w.heap.size w wr)) (fun _ v5 _ => n - (intOf v5).toNat)
  case atStart => exact ⟨_, 0, [], rfl, Nat.zero_le _, rfl, hid (pre_0 l), hid (World.ownsRow_nil _ _ _ _), hB⟩
  case round =>
    obtain ⟨v, k, S, rfl, hk, rfl, HP, HO, HB⟩ := hrel
    by_cases hlt : k < n
    · have hltz : (k : Int) < (n : Int) := by omega
      obtain ⟨g, hg⟩ : ∃ g, getR l k = g := ⟨_, rfl⟩
      have IB := hid (HI.out.on HB.out)
      have HGk := hid (HG.out wr IB.out k hlt)
      rw [hg] at HGk
      by_cases hge : g.err = 0
      · have hge2 : (g.err != 0) = false := by simp [hge]
        have hg0 : (getR l k).err = 0 := by rw [hg]; exact hge
        have GI := hid (got_in hg0)
        have hnx : g.e = (nxt l k : Nat) := by rw [← hg]; exact GI.out.2.2.2.2
        have PS := hid (pre_step HP.out (by rw [HL.out.1]; exact hlt) hg0)
        have hfew : (nats S).length ≤ 4096 := by
          rw [nats_len]
          have := HP.out.few
          have := HL.out
          omega
        clear hge
        unfold vG vI at HGk
        go_wp2_with fail
        refine HGk.out.mono ?_
        rintro r w2 ⟨rfl, b2⟩
        have hrow := ints_below HO.out (b2.alloc b2.size (.cells #[.int .u8 g.o, .int .i64 g.d, .int .i64 g.s, .int .i64 g.n] 37))
        have HB2 := hid (bel_on HB.out (b2.alloc b2.size (.cells #[.int .u8 g.o, .int .i64 g.d, .int .i64 g.s, .int .i64 g.n] 37)))
        clear b2 IB HGk HG
        dsimp only
        go_wp2_with (first
          | (at_builtin; refine wpList_append_own _ rfl _ _ 27 rfl w.heap.size 3 i0 (.int .i64 0) 1 8 Try.underlying27 hi hz0 hz1 hz2 rfl (by decide) _ _ _ rfl (hrow.alloc _) ⟨w2.heap.size + 1, 0, none⟩ 1 1 [.int .i64 (k : Int)] rfl rfl (by have := cell_one_new (w2.alloc (.cells #[.int .u8 g.o, .int .i64 g.d, .int .i64 g.s, .int .i64 g.n] 37)) (.int .i64 (k : Int)) 3; simpa using this) (ints_oneCell .i64 [(k : Int)]) (by unfold maxLen; omega) (by omega) (by have := HB2.out.size; simp at this ⊢; omega) ?_; intro v' w3 hown' hgrow2 hnil2)
          | go_in)
        go_roundw
        case rel =>
          refine ⟨v', nxt l k, S ++ [k], rfl, by have := GI.out; have := HL.out; omega, by first | rfl | rw [hnx], PS, hid ?_, hid ?_⟩
          · have := hown'
            unfold nats at this ⊢
            rw [List.map_append, List.length_append]
            simpa [iv] using this
          · refine (HB2.out.alloc HB2.out.size _).grown hgrow2 (by have := HB2.out.size; simp at this ⊢; omega) (fun q hq => (hrow.lt q hq).1)
        case measure =>
          try rw [hnx]
          have := GI.out
          have := HL.out
          simp [intOf]
          omega
      · have hge2 : (g.err != 0) = true := by simp [hge]
        have PB := hid (pre_bad HP.out (by rw [HL.out.1]; exact hlt) (by rw [hg]; exact hge))
        have e := hid (stE_bad (by have := HL.out; omega) (by have := HL.out; omega) PB.out)
        rw [SE.out] at e
        clear hge
        unfold vG vI at HGk
        go_wp2_with fail
        refine HGk.out.mono ?_
        rintro r w2 ⟨rfl, b2⟩
        have HB2 := hid (bel_on HB.out (b2.alloc b2.size (.cells #[.int .u8 g.o, .int .i64 g.d, .int .i64 g.s, .int .i64 g.n] 37)))
        clear b2
        dsimp only
        go_wp2_with fail
        go_ret2
        exact ⟨_, [], by rw [e.out]; rfl, HB2.out, World.ownsRow_nil _ _ _ _, fun h => absurd (e.out.symm.trans h) (by decide), fun _ => rfl⟩
    · obtain rfl : k = n := by omega
      have e := pre_end HP.out (by rw [HL.out.1]; exact Nat.le_refl _)
      have e2 := hid (stE_end (by have := HL.out; omega) (by have := HL.out; omega) e)
      rw [SE.out] at e2
      go_wp2
      go_ret2
      exact ⟨_, S, by rw [e2.out]; rfl, HB.out, HO.out, fun _ => e, fun h => absurd e2.out h⟩
set_option maxRecDepth 10000 in
set_option maxHeartbeats 4000000 in
theorem SameInts_true (v1 v2 : Value) (X : List Int) (b1 b2 : Nat) (w : World) (h1 : w.ownsRow b1 3 1 v1 X.length (X.map iv)) (h2 : w.ownsRow b2 3 1 v2 X.length (X.map iv)) (hX : X.length ≤ 100000) :
    Calls Try.prog 10 #[v1, v2] w fun e w' => e = .returned (.bool true) ∧ ∃ k, w' = w.drewN k := by
  obtain ⟨A1, c1, rfl⟩ := own_ints h1
  obtain ⟨A2, c2, rfl⟩ := own_ints h2
  have H1 := hid h1
  have H2 := hid h2
  clear h1 h2
  go_enter Try.func10, Try.ntmps10
  go_wp2_with fail
  go_loopw [5] (fun i wr => ∃ k j : Nat, k ≤ X.length ∧ i = .int .i64 k ∧ wr = w.drewN j) (fun i _ => X.length - (intOf i).toNat)
  case atStart => exact ⟨0, 0, Nat.zero_le _, rfl, rfl⟩
  case round =>
    obtain ⟨k, j, hk, rfl, rfl⟩ := hrel
    by_cases hlt : k < X.length
    · rcases H1.out.2 with ⟨e1, _⟩ | ⟨g1, _, _, e1, _⟩
      · injection e1 with _ e1
        omega
      cases e1
      rcases H2.out.2 with ⟨e2, _⟩ | ⟨g2, _, _, e2, _⟩
      · injection e2 with _ e2
        omega
      cases e2
      have ca : w.cell? ⟨g1, k, none⟩ = some (.int .i64 X[k]) := by
        have := H1.out.cells (g := g1) rfl k (iv X[k]) (by simp [hlt])
        rw [Addr.add_lit, Nat.zero_add] at this
        exact this
      have cb : w.cell? ⟨g2, k, none⟩ = some (.int .i64 X[k]) := by
        have := H2.out.cells (g := g2) rfl k (iv X[k]) (by simp [hlt])
        rw [Addr.add_lit, Nat.zero_add] at this
        exact this
      have hkz : (k : Int) < (X.length : Int) := by omega
      generalize X[k] = y at ca cb
      go_wp2_with fail
      go_quiet (fail)
      go_wp2
      go_roundw
      case rel => exact ⟨k + 1, _, by omega, by go_num, rfl⟩
      case measure => simp [intOf]; omega
    · obtain rfl : k = X.length := by omega
      go_wp2
      go_ret
      exact ⟨rfl, j, rfl⟩
end Go.Proofs.Ytdlmcfknmdaabaa
