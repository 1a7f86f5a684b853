/-
  The contract of 'hidden'.
-/
import Derived.Test.YtpeepohiajmhcaaAls
namespace Go.Proofs.Ytpeepohiajmhcaa
open Go.RowKit

/-- An array of bytes in a block of its own. -/
theorem arr_isBB {w : World} {g : Nat} {l : List UInt8} {t : TypeId} (h : w.heap[g]? = some (.cells (l.map bv).toArray t (0, 0))) (n : Nat) (hl : l.length = n) (hn : n ≤ 1000) : IsBB w w.heap.size (some ⟨g, 0, none⟩) n n l := by
  refine ⟨⟨hl, Nat.le_refl _, by unfold maxLen; omega, by omega, fun _ => ⟨_, rfl, fun j hj => ?_⟩⟩, fun _ ad e => by cases e; exact lt_of_heap h⟩
  rw [Addr.add_lit, Nat.zero_add, row_cell h, List.getElem?_toArray, map_bv_getElem? l j hj]
/-- Each byte behind the salt. -/
theorem sees_get {salt : List UInt8} {st : Nat → UInt8} {d p : Dk} (s : Sees salt st d p) (hs : salt.length = 32) (i : Nat) (y : UInt8) (hi : p.now[i]? = some y) : d.now[32 + i]? = some (y ^^^ st i) := by
  obtain ⟨h, rfl⟩ := List.getElem?_eq_some_iff.1 hi
  have he : i < (encS st 0 p.now).length := by rw [encS_len]; exact h
  rw [s.nw, List.getElem?_append_right (by omega), hs, Nat.add_sub_cancel_left, List.getElem?_eq_getElem he, encS_get st p.now 0 i h, Nat.zero_add]
theorem isB_get {w : World} {A : Option Addr} {n c : Nat} {l : List UInt8} (h : IsB w A n c l) (j : Nat) (b : UInt8) (hj : l[j]? = some b) : ∃ ad, A = some ad ∧ w.cell? (ad.add j) = some (.int .u8 (b.toNat : Int)) := by
  obtain ⟨h1, rfl⟩ := List.getElem?_eq_some_iff.1 hj
  obtain ⟨ad, e, hc⟩ := h.lies (by omega)
  exact ⟨ad, e, hc j h1⟩
theorem bel_trans0 {B : Nat} {w a b : World} (hB : B ≤ w.heap.size) (h : Below B w a) (k : Below a.heap.size a b) : Below B w b := h.trans (k.mono (Nat.le_trans hB h.size))
set_option maxRecDepth 10000 in
set_option maxHeartbeats 4000000 in
theorem hidden_any {base : Nat} {W : World} {X : Nat → Prop} {gd gp : Nat} {D p : Dk} {hf hg : Nat} {en : En} {salt pw : List UInt8} {A : Option Addr} {n cap : Nat} (t : Two base W X gd gp D p hf hg en) (hen : en = enOf pw salt) (s : Sees salt (stE en) D p) (hs : salt.length = 32) (hp : IsBB W W.heap.size A n cap pw) :
    Calls Try.prog 25 #[.pointer (some ⟨gd, 0, none⟩), .pointer (some ⟨gp, 0, none⟩), .slice A n cap, .agg (salt.map bv).toArray] W fun r w' => r = .returned (.bool true) ∧ Below W.heap.size W w' := by
  have Hx := hid (sees_get s hs)
  have hlen := s.len hs
  have hmx := t.ok.2.mx
  have hm4 := t.ok.2.m4
  obtain ⟨kl, hkl⟩ : ∃ kl, d.pbk pw salt 4 32 = kl := ⟨_, rfl⟩
  obtain ⟨non, hnon⟩ : ∃ non, salt.take 8 = non := ⟨_, rfl⟩
  have hst : Hid (∀ j, stE en j = c.stB (c.fnOf kl) non (32 + j)) := by
    intro j
    rw [hen]
    unfold enOf
    rw [hkl, hnon]
    rfl
  obtain ⟨W0, hW0⟩ : ∃ W0, W0 = W.alloc (.cells (salt.map bv).toArray 46) := ⟨_, rfl⟩
  have b0 : Below W.heap.size W W0 := by rw [hW0]; exact (Below.refl _ W).alloc (Nat.le_refl _) _
  have r0 : W0.heap[W.heap.size]? = some (.cells (salt.map bv).toArray 46 (0, 0)) := by rw [hW0]; exact heap_alloc_new W _
  have I0 := arr_isBB r0 32 hs (by omega)
  have HP := hid (d.Pbkdf2_yes A (some ⟨W.heap.size, 0, none⟩) pw salt n cap 32 32 4 32 W0 (hp.on b0) I0 (by omega) (by omega) (by omega))
  rw [hkl, show ((4 : Nat) : Int) = 4 from rfl, show ((32 : Nat) : Int) = 32 from rfl] at HP
  have T0 := hid (t.below b0)
  have H8 := hid (take_isB I0 (show 8 ≤ 32 by omega))
  rw [hnon] at H8
  have B0 := hid b0
  have HM := hid (And.intro hmx hm4)
  obtain ⟨q, hq⟩ : ∃ q, p.now.length = q := ⟨_, rfl⟩
  have hlo : ∀ j, j < 32 → c.fnOf kl j < 256 := fun j _ => c.fnOf_lt kl j
  have Hlo := hid hlo
  obtain ⟨z, hz⟩ : ∃ z, q + 32 = z := ⟨_, rfl⟩
  rw [hq] at hlen hmx
  rw [hz] at hlen
  have hq4 : q ≤ 4194304 := by omega
  have Hq := hid hq
  have Hlen := hid hlen
  have hs2 : IntKind.i64.wrap ((q : Int) + 32) = (z : Int) := by rw [IntWalk.i64_in _ (by omega)]; omega
  have Hz := hid hz
  clear hz hlen t s hs hp hkl hnon I0 r0 b0 hmx hm4 hlo hen hq
  go_enter Try.func25, Try.ntmps25
  go_upto_region 1 with fail
  rw [← hW0]
  clear hW0
  obtain ⟨b, hb⟩ : ∃ b, W.heap.size = b := ⟨_, rfl⟩
  rw [hb] at HP H8 B0 ⊢
  have Hb := hid hb
  have HbL : Hid (b ≤ W.heap.size) := Nat.le_of_eq hb.symm
  clear hb
  go_upto_region 5 with (first
    | (go_at_call 44; (with_reducible refine HP.out.mono ?_); rintro r W1 ⟨k, rfl, h1⟩; have B1 := hid (bel_trans0 HbL.out B0.out h1.bel); have T1 := hid (T0.out.below h1.bel); have H81 := hid (H8.out.on h1.bel); have HC := hid (c.New_any (some ⟨k, 0, none⟩) 32 kl W1 h1.isBB); clear h1 HP T0 H8 B0)
    | (go_at_call 45; (with_reducible refine HC.out.mono ?_); rintro r W2 ⟨gc, rfl, ci, b2, _⟩; have B2 := hid (bel_trans0 HbL.out B1.out b2); have T2 := hid (T1.out.below b2); have H82 := hid (H81.out.on b2); have C2 := hid ci; have HI := hid T2.out.dimage; rw [Hlen.out] at HI; clear ci b2 HC B1 T1 H81)
    | (go_at_call 23; (with_reducible refine HI.out.mono ?_); rintro r W3 ⟨AX, cX, rfl, x3, b3⟩; have B3 := hid (bel_trans0 HbL.out B2.out b3); have T3 := hid (T2.out.below b3); have H83 := hid (H82.out.on b3); have C3 := hid (C2.out.onB b3 C2.out.lt); have X3 := hid x3; have HJ := hid T3.out.pimage; rw [Hq.out] at HJ; clear x3 b3 HI B2 T2 H82 C2)
    | (go_at_call 23; (with_reducible refine HJ.out.mono ?_); rintro r W4 ⟨AY, cY, rfl, y4, b4⟩; have B4 := hid (bel_trans0 HbL.out B3.out b4); have X4 := hid (X3.out.on b4); have Y4 := hid y4; have HS := hid (c.Stream_any gc (c.fnOf kl) (some ⟨b, 0, none⟩) 32 non 32 q W4 (C3.out.onB b4 C3.out.lt) Hlo.out (H83.out.on b4) (by omega) hq4); rw [show ((32 : Nat) : Int) = 32 from rfl] at HS; clear y4 b4 HJ B3 T3 H83 C3 X3)
    | (go_at_call 46; (with_reducible refine HS.out.mono ?_); rintro r W5 ⟨gs, rfl, s5⟩; have B5 := hid (bel_trans0 HbL.out B4.out s5.bel); have X5 := hid (X4.out.on s5.bel); have Y5 := hid (Y4.out.on s5.bel); have S5 := hid s5.isBB; clear s5 HS B4 X4 Y4))
  have hs3 : IntKind.i64.wrap (z : Int) = (z : Int) := by have := Hz.out; rw [IntWalk.i64_in _ (by omega)]
  go_wp2_with fail
  go_loopw [17] (fun vi wr => ∃ i j : Nat, i ≤ q ∧ vi = .int .i64 i ∧ wr = W5.drewN j) (fun vi _ => q - (intOf vi).toNat)
  case atStart => exact ⟨0, 0, Nat.zero_le _, rfl, rfl⟩
  case round =>
    obtain ⟨i, j, hiq, rfl, hwr⟩ := hrel
    obtain ⟨Wo, hWo⟩ : ∃ Wo, W5.drewN j = Wo := ⟨_, rfl⟩
    rw [hWo] at hwr
    subst hwr
    by_cases hlt : i < q
    · have hlz : (i : Int) < (q : Int) := by omega
      obtain ⟨y, hy⟩ : ∃ y, p.now[i]? = some y := ⟨_, List.getElem?_eq_getElem (by have := Hq.out; omega)⟩
      have hx := Hx.out i y hy
      rw [hst.out i] at hx
      have hsg : (c.stL (c.fnOf kl) non 32 q)[i]? = some (c.stB (c.fnOf kl) non (32 + i)) := by
        have hl : i < (c.stL (c.fnOf kl) non 32 q).length := by rw [c.stL_len]; exact hlt
        rw [List.getElem?_eq_getElem hl, c.stL_get]
      generalize c.stB (c.fnOf kl) non (32 + i) = sb at hx hsg
      obtain ⟨k, hk⟩ : ∃ k, 32 + i = k := ⟨_, rfl⟩
      rw [hk] at hx
      have hki : IntKind.i64.wrap (32 + (i : Int)) = (k : Int) := by have := Hz.out; rw [IntWalk.i64_in _ (by omega)]; omega
      have hkz : (k : Int) < (z : Int) := by have := Hz.out; omega
      have hxo := c.u8_xor_u y sb
      have IX := X5.out.toIsB.drewN j
      have IY := Y5.out.toIsB.drewN j
      have IS := S5.out.toIsB.drewN j
      rw [hWo] at IX IY IS
      obtain ⟨ax, rfl, cx⟩ := isB_get IX k _ hx
      obtain ⟨ay, rfl, cy⟩ := isB_get IY i _ hy
      obtain ⟨ag, eag, cs⟩ := isB_get IS i _ hsg
      cases eag
      rw [Addr.add_lit, Nat.zero_add] at cs
      have HWo := hid hWo
      generalize y ^^^ sb = xo at cx hxo
      clear hWo hx hy hsg hk IX IY IS
      go_wp2_with fail
      go_quiet (fail)
      go_wp2_with fail
      go_roundw
      case rel => exact ⟨i + 1, j + nq, by omega, by go_num, by rw [← HWo.out, World.drewN_drewN]⟩
      case measure => simp [intOf]; omega
    · obtain rfl : i = q := by omega
      go_wp2_with fail
      go_ret
      have B6 := B5.out
      rw [← Hb.out] at B6 ⊢
      rw [← hWo]
      exact ⟨rfl, below_drewN B6 j⟩
end Go.Proofs.Ytpeepohiajmhcaa
