/-
  The contracts of bytes.Clone, NewDecoder, Get.
-/
import Derived.Test.YtbgbacajgaeooaaDec
namespace Go.Proofs.Ytbgbacajgaeooaa
open Go.RowKit

theorem nil_nil (n c : Nat) (w : World) : (binOp BinOp.eql 30 (.slice none n c) (.slice none 0 0)).run Try.prog w = .ok (.bool true) w := by kernel_rfl
theorem some_nil (a : Addr) (n c : Nat) (w : World) : (binOp BinOp.eql 30 (.slice (some a) n c) (.slice none 0 0)).run Try.prog w = .ok (.bool false) w := by kernel_rfl
set_option maxHeartbeats 1000000 in
set_option maxRecDepth 10000 in
theorem Clone_any (A : Option Addr) (l : List UInt8) (n c : Nat) (w : World) (h : IsBB w w.heap.size A n c l) :
    Calls Try.prog 32 #[.slice A n c] w fun e w' => ∃ v, e = .returned v ∧ w'.ownsRow w.heap.size 5 1 v n (l.map bv) ∧ Below w.heap.size w w' := by
  obtain ⟨i0, hi, hz0, hz1, hz2⟩ := info_parts Try.info5
  have Hlen := hid h.len
  have hs := h.small
  rcases A with _ | ad
  · have hn : n = 0 := by
      rcases Nat.eq_zero_or_pos n with h0 | h0
      · exact h0
      · obtain ⟨ad, e, _⟩ := h.lies (by rw [Hlen.out]; exact h0)
        cases e
    subst hn
    obtain rfl : l = [] := List.eq_nil_of_length_eq_zero Hlen.out
    go_enter Try.func32, Try.ntmps32
    have hnn := nil_nil 0 c
    go_wp2
    go_ret
    exact ⟨_, rfl, ⟨by simp, .inl ⟨rfl, rfl⟩⟩, Below.refl _ _⟩
  · have hnn := some_nil ad n c
    go_enter Try.func32, Try.ntmps32
    have h0 : (w.alloc (.cells #[] 5)).ownsRow w.heap.size 5 1 (.slice (some ⟨w.heap.size, 0, none⟩) 0 0) 0 [] := World.ownsRow_made w #[] 0 (Nat.le_refl _) (Nat.zero_le _) rfl
    have hb0 : Below w.heap.size w (w.alloc (.cells #[] 5)) := (Below.refl _ w).alloc (Nat.le_refl _) _
    go_wp2_with (at_builtin; go_loud (refine wpList_append_own _ rfl _ _ 30 rfl w.heap.size 5 i0 (.int .u8 0) 1 1 Try.underlying30 hi hz0 hz1 hz2 rfl (by decide) (.slice (some ⟨w.heap.size, 0, none⟩) 0 0) 0 [] rfl h0 ad n c (l.map bv) rfl ?c0 ?c1 (bv_one l) ?c3 ?c4 ?c5 ?_))
    case c0 => rw [List.length_map, Hlen.out, Nat.mul_one]
    case c1 =>
      intro j u hu
      have hp : 0 < (l.map bv).length := by
        have := (List.getElem?_eq_some_iff.1 hu).1
        omega
      obtain ⟨ad', e, hc⟩ := h.src hb0 hp
      cases e
      exact hc j u hu
    case c3 => unfold maxLen; omega
    case c4 => omega
    case c5 => exact hb0.size
    intro v' w1 hown hgrow _
    go_wp2
    go_ret
    exact ⟨_, rfl, by simpa using hown, hb0.grown hgrow hb0.size (fun k e => by cases e; exact Nat.le_refl _)⟩
theorem z4_0 (l : List UInt8) : z4 (0 :: 0 :: 0 :: 0 :: l) = 0 := by
  unfold z4
  simp only [List.getD_cons_zero, List.getD_cons_succ]
  rfl
set_option maxRecDepth 10000 in
set_option maxHeartbeats 4000000 in
theorem NewDecoder_any (A : Option Addr) (l : List UInt8) (n c : Nat) (w : World) (h : IsBB w w.heap.size A n c l) :
    Calls Try.prog 18 #[.slice A n c] w fun r w' => ∃ g S A' n' c', r = .returned (.pointer (some ⟨g, 0, none⟩)) ∧ DeAt w.heap.size S w' g 0 4294967295 l l.length A' n' c' ∧ Below w.heap.size w w' := by
  have hlen := h.len
  have hsm := h.small
  have HC : Hid (∀ w1, Below w.heap.size w w1 → Calls Try.prog 32 #[.slice A n c] w1 fun e w2 => ∃ A1 c1, e = .returned (.slice A1 n c1) ∧ w2.ownsRow w.heap.size 5 1 (.slice A1 n c1) n (l.map bv) ∧ Below w.heap.size w w2) := by
    intro w1 b1
    refine (Clone_any A l n c w1 (h.on b1)).mono ?_
    · rintro r w2 ⟨v, rfl, ho, b2⟩
      obtain ⟨A1, c1, rfl⟩ := own_sl ho
      refine ⟨A1, c1, rfl, ⟨ho.1, ?_⟩, b1.trans (b2.mono b1.size)⟩
      rcases ho.2 with h2 | ⟨g', cap, cur, hv, hg, r⟩
      · exact .inl h2
      · exact .inr ⟨g', cap, cur, hv, Nat.le_trans b1.size hg, r⟩
  have HI : Hid (∀ W A1 c1, W.ownsRow w.heap.size 5 1 (.slice A1 n c1) n (l.map bv) → Below w.heap.size w W →
      DeAt w.heap.size (fun i => i = W.heap.size ∨ Value.ownBlock (.slice A1 n c1) = some i) (W.alloc (.cells #[.pointer (some ⟨W.heap.size, 0, none⟩), .int .u32 0, .int .u32 4294967295, .int .u32 0, .slice A1 n c1, .int .i64 0] 57)) W.heap.size 0 4294967295 (0 :: 0 :: 0 :: 0 :: l) l.length A1 n c1) := by
    intro W A1 c1 ho hb
    have hIB := own_isB2 ho hsm
    have hba : Below W.heap.size W (W.alloc (.cells #[.pointer (some ⟨W.heap.size, 0, none⟩), .int .u32 0, .int .u32 4294967295, .int .u32 0, .slice A1 n c1, .int .i64 0] 57)) := (Below.refl _ W).alloc (Nat.le_refl _) _
    refine ⟨?_, (hIB.below hba).toIsB, fun hp ad e => ?_, .inl rfl, fun i hi => ?_, by omega, by omega⟩
    · rw [heap_alloc_new W, z4_0, hlen, Nat.sub_self]
      rfl
    · subst e
      have h3 := hIB.low (by omega) ad rfl
      rcases ho.2 with ⟨h1, _⟩ | ⟨g', cap, cur, hv, hg, _⟩
      · cases h1
      · cases hv
        have h4 : g' < W.heap.size := h3
        refine ⟨.inr rfl, Nat.ne_of_lt h4, ?_⟩
        simp only [World.size_alloc]
        exact Nat.lt_succ_of_lt h4
    · rcases hi with rfl | hi
      · exact ⟨hb.size, by simp⟩
      · have := ho.lt i hi
        exact ⟨this.1, by simp; omega⟩
  clear h hlen
  go_enter Try.func18, Try.ntmps18
  go_wp2_with (first
    | (go_at_call 25; refine (whole_any w).mono ?_; rintro r w1 ⟨rfl, b1⟩; have HC1 := hid (HC.out w1 b1); clear b1)
    | (go_at_call 32; refine HC1.out.mono ?_; rintro r w2 ⟨A1, c1, rfl, ho, b2⟩; have HD := hid (HI.out w2 A1 c1 ho b2); have HB := hid b2; clear ho b2))
  go_loopw [13] (fun vi wr => ∃ k, k ≤ 4 ∧ vi = .int .i64 (k : Nat) ∧ Hid ((∃ A' n' c', DeAt w.heap.size (fun i => i = w2.heap.size ∨ Value.ownBlock (.slice A1 n c1) = some i) wr w2.heap.size 0 4294967295 (List.drop k (0 :: 0 :: 0 :: 0 :: l)) l.length A' n' c') ∧ Below w.heap.size w wr)) (fun vi _ => 4 - (intOf vi).toNat)
  case atStart => exact ⟨0, Nat.zero_le _, rfl, hid ⟨⟨_, _, _, HD.out⟩, HB.out.alloc HB.out.size _⟩⟩
  case round =>
    obtain ⟨k, hk, rfl, hst⟩ := hrel
    by_cases hlt : k < 4
    · have hlz : (k : Int) < 4 := by omega
      have HN : Hid (Calls Try.prog 33 #[.pointer (some ⟨w2.heap.size, 0, none⟩)] wr fun r w' => r = .returned noResult ∧ Hid ((∃ A' n' c', DeAt w.heap.size (fun i => i = w2.heap.size ∨ Value.ownBlock (.slice A1 n c1) = some i) w' w2.heap.size 0 4294967295 (List.drop (k + 1) (0 :: 0 :: 0 :: 0 :: l)) l.length A' n' c') ∧ Below w.heap.size w w')) := by
        obtain ⟨⟨A', n', c', hd⟩, hb⟩ := hst.out
        refine (next_any hd).mono ?_
        rintro r w' ⟨rfl, hb2, A2, n2, c2, hd2⟩
        rw [List.drop_drop] at hd2
        exact ⟨rfl, ⟨A2, n2, c2, hd2⟩, hb.trans ((hd.butg hb2).below (fun i hi => (hd.lt i hi).1) hb.size)⟩
      clear hst HD
      go_wp2_with (go_at_call 33; refine HN.out.mono ?_; rintro r w3 ⟨rfl, h3⟩)
      go_roundw
      case rel => exact ⟨k + 1, by omega, by go_num, h3⟩
      case measure => simp [intOf]; omega
    · obtain rfl : k = 4 := by omega
      clear HD
      go_wp2_with fail
      go_ret
      obtain ⟨⟨A', n', c', hd⟩, hb⟩ := hst.out
      exact ⟨_, _, _, _, _, rfl, hd, hb⟩
/-- Get on the way. -/
structure Dre (B : Nat) (S : Nat → Prop) (w : World) (g N : Nat) (FR : List UInt8) (fx fy : Nat) (wr : World) (x y : Nat) : Prop where
  is : ∃ R k A n c, DeAt B S wr g x y R N A n c ∧ But (· = g) w wr ∧ Way k x y ∧ R.drop (shd k x y).1.length = FR ∧ (shd k x y).2 = (fx, fy)
structure Dst (B : Nat) (S : Nat → Prop) (w : World) (g N : Nat) (FR : List UInt8) (fx fy : Nat) (wr : World) (ok : Bool) : Prop where
  is : ∃ R k x y A n c, DeAt B S wr g x y R N A n c ∧ But (· = g) w wr ∧ Way k x y ∧
    ((ok = true ∧ R.drop (1 + (shd k x y).1.length) = FR ∧ (shd k x y).2 = (fx, fy)) ∨ (ok = false ∧ R = FR ∧ x = fx ∧ y = fy))
theorem dshed_pre {B : Nat} {S : Nat → Prop} {w : World} {g N : Nat} {FR : List UInt8} {fx fy : Nat} {wr : World} {x y : Nat} (h : Dre B S w g N FR fx fy wr x y) :
    Calls Try.prog 30 #[.pointer (some ⟨g, 1, none⟩)] wr fun r w' => ∃ (b : Nat) (ok : Bool), r = .returned (.tuple #[.int .u8 (b : Nat), .bool ok]) ∧ Dst B S w g N FR fx fy w' ok ∧ wdW w' g + (if ok then 0 else 1) ≥ wdW wr g + 1 ∧ wdW w' g < 4294967296 := by
  obtain ⟨R, k, A, n, c, he, hs, hw, hl, hf⟩ := h.is
  have hx : wr.cell? ⟨g, 1, none⟩ = some (.int .u32 (x : Nat)) := row_cell he.row 1
  have hy : wr.cell? ⟨g, 2, none⟩ = some (.int .u32 (y : Nat)) := row_cell he.row 2
  have hwd := wdW_of hx hy
  have hle := hw.le
  have hlt := hw.lt
  by_cases ht : x / 16777216 = y / 16777216
  · obtain ⟨j, rfl, hw', hd⟩ := hw.next ht
    rw [shd_go j x y ht] at hl hf
    refine (shed_go g x y wr hx hy (by omega) (by omega) ht (row_free he.row 1) (row_free he.row 2)).mono ?_
    rintro r w' ⟨rfl, q, rfl⟩
    have hb : But (· = g) wr (((wr.setCell ⟨g, 1, none⟩ (.int .u32 (sx x : Nat))).setCell ⟨g, 2, none⟩ (.int .u32 (sy y : Nat))).drewN q) := (((But.refl (· = g) wr).set _ _ (.inl rfl)).set _ _ (.inl rfl)).drewN q
    have he' : DeAt B S (((wr.setCell ⟨g, 1, none⟩ (.int .u32 (sx x : Nat))).setCell ⟨g, 2, none⟩ (.int .u32 (sy y : Nat))).drewN q) g (sx x) (sy y) R N A n c := by
      refine he.turn hb ?_
      have r0 := he.row
      generalize z4 R = z0 at r0 ⊢
      have r1 := row_set r0 1 (.int .u32 (sx x : Nat))
      exact row_set r1 2 (.int .u32 (sy y : Nat))
    have hwd' := wdW_of (g := g) (x := sx x) (y := sy y) (row_cell he'.row 1) (row_cell he'.row 2)
    have hlt' := hw'.lt
    refine ⟨x / 16777216, true, rfl, ⟨R, j, sx x, sy y, A, n, c, he', hs.trans hb (fun i hi => .inl hi), hw', .inl ⟨rfl, ?_, hf⟩⟩, ?_, ?_⟩
    · rw [← hl, List.length_cons, Nat.add_comm]
    · rw [hwd, hwd']; simp only [if_true]; omega
    · rw [hwd']; omega
  · rw [shd_stop k x y ht] at hl hf
    refine (shed_stop g x y wr hx hy (by omega) (by omega) ht).mono ?_
    rintro r w' ⟨rfl, rfl⟩
    simp only [List.length_nil, List.drop_zero] at hl
    simp only [Prod.mk.injEq] at hf
    refine ⟨0, false, rfl, ⟨R, k, x, y, A, n, c, he, hs, hw, .inr ⟨rfl, hl, hf.1, hf.2⟩⟩, ?_, ?_⟩
    · simp
    · rw [hwd]; omega
end Go.Proofs.Ytbgbacajgaeooaa
