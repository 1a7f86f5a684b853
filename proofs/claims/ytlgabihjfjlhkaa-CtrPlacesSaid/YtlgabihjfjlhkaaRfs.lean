/-
  The contract of the document's Stream.
-/
import Derived.Test.YtlgabihjfjlhkaaApp
import Derived.Test.YtlgabihjfjlhkaaWith
import Derived.Test.YtlgabihjfjlhkaaWords
import Derived.Test.YtlgabihjfjlhkaaRef
import Derived.Deep.Cut
import Derived.Test.YtlgabihjfjlhkaaRfa
namespace Go.Proofs.Ytlgabihjfjlhkaa
open Go.RowKit

/-- What the document's loop keeps: the stream so far; the block of the place before. -/
structure RsSt (w2 wr : World) (K : Nat → Nat) (non : List UInt8) (a : Nat) (vo vb : Value) (j : Nat) : Prop where
  out : OwnB w2 wr vo (stL K non a j)
  blk : j = 0 ∨ ∃ base, wr.ownsRow base 5 1 vb 16 ((blkS K non ((a + j - 1) / 16)).map bv) ∧ Apart2 vo vb
theorem RsSt.below {w2 wr W : World} {K : Nat → Nat} {non : List UInt8} {a : Nat} {vo vb : Value} {j : Nat} (s : RsSt w2 wr K non a vo vb j) (b : Below wr.heap.size wr W) : RsSt w2 W K non a vo vb j := by
  refine ⟨s.out.below b, ?_⟩
  rcases s.blk with h | ⟨base, h1, h2⟩
  · exact .inl h
  · exact .inr ⟨base, own_below h1 b, h2⟩
/-- Ahead of the byte's append. -/
structure TlSt (w2 W : World) (K : Nat → Nat) (non : List UInt8) (a : Nat) (vo vb : Value) (j q : Nat) : Prop where
  out : OwnB w2 W vo (stL K non a j)
  own : ∃ base, W.ownsRow base 5 1 vb 16 ((blkS K non q).map bv)
  ap : Apart2 vo vb
theorem TlSt.next {w2 W W' : World} {K : Nat → Nat} {non : List UInt8} {a j q : Nat} {vo vb v' : Value} {o : Obj} {b : UInt8} (s : TlSt w2 W K non a vo vb j q) (hq : q = (a + j) / 16) (hb : b = stB K non (a + j))
    (h1 : W'.ownsRow w2.heap.size 5 1 v' (j + 1) ((stL K non a j ++ [b]).map bv)) (h2 : Below w2.heap.size w2 W') (h3 : Keeps (W.alloc o) W' vo v') : RsSt w2 W' K non a v' vb (j + 1) := by
  subst hb
  rw [stL_next] at h1
  obtain ⟨base, hown⟩ := s.own
  obtain ⟨h4, h5⟩ := keeps_alloc h3 base vb 16 _ hown s.ap
  refine ⟨⟨by rw [stL_len]; exact h1, h2⟩, .inr ⟨base, ?_, h5⟩⟩
  rw [show a + (j + 1) - 1 = a + j by omega, ← hq]
  exact h4
theorem TlSt.old {w2 W : World} {K : Nat → Nat} {non : List UInt8} {a j q : Nat} {vo vb : Value} (s : RsSt w2 W K non a vo vb j) (h0 : j ≠ 0) (hq : q = (a + j - 1) / 16) : TlSt w2 W K non a vo vb j q := by
  rcases s.blk with h | ⟨base, h1, h2⟩
  · exact absurd h h0
  · exact ⟨s.out, ⟨base, by rw [hq]; exact h1⟩, h2⟩
theorem TlSt.fresh {w2 wx W : World} {K : Nat → Nat} {non : List UInt8} {a j q : Nat} {vo vb : Value} {X : List UInt8} (s : OwnB w2 wx vo (stL K non a j)) (h : OwnB wx W vb X) (hX : X = blkS K non q) : TlSt w2 W K non a vo vb j q := by
  subst hX
  have e := h.own
  rw [blkS_len] at e
  refine ⟨s.below h.bel, ⟨_, e⟩, fun k hk e2 => ?_⟩
  have h1 := (s.own.lt k hk).2
  have h2 := (h.own.lt k e2).1
  omega
theorem blk_byte {w : World} {B : Nat} {A : Option Addr} {c q : Nat} {non : List UInt8} {K : Nat → Nat} (h : IsBB w B A 16 c (blkS K non q)) (p m : Nat) (hp : q = p / 16) (hm : m = p % 16) : ∃ ad, A = some ad ∧ w.cell? (ad.add m) = some (.int .u8 ((stB K non p).toNat : Int)) := by
  subst hp
  subst hm
  obtain ⟨ad, e, hc⟩ := h.lies (by rw [blkS_len]; omega)
  refine ⟨ad, e, ?_⟩
  rw [hc (p % 16) (by rw [blkS_len]; omega), stB_get]
theorem TlSt.slice {w2 W : World} {K : Nat → Nat} {non : List UInt8} {a j q : Nat} {vo vb : Value} (s : TlSt w2 W K non a vo vb j q) (p m : Nat) (hp : q = p / 16) (hm : m = p % 16) : ∃ ad c, vb = .slice (some ad) 16 c ∧ W.cell? (ad.add m) = some (.int .u8 ((stB K non p).toNat : Int)) := by
  obtain ⟨base, h⟩ := s.own
  obtain ⟨A, c, e, hI⟩ := own_isBB h (by omega)
  obtain ⟨ad, e2, hc⟩ := blk_byte hI p m hp hm
  exact ⟨ad, c, by rw [e, e2], hc⟩
theorem TlSt.own2 {w2 W : World} {K : Nat → Nat} {non : List UInt8} {a j q : Nat} {vo vb : Value} (s : TlSt w2 W K non a vo vb j q) : W.ownsRow w2.heap.size 5 1 vo j ((stL K non a j).map bv) := by
  have e := s.out.own
  rw [stL_len] at e
  exact e
theorem own_first {wr W : World} {v : Value} {non : List UInt8} (hl : non.length = 8) (q : Nat) (h : W.ownsRow wr.heap.size 5 1 v (0 + 8) (([] ++ non).map bv)) (hb : Below wr.heap.size wr W) : OwnB wr W v (non ++ be8P q 0) := by
  have e : non ++ be8P q 0 = non := by simp [be8P]
  rw [e]
  refine ⟨?_, hb⟩
  rw [hl]
  exact h
set_option maxRecDepth 10000 in
set_option maxHeartbeats 1000000 in
theorem RefStream_any (A B : Option Addr) (c d : Nat) (k non : List UInt8) (a n : Nat) (w : World) (hk : IsBB w w.heap.size A 32 c k) (hn : IsBB w w.heap.size B 8 d non) (ha : a ≤ 1099511627776) (hn2 : n ≤ 1000) :
    Calls Try.prog 11 #[.slice A 32 c, .slice B 8 d, .int .i64 a, .int .i64 n] w fun e w' => ∃ A' c', e = .returned (.tuple #[.slice A' n c', .int .i64 0]) ∧ IsBB w' w'.heap.size A' n c' (stL (fnOf k) non a n) ∧ Below w.heap.size w w' := by
  have hkl := hk.len
  have hll := hn.len
  obtain ⟨kad, rfl, _⟩ := hk.lies (by omega)
  obtain ⟨nad, rfl, _⟩ := hn.lies (by omega)
  have HK := hid hk
  have HN := hid hn
  have HNl := hid hll
  have hkk : ∀ j, j < 32 → fnOf k j < 256 := fun j _ => fnOf_lt k j
  have e2 : ¬ (a : Int) < 0 := by omega
  have e3 : ¬ (1099511627776 : Int) < (a : Int) := by omega
  have e4 : ¬ (n : Int) < 0 := by omega
  have e5 : ¬ (4194304 : Int) < (n : Int) := by omega
  clear hk hn hkl hll
  go_enter Try.func11, Try.ntmps11
  go_upto_region 4 with (go_at_call 27; refine (Table_any _).mono ?_; rintro e W1 ⟨v1, rfl, hT1⟩; obtain ⟨A1, c1, he1, hI1⟩ := hT1.isBB (by rw [tabL_len]; omega); rw [tabL_len] at he1 hI1; subst he1; have HI1 := hid hI1; have HB1 := hid hT1.bel; clear hT1 hI1)
  obtain ⟨s1, he1, _⟩ := HI1.out.lies (by rw [tabL_len]; omega)
  subst he1
  have K1 := hid (HK.out.on HB1.out)
  have L1 := hid (HN.out.on HB1.out)
  clear HK HN e2 e3 e4 e5
  go_wp2_with (go_at_call 28; refine (Words_any kad s1 c c1 k _ K1.out HI1.out).mono ?_; rintro e W2 ⟨v2, rfl, hW2⟩; have hb2 := hW2.bel; obtain ⟨g2, c2, he2, hw2⟩ := wordsAt_of hW2; subst he2; have HW2 := hid hw2; have HI2 := hid (HI1.out.on hb2); have L2 := hid (L1.out.on hb2); have HB2 := hid (bel_trans HB1.out hb2); clear hb2 hW2 hw2 HI1 K1 L1 HB1)
  obtain ⟨K, hKe⟩ : ∃ K, K = fnOf k := ⟨_, rfl⟩
  rw [← hKe] at hkk HW2
  have HKe := hid hKe
  clear hKe
  have S0 : Hid (RsSt W2 W2 K non a (.slice none 0 0) (.slice none 0 0) 0) := ⟨OwnB.nil W2 W2 (Below.refl _ W2), .inl rfl⟩
  go_loopw [12, 13, 14, 15, 16] (fun vo vb vi _ _ wr => ∃ (vo' vb' : Value) (j : Nat), j ≤ n ∧ vi = .int .i64 ((a + j : Nat) : Int) ∧ vo' = vo ∧ vb' = vb ∧ Hid (RsSt W2 wr K non a vo' vb' j)) (fun _ _ vi _ _ _ => a + n - (intOf vi).toNat)
  case atStart => exact ⟨_, _, 0, Nat.zero_le _, rfl, rfl, rfl, S0⟩
  case round =>
    obtain ⟨vo, vb, j, hj, rfl, rfl, rfl, hs⟩ := hrel
    clear S0
    by_cases hlt : j < n
    · have hlz : ((a + j : Nat) : Int) < (a : Int) + (n : Int) := by omega
      obtain ⟨Wo, hWo⟩ : ∃ W : World, W = wr := ⟨_, rfl⟩
      rw [← hWo] at hs ⊢
      clear hWo
      obtain ⟨i, hi⟩ : ∃ i, i = a + j := ⟨_, rfl⟩
      rw [← hi] at hlz ⊢
      obtain ⟨q, hq⟩ : ∃ q, q = i / 16 := ⟨_, rfl⟩
      have hq1 : (i : Int) / 16 = (q : Int) := by omega
      have Hij : Hid ((i : Int) + 1 = ((a + (j + 1) : Nat) : Int)) := by show _ = _; omega
      obtain ⟨m, hm⟩ : ∃ m, m = i % 16 := ⟨_, rfl⟩
      have hm1 : (i : Int) % 16 = (m : Int) := by omega
      have hm2 : (m : Int) < 16 := by omega
      have Hm1 := hid hm1
      have Hqa : Hid (q = (a + j) / 16) := by show _ = _; rw [← hi]; exact hq
      have Hma : Hid (m = (a + j) % 16) := by show _ = _; rw [← hi]; exact hm
      have HQ : Hid (RsSt W2 Wo K non a vo vb j) := hs
      by_cases hnew : j = 0 ∨ i % 16 = 0
      · have L3 := hid (L2.out.below hs.out.out.bel)
        have hc : a = i ∨ (¬ (i : Int) = (a : Int) ∧ (i : Int) % 16 = 0) := by omega
        clear hnew hi hq hs hm hm1
        rcases hc with hc | ⟨hc, hc2⟩
        case' inl => subst hc
        all_goals
          go_wp2_with (at_builtin; go_loud (refine wpList_append_bytes rfl (.tmp 61) (.tmp 62) rfl Wo.heap.size Wo (.slice none 0 0) 0 [] rfl (World.ownsRow_nil Wo _ _ _) (some nad) 8 d non rfl L3.out.toIsB (by omega) (Below.refl _ Wo) (Nat.le_refl _) ?_; intro v4 W4 hv4 hb4 hk4; have HI4 := hid (own_first HNl.out q hv4.out hb4.out); clear hv4 hb4 hk4))
          go_loopw [15, 16] (fun vn vk wr => ∃ (v : Value) (t : Nat), t ≤ 8 ∧ vk = .int .i64 ((7 : Int) - (t : Int)) ∧ v = vn ∧ Hid (OwnB Wo wr v (non ++ be8P q t))) (fun _ vk _ => (intOf vk + 1).toNat)
          case atStart => exact ⟨_, 0, Nat.zero_le _, rfl, rfl, HI4⟩
          case round =>
            obtain ⟨v, t, ht, rfl, rfl, hst⟩ := hrel
            clear HI4
            by_cases ht8 : t < 8
            · obtain ⟨kk, hkk2⟩ : ∃ kk : Nat, kk = 7 - t := ⟨_, rfl⟩
              rw [show (7 : Int) - (t : Int) = (kk : Int) by omega]
              have hk0 : (0 : Int) ≤ (kk : Int) := by omega
              have hk7 : (kk : Int) ≤ 7 := by omega
              have hz : (q : Int) / 2 ^ (8 * kk) % 256 = ((q / 2 ^ (8 * kk) % 256 : Nat) : Int) := by push_cast; rfl
              have hzl : q / 2 ^ (8 * kk) % 256 < 256 := Nat.mod_lt _ (by decide)
              have hl : (non ++ be8P q t).length = 8 + t := by rw [List.length_append, HNl.out, be8P_len]
              have HX : Hid ((non ++ be8P q t) ++ [UInt8.ofNat (q / 2 ^ (8 * kk) % 256)] = non ++ be8P q (t + 1)) := by
                show _ = _
                rw [hkk2, List.append_assoc, be8P_next]
              have Hkk := hid hkk2
              generalize q / 2 ^ (8 * kk) % 256 = z at hz hzl HX
              clear hkk2
              go_wp2_with (at_builtin; go_loud (refine wpList_app1 rfl (.tmp 68) (.tmp 76) rfl Wo wr v (non ++ be8P q t) z rfl rfl hst.out (by omega) hzl ?_; intro v5 W5 hv5))
              rw [HX.out] at hv5
              go_roundw
              case rel => exact ⟨v5, t + 1, by omega, congrArg (Value.int .i64) (by have := Hkk.out; omega), rfl, hv5⟩
              case measure => have := Hkk.out; simp [intOf] <;> omega
            · obtain rfl : t = 8 := by omega
              rw [show (7 : Int) - ((8 : Nat) : Int) = -1 by rfl]
              have hst2 := hst.out
              rw [be8P_end] at hst2
              have hl2 : (non ++ be8L q).length = 16 := by rw [List.length_append, HNl.out, be8L_len]
              obtain ⟨g5, c5, he5, hN5⟩ := hst2.new (by omega) (by omega)
              subst he5
              have hI5 := hN5.isBB
              rw [hl2] at hI5
              have hb5 : Below W2.heap.size W2 wr := bel_trans HQ.out.out.bel hst2.bel
              have HW := hid (With_any s1 ⟨g5, 0, none⟩ c1 c5 g2 c2 (non ++ be8L q) K wr hkk (HW2.out.on hb5) (HI2.out.on hb5) hI5)
              have HO := hid (HQ.out.out.below hst2.bel)
              rw [hl2]
              clear hst hst2 hN5 hI5 hb5 hl2
              go_upto_region 17 with (go_at_call 29; refine HW.out.mono ?_; rintro e W6 ⟨v6, rfl, hO6⟩; have HT := hid (TlSt.fresh (q := q) HO.out hO6 (outW_enc K (non ++ be8L q))); clear hO6 HW HO)
              obtain ⟨ad6, c6, he6, c7⟩ := HT.out.slice (a + j) m Hqa.out Hma.out
              subst he6
              try clear hc2
              have hm1 := Hm1.out
              have HTo := hid (HT.out.own2.alloc (.cells #[.int .u8 ((stB K non (a + j)).toNat : Int)] 5))
              have HTb := hid (HT.out.out.bel.alloc HT.out.out.bel.size (.cells #[.int .u8 ((stB K non (a + j)).toNat : Int)] 5))
              go_wp2_with (at_builtin; go_loud (refine wpList_append_bytes rfl (.tmp 82) (.tmp 88) rfl W2.heap.size W2 vo j (stL K non a j) rfl HTo.out (some ⟨W6.heap.size, 0, none⟩) 1 1 [stB K non (a + j)] rfl (one_isB W6 (stB K non (a + j)) _ rfl) (by omega) HTb.out (Nat.le_refl _) ?_; intro v7 W7 hv7 hb7 hk7; have HR := hid (HT.out.next Hqa.out rfl hv7.out hb7.out hk7.out); clear hv7 hb7 hk7))
              go_roundw
              case rel => exact ⟨v7, _, j + 1, by omega, congrArg (Value.int .i64) (by have := Hij.out; omega), rfl, rfl, HR⟩
              case measure => have := Hij.out; simp [intOf]; omega
      · have hc : ¬ (i : Int) = (a : Int) := by omega
        have hc2 : ¬ (i : Int) % 16 = 0 := by omega
        have hc3 : ((m : Int) == 0) = false := by rw [beq_eq_false_iff_ne]; omega
        have hc4 : ((i : Int) == (a : Int)) = false := by rw [beq_eq_false_iff_ne]; omega
        have HT := hid (TlSt.old (q := q) HQ.out (by omega) (by omega))
        obtain ⟨ad6, c6, he6, c7⟩ := HT.out.slice (a + j) m Hqa.out Hma.out
        subst he6
        have HTo := hid (HT.out.own2.alloc (.cells #[.int .u8 ((stB K non (a + j)).toNat : Int)] 5))
        have HTb := hid (HT.out.out.bel.alloc HT.out.out.bel.size (.cells #[.int .u8 ((stB K non (a + j)).toNat : Int)] 5))
        clear hnew hi hq hs hm hc2
        go_wp2_with (at_builtin; go_loud (refine wpList_append_bytes rfl (.tmp 82) (.tmp 88) rfl W2.heap.size W2 vo j (stL K non a j) rfl HTo.out (some ⟨Wo.heap.size, 0, none⟩) 1 1 [stB K non (a + j)] rfl (one_isB Wo (stB K non (a + j)) _ rfl) (by omega) HTb.out (Nat.le_refl _) ?_; intro v7 W7 hv7 hb7 hk7; have HR := hid (HT.out.next Hqa.out rfl hv7.out hb7.out hk7.out); clear hv7 hb7 hk7))
        go_roundw
        case rel => exact ⟨v7, _, j + 1, by omega, congrArg (Value.int .i64) (by have := Hij.out; omega), rfl, rfl, HR⟩
        case measure => have := Hij.out; simp [intOf]; omega
    · obtain rfl : j = n := by omega
      go_wp2_with fail
      go_ret2
      obtain ⟨A3, c3, he3, hI3⟩ := hs.out.out.isBB (by rw [stL_len]; omega)
      rw [stL_len] at he3 hI3
      rw [HKe.out] at hI3
      subst he3
      exact ⟨A3, c3, rfl, hI3, bel_trans HB2.out hs.out.out.bel⟩
end Go.Proofs.Ytlgabihjfjlhkaa
