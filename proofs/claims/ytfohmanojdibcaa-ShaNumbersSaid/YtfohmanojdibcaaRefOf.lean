/-
  The contract of the document's answer: Of.
-/
import Derived.Test.YtfohmanojdibcaaRefPadN
import Derived.Test.YtfohmanojdibcaaHex
import Derived.StillTailTactics
import Derived.Deep.AppendLies
import Derived.Deep.RegionLaw
import Derived.IntWalk
namespace Go.Proofs.Ytfohmanojdibcaa
open Go.RowKit

def uv (x : Nat) : Value := .int .u32 (x : Nat)
theorem Try.info33 : (Try.prog.info? 33).map (fun i => (i.zero, i.size, i.bytes)) = some (some (.int .u32 0), 1, 4) := by kernel_rfl
/-- Five numbers in block g. -/
def FiveAt (w : World) (g : Nat) (s : St) : Prop := w.heap[g]? = some (.cells #[uv s.a, uv s.b, uv s.c, uv s.d, uv s.e] 33 (0, 0))
theorem FiveAt.cell {w : World} {g : Nat} {s : St} (h : FiveAt w g s) : w.cell? ⟨g, 0, none⟩ = some (.int .u32 (s.a : Nat)) ∧ w.cell? ⟨g, 1, none⟩ = some (.int .u32 (s.b : Nat)) ∧ w.cell? ⟨g, 2, none⟩ = some (.int .u32 (s.c : Nat)) ∧ w.cell? ⟨g, 3, none⟩ = some (.int .u32 (s.d : Nat)) ∧ w.cell? ⟨g, 4, none⟩ = some (.int .u32 (s.e : Nat)) := by
  refine ⟨?_, ?_, ?_, ?_, ?_⟩ <;> (rw [row_cell h]; rfl)

theorem Word_at (x : Int) (ad : Addr) (l : List UInt8) (n c p : Nat) (hx : x = (p : Int)) (w : World) (h : IsB w (some ad) n c l) (hp : p + 4 ≤ n) :
    Calls Try.prog 23 #[.slice (some ad) n c, .int .i64 x] w fun e w' => e = .returned (.int .u32 (be4 (l.getD p 0).toNat (l.getD (p + 1) 0).toNat (l.getD (p + 2) 0).toNat (l.getD (p + 3) 0).toNat : Nat)) ∧ w = w' := by
  subst hx; exact Word_any ad l n c p w h hp
theorem blk_getD (P : List UInt8) (k i : Nat) (hi : i < 64) : (blk P k).getD i 0 = P.getD (64 * k + i) 0 := by
  unfold blk
  simp only [List.getD, List.getElem?_take, List.getElem?_drop]
  rw [if_pos hi]
theorem word_blk (P : List UInt8) (k j : Nat) (hj : j < 16) : wd (blk P k) j = be4 (P.getD (64 * k + 4 * j) 0).toNat (P.getD (64 * k + 4 * j + 1) 0).toNat (P.getD (64 * k + 4 * j + 2) 0).toNat (P.getD (64 * k + 4 * j + 3) 0).toNat := by
  rw [wd_low _ _ hj]
  unfold w0
  rw [blk_getD _ _ _ (by omega), blk_getD _ _ _ (by omega), blk_getD _ _ _ (by omega), blk_getD _ _ _ (by omega)]
  rfl
theorem sched_succ (b : List UInt8) (j : Nat) : (sched b (j + 1)).map uv = (sched b j).map uv ++ [uv (wd b j)] := by simp [sched, wd]
theorem one_u32 (W : World) (x : Nat) (y : Int) (hy : y = (x : Int)) : ∀ (j : Nat) (u : Value), [uv x][j]? = some u →
    (W.alloc (.cells #[.int .u32 y] 33)).cell? (({ block := W.heap.size, off := 0 } : Addr).add j) = some u := by
  intro j u hu
  have hh : (W.alloc (.cells #[.int .u32 y] 33)).heap[W.heap.size]? = some (.cells #[.int .u32 y] 33 (0, 0)) := heap_alloc_new W _
  match j, hu with
  | 0, hu =>
    rw [Addr.add_lit, Nat.zero_add, row_cell hh 0]
    simp [uv] at hu
    subst hu
    rw [hy]
    rfl
  | j + 1, hu => simp at hu
theorem sched_cell {w : World} {base g c j : Nat} {b : List UInt8} (h : w.ownsRow base 33 1 (.slice (some ⟨g, 0, none⟩) j c) j ((sched b j).map uv)) (i : Nat) (hi : i < j) : w.cell? ⟨g, i, none⟩ = some (.int .u32 (wd b i : Nat)) := by
  have e : (⟨g, 0, none⟩ : Addr).add i = ⟨g, i, none⟩ := by unfold Addr.add; split <;> simp_all
  have := h.cells (g := g) rfl i (uv (wd b i)) (by
    have hl : i < (sched b j).length := by rw [sched_len]; exact hi
    rw [List.getElem?_map, List.getElem?_eq_getElem hl]
    have := sched_getD b i j hi
    simp only [List.getD, List.getElem?_eq_getElem hl, Option.getD_some] at this
    rw [this]; rfl)
  rw [e] at this
  exact this
theorem sched_nil {w : World} {base j : Nat} {v : Value} {b : List UInt8} (h : w.ownsRow base 33 1 v j ((sched b j).map uv)) (hj : 0 < j) : ∃ g c, v = .slice (some ⟨g, 0, none⟩) j c ∧ j ≤ c ∧ c ≤ maxLen := by
  rcases h.2 with ⟨_, h0⟩ | ⟨g', cap, cur, hv, _, _, h3, h4, _⟩
  · omega
  · exact ⟨g', cap, hv, h3, h4⟩

theorem five_next (W : World) (s0 s : St) : FiveAt ((W.alloc (.cells #[.int .u32 (((s0.a : Nat) + (s.a : Nat) : Int) % 4294967296), .int .u32 (((s0.b : Nat) + (s.b : Nat) : Int) % 4294967296), .int .u32 (((s0.c : Nat) + (s.c : Nat) : Int) % 4294967296), .int .u32 (((s0.d : Nat) + (s.d : Nat) : Int) % 4294967296), .int .u32 (((s0.e : Nat) + (s.e : Nat) : Int) % 4294967296)] 33)).drew) W.heap.size (add2 s0 s) := heap_alloc_new W _
set_option maxRecDepth 10000 in
set_option maxHeartbeats 8000000 in
theorem RefOf_any (A : Option Addr) (l : List UInt8) (n c : Nat) (w : World) (h : IsBB w w.heap.size A n c l) (hn : n ≤ 1000000000) :
    Calls Try.prog 10 #[.slice A n c] w fun e w' => e = .returned (.agg ((sha l).map bv).toArray) ∧ Below w.heap.size w w' := by
  obtain ⟨i0, hi, hz0, hz1, hz2⟩ := info_parts Try.info33
  have Hlen := hid h.len
  have r0 : (w.alloc (.cells z20 23)).heap[w.heap.size]? = some (.cells z20 23 (0, 0)) := heap_alloc_new w _
  have b0 : Below w.heap.size w (w.alloc (.cells z20 23)) := (Below.refl w.heap.size w).alloc (Nat.le_refl _) (.cells z20 23)
  have s0 : (w.alloc (.cells z20 23)).heap.size = w.heap.size + 1 := by simp
  have h0 : IsBB (w.alloc (.cells z20 23)) (w.alloc (.cells z20 23)).heap.size A n c l := h.on b0
  clear h
  go_enter Try.func10, Try.ntmps10
  go_upto_region 1 with (fail)
  change Code.wp _ _ _ _ (w.alloc (.cells z20 23))
  generalize w.alloc (.cells z20 23) = W0 at r0 b0 s0 h0 ⊢
  have Hr0 := hid r0
  have Hb0 := hid b0
  have Hs0 := hid s0
  clear r0 b0 s0
  go_wp2_with (go_at_call 22; refine (Padded_any _ l _ _ _ h0 hn).mono ?_; rintro e W1 ⟨gp, cp, rfl, hN⟩; have HN := hid hN; clear hN)
  have hM8 : n + 9 + noughts n = 64 * ((n + 9 + noughts n) / 64) := by unfold noughts; omega
  have hMb : n + 9 + noughts n ≤ 1000000100 := by unfold noughts; omega
  generalize hM : n + 9 + noughts n = M at HN hM8 hMb ⊢
  have HM8 := hid hM8
  have hMz : (M : Int) ≤ 1000000100 := by omega
  have F1 : FiveAt (W1.alloc (.cells #[.int .u32 1732584193, .int .u32 4023233417, .int .u32 2562383102, .int .u32 271733878, .int .u32 3285377520] 33)) W1.heap.size (absN (padded l) 0) := heap_alloc_new W1 _
  have B1 : Below W1.heap.size W1 (W1.alloc (.cells #[.int .u32 1732584193, .int .u32 4023233417, .int .u32 2562383102, .int .u32 271733878, .int .u32 3285377520] 33)) := (Below.refl _ _).alloc (Nat.le_refl _) _
  have hpl : (padded l).length = M := HN.out.len
  obtain ⟨P, hP⟩ : ∃ P, P = padded l := ⟨_, rfl⟩
  rw [← hP] at F1 hpl
  have HN' : Hid (New W0 W1 gp M cp P) := by rw [hP]; exact HN.out
  have HPl := hid hpl
  have HP := hid hP
  have HN1 : Hid (New W0 W1 gp M cp (padded l)) := HN
  clear hM8 hM hMb HN hpl hP
  go_loopw [4, 5] (fun hv at_ wr => ∃ (k a gh : Nat), Hid (a = 64 * k) ∧ Hid (a ≤ M) ∧ at_ = .int .i64 a ∧ hv = .slice (some ⟨gh, 0, none⟩) 5 5 ∧ Hid (FiveAt wr gh (absN P k)) ∧ Hid (W1.heap.size ≤ gh) ∧ Hid (Below W1.heap.size W1 wr)) (fun _ a _ => M - (intOf a).toNat)
  case atStart => exact ⟨0, 0, W1.heap.size, rfl, Nat.zero_le _, rfl, rfl, F1, Nat.le_refl _, B1⟩
  case round =>
    obtain ⟨k, a, gh, hak, haM, rfl, rfl, hF, hgh, hB⟩ := hrel
    clear F1 B1
    obtain ⟨wo, rfl⟩ : ∃ wo : World, wo = wr := ⟨_, rfl⟩
    by_cases hlt : a < M
    · have haz : (a : Int) < M := by omega
      go_wp2_with fail
      go_loopw [6, 7] (fun wv t wr => ∃ (j : Nat), j ≤ 80 ∧ t = .int .i64 j ∧ Hid (wr.ownsRow wo.heap.size 33 1 wv j ((sched (blk P k) j).map uv)) ∧ Hid (Below wo.heap.size wo wr)) (fun _ t _ => 80 - (intOf t).toNat)
      case atStart => exact ⟨0, Nat.zero_le _, rfl, World.ownsRow_nil _ _ _ _, Below.refl _ _⟩
      case round =>
        obtain ⟨j, hj, rfl, hown, hbl⟩ := hrel
        have hkM : 64 * k + 64 ≤ M := by have := hak.out; have := HM8.out; omega
        have HkM := hid hkM
        by_cases hlt2 : j < 80
        · have hjz : (j : Int) < 80 := by omega
          have Hsu := hid (sched_succ (blk P k) j)
          by_cases h16 : j < 16
          · have hjz2 : (j : Int) < 16 := by omega
            have hIB : IsB wr (some ⟨gp, 0, none⟩) M cp P := ((HN'.out.isBB.on hB.out).on hbl.out).toIsB
            have Hwb := hid (word_blk P k j h16)
            have Hib := hid hIB
            clear hIB hkM
            go_wp2_with (first
              | (go_at_call 23; refine (Word_at _ ⟨gp, 0, none⟩ P M cp (64 * k + 4 * j) (by have := hak.out; omega) _ Hib.out (by have := HkM.out; omega)).mono ?_; rintro e w' ⟨rfl, rfl⟩; rw [← Hwb.out])
              | (at_builtin; refine wpList_append_own _ rfl (.tmp 34) (.tmp 41) 51 rfl wo.heap.size 33 i0 (.int .u32 0) 1 4 Try.underlying51 hi hz0 hz1 hz2 rfl (by decide) u6 j ((sched (blk P k) j).map uv) rfl (hown.out.alloc _) ⟨wr.heap.size, 0, none⟩ 1 1 [uv (wd (blk P k) j)] rfl rfl ?c1 ?c2 ?c3 ?c4 ?c5 ?_))
            case c1 => exact one_u32 wr _ _ rfl
            case c2 => intro u hu; simp at hu; subst hu; rfl
            case c3 => unfold maxLen; omega
            case c4 => omega
            case c5 => have := hbl.out.size; simp; omega
            intro v2 W3 hown2 hgrow2 _
            have hown3 : Hid (W3.ownsRow wo.heap.size 33 1 v2 (j + 1) ((sched (blk P k) (j + 1)).map uv)) := by show World.ownsRow _ _ _ _ _ _ _; rw [Hsu.out]; exact hown2
            have hbl3 : Hid (Below wo.heap.size wo W3) := (hbl.out.alloc hbl.out.size _).grown hgrow2 (by have := hbl.out.size; simp; omega) (fun q hq => (hown.out.lt q hq).1)
            clear hown2 hgrow2
            go_wp2_with fail
            go_roundw
            case rel => exact ⟨j + 1, by omega, by go_num, hown3, hbl3⟩
            case measure => simp [intOf]; omega
          · obtain ⟨gw, cw, rfl, hcw, hcm⟩ := sched_nil hown.out (by omega)
            have hjz2 : (16 : Int) ≤ j := by omega
            have c3 := sched_cell hown.out (j - 3) (by omega)
            have c8 := sched_cell hown.out (j - 8) (by omega)
            have c14 := sched_cell hown.out (j - 14) (by omega)
            have c16 := sched_cell hown.out (j - 16) (by omega)
            have Hwh := hid (wd_high (blk P k) j (by omega))
            have l3 := wd_lt (blk P k) (j - 3)
            have l8 := wd_lt (blk P k) (j - 8)
            have l14 := wd_lt (blk P k) (j - 14)
            have l16 := wd_lt (blk P k) (j - 16)
            have s3 : IntKind.i64.wrap ((j : Int) - 3) = ((j - 3 : Nat) : Int) := by rw [IntWalk.i64_in _ (by omega)]; omega
            have s8 : IntKind.i64.wrap ((j : Int) - 8) = ((j - 8 : Nat) : Int) := by rw [IntWalk.i64_in _ (by omega)]; omega
            have s14 : IntKind.i64.wrap ((j : Int) - 14) = ((j - 14 : Nat) : Int) := by rw [IntWalk.i64_in _ (by omega)]; omega
            have s16 : IntKind.i64.wrap ((j : Int) - 16) = ((j - 16 : Nat) : Int) := by rw [IntWalk.i64_in _ (by omega)]; omega
            have p3 : ((j - 3 : Nat) : Int) < (j : Int) := by omega
            have p8 : ((j - 8 : Nat) : Int) < (j : Int) := by omega
            have p14 : ((j - 14 : Nat) : Int) < (j : Int) := by omega
            have p16 : ((j - 16 : Nat) : Int) < (j : Int) := by omega
            generalize wd (blk P k) (j - 3) = y3 at *
            generalize wd (blk P k) (j - 8) = y8 at *
            generalize wd (blk P k) (j - 14) = y14 at *
            generalize wd (blk P k) (j - 16) = y16 at *
            generalize j - 3 = m3 at *
            generalize j - 8 = m8 at *
            generalize j - 14 = m14 at *
            generalize j - 16 = m16 at *
            have Hq := hid (xor4_eq y3 y8 y14 y16 l3 l8 l14 l16)
            have hq2 := xor4_lt y3 y8 y14 y16 l3 l8 l14 l16
            have Ht := hid (turn1_at _ _ (xor4_eq y3 y8 y14 y16 l3 l8 l14 l16) hq2)
            clear hkM
            go_wp2_with fail
            generalize rot 1 (y3 ^^^ y8 ^^^ y14 ^^^ y16) = z at *
            go_region_law (first
              | (refine step_append_lies _ (by rfl) (.tmp 43) (.tmp 68) 51 (by rfl) wo.heap.size 33 i0 (.int .u32 0) 1 4 Try.underlying51 hi hz0 hz1 hz2 rfl (by omega) (.slice (some ⟨gw, 0, none⟩) j cw) j ((sched (blk P k) j).map uv) (by rfl) ((hown.out.alloc _).drew) ⟨wr.heap.size, 0, none⟩ 1 1 [uv z] (by rfl) (by rfl) (World.news_of_block (cs := #[uv z]) (t := 33) (fr := (0, 0)) (heap_alloc_new wr _)) (by simp [Value.oneCell', uv]) (by omega) (by unfold maxLen; omega) (by omega) (by have := hbl.out.size; simp; omega) (wr.heap.size + 1) (by simp) ?_; intro gg cap w1 hown1 hgrow1 hat hlt1)
              | (go_simp; go_at_call 24; refine (Ht.out _).mono ?_; rintro e w' ⟨rfl, rfl⟩))
            all_goals
              have hown3 : Hid (w1.ownsRow wo.heap.size 33 1 (.slice (some ⟨gg, 0, none⟩) (j + 1) cap) (j + 1) ((sched (blk P k) (j + 1)).map uv)) := by
                show World.ownsRow _ _ _ _ _ _ _
                rw [Hsu.out, Hwh.out]
                exact hown1
              have hbl3 : Hid (Below wo.heap.size wo w1) := by
                refine Below.grown ?_ hgrow1 ?_ ?_
                · first | exact (hbl.out.alloc hbl.out.size _).drew | exact hbl.out.drew.alloc hbl.out.size _
                · have := hbl.out.size; simp; omega
                · intro q hq
                  exact (hown.out.lt q hq).1
              clear hown1 hgrow1 hat hlt1
              go_wp2_with fail
              go_roundw
              case rel => exact ⟨j + 1, by omega, by go_num, hown3, hbl3⟩
              case measure => simp [intOf]; omega
        · obtain rfl : j = 80 := by omega
          rw [show ((80 : Nat) : Int) = (80 : Int) from rfl]
          obtain ⟨gw, cw, rfl, hcw, hcm⟩ := sched_nil hown.out (by omega)
          have hghlt : gh < wo.heap.size := by
            rcases Nat.lt_or_ge gh wo.heap.size with h | h
            · exact h
            · have e := hF.out; unfold FiveAt at e; rw [Array.getElem?_eq_none h] at e; cases e
          have hF2 : FiveAt wr gh (absN P k) := (hbl.out.block gh hghlt).trans hF.out
          obtain ⟨f0, f1, f2, f3, f4⟩ := hF2.cell
          have hok0 := absN_ok P k
          obtain ⟨s0, hs0⟩ : ∃ s0, s0 = absN P k := ⟨_, rfl⟩
          rw [← hs0] at f0 f1 f2 f3 f4 hok0
          have HS0 := hid hs0
          have HF2 := hid hF2
          have HghL := hid hghlt
          clear hF2 hs0 hghlt hkM
          obtain ⟨wi, rfl⟩ : ∃ wi : World, wi = wr := ⟨_, rfl⟩
          go_wp2_with fail
          go_quiet (fail)
          go_wp2_with fail
          go_loopw [13, 8, 9, 10, 11, 12] (fun t a b c d e wx => ∃ (tt i : Nat), tt ≤ 80 ∧ t = .int .i64 tt ∧ wx = wi.drewN i ∧ a = .int .u32 ((rnds (blk P k) s0 tt).a : Nat) ∧ b = .int .u32 ((rnds (blk P k) s0 tt).b : Nat) ∧ c = .int .u32 ((rnds (blk P k) s0 tt).c : Nat) ∧ d = .int .u32 ((rnds (blk P k) s0 tt).d : Nat) ∧ e = .int .u32 ((rnds (blk P k) s0 tt).e : Nat)) (fun t _ _ _ _ _ _ => 80 - (intOf t).toNat)
          case atStart => exact ⟨0, _, Nat.zero_le _, rfl, rfl, rfl, rfl, rfl, rfl, rfl⟩
          case round =>
            obtain ⟨tt, it, htt, rfl, rfl, rfl, rfl, rfl, rfl, rfl⟩ := hrel
            have hok := rnds_ok (blk P k) s0 hok0 tt
            by_cases hl3 : tt < 80
            · have hlz : (tt : Int) < 80 := by omega
              have hcw2 : (wi.drewN it).cell? ⟨gw, tt, none⟩ = some (.int .u32 (wd (blk P k) tt : Nat)) := sched_cell hown.out tt hl3
              obtain ⟨wy, hwy⟩ : ∃ wy : World, wy = wi.drewN it := ⟨_, rfl⟩
              rw [← hwy] at hcw2 ⊢
              have Hwy := hid hwy
              clear hwy
              have Hr := hid (show rnds (blk P k) s0 (tt + 1) = rnd (blk P k) (rnds (blk P k) s0 tt) tt from rfl)
              generalize rnds (blk P k) s0 tt = s at *
              obtain ⟨a1, b1, c1, d1, e1⟩ := s
              have oa := hok.a
              have ob := hok.b
              have oc := hok.c
              have od := hok.d
              have oe := hok.e
              simp only at oa ob oc od oe
              have hwl := wd_lt (blk P k) tt
              have Hsum := hid (sum_eq (blk P k) a1 b1 c1 d1 e1 tt)
              generalize wd (blk P k) tt = y at *
              have q1 := par_eq b1 c1 d1 ob oc od
              have q2 := ch_eq b1 c1 d1 ob oc od
              have q3 := maj_eq b1 c1 d1 ob oc od
              have hrl := rot5lt a1 oa
              clear f0 f1 f2 f3 f4
              rcases (show tt < 20 ∨ (20 ≤ tt ∧ tt < 40) ∨ (40 ≤ tt ∧ tt < 60) ∨ (60 ≤ tt) by omega) with h | h | h | h
              · have hf : (b1 &&& c1) ||| ((4294967295 ^^^ b1) &&& d1) = fN tt b1 c1 d1 := by
                  unfold fN
                  rw [if_pos h]
                have hk : kN tt = 1518500249 := by
                  unfold kN
                  rw [if_pos h]
                have hfl := fN_lt tt b1 c1 d1 ob oc od
                have hsum := Hsum.out
                rw [hk] at hsum
                rw [hf] at q2
                clear q3
                generalize fN tt b1 c1 d1 = F at q2 hsum hfl
                generalize b1 ^^^ c1 ^^^ d1 = G at q1
                have hb1 : (tt : Int) < 20 := by omega
                have Hs2 := hid hsum
                have Hhok := hid hok
                clear hf hk Hsum hsum h hok
                go_wp2_with fail
                go_quiet ((go_at_call 24; exact Calls.quiet_of_same ((turn5_any a1 oa _).mono (fun _ _ h => ⟨h.1, h.2.symm⟩))))
                go_wp2_with (go_at_call 24; refine (turn30_any b1 ob _).mono ?_; rintro e w' ⟨rfl, rfl⟩)
                go_roundw
                case rel =>
                  refine ⟨tt + 1, _, by omega, by go_num, by rw [Hwy.out]; exact World.drewN_drewN _ _ _, ?_, by rw [Hr.out]; rfl, by rw [Hr.out]; rfl, by rw [Hr.out]; rfl, by rw [Hr.out]; rfl⟩
                  rw [Hr.out, ← Hs2.out]
                  rfl
                case measure => simp [intOf]; omega
              · have hf : b1 ^^^ c1 ^^^ d1 = fN tt b1 c1 d1 := by
                  unfold fN
                  rw [if_neg (by omega), if_pos h.2]
                have hk : kN tt = 1859775393 := by
                  unfold kN
                  rw [if_neg (by omega), if_pos h.2]
                have hfl := fN_lt tt b1 c1 d1 ob oc od
                have hsum := Hsum.out
                rw [hk] at hsum
                rw [hf] at q1
                clear q2 q3
                generalize fN tt b1 c1 d1 = F at q1 hsum hfl
                have hb1 : (20 : Int) ≤ tt := by omega
                have hb2 : (tt : Int) < 40 := by omega
                have Hs2 := hid hsum
                have Hhok := hid hok
                clear hf hk Hsum hsum h hok
                go_wp2_with fail
                go_quiet ((go_at_call 24; exact Calls.quiet_of_same ((turn5_any a1 oa _).mono (fun _ _ h => ⟨h.1, h.2.symm⟩))))
                go_wp2_with (go_at_call 24; refine (turn30_any b1 ob _).mono ?_; rintro e w' ⟨rfl, rfl⟩)
                go_roundw
                case rel =>
                  refine ⟨tt + 1, _, by omega, by go_num, by rw [Hwy.out]; exact World.drewN_drewN _ _ _, ?_, by rw [Hr.out]; rfl, by rw [Hr.out]; rfl, by rw [Hr.out]; rfl, by rw [Hr.out]; rfl⟩
                  rw [Hr.out, ← Hs2.out]
                  rfl
                case measure => simp [intOf]; omega
              · have hf : ((b1 &&& c1) ||| (b1 &&& d1)) ||| (c1 &&& d1) = fN tt b1 c1 d1 := by
                  unfold fN
                  rw [if_neg (by omega), if_neg (by omega), if_pos h.2]
                have hk : kN tt = 2400959708 := by
                  unfold kN
                  rw [if_neg (by omega), if_neg (by omega), if_pos h.2]
                have hfl := fN_lt tt b1 c1 d1 ob oc od
                have hsum := Hsum.out
                rw [hk] at hsum
                rw [hf] at q3
                clear q2
                generalize fN tt b1 c1 d1 = F at q3 hsum hfl
                generalize b1 ^^^ c1 ^^^ d1 = G at q1
                have hb1 : (40 : Int) ≤ tt := by omega
                have hb2 : (tt : Int) < 60 := by omega
                have Hs2 := hid hsum
                have Hhok := hid hok
                clear hf hk Hsum hsum h hok
                go_wp2_with fail
                go_quiet ((go_at_call 24; exact Calls.quiet_of_same ((turn5_any a1 oa _).mono (fun _ _ h => ⟨h.1, h.2.symm⟩))))
                go_wp2_with (go_at_call 24; refine (turn30_any b1 ob _).mono ?_; rintro e w' ⟨rfl, rfl⟩)
                go_roundw
                case rel =>
                  refine ⟨tt + 1, _, by omega, by go_num, by rw [Hwy.out]; exact World.drewN_drewN _ _ _, ?_, by rw [Hr.out]; rfl, by rw [Hr.out]; rfl, by rw [Hr.out]; rfl, by rw [Hr.out]; rfl⟩
                  rw [Hr.out, ← Hs2.out]
                  rfl
                case measure => simp [intOf]; omega
              · have hf : b1 ^^^ c1 ^^^ d1 = fN tt b1 c1 d1 := by
                  unfold fN
                  rw [if_neg (by omega), if_neg (by omega), if_neg (by omega)]
                have hk : kN tt = 3395469782 := by
                  unfold kN
                  rw [if_neg (by omega), if_neg (by omega), if_neg (by omega)]
                have hfl := fN_lt tt b1 c1 d1 ob oc od
                have hsum := Hsum.out
                rw [hk] at hsum
                rw [hf] at q1
                clear q2 q3
                generalize fN tt b1 c1 d1 = F at q1 hsum hfl
                have hb1 : (60 : Int) ≤ tt := by omega
                have Hs2 := hid hsum
                have Hhok := hid hok
                clear hf hk Hsum hsum h hok
                go_wp2_with fail
                go_quiet ((go_at_call 24; exact Calls.quiet_of_same ((turn5_any a1 oa _).mono (fun _ _ h => ⟨h.1, h.2.symm⟩))))
                go_wp2_with (go_at_call 24; refine (turn30_any b1 ob _).mono ?_; rintro e w' ⟨rfl, rfl⟩)
                go_roundw
                case rel =>
                  refine ⟨tt + 1, _, by omega, by go_num, by rw [Hwy.out]; exact World.drewN_drewN _ _ _, ?_, by rw [Hr.out]; rfl, by rw [Hr.out]; rfl, by rw [Hr.out]; rfl, by rw [Hr.out]; rfl⟩
                  rw [Hr.out, ← Hs2.out]
                  rfl
                case measure => simp [intOf]; omega
            · obtain rfl : tt = 80 := by omega
              have Hu := hid (show uponS (blk P k) s0 = add2 s0 (rnds (blk P k) s0 80) from rfl)
              generalize rnds (blk P k) s0 80 = s at *
              obtain ⟨a1, b1, c1, d1, e1⟩ := s
              have oa := hok.a
              have ob := hok.b
              have oc := hok.c
              have od := hok.d
              have oe := hok.e
              have pa := hok0.a
              have pb := hok0.b
              have pc := hok0.c
              have pd := hok0.d
              have pe := hok0.e
              simp only at oa ob oc od oe
              have g0 : (wi.drewN it).cell? ⟨gh, 0, none⟩ = some (.int .u32 (s0.a : Nat)) := f0
              have g1 : (wi.drewN it).cell? ⟨gh, 1, none⟩ = some (.int .u32 (s0.b : Nat)) := f1
              have g2 : (wi.drewN it).cell? ⟨gh, 2, none⟩ = some (.int .u32 (s0.c : Nat)) := f2
              have g3 : (wi.drewN it).cell? ⟨gh, 3, none⟩ = some (.int .u32 (s0.d : Nat)) := f3
              have g4 : (wi.drewN it).cell? ⟨gh, 4, none⟩ = some (.int .u32 (s0.e : Nat)) := f4
              obtain ⟨wy, hwy⟩ : ∃ wy : World, wy = wi.drewN it := ⟨_, rfl⟩
              rw [← hwy] at g0 g1 g2 g3 g4 ⊢
              have Hwy := hid hwy
              have Hhok := hid (And.intro hok hok0)
              clear hwy hok hok0 f0 f1 f2 f3 f4
              go_wp2_with fail
              go_still_tail 25, (by kernel_rfl)
              change wpList _ _ _ _ _ wy.drew
              go_wp2_with fail
              go_roundw
              case rel =>
                have eN : absN P (k + 1) = add2 s0 ⟨a1, b1, c1, d1, e1⟩ := by
                  show uponS (blk P k) (absN P k) = _
                  rw [← HS0.out, Hu.out]
                have b2 : Below W1.heap.size W1 wy := by
                  rw [Hwy.out]
                  exact below_drewN (hB.out.trans (hbl.out.mono hB.out.size)) it
                refine ⟨k + 1, a + 64, wy.heap.size, (by have := hak.out; show a + 64 = 64 * (k + 1); omega), (by have := HkM.out; have := hak.out; show a + 64 ≤ M; omega), (by go_num), rfl, ?_, b2.size, (b2.alloc b2.size _).drew⟩
                rw [eN]
                exact five_next wy s0 ⟨a1, b1, c1, d1, e1⟩
              case measure => simp [intOf]; omega
    · obtain rfl : a = M := by have := haM.out; omega
      have hs : absN P k = sumS l := by
        have e1 := hak.out
        have e2 := HPl.out
        rw [HP.out] at e2 ⊢
        show _ = absN (padded l) ((padded l).length / 64)
        rw [e2, e1]
        congr 1
        omega
      have hok := absN_ok P k
      have Hsha : Hid ((sha l).map bv = outL (absN P k) 20) := by
        show _ = _
        rw [hs]
        unfold sha outL
        simp
      have HF := hF
      generalize absN P k = s at HF Hsha hok
      have Hok := hid hok
      clear hs hok hF HPl HP HM8 HN' i0 hi hz0 hz1 hz2
      have hghlt : gh < wo.heap.size := by
        rcases Nat.lt_or_ge gh wo.heap.size with h | h
        · exact h
        · have e := HF.out; unfold FiveAt at e; rw [Array.getElem?_eq_none h] at e; cases e
      have HghL := hid hghlt
      clear hghlt
      have O5 : (wo.alloc (.cells z20 23)).heap[wo.heap.size]? = some (.cells z20 23 (0, 0)) := heap_alloc_new wo _
      have N5 : ∀ q, q < 5 → (wo.alloc (.cells z20 23)).cell? ⟨gh, q, none⟩ = some (.int .u32 (nth s q : Nat)) := fun q hq => by
        have e : (wo.alloc (.cells z20 23)).cell? ⟨gh, q, none⟩ = wo.cell? ⟨gh, q, none⟩ := by
          have := heap_alloc_old wo (.cells z20 23) HghL.out
          simp only [World.cell?, this]
        rw [e, row_cell HF.out]
        rcases (show q = 0 ∨ q = 1 ∨ q = 2 ∨ q = 3 ∨ q = 4 by omega) with rfl | rfl | rfl | rfl | rfl <;> rfl
      have E5 : wo.grownBy (wo.alloc (.cells z20 23)) none := World.grownBy_alloc wo _ none
      have HO5 := hid O5
      have HN5 := hid N5
      have HE5 := hid E5
      clear O5 N5 E5
      go_upto_region 35 with (fail)
      change Code.wp _ _ _ _ (wo.alloc (.cells z20 23))
      generalize wo.alloc (.cells z20 23) = W5 at HO5 HN5 HE5 ⊢
      go_wp2_with fail
      go_loopw [18] (fun i wr => ∃ k : Nat, k ≤ 20 ∧ i = .int .i64 k ∧ Hid (wr.heap[wo.heap.size]? = some (.cells (outL s k).toArray 23 (0, 0))) ∧ Hid (W5.grownBy wr (some wo.heap.size))) (fun i _ => 20 - (intOf i).toNat)
      case atStart => exact ⟨0, Nat.zero_le _, rfl, HO5, World.grownBy.refl _ _⟩
      case round =>
        obtain ⟨k2, hk, rfl, hrow, hgr⟩ := hrel
        by_cases hlt3 : k2 < 20
        · obtain ⟨q, r, hqr, hr4, hq5⟩ : ∃ q r, k2 = 4 * q + r ∧ r < 4 ∧ q < 5 := ⟨k2 / 4, k2 % 4, by omega, by omega, by omega⟩
          have hcx : wr.cell? ⟨gh, q, none⟩ = some (.int .u32 (nth s q : Nat)) := hgr.out.cell (HN5.out q hq5) (by intro e; have e2 : gh = wo.heap.size := Option.some.inj e; have := HghL.out; omega)
          have hxl := nth_lt s Hok.out q
          have hset := outL_set s k2 hlt3
          have hlen := outL_len s k2 hk
          have hv := outB_val s q r hr4
          rw [hqr] at hset
          rw [hv] at hset
          rw [← hqr] at hset
          generalize nth s q = y at *
          obtain ⟨v0, hcell⟩ : ∃ v0, wr.cell? ⟨wo.heap.size, k2, none⟩ = some v0 := ⟨(outL s k2)[k2]'(by omega), by rw [row_cell hrow.out k2, List.getElem?_toArray, List.getElem?_eq_getElem (by omega)]⟩
          have hfree := row_free hrow.out k2
          have hkq : (k2 : Int) / 4 = (q : Int) := by omega
          have hkz : (k2 : Int) < 20 := by omega
          have hqz : (q : Int) < 5 := by omega
          have hyz : (y : Int) ≤ 4294967295 := by omega
          have Hset := hid hset
          clear hset hlen hv hxl
          rcases (show r = 0 ∨ r = 1 ∨ r = 2 ∨ r = 3 by omega) with rfl | rfl | rfl | rfl
          · have hk4 : (k2 : Int) % 4 = 0 := by omega
            clear hqr
            go_wp2_with fail
            go_roundw
            case rel =>
              refine ⟨k2 + 1, by omega, by go_num, ?_, grown_trans hgr.out (grownBy_setCell _ _ _ _)⟩
              have e := row_set hrow.out k2 (.int .u8 ((y / 2 ^ (24 - 0 * 8) % 256 : Nat) : Int))
              rw [set_toArray, Hset.out] at e
              have ev : ((y / 2 ^ (24 - 0 * 8) % 256 : Nat) : Int) = (y : Int) / 16777216 := by
                show ((y / 16777216 % 256 : Nat) : Int) = _
                omega
              rw [ev] at e
              exact e
            case measure => simp [intOf]; omega
          · have hk4 : (k2 : Int) % 4 = 1 := by omega
            clear hqr
            go_wp2_with fail
            go_roundw
            case rel =>
              refine ⟨k2 + 1, by omega, by go_num, ?_, grown_trans hgr.out (grownBy_setCell _ _ _ _)⟩
              have e := row_set hrow.out k2 (.int .u8 ((y / 2 ^ (24 - 1 * 8) % 256 : Nat) : Int))
              rw [set_toArray, Hset.out] at e
              have ev : ((y / 2 ^ (24 - 1 * 8) % 256 : Nat) : Int) = (y : Int) / 65536 % 256 := by
                show ((y / 65536 % 256 : Nat) : Int) = _
                omega
              rw [ev] at e
              exact e
            case measure => simp [intOf]; omega
          · have hk4 : (k2 : Int) % 4 = 2 := by omega
            clear hqr
            go_wp2_with fail
            go_roundw
            case rel =>
              refine ⟨k2 + 1, by omega, by go_num, ?_, grown_trans hgr.out (grownBy_setCell _ _ _ _)⟩
              have e := row_set hrow.out k2 (.int .u8 ((y / 2 ^ (24 - 2 * 8) % 256 : Nat) : Int))
              rw [set_toArray, Hset.out] at e
              have ev : ((y / 2 ^ (24 - 2 * 8) % 256 : Nat) : Int) = (y : Int) / 256 % 256 := by
                show ((y / 256 % 256 : Nat) : Int) = _
                omega
              rw [ev] at e
              exact e
            case measure => simp [intOf]; omega
          · have hk4 : (k2 : Int) % 4 = 3 := by omega
            clear hqr
            go_wp2_with fail
            go_roundw
            case rel =>
              refine ⟨k2 + 1, by omega, by go_num, ?_, grown_trans hgr.out (grownBy_setCell _ _ _ _)⟩
              have e := row_set hrow.out k2 (.int .u8 ((y / 2 ^ (24 - 3 * 8) % 256 : Nat) : Int))
              rw [set_toArray, Hset.out] at e
              have ev : ((y / 2 ^ (24 - 3 * 8) % 256 : Nat) : Int) = (y : Int) % 256 := by
                show ((y / 1 % 256 : Nat) : Int) = _
                omega
              rw [ev] at e
              exact e
            case measure => simp [intOf]; omega
        · obtain rfl : k2 = 20 := by omega
          have HL := hid (outL_len s 20 hk)
          have T : ∀ i, i < W1.heap.size → wr.heap[i]? = W1.heap[i]? := fun i hi => by
            have e1 := hB.out.size
            rw [hgr.out.block i (by have := HE5.out.size; omega) (by intro e; have e2 : i = wo.heap.size := Option.some.inj e; omega), HE5.out.block i (by omega) (by simp), hB.out.block i hi]
          have HRR : Hid (wr.heap[w.heap.size]? = some (.cells z20 23 (0, 0))) := by
            have e1 := HN1.out.bel.size
            have e2 := Hs0.out
            exact (T _ (by omega)).trans ((HN1.out.bel.block _ (by omega)).trans Hr0.out)
          have HBB : Hid (Below w.heap.size w wr) := by
            have b1 : Below w.heap.size w W1 := Hb0.out.trans (HN1.out.bel.mono Hb0.out.size)
            exact ⟨hgr.out.os.trans (HE5.out.os.trans (hB.out.os.trans b1.os)), hgr.out.tape.trans (HE5.out.tape.trans (hB.out.tape.trans b1.tape)), hgr.out.output.trans (HE5.out.output.trans (hB.out.output.trans b1.output)),
              Nat.le_trans b1.size (Nat.le_trans hB.out.size (Nat.le_trans HE5.out.size hgr.out.size)), fun i hi => (T i (Nat.lt_of_lt_of_le hi b1.size)).trans (b1.block i hi)⟩
          clear T
          go_wp2_with (first
            | (refine wpList_load_row rfl 23 (.tmp 17) rfl wo.heap.size rfl 23 (outL s 20).toArray (0, 0) _ hrow.out Try.underlying23 rfl (size20 _ HL.out) ?_)
            | (refine wpList_store_row (o := ⟨none, .store 23 (.tmp 2) (.tmp 186), _, _, _, _⟩) rfl 23 (.tmp 2) (.tmp 186) rfl w.heap.size (outL s 20).toArray rfl rfl 23 z20 HRR.out (size20 _ HL.out) (z20_size _ HL.out) (outL_one s 20) ?_))
          refine bodyPost_ret (results_cell_row (by kernel_rfl : Try.f10.results = #[.cell 2 23]) _ _ w.heap.size 23 (outL s 20).toArray (0, 0) _ rfl (setRow_heap _ _ _ _ _ _ HRR.out) Try.underlying23 rfl (size20 _ HL.out)) rfl ⟨?_, ?_⟩
          · rw [Hsha.out]
          · exact below_setRow HBB.out (Nat.le_refl _) _
end Go.Proofs.Ytfohmanojdibcaa
