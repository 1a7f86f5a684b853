/-
  The contract of the document's answer: Of.
-/
import Derived.Test.YtnifhgcdpgokhaaRefPadN
import Derived.Test.YtnifhgcdpgokhaaHex
import Derived.StillTailTactics
import Derived.Deep.AppendLies
import Derived.Deep.RegionLaw
import Derived.IntWalk
namespace Go.Proofs.Ytnifhgcdpgokhaa
open Go.RowKit

theorem Try.info38 : (Try.prog.info? 38).map (fun i => (i.zero, i.size, i.bytes)) = some (some (.int .u32 0), 1, 4) := by kernel_rfl
/-- Eight numbers in block g. -/
def EightAt (w : World) (g : Nat) (s : St) : Prop := w.heap[g]? = some (.cells (stL s).toArray 38 (0, 0))
theorem EightAt.c0 {w : World} {g : Nat} {s : St} (h : EightAt w g s) : w.cell? ⟨g, 0, none⟩ = some (.int .u32 (s.a : Nat)) := row_cell h 0
theorem EightAt.c1 {w : World} {g : Nat} {s : St} (h : EightAt w g s) : w.cell? ⟨g, 1, none⟩ = some (.int .u32 (s.b : Nat)) := row_cell h 1
theorem EightAt.c2 {w : World} {g : Nat} {s : St} (h : EightAt w g s) : w.cell? ⟨g, 2, none⟩ = some (.int .u32 (s.c : Nat)) := row_cell h 2
theorem EightAt.c3 {w : World} {g : Nat} {s : St} (h : EightAt w g s) : w.cell? ⟨g, 3, none⟩ = some (.int .u32 (s.d : Nat)) := row_cell h 3
theorem EightAt.c4 {w : World} {g : Nat} {s : St} (h : EightAt w g s) : w.cell? ⟨g, 4, none⟩ = some (.int .u32 (s.e : Nat)) := row_cell h 4
theorem EightAt.c5 {w : World} {g : Nat} {s : St} (h : EightAt w g s) : w.cell? ⟨g, 5, none⟩ = some (.int .u32 (s.f : Nat)) := row_cell h 5
theorem EightAt.c6 {w : World} {g : Nat} {s : St} (h : EightAt w g s) : w.cell? ⟨g, 6, none⟩ = some (.int .u32 (s.g : Nat)) := row_cell h 6
theorem EightAt.c7 {w : World} {g : Nat} {s : St} (h : EightAt w g s) : w.cell? ⟨g, 7, none⟩ = some (.int .u32 (s.h : Nat)) := row_cell h 7
theorem k_any (w : World) : Calls Try.prog 31 #[] w fun e w' => ∃ g, e = .returned (.slice (some ⟨g, 0, none⟩) 64 64) ∧ w'.heap[g]? = some (.cells (kL.map uv).toArray 38 (0, 0)) ∧ Below w.heap.size w w' ∧ g < w'.heap.size := by
  go_enter Try.func31, Try.ntmps31
  go_wp2_with fail
  go_ret
  exact ⟨w.heap.size, rfl, heap_alloc_new w _, (Below.refl _ _).alloc (Nat.le_refl _) _, by simp⟩
theorem Word_at (x : Int) (ad : Addr) (l : List UInt8) (n c p : Nat) (hx : x = (p : Int)) (w : World) (h : IsB w (some ad) n c l) (hp : p + 4 ≤ n) :
    Calls Try.prog 32 #[.slice (some ad) n c, .int .i64 x] w fun e w' => e = .returned (.int .u32 (be4 (l.getD p 0).toNat (l.getD (p + 1) 0).toNat (l.getD (p + 2) 0).toNat (l.getD (p + 3) 0).toNat : Nat)) ∧ w = w' := by
  subst hx; exact Word_any ad l n c p w h hp
theorem blk_getD (P : List UInt8) (k i : Nat) (hi : i < 64) : (blk P k).getD i 0 = P.getD (64 * k + i) 0 := by
  unfold blk
  simp only [List.getD, List.getElem?_take, List.getElem?_drop]
  rw [if_pos hi]
theorem word_blk (P : List UInt8) (k j : Nat) (hj : j < 16) : wd (blk P k) j = be4 (P.getD (64 * k + 4 * j) 0).toNat (P.getD (64 * k + 4 * j + 1) 0).toNat (P.getD (64 * k + 4 * j + 2) 0).toNat (P.getD (64 * k + 4 * j + 3) 0).toNat := by
  rw [wd_low _ _ hj]
  unfold w0
  rw [blk_getD _ _ _ (by omega), blk_getD _ _ _ (by omega), blk_getD _ _ _ (by omega), blk_getD _ _ _ (by omega)]
  rfl
theorem sched_succ (b : List UInt8) (j : Nat) : (sched b (j + 1)).map uv = (sched b j).map uv ++ [uv (wd b j)] := by simp [sched, wd]
theorem one_u32 (W : World) (x : Nat) (y : Int) (hy : y = (x : Int)) : ∀ (j : Nat) (u : Value), [uv x][j]? = some u →
    (W.alloc (.cells #[.int .u32 y] 38)).cell? (({ block := W.heap.size, off := 0 } : Addr).add j) = some u := by
  intro j u hu
  have hh : (W.alloc (.cells #[.int .u32 y] 38)).heap[W.heap.size]? = some (.cells #[.int .u32 y] 38 (0, 0)) := heap_alloc_new W _
  match j, hu with
  | 0, hu =>
    rw [Addr.add_lit, Nat.zero_add, row_cell hh 0]
    simp [uv] at hu
    subst hu
    rw [hy]
    rfl
  | j + 1, hu => simp at hu
theorem sched_cell {w : World} {base g c j : Nat} {b : List UInt8} (h : w.ownsRow base 38 1 (.slice (some ⟨g, 0, none⟩) j c) j ((sched b j).map uv)) (i : Nat) (hi : i < j) : w.cell? ⟨g, i, none⟩ = some (.int .u32 (wd b i : Nat)) := by
  have e : (⟨g, 0, none⟩ : Addr).add i = ⟨g, i, none⟩ := by unfold Addr.add; split <;> simp_all
  have := h.cells (g := g) rfl i (uv (wd b i)) (by
    have hl : i < (sched b j).length := by rw [sched_len]; exact hi
    rw [List.getElem?_map, List.getElem?_eq_getElem hl]
    have := sched_getD b i j hi
    simp only [List.getD, List.getElem?_eq_getElem hl, Option.getD_some] at this
    rw [this]; rfl)
  rw [e] at this
  exact this
theorem sched_nil {w : World} {base j : Nat} {v : Value} {b : List UInt8} (h : w.ownsRow base 38 1 v j ((sched b j).map uv)) (hj : 0 < j) : ∃ g c, v = .slice (some ⟨g, 0, none⟩) j c ∧ j ≤ c ∧ c ≤ maxLen := by
  rcases h.2 with ⟨_, h0⟩ | ⟨g', cap, cur, hv, _, _, h3, h4, _⟩
  · omega
  · exact ⟨g', cap, hv, h3, h4⟩

theorem wrap4 (a b c d : Nat) : IntKind.u32.wrap (IntKind.u32.wrap (IntKind.u32.wrap ((a : Int) + (b : Int)) + (c : Int)) + (d : Int)) = (((((a + b) % 4294967296 + c) % 4294967296 + d) % 4294967296 : Nat) : Int) := by
  rw [IntKind.wrap_u32, IntKind.wrap_u32, IntKind.wrap_u32]
  omega
theorem right6_z (x : Nat) (hx : x < 4294967296) (w : World) (n : Nat) : Calls Try.prog 33 #[.int .u32 x, .int .u64 6] (w.drewN n) fun e w'' => e = .returned (.int .u32 (rr 6 x : Nat)) ∧ ∃ m, w'' = w.drewN m :=
  (right6_any x hx _).mono (fun _ _ h => ⟨h.1, n, h.2.symm⟩)
theorem right11_z (x : Nat) (hx : x < 4294967296) (w : World) (n : Nat) : Calls Try.prog 33 #[.int .u32 x, .int .u64 11] (w.drewN n) fun e w'' => e = .returned (.int .u32 (rr 11 x : Nat)) ∧ ∃ m, w'' = w.drewN m :=
  (right11_any x hx _).mono (fun _ _ h => ⟨h.1, n, h.2.symm⟩)
theorem right25_z (x : Nat) (hx : x < 4294967296) (w : World) (n : Nat) : Calls Try.prog 33 #[.int .u32 x, .int .u64 25] (w.drewN n) fun e w'' => e = .returned (.int .u32 (rr 25 x : Nat)) ∧ ∃ m, w'' = w.drewN m :=
  (right25_any x hx _).mono (fun _ _ h => ⟨h.1, n, h.2.symm⟩)
theorem kcell {w : World} {g : Nat} (h : w.heap[g]? = some (.cells (kL.map uv).toArray 38 (0, 0))) (j : Nat) (hj : j < 64) : w.cell? ⟨g, j, none⟩ = some (.int .u32 (kN j : Nat)) := by
  have hl : kL.length = 64 := by kernel_rfl
  rw [row_cell h, List.getElem?_toArray, List.getElem?_map, List.getElem?_eq_getElem (by omega)]
  unfold kN
  rw [List.getD_eq_getElem?_getD, List.getElem?_eq_getElem (by omega)]
  rfl
theorem eight_next (W : World) (s0 s : St) : EightAt ((W.alloc (.cells #[.int .u32 (((s0.a : Nat) + (s.a : Nat) : Int) % 4294967296), .int .u32 (((s0.b : Nat) + (s.b : Nat) : Int) % 4294967296), .int .u32 (((s0.c : Nat) + (s.c : Nat) : Int) % 4294967296), .int .u32 (((s0.d : Nat) + (s.d : Nat) : Int) % 4294967296), .int .u32 (((s0.e : Nat) + (s.e : Nat) : Int) % 4294967296), .int .u32 (((s0.f : Nat) + (s.f : Nat) : Int) % 4294967296), .int .u32 (((s0.g : Nat) + (s.g : Nat) : Int) % 4294967296), .int .u32 (((s0.h : Nat) + (s.h : Nat) : Int) % 4294967296)] 38)).drew) W.heap.size (add2 s0 s) := by
  have e : #[.int .u32 (((s0.a : Nat) + (s.a : Nat) : Int) % 4294967296), .int .u32 (((s0.b : Nat) + (s.b : Nat) : Int) % 4294967296), .int .u32 (((s0.c : Nat) + (s.c : Nat) : Int) % 4294967296), .int .u32 (((s0.d : Nat) + (s.d : Nat) : Int) % 4294967296), .int .u32 (((s0.e : Nat) + (s.e : Nat) : Int) % 4294967296), .int .u32 (((s0.f : Nat) + (s.f : Nat) : Int) % 4294967296), .int .u32 (((s0.g : Nat) + (s.g : Nat) : Int) % 4294967296), .int .u32 (((s0.h : Nat) + (s.h : Nat) : Int) % 4294967296)] = (stL (add2 s0 s)).toArray := by
    simp only [add_u]
    rfl
  rw [e]
  exact heap_alloc_new W _
set_option maxRecDepth 1000000 in
set_option maxHeartbeats 2000000 in
theorem RefOf_any (A : Option Addr) (l : List UInt8) (n c : Nat) (w : World) (h : IsBB w w.heap.size A n c l) (hn : n ≤ 1000000000) :
    Calls Try.prog 23 #[.slice A n c] w fun e w' => e = .returned (.agg ((sha l).map bv).toArray) ∧ Below w.heap.size w w' := by
  obtain ⟨i0, hi, hz0, hz1, hz2⟩ := info_parts Try.info38
  have Hlen := hid h.len
  have r0 : (w.alloc (.cells z32 30)).heap[w.heap.size]? = some (.cells z32 30 (0, 0)) := heap_alloc_new w _
  have b0 : Below w.heap.size w (w.alloc (.cells z32 30)) := (Below.refl w.heap.size w).alloc (Nat.le_refl _) (.cells z32 30)
  have s0 : (w.alloc (.cells z32 30)).heap.size = w.heap.size + 1 := by simp
  have h0 : IsBB (w.alloc (.cells z32 30)) (w.alloc (.cells z32 30)).heap.size A n c l := h.on b0
  clear h
  go_enter Try.func23, Try.ntmps23
  go_upto_region 1 with (fail)
  change Code.wp _ _ _ _ (w.alloc (.cells z32 30))
  generalize w.alloc (.cells z32 30) = W0 at r0 b0 s0 h0 ⊢
  have Hr0 := hid r0
  have Hb0 := hid b0
  have Hs0 := hid s0
  clear r0 b0 s0
  go_upto_region 3 with (go_at_call 30; refine (Padded_any _ l _ _ _ h0 hn).mono ?_; rintro e Wa ⟨gp, cp, rfl, hN⟩; have HN := hid hN; clear hN)
  have hM8 : n + 9 + noughts n = 64 * ((n + 9 + noughts n) / 64) := by unfold noughts; omega
  have hMb : n + 9 + noughts n ≤ 1000000100 := by unfold noughts; omega
  generalize hM : n + 9 + noughts n = M at HN hM8 hMb ⊢
  have HM8 := hid hM8
  have hMz : (M : Int) ≤ 1000000100 := by omega
  have F1 : EightAt (Wa.alloc (.cells #[.int .u32 1779033703, .int .u32 3144134277, .int .u32 1013904242, .int .u32 2773480762, .int .u32 1359893119, .int .u32 2600822924, .int .u32 528734635, .int .u32 1541459225] 38)) Wa.heap.size (absN (padded l) 0) := heap_alloc_new Wa _
  have B1 : Below Wa.heap.size Wa (Wa.alloc (.cells #[.int .u32 1779033703, .int .u32 3144134277, .int .u32 1013904242, .int .u32 2773480762, .int .u32 1359893119, .int .u32 2600822924, .int .u32 528734635, .int .u32 1541459225] 38)) := (Below.refl _ _).alloc (Nat.le_refl _) _
  have S1 : (Wa.alloc (.cells #[.int .u32 1779033703, .int .u32 3144134277, .int .u32 1013904242, .int .u32 2773480762, .int .u32 1359893119, .int .u32 2600822924, .int .u32 528734635, .int .u32 1541459225] 38)).heap.size = Wa.heap.size + 1 := by simp
  change Code.wp _ _ _ _ (Wa.alloc (.cells #[.int .u32 1779033703, .int .u32 3144134277, .int .u32 1013904242, .int .u32 2773480762, .int .u32 1359893119, .int .u32 2600822924, .int .u32 528734635, .int .u32 1541459225] 38))
  generalize Wa.alloc (.cells #[.int .u32 1779033703, .int .u32 3144134277, .int .u32 1013904242, .int .u32 2773480762, .int .u32 1359893119, .int .u32 2600822924, .int .u32 528734635, .int .u32 1541459225] 38) = Wb at F1 B1 S1 ⊢
  have HF1 := hid F1
  have HB1 := hid B1
  have HS1 := hid S1
  clear F1 B1 S1
  go_wp2_with fail
  refine (k_any _).mono ?_
  intro e W1 hh
  obtain ⟨gk, he, hK, hBk, hgk⟩ := hh
  subst he
  have HK := hid hK
  have HBk := hid hBk
  have Hgk := hid hgk
  clear hK hBk hgk
  dsimp only
  go_wp2_with fail
  have F2 : EightAt W1 Wa.heap.size (absN (padded l) 0) := (HBk.out.block _ (by have := HS1.out; omega)).trans HF1.out
  have hpl : (padded l).length = M := HN.out.len
  obtain ⟨P, hP⟩ : ∃ P, P = padded l := ⟨_, rfl⟩
  rw [← hP] at F2 hpl
  have HN' : Hid (New W0 W1 gp M cp P) := by
    rw [hP]
    have hbb : Below Wa.heap.size Wa W1 := HB1.out.trans (HBk.out.mono HB1.out.size)
    exact ⟨own_below HN.out.own hbb, HN.out.bel.trans (hbb.mono HN.out.bel.size), HN.out.small⟩
  have HPl := hid hpl
  have HP := hid hP
  have HNb : Hid (Below W0.heap.size W0 W1) := HN'.out.bel
  clear hM8 hM hMb HN hpl hP HF1 HB1 HS1 HBk
  go_loopw [4, 6] (fun hv at_ wr => ∃ (k a gh : Nat), Hid (a = 64 * k) ∧ Hid (a ≤ M) ∧ at_ = .int .i64 a ∧ hv = .slice (some ⟨gh, 0, none⟩) 8 8 ∧ Hid (EightAt wr gh (absN P k)) ∧ Hid (Below W1.heap.size W1 wr)) (fun _ a _ => M - (intOf a).toNat)
  case atStart => exact ⟨0, 0, Wa.heap.size, rfl, Nat.zero_le _, rfl, rfl, F2, Below.refl _ _⟩
  case round =>
    obtain ⟨k, a, gh, hak, haM, rfl, rfl, hF, hB⟩ := hrel
    clear F2
    obtain ⟨wo, rfl⟩ : ∃ wo : World, wo = wr := ⟨_, rfl⟩
    by_cases hlt : a < M
    · have haz : (a : Int) < M := by omega
      go_wp2_with fail
      go_loopw [7, 8] (fun wv t wr => ∃ (j : Nat), j ≤ 64 ∧ t = .int .i64 j ∧ Hid (wr.ownsRow wo.heap.size 38 1 wv j ((sched (blk P k) j).map uv)) ∧ Hid (Below wo.heap.size wo wr)) (fun _ t _ => 64 - (intOf t).toNat)
      case atStart => exact ⟨0, Nat.zero_le _, rfl, World.ownsRow_nil _ _ _ _, Below.refl _ _⟩
      case round =>
        obtain ⟨j, hj, rfl, hown, hbl⟩ := hrel
        have hkM : 64 * k + 64 ≤ M := by have := hak.out; have := HM8.out; omega
        have HkM := hid hkM
        by_cases hlt2 : j < 64
        · have hjz : (j : Int) < 64 := by omega
          have Hsu := hid (sched_succ (blk P k) j)
          by_cases h16 : j < 16
          · have hjz2 : (j : Int) < 16 := by omega
            have hIB : IsB wr (some ⟨gp, 0, none⟩) M cp P := ((HN'.out.isBB.on hB.out).on hbl.out).toIsB
            have Hwb := hid (word_blk P k j h16)
            have Hib := hid hIB
            clear hIB hkM
            go_wp2_with (first
              | (go_at_call 32; refine (Word_at _ ⟨gp, 0, none⟩ P M cp (64 * k + 4 * j) (by have := hak.out; omega) _ Hib.out (by have := HkM.out; omega)).mono ?_; rintro e w' ⟨rfl, rfl⟩; rw [← Hwb.out])
              | (at_builtin; refine wpList_append_own _ rfl (.tmp 42) (.tmp 49) 49 rfl wo.heap.size 38 i0 (.int .u32 0) 1 4 Try.underlying49 hi hz0 hz1 hz2 rfl (by decide) u7 j ((sched (blk P k) j).map uv) rfl (hown.out.alloc _) ⟨wr.heap.size, 0, none⟩ 1 1 [uv (wd (blk P k) j)] rfl rfl ?c1 ?c2 ?c3 ?c4 ?c5 ?_))
            case c1 => exact one_u32 wr _ _ rfl
            case c2 => intro u hu; simp at hu; subst hu; rfl
            case c3 => unfold maxLen; omega
            case c4 => omega
            case c5 => have := hbl.out.size; simp; omega
            intro v2 W3 hown2 hgrow2 _
            have hown3 : Hid (W3.ownsRow wo.heap.size 38 1 v2 (j + 1) ((sched (blk P k) (j + 1)).map uv)) := by show World.ownsRow _ _ _ _ _ _ _; rw [Hsu.out]; exact hown2
            have hbl3 : Hid (Below wo.heap.size wo W3) := (hbl.out.alloc hbl.out.size _).grown hgrow2 (by have := hbl.out.size; simp; omega) (fun q hq => (hown.out.lt q hq).1)
            clear hown2 hgrow2
            go_wp2_with fail
            go_roundw
            case rel => exact ⟨j + 1, by omega, by go_num, hown3, hbl3⟩
            case measure => simp [intOf]; omega
          · obtain ⟨gw, cw, rfl, hcw, hcm⟩ := sched_nil hown.out (by omega)
            have hjz2 : (16 : Int) ≤ j := by omega
            have c15 := sched_cell hown.out (j - 15) (by omega)
            have c2 := sched_cell hown.out (j - 2) (by omega)
            have c7 := sched_cell hown.out (j - 7) (by omega)
            have c16 := sched_cell hown.out (j - 16) (by omega)
            have hwh := wd_high (blk P k) j (by omega)
            have l15 := wd_lt (blk P k) (j - 15)
            have l2 := wd_lt (blk P k) (j - 2)
            have l7 := wd_lt (blk P k) (j - 7)
            have l16 := wd_lt (blk P k) (j - 16)
            obtain ⟨m15, e15⟩ : ∃ m, m = j - 15 := ⟨_, rfl⟩
            obtain ⟨m2, e2⟩ : ∃ m, m = j - 2 := ⟨_, rfl⟩
            obtain ⟨m7, e7⟩ : ∃ m, m = j - 7 := ⟨_, rfl⟩
            obtain ⟨m16, e16⟩ : ∃ m, m = j - 16 := ⟨_, rfl⟩
            rw [← e15] at c15 l15 hwh
            rw [← e2] at c2 l2 hwh
            rw [← e7] at c7 l7 hwh
            rw [← e16] at c16 l16 hwh
            have z15 : (j : Int) - 15 = (m15 : Int) := by omega
            have z2 : (j : Int) - 2 = (m2 : Int) := by omega
            have z7 : (j : Int) - 7 = (m7 : Int) := by omega
            have z16 : (j : Int) - 16 = (m16 : Int) := by omega
            have y15 : (m15 : Int) < j := by omega
            have y2 : (m2 : Int) < j := by omega
            have y7 : (m7 : Int) < j := by omega
            have y16 : (m16 : Int) < j := by omega
            have w15 : IntKind.i64.wrap (m15 : Int) = (m15 : Int) := IntWalk.i64_in _ (by omega)
            have w2 : IntKind.i64.wrap (m2 : Int) = (m2 : Int) := IntWalk.i64_in _ (by omega)
            have w7 : IntKind.i64.wrap (m7 : Int) = (m7 : Int) := IntWalk.i64_in _ (by omega)
            have w16 : IntKind.i64.wrap (m16 : Int) = (m16 : Int) := IntWalk.i64_in _ (by omega)
            have y7j : m7 < j := by omega
            have y16j : m16 < j := by omega
            clear e15 e2 e7 e16
            generalize wd (blk P k) m15 = x15 at *
            generalize wd (blk P k) m2 = x2 at *
            generalize wd (blk P k) m7 = x7 at *
            generalize wd (blk P k) m16 = x16 at *
            have q0 := sg0_eq x15 l15
            have q1 := sg1_eq x2 l2
            have k0 := sg0_lt x15 l15
            have k1 := sg1_lt x2 l2
            have Hwh := hid hwh
            have Hcc := hid (And.intro c7 c16)
            clear hkM hwh
            go_wp2_with fail
            go_quiet (fail)
            clear c15 c2 c7 c16
            go_wp2_with (first
              | (go_at_call 33; with_reducible refine (right7_any x15 l15 _).mono ?_; rintro e w' ⟨rfl, rfl⟩)
              | (go_at_call 33; with_reducible refine (right18_any x15 l15 _).mono ?_; rintro e w' ⟨rfl, rfl⟩)
              | (go_at_call 33; with_reducible refine (right17_any x2 l2 _).mono ?_; rintro e w' ⟨rfl, rfl⟩)
              | (go_at_call 33; with_reducible refine (right19_any x2 l2 _).mono ?_; rintro e w' ⟨rfl, rfl⟩))
            clear q0 q1
            obtain ⟨wz, hwz⟩ : ∃ wz, wz = wr.drewN nq := ⟨_, rfl⟩
            have hownz : wz.ownsRow wo.heap.size 38 1 (.slice (some ⟨gw, 0, none⟩) j cw) j ((sched (blk P k) j).map uv) := by rw [hwz]; exact hown.out
            have hblz : Below wo.heap.size wo wz := by rw [hwz]; exact below_drewN hbl.out nq
            have d7 : wz.cell? ⟨gw, m7, none⟩ = some (.int .u32 (x7 : Nat)) := by rw [hwz]; exact Hcc.out.1
            have d16 : wz.cell? ⟨gw, m16, none⟩ = some (.int .u32 (x16 : Nat)) := by rw [hwz]; exact Hcc.out.2
            rw [← hwz]
            have Hownz := hid hownz
            have Hblz := hid hblz
            clear hwz hownz hblz hown hbl
            go_region_law ((refine step_append_lies _ (by rfl) (.tmp 77) (.tmp 93) 49 (by rfl) wo.heap.size 38 i0 (.int .u32 0) 1 4 Try.underlying49 hi hz0 hz1 hz2 rfl (by omega) (.slice (some ⟨gw, 0, none⟩) j cw) j ((sched (blk P k) j).map uv) (by rfl) ((Hownz.out.alloc _).drew) ⟨wz.heap.size, 0, none⟩ 1 1 [_] (by rfl) (by rfl) (World.news_of_block (cs := #[_]) (t := 38) (fr := (0, 0)) (heap_alloc_new wz _)) (by simp [Value.oneCell']) (by omega) (by unfold maxLen; omega) (by omega) (by have := Hblz.out.size; simp; omega) (wz.heap.size + 1) (by simp) ?_; intro gg cap w1 hown1 hgrow1 hat hlt1))
            all_goals
              have hown3 : Hid (w1.ownsRow wo.heap.size 38 1 (.slice (some ⟨gg, 0, none⟩) (j + 1) cap) (j + 1) ((sched (blk P k) (j + 1)).map uv)) := by
                show World.ownsRow _ _ _ _ _ _ _
                rw [wrap4 (sg1 x2) x7 (sg0 x15) x16] at hown1
                rw [Hsu.out, Hwh.out]
                exact hown1
              have hbl3 : Hid (Below wo.heap.size wo w1) := by
                refine Below.grown ?_ hgrow1 ?_ ?_
                · first | exact (Hblz.out.alloc Hblz.out.size _).drew | exact Hblz.out.drew.alloc Hblz.out.size _
                · have := Hblz.out.size; simp; omega
                · intro q hq
                  exact (Hownz.out.lt q hq).1
              clear hown1 hgrow1 hat hlt1
              go_wp2_with fail
              go_roundw
              case rel => exact ⟨j + 1, by omega, by go_num, hown3, hbl3⟩
              case measure => simp [intOf]; omega
        · obtain rfl : j = 64 := by omega
          rw [show ((64 : Nat) : Int) = (64 : Int) from rfl]
          obtain ⟨gw, cw, rfl, hcw, hcm⟩ := sched_nil hown.out (by omega)
          have hghlt : gh < wo.heap.size := by
            rcases Nat.lt_or_ge gh wo.heap.size with h | h
            · exact h
            · have e := hF.out; unfold EightAt at e; rw [Array.getElem?_eq_none h] at e; cases e
          have hF2 : EightAt wr gh (absN P k) := (hbl.out.block gh hghlt).trans hF.out
          have hok0 := absN_ok P k
          obtain ⟨s0, hs0⟩ : ∃ s0, s0 = absN P k := ⟨_, rfl⟩
          rw [← hs0] at hF2 hok0
          have F0 := hF2.c0
          have F1 := hF2.c1
          have F2 := hF2.c2
          have F3 := hF2.c3
          have F4 := hF2.c4
          have F5 := hF2.c5
          have F6 := hF2.c6
          have F7 := hF2.c7
          have HS0 := hid hs0
          have HF2 := hid hF2
          have HghL := hid hghlt
          have HKr : Hid (wr.heap[gk]? = some (.cells (kL.map uv).toArray 38 (0, 0))) := by
            have e1 := hB.out.size
            exact (hbl.out.block gk (by have := Hgk.out; omega)).trans ((hB.out.block gk Hgk.out).trans HK.out)
          clear hF2 hs0 hghlt hkM
          obtain ⟨wi, rfl⟩ : ∃ wi : World, wi = wr := ⟨_, rfl⟩
          go_wp2_with fail
          go_quiet (fail)
          go_wp2_with fail
          go_loopw [21, 13, 14, 15, 16, 17, 18, 19, 20] (fun t a b c d e f g hx wx => ∃ (tt i : Nat), tt ≤ 64 ∧ t = .int .i64 tt ∧ wx = wi.drewN i ∧ a = .int .u32 ((rnds (blk P k) s0 tt).a : Nat) ∧ b = .int .u32 ((rnds (blk P k) s0 tt).b : Nat) ∧ c = .int .u32 ((rnds (blk P k) s0 tt).c : Nat) ∧ d = .int .u32 ((rnds (blk P k) s0 tt).d : Nat) ∧ e = .int .u32 ((rnds (blk P k) s0 tt).e : Nat) ∧ f = .int .u32 ((rnds (blk P k) s0 tt).f : Nat) ∧ g = .int .u32 ((rnds (blk P k) s0 tt).g : Nat) ∧ hx = .int .u32 ((rnds (blk P k) s0 tt).h : Nat)) (fun t _ _ _ _ _ _ _ _ _ => 64 - (intOf t).toNat)
          case atStart => exact ⟨0, _, Nat.zero_le _, rfl, rfl, rfl, rfl, rfl, rfl, rfl, rfl, rfl, rfl⟩
          case round =>
            obtain ⟨tt, it, htt, rfl, rfl, rfl, rfl, rfl, rfl, rfl, rfl, rfl, rfl⟩ := hrel
            have hok := rnds_ok (blk P k) s0 hok0 tt
            by_cases hl3 : tt < 64
            · have hlz : (tt : Int) < 64 := by omega
              have ck : (wi.drewN it).cell? ⟨gk, tt, none⟩ = some (.int .u32 (kN tt : Nat)) := kcell HKr.out tt hl3
              have cw : (wi.drewN it).cell? ⟨gw, tt, none⟩ = some (.int .u32 (wd (blk P k) tt : Nat)) := sched_cell hown.out tt hl3
              obtain ⟨wy, hwy⟩ : ∃ wy : World, wy = wi.drewN it := ⟨_, rfl⟩
              rw [← hwy] at ck cw ⊢
              have Hwy := hid hwy
              clear hwy
              have Hr := hid (show rnds (blk P k) s0 (tt + 1) = rnd (blk P k) (rnds (blk P k) s0 tt) tt from rfl)
              have lk := kN_lt tt
              have lw := wd_lt (blk P k) tt
              generalize rnds (blk P k) s0 tt = s at *
              obtain ⟨a1, b1, c1, d1, e1, f1, g1, i1⟩ := s
              have oa := hok.a
              have ob := hok.b
              have oc := hok.c
              have od := hok.d
              have oe := hok.e
              have of' := hok.f
              have og := hok.g
              have oh := hok.h
              simp only at oa ob oc od oe of' og oh
              have qc := ch_eq e1 f1 g1 oe of' og
              have qc2 := ch_eq' e1 f1 g1 oe of' og
              have qm := ma_eq a1 b1 c1 oa ob oc
              have qx := xor3_eq _ _ _ (rr6_lt e1 oe) (rr11_lt e1 oe) (rr25_lt e1 oe)
              have qy := xor3_eq _ _ _ (rr2_lt a1 oa) (rr13_lt a1 oa) (rr22_lt a1 oa)
              have qx2 : bits BinOp.xor IntKind.u32 (bits BinOp.xor IntKind.u32 (rr 6 e1 : Nat) (rr 11 e1 : Nat)) (rr 25 e1 : Nat) = ((bs1 e1 : Nat) : Int) := qx
              have qy2 : bits BinOp.xor IntKind.u32 (bits BinOp.xor IntKind.u32 (rr 2 a1 : Nat) (rr 13 a1 : Nat)) (rr 22 a1 : Nat) = ((bs0 a1 : Nat) : Int) := qy
              have lc := chN_lt e1 f1 g1 oe of' og
              have lm := maN_lt a1 b1 c1 oa ob
              have lb0 := bs0_lt a1 oa
              have lb1 := bs1_lt e1 oe
              have e1' := t1_eq' (blk P k) a1 b1 c1 d1 e1 f1 g1 i1 tt
              have e2' := t2_eq' a1 b1 c1 d1 e1 f1 g1 i1
              have l1 : t1 (blk P k) ⟨a1, b1, c1, d1, e1, f1, g1, i1⟩ tt < 4294967296 := Nat.mod_lt _ (by omega)
              have l2 : t2 ⟨a1, b1, c1, d1, e1, f1, g1, i1⟩ < 4294967296 := Nat.mod_lt _ (by omega)
              have Hrr : Hid (rnd (blk P k) ⟨a1, b1, c1, d1, e1, f1, g1, i1⟩ tt = ⟨(t1 (blk P k) ⟨a1, b1, c1, d1, e1, f1, g1, i1⟩ tt + t2 ⟨a1, b1, c1, d1, e1, f1, g1, i1⟩) % 4294967296, a1, b1, c1, (d1 + t1 (blk P k) ⟨a1, b1, c1, d1, e1, f1, g1, i1⟩ tt) % 4294967296, e1, f1, g1⟩) := rfl
              generalize t1 (blk P k) ⟨a1, b1, c1, d1, e1, f1, g1, i1⟩ tt = x1 at *
              generalize t2 ⟨a1, b1, c1, d1, e1, f1, g1, i1⟩ = x2 at *
              generalize kN tt = kt at *
              generalize wd (blk P k) tt = wt at *
              have He1 := hid (And.intro e1' qc2)
              clear e1' hok qc qc2 qx qy F0 F1 F2 F3 F4 F5 F6 F7
              go_wp2_with fail
              go_quiet ((first
                | (go_at_call 33; with_reducible exact right6_z e1 oe _ _)
                | (go_at_call 33; with_reducible exact right11_z e1 oe _ _)
                | (go_at_call 33; with_reducible exact right25_z e1 oe _ _)))
              rw [He1.out.2, He1.out.1]
              clear lc lb1 He1 ck cw qx2
              go_wp2_with (first
                | (go_at_call 33; with_reducible refine (right2_any a1 oa _).mono ?_; rintro e w' ⟨rfl, rfl⟩)
                | (go_at_call 33; with_reducible refine (right13_any a1 oa _).mono ?_; rintro e w' ⟨rfl, rfl⟩)
                | (go_at_call 33; with_reducible refine (right22_any a1 oa _).mono ?_; rintro e w' ⟨rfl, rfl⟩))
              go_roundw
              case rel =>
                refine ⟨tt + 1, _, by omega, by go_num, by rw [Hwy.out]; exact World.drewN_drewN _ _ _, ?_⟩
                rw [Hr.out, Hrr.out]
                refine ⟨?_, rfl, rfl, rfl, ?_, rfl, rfl, rfl⟩
                · go_num
                · go_num
              case measure => simp [intOf]; omega
            · obtain rfl : tt = 64 := by omega
              have Hu := hid (show uponS (blk P k) s0 = add2 s0 (rnds (blk P k) s0 64) from rfl)
              generalize rnds (blk P k) s0 64 = s at *
              have oa := hok.a
              have pa := hok0.a
              have ob := hok.b
              have pb := hok0.b
              have oc := hok.c
              have pc := hok0.c
              have od := hok.d
              have pd := hok0.d
              have oe := hok.e
              have pe := hok0.e
              have of := hok.f
              have pf := hok0.f
              have og := hok.g
              have pg := hok0.g
              have oh := hok.h
              have ph := hok0.h
              have g0 : (wi.drewN it).cell? ⟨gh, 0, none⟩ = some (.int .u32 (s0.a : Nat)) := F0
              have g1 : (wi.drewN it).cell? ⟨gh, 1, none⟩ = some (.int .u32 (s0.b : Nat)) := F1
              have g2 : (wi.drewN it).cell? ⟨gh, 2, none⟩ = some (.int .u32 (s0.c : Nat)) := F2
              have g3 : (wi.drewN it).cell? ⟨gh, 3, none⟩ = some (.int .u32 (s0.d : Nat)) := F3
              have g4 : (wi.drewN it).cell? ⟨gh, 4, none⟩ = some (.int .u32 (s0.e : Nat)) := F4
              have g5 : (wi.drewN it).cell? ⟨gh, 5, none⟩ = some (.int .u32 (s0.f : Nat)) := F5
              have g6 : (wi.drewN it).cell? ⟨gh, 6, none⟩ = some (.int .u32 (s0.g : Nat)) := F6
              have g7 : (wi.drewN it).cell? ⟨gh, 7, none⟩ = some (.int .u32 (s0.h : Nat)) := F7
              obtain ⟨wy, hwy⟩ : ∃ wy : World, wy = wi.drewN it := ⟨_, rfl⟩
              rw [← hwy] at g0 g1 g2 g3 g4 g5 g6 g7 ⊢
              have Hwy := hid hwy
              have Hhok := hid (And.intro hok hok0)
              clear hwy hok hok0 F0 F1 F2 F3 F4 F5 F6 F7
              go_wp2_with fail
              go_still_tail 40, (by kernel_rfl)
              change wpList _ _ _ _ _ wy.drew
              go_wp2_with fail
              go_roundw
              case rel =>
                have eN : absN P (k + 1) = add2 s0 s := by
                  show uponS (blk P k) (absN P k) = _
                  rw [← HS0.out, Hu.out]
                have b2 : Below W1.heap.size W1 wy := by
                  rw [Hwy.out]
                  exact below_drewN (hB.out.trans (hbl.out.mono hB.out.size)) it
                refine ⟨k + 1, a + 64, wy.heap.size, (by have := hak.out; show a + 64 = 64 * (k + 1); omega), (by have := HkM.out; have := hak.out; show a + 64 ≤ M; omega), (by go_num), rfl, ?_, (b2.alloc b2.size _).drew⟩
                rw [eN]
                exact eight_next wy s0 s
              case measure => simp [intOf]; omega
    · obtain rfl : a = M := by have := haM.out; omega
      have hs : absN P k = sumS l := by
        have e1 := hak.out
        have e2 := HPl.out
        rw [HP.out] at e2 ⊢
        show _ = absN (padded l) ((padded l).length / 64)
        rw [e2, e1]
        congr 1
        omega
      have hok := absN_ok P k
      have Hsha : Hid ((sha l).map bv = outL (absN P k) 32) := by
        show _ = _
        rw [hs]
        unfold sha outL
        simp
      have HF := hF
      generalize absN P k = s at HF Hsha hok
      have Hok := hid hok
      clear hs hok hF HPl HP HM8 HN' i0 hi hz0 hz1 hz2 HK Hgk
      have hghlt : gh < wo.heap.size := by
        rcases Nat.lt_or_ge gh wo.heap.size with h | h
        · exact h
        · have e := HF.out; unfold EightAt at e; rw [Array.getElem?_eq_none h] at e; cases e
      have HghL := hid hghlt
      clear hghlt
      have O5 : (wo.alloc (.cells z32 30)).heap[wo.heap.size]? = some (.cells z32 30 (0, 0)) := heap_alloc_new wo _
      have N5 : ∀ q, q < 8 → (wo.alloc (.cells z32 30)).cell? ⟨gh, q, none⟩ = some (.int .u32 (nth s q : Nat)) := fun q hq => by
        have e : (wo.alloc (.cells z32 30)).cell? ⟨gh, q, none⟩ = wo.cell? ⟨gh, q, none⟩ := by
          have := heap_alloc_old wo (.cells z32 30) HghL.out
          simp only [World.cell?, this]
        rw [e, row_cell HF.out]
        rcases (show q = 0 ∨ q = 1 ∨ q = 2 ∨ q = 3 ∨ q = 4 ∨ q = 5 ∨ q = 6 ∨ q = 7 by omega) with rfl | rfl | rfl | rfl | rfl | rfl | rfl | rfl <;> rfl
      have E5 : wo.grownBy (wo.alloc (.cells z32 30)) none := World.grownBy_alloc wo _ none
      have HO5 := hid O5
      have HN5 := hid N5
      have HE5 := hid E5
      clear O5 N5 E5
      go_upto_region 33 with (fail)
      change Code.wp _ _ _ _ (wo.alloc (.cells z32 30))
      generalize wo.alloc (.cells z32 30) = W5 at HO5 HN5 HE5 ⊢
      go_wp2_with fail
      go_loopw [25] (fun i wr => ∃ k : Nat, k ≤ 32 ∧ i = .int .i64 k ∧ Hid (wr.heap[wo.heap.size]? = some (.cells (outL s k).toArray 30 (0, 0))) ∧ Hid (W5.grownBy wr (some wo.heap.size))) (fun i _ => 32 - (intOf i).toNat)
      case atStart => exact ⟨0, Nat.zero_le _, rfl, HO5, World.grownBy.refl _ _⟩
      case round =>
        obtain ⟨k2, hk, rfl, hrow, hgr⟩ := hrel
        by_cases hlt3 : k2 < 32
        · obtain ⟨q, r, hqr, hr4, hq5⟩ : ∃ q r, k2 = 4 * q + r ∧ r < 4 ∧ q < 8 := ⟨k2 / 4, k2 % 4, by omega, by omega, by omega⟩
          have hcx : wr.cell? ⟨gh, q, none⟩ = some (.int .u32 (nth s q : Nat)) := hgr.out.cell (HN5.out q hq5) (by intro e; have e2 : gh = wo.heap.size := Option.some.inj e; have := HghL.out; omega)
          have hxl := nth_lt s Hok.out q
          have hset := outL_set s k2 hlt3
          have hlen := outL_len s k2 hk
          have hv := outB_val s q r hr4
          rw [hqr] at hset
          rw [hv] at hset
          rw [← hqr] at hset
          generalize nth s q = y at *
          obtain ⟨v0, hcell⟩ : ∃ v0, wr.cell? ⟨wo.heap.size, k2, none⟩ = some v0 := ⟨(outL s k2)[k2]'(by omega), by rw [row_cell hrow.out k2, List.getElem?_toArray, List.getElem?_eq_getElem (by omega)]⟩
          have hfree := row_free hrow.out k2
          have hkq : (k2 : Int) / 4 = (q : Int) := by omega
          have hkz : (k2 : Int) < 32 := by omega
          have hqz : (q : Int) < 8 := by omega
          have hyz : (y : Int) ≤ 4294967295 := by omega
          have Hset := hid hset
          clear hset hlen hv hxl
          rcases (show r = 0 ∨ r = 1 ∨ r = 2 ∨ r = 3 by omega) with rfl | rfl | rfl | rfl
          · have hk4 : (k2 : Int) % 4 = 0 := by omega
            clear hqr
            go_wp2_with fail
            go_roundw
            case rel =>
              refine ⟨k2 + 1, by omega, by go_num, ?_, grown_trans hgr.out (grownBy_setCell _ _ _ _)⟩
              have e := row_set hrow.out k2 (.int .u8 ((y / 2 ^ (24 - 0 * 8) % 256 : Nat) : Int))
              rw [set_toArray, Hset.out] at e
              have ev : ((y / 2 ^ (24 - 0 * 8) % 256 : Nat) : Int) = (y : Int) / 16777216 := by
                show ((y / 16777216 % 256 : Nat) : Int) = _
                omega
              rw [ev] at e
              exact e
            case measure => simp [intOf]; omega
          · have hk4 : (k2 : Int) % 4 = 1 := by omega
            clear hqr
            go_wp2_with fail
            go_roundw
            case rel =>
              refine ⟨k2 + 1, by omega, by go_num, ?_, grown_trans hgr.out (grownBy_setCell _ _ _ _)⟩
              have e := row_set hrow.out k2 (.int .u8 ((y / 2 ^ (24 - 1 * 8) % 256 : Nat) : Int))
              rw [set_toArray, Hset.out] at e
              have ev : ((y / 2 ^ (24 - 1 * 8) % 256 : Nat) : Int) = (y : Int) / 65536 % 256 := by
                show ((y / 65536 % 256 : Nat) : Int) = _
                omega
              rw [ev] at e
              exact e
            case measure => simp [intOf]; omega
          · have hk4 : (k2 : Int) % 4 = 2 := by omega
            clear hqr
            go_wp2_with fail
            go_roundw
            case rel =>
              refine ⟨k2 + 1, by omega, by go_num, ?_, grown_trans hgr.out (grownBy_setCell _ _ _ _)⟩
              have e := row_set hrow.out k2 (.int .u8 ((y / 2 ^ (24 - 2 * 8) % 256 : Nat) : Int))
              rw [set_toArray, Hset.out] at e
              have ev : ((y / 2 ^ (24 - 2 * 8) % 256 : Nat) : Int) = (y : Int) / 256 % 256 := by
                show ((y / 256 % 256 : Nat) : Int) = _
                omega
              rw [ev] at e
              exact e
            case measure => simp [intOf]; omega
          · have hk4 : (k2 : Int) % 4 = 3 := by omega
            clear hqr
            go_wp2_with fail
            go_roundw
            case rel =>
              refine ⟨k2 + 1, by omega, by go_num, ?_, grown_trans hgr.out (grownBy_setCell _ _ _ _)⟩
              have e := row_set hrow.out k2 (.int .u8 ((y / 2 ^ (24 - 3 * 8) % 256 : Nat) : Int))
              rw [set_toArray, Hset.out] at e
              have ev : ((y / 2 ^ (24 - 3 * 8) % 256 : Nat) : Int) = (y : Int) % 256 := by
                show ((y / 1 % 256 : Nat) : Int) = _
                omega
              rw [ev] at e
              exact e
            case measure => simp [intOf]; omega
        · obtain rfl : k2 = 32 := by omega
          have HL := hid (outL_len s 32 hk)
          have T : ∀ i, i < W1.heap.size → wr.heap[i]? = W1.heap[i]? := fun i hi => by
            have e1 := hB.out.size
            rw [hgr.out.block i (by have := HE5.out.size; omega) (by intro e; have e2 : i = wo.heap.size := Option.some.inj e; omega), HE5.out.block i (by omega) (by simp), hB.out.block i hi]
          have HRR : Hid (wr.heap[w.heap.size]? = some (.cells z32 30 (0, 0))) := by
            have e1 := HNb.out.size
            have e2 := Hs0.out
            exact (T _ (by omega)).trans ((HNb.out.block _ (by omega)).trans Hr0.out)
          have HBB : Hid (Below w.heap.size w wr) := by
            have b1 : Below w.heap.size w W1 := Hb0.out.trans (HNb.out.mono Hb0.out.size)
            exact ⟨hgr.out.os.trans (HE5.out.os.trans (hB.out.os.trans b1.os)), hgr.out.tape.trans (HE5.out.tape.trans (hB.out.tape.trans b1.tape)), hgr.out.output.trans (HE5.out.output.trans (hB.out.output.trans b1.output)),
              Nat.le_trans b1.size (Nat.le_trans hB.out.size (Nat.le_trans HE5.out.size hgr.out.size)), fun i hi => (T i (Nat.lt_of_lt_of_le hi b1.size)).trans (b1.block i hi)⟩
          clear T
          go_wp2_with (first
            | (refine wpList_load_row rfl 30 (.tmp 24) rfl wo.heap.size rfl 30 (outL s 32).toArray (0, 0) _ hrow.out Try.underlying30 rfl (size32 _ HL.out) ?_)
            | (refine wpList_store_row (o := ⟨none, .store 30 (.tmp 2) (.tmp 243), _, _, _, _⟩) rfl 30 (.tmp 2) (.tmp 243) rfl w.heap.size (outL s 32).toArray rfl rfl 30 z32 HRR.out (size32 _ HL.out) (z32_size _ HL.out) (outL_one s 32) ?_))
          refine bodyPost_ret (results_cell_row (by kernel_rfl : Try.f23.results = #[.cell 2 30]) _ _ w.heap.size 30 (outL s 32).toArray (0, 0) _ rfl (setRow_heap _ _ _ _ _ _ HRR.out) Try.underlying30 rfl (size32 _ HL.out)) rfl ⟨?_, ?_⟩
          · rw [Hsha.out]
          · exact below_setRow HBB.out (Nat.le_refl _) _
end Go.Proofs.Ytnifhgcdpgokhaa
