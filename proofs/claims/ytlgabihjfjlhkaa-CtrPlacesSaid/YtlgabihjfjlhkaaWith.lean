/-
  The contracts of the document's With and Encrypt.
-/
import Derived.Test.YtlgabihjfjlhkaaKeyd
import Derived.Test.YtlgabihjfjlhkaaRow
import Derived.Test.YtlgabihjfjlhkaaRefTab
import Derived.Test.YtlgabihjfjlhkaaEnc
import Derived.StillTailTactics
namespace Go.Proofs.Ytlgabihjfjlhkaa
open Go.RowKit

/-- Places done row by row, of two blocks. -/
def rpP (a b : Blk16) (n : Nat) : Blk16 := fun j => if tr j < n then b j else a j
theorem rpP_next (a b : Blk16) (n : Nat) (hn : n < 16) : Same (upd (rpP a b n) (tr n) (b (tr n))) (rpP a b (n + 1)) := by
  intro j hj
  unfold upd rpP
  by_cases e : j = tr n
  · subst e; rw [if_pos rfl, if_pos (by rw [tr_tr n hn]; omega)]
  · have hne : tr j ≠ n := fun e2 => e (by rw [← tr_tr j hj, e2])
    rw [if_neg e]
    by_cases h : tr j < n
    · rw [if_pos h, if_pos (by omega)]
    · rw [if_neg h, if_neg (by omega)]
/-- Places done in their order, of two blocks. -/
def cpP (a b : Blk16) (n : Nat) : Blk16 := fun j => if j < n then b j else a j
theorem cpP_next (a b : Blk16) (n : Nat) : Same (upd (cpP a b n) n (b n)) (cpP a b (n + 1)) := by
  intro j hj
  unfold upd cpP
  by_cases e : j = n
  · subst e; rw [if_pos rfl, if_pos (by omega)]
  · rw [if_neg e]
    by_cases h : j < n
    · rw [if_pos h, if_pos (by omega)]
    · rw [if_neg h, if_neg (by omega)]
theorem rpP_all (a b : Blk16) : Same (rpP a b 16) b := fun j hj => by unfold rpP; rw [if_pos (tr_lt j hj)]
theorem cpP_all (a b : Blk16) : Same (cpP a b 16) b := fun j hj => by unfold cpP; rw [if_pos hj]
theorem rpP_none (a b : Blk16) : Same (rpP a b 0) a := fun j _ => by unfold rpP; rw [if_neg (by omega)]
theorem cpP_none (a b : Blk16) : Same (cpP a b 0) a := fun j _ => by unfold cpP; rw [if_neg (by omega)]
/-- The state of With: the block s in rows; the words, the table, the bytes below. -/
structure WiSt (w wr : World) (g : Nat) (f : Blk16) : Prop where
  box : RwAt wr g f
  bel : Below w.heap.size w wr
  ge : w.heap.size ≤ g
theorem WiSt.drew {w wr : World} {g : Nat} {f : Blk16} (s : WiSt w wr g f) : WiSt w wr.drew g f := ⟨s.box, s.bel.drew, s.ge⟩
theorem WiSt.set {w wr : World} {g : Nat} {f : Blk16} (s : WiSt w wr g f) (q v : Nat) (hq : q < 16) : WiSt w (wr.setCell ⟨g, q, none⟩ (.int .u8 (v : Nat))).drew g (upd f (tr q) v) := by
  have b := (But.refl g wr).set q (.int .u8 (v : Nat))
  exact ⟨s.box.set q v hq, (b.below s.bel s.ge s.bel.size).drew, s.ge⟩
theorem WiSt.same {w wr : World} {g : Nat} {f f' : Blk16} (s : WiSt w wr g f) (e : Same f f') : WiSt w wr g f' := ⟨s.box.same e, s.bel, s.ge⟩
theorem WiSt.on {w wr w' : World} {g : Nat} {f : Blk16} (s : WiSt w wr g f) (hb : Below wr.heap.size wr w') : WiSt w w' g f := ⟨s.box.onB hb, bel_trans s.bel hb, s.ge⟩
theorem WiSt.put {w wr : World} {g : Nat} {f : Blk16} (s : WiSt w wr g f) (f' : Blk16) : WiSt w (wr.setRow g (rwL f').toArray) g f' :=
  ⟨setRow_heap _ _ _ _ _ _ s.box, below_setRow s.bel s.ge _, s.ge⟩
theorem OwnB.base {w W1 wr : World} {v : Value} {X : List UInt8} (h : OwnB W1 wr v X) (hb : Below w.heap.size w W1) : OwnB w wr v X := by
  refine ⟨?_, hb.trans (h.bel.mono hb.size)⟩
  obtain ⟨h1, h2⟩ := h.own
  refine ⟨h1, ?_⟩
  rcases h2 with h2 | ⟨g, cap, cur, rfl, hg, r⟩
  · exact .inl h2
  · exact .inr ⟨g, cap, cur, rfl, Nat.le_trans hb.size hg, r⟩
theorem tab_cells2 {w : World} {B : Nat} {sad : Addr} {sc : Nat} (h : IsBB w B (some sad) 256 sc (tabL 256)) (x : Nat) (hx : x < 256) : w.cell? (sad.add x) = some (.int .u8 (subN x : Nat)) := by
  have hl := tabL_len 256
  obtain ⟨ad, e, hc⟩ := h.lies (by omega)
  cases e
  rw [hc x (by omega)]
  have h1 := sub_lt x hx
  simp [tabL]
  omega
structure Wi2 (w wr : World) (g : Nat) (f : Blk16) (g2 : Nat) (h : Blk16) : Prop where
  one : WiSt w wr g f
  two : RwAt wr g2 h
  ge2 : w.heap.size ≤ g2
  ne : g ≠ g2
theorem Wi2.set2 {w wr : World} {g g2 : Nat} {f h : Blk16} (s : Wi2 w wr g f g2 h) (q v : Nat) (hq : q < 16) : Wi2 w (wr.setCell ⟨g2, q, none⟩ (.int .u8 (v : Nat))).drew g f g2 (upd h (tr q) v) := by
  have b := (But.refl g2 wr).set q (.int .u8 (v : Nat))
  exact ⟨⟨(s.one.box.on b s.ne).drew, (b.below s.one.bel s.ge2 s.one.bel.size).drew, s.one.ge⟩, s.two.set q v hq, s.ge2, s.ne⟩
theorem Wi2.set1 {w wr : World} {g g2 : Nat} {f h : Blk16} (s : Wi2 w wr g f g2 h) (q v : Nat) (hq : q < 16) : Wi2 w (wr.setCell ⟨g, q, none⟩ (.int .u8 (v : Nat))).drew g (upd f (tr q) v) g2 h := by
  have b := (But.refl g wr).set q (.int .u8 (v : Nat))
  exact ⟨s.one.set q v hq, (s.two.on b (Ne.symm s.ne)).drew, s.ge2, s.ne⟩
theorem Wi2.same {w wr : World} {g g2 : Nat} {f f' h h' : Blk16} (s : Wi2 w wr g f g2 h) (e : Same f f') (e2 : Same h h') : Wi2 w wr g f' g2 h' := ⟨s.one.same e, s.two.same e2, s.ge2, s.ne⟩
theorem Wi2.put1 {w wr : World} {g g2 : Nat} {f h : Blk16} (s : Wi2 w wr g f g2 h) (f' : Blk16) : Wi2 w (wr.setRow g (rwL f').toArray) g f' g2 h :=
  ⟨s.one.put f', (setRow_other _ _ _ _ (Ne.symm s.ne)).trans s.two, s.ge2, s.ne⟩
theorem WiSt.two {w wr : World} {g : Nat} {f : Blk16} (s : WiSt w wr g f) : Wi2 w (wr.alloc (.cells zb16 69)) g f wr.heap.size (fun _ => 0) := by
  have b : Below wr.heap.size wr (wr.alloc (.cells zb16 69)) := (Below.refl _ wr).alloc (Nat.le_refl _) _
  have hl := s.box.lt
  refine ⟨s.on b, ?_, s.bel.size, by omega⟩
  have e := heap_alloc_new wr (.cells zb16 69)
  unfold RwAt
  rw [← zb16_rw]
  exact e
/-- Behind q rounds. -/
def stF (k : Nat → Blk16) (f : Blk16) (q : Nat) : Blk16 := if q < 14 then rndsF k (addF f (k 0)) q else encF k f
theorem stF_next (k : Nat → Blk16) (f : Blk16) (q : Nat) (h : q < 13) : stF k f (q + 1) = addF (mixF (rowsF (subsF (stF k f q)))) (k (q + 1)) := by
  unfold stF; rw [if_pos (by omega), if_pos (by omega)]; rfl
theorem stF_last (k : Nat → Blk16) (f : Blk16) : stF k f 14 = addF (rowsF (subsF (stF k f 13))) (k 14) := rfl
theorem stF_low (k : Nat → Blk16) (f : Blk16) (hf : Low f) (hk : ∀ r, Low (k r)) (q : Nat) : Low (stF k f q) := by
  unfold stF
  split
  · exact Low.rnds (hf.add (hk 0)) hk q
  · exact Low.enc hf hk
def outP (f : Blk16) (n : Nat) : List UInt8 := (List.range n).map (fun j => UInt8.ofNat (f j))
theorem outP_len (f : Blk16) (n : Nat) : (outP f n).length = n := by simp [outP]
theorem outP_next (f : Blk16) (n : Nat) : outP f n ++ [UInt8.ofNat (f n)] = outP f (n + 1) := by simp [outP, List.range_succ]
def outW (K : Nat → Nat) (l : List UInt8) : List UInt8 := outP (encF (keyF K) (fnOf l)) 16
set_option maxRecDepth 10000 in
set_option maxHeartbeats 8000000 in
theorem With_any (sad bad : Addr) (sc bc gl cl : Nat) (l : List UInt8) (K : Nat → Nat) (w : World) (hk : ∀ j, j < 32 → K j < 256) (hw : WordsAt w gl cl K) (ht : IsBB w w.heap.size (some sad) 256 sc (tabL 256)) (hb : IsBB w w.heap.size (some bad) 16 bc l) :
    Calls Try.prog 29 #[.slice (some sad) 256 sc, .slice (some ⟨gl, 0, none⟩) 60 cl, .slice (some bad) 16 bc] w fun e w' => ∃ v, e = .returned v ∧ OwnB w w' v (outW K l) := by
  have zv := zero62
  have hlen := hb.len
  have HW := hid hw
  have HTab : Hid (∀ wr x, Below w.heap.size w wr → x < 256 → wr.cell? (sad.add x) = some (.int .u8 (subN x : Nat))) := by
    intro wr x hbw hx
    exact tab_cells2 (ht.below hbw) x hx
  have HB : Hid (∀ wr j, Below w.heap.size w wr → j < 16 → wr.cell? (bad.add j) = some (.int .u8 (fnOf l j : Nat))) := by
    intro wr j hbw hj
    obtain ⟨ad, e, hc⟩ := (hb.below hbw).lies (by omega)
    cases e
    rw [hc j (by omega)]
    unfold fnOf
    rw [List.getD_eq_getElem?_getD, List.getElem?_eq_getElem (by omega)]
    rfl
  have hF := fnOf_low l
  have hkl : ∀ r, Low (keyF K r) := Low.key K hk
  have HOut : Hid (outW K l = outP (encF (keyF K) (fnOf l)) 16) := rfl
  have S0 : Hid (WiSt w (w.alloc (.cells zb16 69)) w.heap.size (cpP (fun _ => 0) (fnOf l) 0)) := by
    have e := heap_alloc_new w (.cells zb16 69)
    rw [show Obj.cells zb16 69 (0, 0) = Obj.cells (rwL (fun _ => 0)).toArray 69 (0, 0) by rw [← zb16_rw]] at e
    have e2 : RwAt (w.alloc (.cells zb16 69)) w.heap.size (fun _ => 0) := by
      unfold RwAt
      rw [← zb16_rw]
      exact heap_alloc_new w _
    exact ⟨e2.same (fun j _ => by unfold cpP; rw [if_neg (by omega)]), (Below.refl _ w).alloc (Nat.le_refl _) _, Nat.le_refl _⟩
  clear hw ht hb hlen
  generalize fnOf l = F0 at HB hF HOut S0
  go_enter Try.func29, Try.ntmps29
  go_wp2_with fail
  generalize w.alloc (.cells zb16 69) = W0 at S0 ⊢
  obtain ⟨g, hg⟩ : ∃ g, g = w.heap.size := ⟨_, rfl⟩
  rw [← hg] at S0 ⊢
  clear hg
  go_loopw [8] (fun vi wx => ∃ i : Nat, i ≤ 16 ∧ vi = .int .i64 i ∧ Hid (WiSt w wx g (cpP (fun _ => 0) F0 i))) (fun vi _ => 16 - (intOf vi).toNat)
  case atStart => exact ⟨0, Nat.zero_le _, rfl, S0⟩
  case round =>
    obtain ⟨i, hi, rfl, hs⟩ := hrel
    clear S0
    by_cases hlt : i < 16
    · have hlz : (i : Int) < 16 := by omega
      have c1 := HB.out wr i hs.out.bel hlt
      have l1 := hF i hlt
      have hnx := cpP_next (fun _ => 0) F0 i
      have htr : tr (i % 4 * 4 + i / 4) = i := by unfold tr; omega
      have c2 := hs.out.box.cell (i % 4 * 4 + i / 4) (by omega)
      have f2 := hs.out.box.free (i % 4 * 4 + i / 4)
      have SN := hid ((hs.out.set (i % 4 * 4 + i / 4) (F0 i) (by omega)).same (by rw [htr]; exact hnx))
      generalize cpP (fun _ => 0) F0 i (tr (i % 4 * 4 + i / 4)) = o1 at c2
      generalize F0 i = x at c1 l1 SN
      obtain ⟨m, hm⟩ : ∃ m, m = i % 4 := ⟨_, rfl⟩
      obtain ⟨d, hd⟩ : ∃ d, d = i / 4 := ⟨_, rfl⟩
      rw [← hm, ← hd] at c2 f2 SN
      have m1 : (i : Int) % 4 = (m : Int) := by omega
      have m2 : (i : Int) / 4 = (d : Int) := by omega
      have m3 : Int.tmod (i : Int) 4 = (m : Int) := by rw [Int.tmod_eq_emod_of_nonneg (by omega)]; omega
      have m4 : Int.tdiv (i : Int) 4 = (d : Int) := by rw [Int.tdiv_eq_ediv_of_nonneg (by omega)]; omega
      have m5 : IntKind.i64.wrap (d : Int) = (d : Int) := IntWalk.i64_in _ (by omega)
      have m6 : (m : Int) < 4 := by omega
      have m7 : (d : Int) < 4 := by omega
      clear hm hd htr hnx
      go_wp2_with fail
      go_still_tail 10, (by kernel_rfl)
      change wpList _ _ _ _ _ wr.drew
      go_wp2_with fail
      go_roundw
      case rel => exact ⟨i + 1, by omega, by go_num, SN⟩
      case measure => simp [intOf]; omega
    · obtain rfl : i = 16 := by omega
      rw [show ((16 : Nat) : Int) = 16 from rfl]
      have hs1 := hid (hs.out.same (cpP_all _ _))
      have K0 := hid (keyed_any F0 gl cl 0 K wr hF hk (by omega) (HW.out.on hs1.out.bel))
      have HR1 := hid hs1.out.box
      have HS1 := size62 (rwL F0) (rwL_len _)
      have HS2 := hid HS1
      have HS3 := hid (size62 (rwL (addF F0 (keyF K 0))) (rwL_len _))
      clear HS1 hs HB
      go_wp2_with (first
        | (go_at_call 41; refine K0.out.mono ?_; rintro e W2 ⟨rfl, hb2⟩; have HS4 := hid (hs1.out.on hb2); have HR2 := hid HS4.out.box; have HS5 := hid (HS4.out.put (addF F0 (keyF K 0))); clear hb2 K0)
        | (refine wpList_load_row rfl 69 (.tmp 7) rfl g rfl 69 (rwL F0).toArray (0, 0) _ HR1.out Try.underlying69 rfl HS2.out ?_)
        | (refine wpList_store_row (o := ⟨none, .store 69 (.tmp 7) (.tmp 33), _, _, _, _⟩) rfl 69 (.tmp 7) (.tmp 33) rfl g (rwL (addF F0 (keyF K 0))).toArray rfl rfl 69 (rwL F0).toArray HR2.out HS3.out (by rw [List.size_toArray, List.size_toArray, rwL_len, rwL_len]) (rwL_one _) ?_; generalize W2.setRow g (rwL (addF F0 (keyF K 0))).toArray = W3 at HS5 ⊢))
      have HQ : Hid (WiSt w W3 g (stF (keyF K) F0 0)) := HS5.out
      clear HS5 HS4 HR2 HS3 HS2 HR1 hs1
      go_loopw [9, 10, 11, 12, 13, 14] (fun vr _ _ _ _ _ wx => ∃ q : Nat, q ≤ 14 ∧ vr = .int .i64 ((q + 1 : Nat) : Int) ∧ Hid (WiSt w wx g (stF (keyF K) F0 q))) (fun vr _ _ _ _ _ _ => 15 - (intOf vr).toNat)
      case atStart => exact ⟨0, Nat.zero_le _, rfl, HQ⟩
      case round =>
        obtain ⟨q, hq, rfl, hsq⟩ := hrel
        clear HQ
        have hlF := stF_low (keyF K) F0 hF hkl q
        by_cases hltq : q < 14
        · obtain ⟨r, hr⟩ : ∃ r, r = q + 1 := ⟨_, rfl⟩
          rw [← hr]
          have Hr := hid hr
          have hqz : (r : Int) ≤ 14 := by omega
          have hr14 : r ≤ 14 := by omega
          clear hr
          have HNx := hid (stF_next (keyF K) F0 q)
          have HLa := hid (stF_last (keyF K) F0)
          have H13 : Hid (q = 13 → stF (keyF K) F0 13 = stF (keyF K) F0 q) := fun e => by rw [e]
          have T0 := hid (hsq.out.two)
          obtain ⟨F, hFe⟩ : ∃ F, F = stF (keyF K) F0 q := ⟨_, rfl⟩
          rw [← hFe] at hlF T0
          have HFe := hid hFe
          clear hsq hFe
          have T1 := hid (T0.out.same (Same.refl F) (fun j hj => (rpP_none (fun _ => 0) (rowsF (subsF F)) j hj).symm))
          have hlG : Low (rowsF (subsF F)) := hlF.subs.rows
          go_wp2_with fail
          clear T0
          generalize wr.alloc (.cells zb16 69) = W4 at T1 ⊢
          obtain ⟨g2, hg2⟩ : ∃ g2, g2 = wr.heap.size := ⟨_, rfl⟩
          rw [← hg2] at T1 ⊢
          clear hg2
          have Z0 : Hid (True) := trivial
          clear Z0
          go_loopw [11, 12] (fun va _ wx => ∃ a : Nat, a ≤ 4 ∧ va = .int .i64 a ∧ Hid (Wi2 w wx g F g2 (rpP (fun _ => 0) (rowsF (subsF F)) (4 * a)))) (fun va _ _ => 4 - (intOf va).toNat)
          case atStart => exact ⟨0, Nat.zero_le _, rfl, T1⟩
          case round =>
            obtain ⟨a, ha, rfl, hta⟩ := hrel
            clear T1
            by_cases hlta : a < 4
            · have haz : (a : Int) < 4 := by omega
              go_wp2_with fail
              go_loopw [12] (fun vb wx => ∃ b : Nat, b ≤ 4 ∧ vb = .int .i64 b ∧ Hid (Wi2 w wx g F g2 (rpP (fun _ => 0) (rowsF (subsF F)) (4 * a + b)))) (fun vb _ => 4 - (intOf vb).toNat)
              case atStart => exact ⟨0, Nat.zero_le _, rfl, hta⟩
              case round =>
                obtain ⟨b, hb, rfl, htb⟩ := hrel
                clear hta
                by_cases hltb : b < 4
                · have hbz : (b : Int) < 4 := by omega
                  obtain ⟨m, hm⟩ : ∃ m, m = (b + a) % 4 := ⟨_, rfl⟩
                  have c1 := htb.out.one.box.cell (a * 4 + m) (by omega)
                  rw [show tr (a * 4 + m) = 4 * m + a by unfold tr; omega] at c1
                  have l1 := hlF (4 * m + a) (by omega)
                  have c2 := HTab.out wr (F (4 * m + a)) htb.out.one.bel l1
                  have c3 := htb.out.two.cell (a * 4 + b) (by omega)
                  have f3 := htb.out.two.free (a * 4 + b)
                  have hG : rowsF (subsF F) (4 * b + a) = subN (F (4 * m + a)) := by
                    show subN (F ((4 * b + a + 4 * ((4 * b + a) % 4)) % 16)) = _
                    rw [show (4 * b + a + 4 * ((4 * b + a) % 4)) % 16 = 4 * m + a by omega]
                  have htr : tr (4 * a + b) = 4 * b + a := by unfold tr; omega
                  have SN := hid ((htb.out.set2 (a * 4 + b) (subN (F (4 * m + a))) (by omega)).same (Same.refl F) (by
                    have e := rpP_next (fun _ => 0) (rowsF (subsF F)) (4 * a + b) (by omega)
                    rw [htr, hG] at e
                    rw [show a * 4 + b = 4 * a + b by omega, htr]
                    exact e))
                  generalize rpP (fun _ => 0) (rowsF (subsF F)) (4 * a + b) (tr (a * 4 + b)) = o3 at c3
                  have l2 := sub_lt _ l1
                  generalize subN (F (4 * m + a)) = z at c2 l2 SN
                  generalize F (4 * m + a) = x at c1 l1 c2
                  obtain ⟨s, hsm⟩ : ∃ s, s = b + a := ⟨_, rfl⟩
                  have i1 : IntKind.i64.wrap ((b : Int) + (a : Int)) = (s : Int) := by rw [IntWalk.i64_in _ (by omega)]; omega
                  have i2 : (s : Int) % 4 = (m : Int) := by omega
                  have i3 : Int.tmod (s : Int) 4 = (m : Int) := by rw [Int.tmod_eq_emod_of_nonneg (by omega)]; omega
                  have i4 : (m : Int) < 4 := by omega
                  have i5 : (x : Int) < 256 := by omega
                  clear hm hsm hG htr
                  go_wp2_with fail
                  go_still_tail 15, (by kernel_rfl)
                  change wpList _ _ _ _ _ wr.drew
                  go_wp2_with fail
                  go_roundw
                  case rel => exact ⟨b + 1, by omega, by go_num, by rw [show 4 * a + (b + 1) = 4 * a + b + 1 by omega]; exact SN⟩
                  case measure => simp [intOf]; omega
                · obtain rfl : b = 4 := by omega
                  go_wp2_with fail
                  go_roundw
                  case rel => exact ⟨a + 1, by omega, by go_num, by rw [show 4 * (a + 1) = 4 * a + 4 by omega]; exact htb⟩
                  case measure => simp [intOf]; omega
            · obtain rfl : a = 4 := by omega
              have T2 := hid (hta.out.same (Same.refl F) (rpP_all (fun _ => 0) (rowsF (subsF F))))
              rw [show ((4 : Nat) : Int) = 4 from rfl]
              clear hta
              obtain ⟨G, hGe⟩ : ∃ G, G = rowsF (subsF F) := ⟨_, rfl⟩
              rw [← hGe] at T2 hlG
              have HGe := hid hGe
              clear hGe
              have HR1 := hid T2.out.two
              have HR2 := hid T2.out.one.box
              have HS1 := hid (size62 (rwL G) (rwL_len _))
              have T3 := hid (T2.out.put1 G)
              have T4 := hid (T3.out.same (fun j hj => (cpP_none G (mixF G) j hj).symm) (Same.refl G))
              clear T2 T3
              go_wp2_with (first
                | (refine wpList_load_row rfl 69 (.tmp 10) rfl g2 rfl 69 (rwL G).toArray (0, 0) _ HR1.out Try.underlying69 rfl HS1.out ?_)
                | (refine wpList_store_row (o := ⟨none, .store 69 (.tmp 7) (.tmp 61), _, _, _, _⟩) rfl 69 (.tmp 7) (.tmp 61) rfl g (rwL G).toArray rfl rfl 69 (rwL F).toArray HR2.out HS1.out (by rw [List.size_toArray, List.size_toArray, rwL_len, rwL_len]) (rwL_one _) ?_; generalize wr.setRow g (rwL G).toArray = W5 at T4 ⊢))
              clear HR1 HR2 HS1
              go_loopw [13, 14] (fun vc _ wx => ∃ c : Nat, c ≤ 4 ∧ (q < 13 ∨ c = 0) ∧ vc = .int .i64 c ∧ Hid (Wi2 w wx g (cpP G (mixF G) (4 * c)) g2 G)) (fun vc _ _ => 4 - (intOf vc).toNat)
              case atStart => exact ⟨0, Nat.zero_le _, .inr rfl, rfl, T4⟩
              case round =>
                obtain ⟨c, hc, hcq, rfl, htc⟩ := hrel
                clear T4
                by_cases hq13 : q < 13
                · have hqq : (r : Int) < 14 := by have := Hr.out; omega
                  by_cases hltc : c < 4
                  · have hcz : (c : Int) < 4 := by omega
                    go_wp2_with fail
                    go_loopw [14] (fun vb wx => ∃ b : Nat, b ≤ 4 ∧ vb = .int .i64 b ∧ Hid (Wi2 w wx g (cpP G (mixF G) (4 * c + b)) g2 G)) (fun vb _ => 4 - (intOf vb).toNat)
                    case atStart => exact ⟨0, Nat.zero_le _, rfl, htc⟩
                    case round =>
                      obtain ⟨b, hb, rfl, htb⟩ := hrel
                      clear htc
                      by_cases hltb : b < 4
                      · have hbz : (b : Int) < 4 := by omega
                        obtain ⟨m1, hm1⟩ : ∃ m, m = (b + 1) % 4 := ⟨_, rfl⟩
                        obtain ⟨m2, hm2⟩ : ∃ m, m = (b + 2) % 4 := ⟨_, rfl⟩
                        obtain ⟨m3, hm3⟩ : ∃ m, m = (b + 3) % 4 := ⟨_, rfl⟩
                        have c0 := htb.out.two.cell (b * 4 + c) (by omega)
                        have c1 := htb.out.two.cell (m1 * 4 + c) (by omega)
                        have c2 := htb.out.two.cell (m2 * 4 + c) (by omega)
                        have c3 := htb.out.two.cell (m3 * 4 + c) (by omega)
                        rw [show tr (b * 4 + c) = 4 * c + b by unfold tr; omega] at c0
                        rw [show tr (m1 * 4 + c) = 4 * c + m1 by unfold tr; omega] at c1
                        rw [show tr (m2 * 4 + c) = 4 * c + m2 by unfold tr; omega] at c2
                        rw [show tr (m3 * 4 + c) = 4 * c + m3 by unfold tr; omega] at c3
                        have y0l := hlG (4 * c + b) (by omega)
                        have y1l := hlG (4 * c + m1) (by omega)
                        have y2l := hlG (4 * c + m2) (by omega)
                        have y3l := hlG (4 * c + m3) (by omega)
                        have c4 := htb.out.one.box.cell (b * 4 + c) (by omega)
                        have f4 := htb.out.one.box.free (b * 4 + c)
                        have hM : mixF G (4 * c + b) = mixN (G (4 * c + b)) (G (4 * c + m1)) (G (4 * c + m2)) (G (4 * c + m3)) := by
                          unfold mixF
                          rw [show inCol (4 * c + b) 1 = 4 * c + m1 by unfold inCol; omega, show inCol (4 * c + b) 2 = 4 * c + m2 by unfold inCol; omega, show inCol (4 * c + b) 3 = 4 * c + m3 by unfold inCol; omega]
                        have htr : tr (b * 4 + c) = 4 * c + b := by unfold tr; omega
                        have SN := hid ((htb.out.set1 (b * 4 + c) (mixN (G (4 * c + b)) (G (4 * c + m1)) (G (4 * c + m2)) (G (4 * c + m3))) (by omega)).same (by
                          have e := cpP_next G (mixF G) (4 * c + b)
                          rw [hM] at e
                          rw [htr]
                          exact e) (Same.refl G))
                        unfold mixN at SN
                        generalize cpP G (mixF G) (4 * c + b) (tr (b * 4 + c)) = o4 at c4
                        generalize G (4 * c + b) = y0 at c0 y0l SN
                        generalize G (4 * c + m1) = y1 at c1 y1l SN
                        generalize G (4 * c + m2) = y2 at c2 y2l SN
                        generalize G (4 * c + m3) = y3 at c3 y3l SN
                        have R2 := hid (fun w => RefTimes_any 2 y0 (by omega) y0l w)
                        have R3 := hid (fun w => RefTimes_any 3 y1 (by omega) y1l w)
                        have z2 := gf_lt 2 y0 (by omega)
                        have z3 := gf_lt 3 y1 (by omega)
                        generalize gf 2 y0 = x2 at R2 z2 SN
                        generalize gf 3 y1 = x3 at R3 z3 SN
                        have q1 := u8_xor_nat _ _ z2 z3
                        have z4 := xor8 z2 z3
                        generalize x2 ^^^ x3 = x4 at q1 z4 SN
                        have q2 := u8_xor_nat _ _ z4 y2l
                        have z5 := xor8 z4 y2l
                        generalize x4 ^^^ y2 = x5 at q2 z5 SN
                        have q3 := u8_xor_nat _ _ z5 y3l
                        have z6 := xor8 z5 y3l
                        generalize x5 ^^^ y3 = x6 at q3 z6 SN
                        obtain ⟨s1, hs1⟩ : ∃ s, s = b + 1 := ⟨_, rfl⟩
                        obtain ⟨s2, hs2⟩ : ∃ s, s = b + 2 := ⟨_, rfl⟩
                        obtain ⟨s3, hs3⟩ : ∃ s, s = b + 3 := ⟨_, rfl⟩
                        have i1 : IntKind.i64.wrap ((b : Int) + 1) = (s1 : Int) := by rw [IntWalk.i64_in _ (by omega)]; omega
                        have i2 : IntKind.i64.wrap ((b : Int) + 2) = (s2 : Int) := by rw [IntWalk.i64_in _ (by omega)]; omega
                        have i3 : IntKind.i64.wrap ((b : Int) + 3) = (s3 : Int) := by rw [IntWalk.i64_in _ (by omega)]; omega
                        have j1 : (s1 : Int) % 4 = (m1 : Int) := by omega
                        have j2 : (s2 : Int) % 4 = (m2 : Int) := by omega
                        have j3 : (s3 : Int) % 4 = (m3 : Int) := by omega
                        have k1 : Int.tmod (s1 : Int) 4 = (m1 : Int) := by rw [Int.tmod_eq_emod_of_nonneg (by omega)]; omega
                        have k2 : Int.tmod (s2 : Int) 4 = (m2 : Int) := by rw [Int.tmod_eq_emod_of_nonneg (by omega)]; omega
                        have k3 : Int.tmod (s3 : Int) 4 = (m3 : Int) := by rw [Int.tmod_eq_emod_of_nonneg (by omega)]; omega
                        have n1 : (m1 : Int) < 4 := by omega
                        have n2 : (m2 : Int) < 4 := by omega
                        have n3 : (m3 : Int) < 4 := by omega
                        have Hs1 := hid hs1
                        clear hm1 hm2 hm3 hs1 hs2 hs3 hM htr
                        go_wp2_with fail
                        go_still_tail 35, (by kernel_rfl)
                        refine wpStill_step (fun K hK => ?_)
                        go_simp
                        refine ⟨_, (R2.out _).mono (fun e w' h => ⟨h.1, h.2.symm⟩), hK _ ?_⟩
                        clear hK K
                        repeat still_step
                        refine wpStill_step (fun K hK => ?_)
                        go_simp
                        refine ⟨_, (R3.out _).mono (fun e w' h => ⟨h.1, h.2.symm⟩), hK _ ?_⟩
                        clear hK K
                        repeat still_step
                        refine wpStill_nil ?_
                        change wpList _ _ _ _ _ wr.drew
                        go_wp2_with fail
                        go_roundw
                        case rel => exact ⟨b + 1, by omega, by have := Hs1.out; congr 1; omega, by rw [show 4 * c + (b + 1) = 4 * c + b + 1 by omega]; exact SN⟩
                        case measure => have := Hs1.out; simp [intOf]; omega
                      · obtain rfl : b = 4 := by omega
                        go_wp2_with fail
                        go_roundw
                        case rel => exact ⟨c + 1, by omega, .inl hq13, by go_num, by rw [show 4 * (c + 1) = 4 * c + 4 by omega]; exact htb⟩
                        case measure => simp [intOf]; omega
                  · obtain rfl : c = 4 := by omega
                    rw [show ((4 : Nat) : Int) = 4 from rfl]
                    have HH := hid (htc.out.same (cpP_all G (mixF G)) (Same.refl G))
                    have hlH := hlG.mix
                    have HN : Hid (stF (keyF K) F0 (q + 1) = addF (mixF G) (keyF K (q + 1))) := by
                      show _ = _
                      rw [HNx.out hq13, HGe.out, HFe.out]
                    generalize mixF G = H at HH hlH HN
                    clear htc
                    have hlH2 := hlH
                    have K1 := hid (keyed_any H gl cl r K wr hlH hk hr14 (HW.out.on HH.out.one.bel))
                    have HR1 := hid HH.out.one.box
                    have HS2 := hid (size62 (rwL H) (rwL_len _))
                    have HS3 := hid (size62 (rwL (addF H (keyF K r))) (rwL_len _))
                    have HI := hid HH.out.one
                    go_wp2_with (first
                      | (go_at_call 41; refine K1.out.mono ?_; rintro e W7 ⟨rfl, hb2⟩; have HS4 := hid (HI.out.on hb2); have HR2 := hid HS4.out.box; have HS5 := hid (HS4.out.put (addF H (keyF K r))); clear hb2 K1)
                      | (refine wpList_load_row rfl 69 (.tmp 7) rfl g rfl 69 (rwL H).toArray (0, 0) _ HR1.out Try.underlying69 rfl HS2.out ?_)
                      | (refine wpList_store_row (o := ⟨none, .store 69 (.tmp 7) (.tmp 112), _, _, _, _⟩) rfl 69 (.tmp 7) (.tmp 112) rfl g (rwL (addF H (keyF K r))).toArray rfl rfl 69 (rwL H).toArray HR2.out HS3.out (by rw [List.size_toArray, List.size_toArray, rwL_len, rwL_len]) (rwL_one _) ?_; generalize W7.setRow g (rwL (addF H (keyF K r))).toArray = W8 at HS5 ⊢))
                    go_roundw
                    case rel => exact ⟨q + 1, by omega, by have := Hr.out; congr 1; omega, by rw [HN.out, ← Hr.out]; exact HS5⟩
                    case measure => simp [intOf]; omega
                · obtain rfl : c = 0 := by omega
                  have hq14 : q = 13 := by omega
                  have hqq : ¬ (r : Int) < 14 := by have := Hr.out; omega
                  have HH := hid (htc.out.same (cpP_none G (mixF G)) (Same.refl G))
                  have hlH := hlG
                  have HN : Hid (stF (keyF K) F0 (q + 1) = addF G (keyF K (q + 1))) := by
                    show _ = _
                    rw [show q + 1 = 14 by omega, HLa.out, HGe.out, HFe.out, H13.out hq14]
                  obtain ⟨H, hH⟩ : ∃ H, H = G := ⟨_, rfl⟩
                  have HH2 : Hid (Wi2 w wr g H g2 G) := by rw [hH]; exact HH
                  rw [← hH] at hlH HN
                  clear htc HH hH
                  have HH := HH2
                  clear HH2
                  have hlH2 := hlH
                  have K1 := hid (keyed_any H gl cl r K wr hlH hk hr14 (HW.out.on HH.out.one.bel))
                  have HR1 := hid HH.out.one.box
                  have HS2 := hid (size62 (rwL H) (rwL_len _))
                  have HS3 := hid (size62 (rwL (addF H (keyF K r))) (rwL_len _))
                  have HI := hid HH.out.one
                  go_wp2_with (first
                    | (go_at_call 41; refine K1.out.mono ?_; rintro e W7 ⟨rfl, hb2⟩; have HS4 := hid (HI.out.on hb2); have HR2 := hid HS4.out.box; have HS5 := hid (HS4.out.put (addF H (keyF K r))); clear hb2 K1)
                    | (refine wpList_load_row rfl 69 (.tmp 7) rfl g rfl 69 (rwL H).toArray (0, 0) _ HR1.out Try.underlying69 rfl HS2.out ?_)
                    | (refine wpList_store_row (o := ⟨none, .store 69 (.tmp 7) (.tmp 112), _, _, _, _⟩) rfl 69 (.tmp 7) (.tmp 112) rfl g (rwL (addF H (keyF K r))).toArray rfl rfl 69 (rwL H).toArray HR2.out HS3.out (by rw [List.size_toArray, List.size_toArray, rwL_len, rwL_len]) (rwL_one _) ?_; generalize W7.setRow g (rwL (addF H (keyF K r))).toArray = W8 at HS5 ⊢))
                  go_roundw
                  case rel => exact ⟨q + 1, by omega, by have := Hr.out; congr 1; omega, by rw [HN.out, ← Hr.out]; exact HS5⟩
                  case measure => simp [intOf]; omega
        · obtain rfl : q = 14 := by omega
          rw [show ((14 + 1 : Nat) : Int) = 15 from rfl]
          have HE : stF (keyF K) F0 14 = encF (keyF K) F0 := rfl
          rw [HE] at hsq hlF
          generalize encF (keyF K) F0 = E at hsq hlF HOut
          clear HE
          go_wp2_with fail
          obtain ⟨W5, hW5⟩ : ∃ W5 : World, W5 = wr := ⟨_, rfl⟩
          have HI : Hid (WiSt w W5 g E) := by rw [hW5]; exact hsq
          rw [← hW5]
          clear hW5 hsq
          have HO := hid (OwnB.nil W5 W5 (Below.refl _ W5))
          go_loopw [15, 16] (fun vv vi wx => ∃ (v : Value) (i : Nat), i ≤ 16 ∧ vi = .int .i64 i ∧ v = vv ∧ Hid (OwnB W5 wx v (outP E i))) (fun _ vi _ => 16 - (intOf vi).toNat)
          case atStart => exact ⟨_, 0, Nat.zero_le _, rfl, rfl, HO⟩
          case round =>
            obtain ⟨v, i, hi, rfl, rfl, hso⟩ := hrel
            clear HO
            by_cases hlti : i < 16
            · have hiz : (i : Int) < 16 := by omega
              have c1 := (HI.out.on hso.out.bel).box.cell (i % 4 * 4 + i / 4) (by omega)
              rw [show tr (i % 4 * 4 + i / 4) = i by unfold tr; omega] at c1
              have l1 := hlF i hlti
              have Hnx := hid (outP_next E i)
              have hln := outP_len E i
              generalize E i = x at c1 l1 Hnx
              obtain ⟨m, hm⟩ : ∃ m, m = i % 4 := ⟨_, rfl⟩
              obtain ⟨d, hd⟩ : ∃ d, d = i / 4 := ⟨_, rfl⟩
              rw [← hm, ← hd] at c1
              have j1 : (i : Int) % 4 = (m : Int) := by omega
              have j2 : (i : Int) / 4 = (d : Int) := by omega
              have j6 : (m : Int) < 4 := by omega
              have j7 : (d : Int) < 4 := by omega
              clear hm hd
              go_wp2_with (at_builtin; refine wpList_app1 rfl (.tmp 117) (.tmp 125) rfl W5 wr v (outP E i) x rfl rfl hso.out (by omega) l1 ?_; intro v2 W6 hv2)
              rw [Hnx.out] at hv2
              go_roundw
              case rel => exact ⟨v2, i + 1, by omega, by go_num, rfl, hv2⟩
              case measure => simp [intOf]; omega
            · obtain rfl : i = 16 := by omega
              go_wp2_with fail
              go_ret
              rw [HOut.out]
              exact ⟨_, rfl, hso.out.base HI.out.bel⟩
end Go.Proofs.Ytlgabihjfjlhkaa
