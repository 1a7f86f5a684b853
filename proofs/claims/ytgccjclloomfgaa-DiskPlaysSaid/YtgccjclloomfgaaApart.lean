/-
  The contract of quillpresslow's ApartBytes at lists that lie in blocks of their own.
-/
import Derived.Test.YtgccjclloomfgaaOwnW
import Derived.StillTailTactics
import Derived.Deep.Cut
import Derived.IntWalk
namespace Go.Proofs.Ytgccjclloomfgaa
open Go.RowKit

/-- How many bytes of list k are looked at. -/
def lk (n c : Nat → Nat) (k : Nat) : Nat := min (c k) (n k + 40)
/-- The lists: list k lies in block g k, n k bytes of c k; the slice values lie in block G. -/
structure ApL (m G : Nat) (ad : Nat → Option Addr) (g n c : Nat → Nat) (w : World) : Prop where
  val : ∀ k, k < m → ad k = some ⟨g k, 0, none⟩ ∨ (ad k = none ∧ n k = 0 ∧ c k = 0)
  few : m ≤ 6
  cap : ∀ k, k < m → n k ≤ c k ∧ c k ≤ maxLen ∧ n k ≤ 140737488355000
  ne : ∀ p q, p < m → q < m → p ≠ q → g p ≠ g q
  neG : ∀ k, k < m → g k ≠ G
  low : ∀ k, k < m → ad k ≠ none → g k < w.heap.size
  lowG : G < w.heap.size
  cells : ∀ k, k < m → w.cell? ⟨G, k, none⟩ = some (.slice (ad k) (n k) (c k))
/-- Nothing but these lists is written. -/
structure Sp (m : Nat) (g : Nat → Nat) (w w' : World) : Prop where
  os : w'.os = w.os
  tape : w'.tape = w.tape
  output : w'.output = w.output
  size : w.heap.size ≤ w'.heap.size
  block : ∀ i, i < w.heap.size → (∀ k, k < m → i ≠ g k) → w'.heap[i]? = w.heap[i]?
def RowAt (w : World) (g c : Nat) : Prop := ∃ cs : Array Value, w.heap[g]? = some (.cells cs 5 (0, 0)) ∧ cs.size = c
/-- The first l bytes of block g are v. -/
def StmpAt (w : World) (g c l v : Nat) : Prop := ∃ cs : Array Value, w.heap[g]? = some (.cells cs 5 (0, 0)) ∧ cs.size = c ∧ ∀ i, i < l → cs[i]? = some (.int .u8 (v : Nat))
structure AB (m : Nat) (ad : Nat → Option Addr) (g n c : Nat → Nat) (r k B : Nat) (w wr : World) : Prop where
  sp : Sp m g w wr
  rows : ∀ q, q < m → ad q ≠ none → RowAt wr (g q) (c q)
  st : ∀ q, q < k → q < m → ad q ≠ none → StmpAt wr (g q) (c q) (lk n c q) (stamp q r)
  hi : w.heap.size ≤ B
  rc : wr.cell? ⟨B, 0, none⟩ = some (.int .i64 r)
theorem RowAt.to {w w' : World} {g c : Nat} (h : RowAt w g c) (e : w'.heap[g]? = w.heap[g]?) : RowAt w' g c := by
  obtain ⟨cs, h1, h2⟩ := h
  exact ⟨cs, e.trans h1, h2⟩
theorem StmpAt.to {w w' : World} {g c l v : Nat} (h : StmpAt w g c l v) (e : w'.heap[g]? = w.heap[g]?) : StmpAt w' g c l v := by
  obtain ⟨cs, h1, h2⟩ := h
  exact ⟨cs, e.trans h1, h2⟩
theorem RowAt.lt {w : World} {g c : Nat} (h : RowAt w g c) : g < w.heap.size := by
  obtain ⟨cs, h1, _⟩ := h
  rcases Nat.lt_or_ge g w.heap.size with hlt | hge
  · exact hlt
  · rw [Array.getElem?_eq_none hge] at h1; cases h1
theorem Sp.refl (m : Nat) (g : Nat → Nat) (w : World) : Sp m g w w := ⟨rfl, rfl, rfl, Nat.le_refl _, fun _ _ _ => rfl⟩
theorem Sp.below {m : Nat} {g : Nat → Nat} {w w1 w2 : World} (h : Sp m g w w1) (k : Below w1.heap.size w1 w2) : Sp m g w w2 :=
  ⟨k.os.trans h.os, k.tape.trans h.tape, k.output.trans h.output, Nat.le_trans h.size k.size, fun i hi hne => (k.block i (Nat.lt_of_lt_of_le hi h.size)).trans (h.block i hi hne)⟩
theorem AB.below {m : Nat} {ad : Nat → Option Addr} {g n c : Nat → Nat} {r k B : Nat} {w w1 w2 : World} (h : AB m ad g n c r k B w w1) (b : Below w1.heap.size w1 w2) : AB m ad g n c r k B w w2 :=
  ⟨h.sp.below b, fun q hq hd => (h.rows q hq hd).to (b.block _ (h.rows q hq hd).lt), fun q hq hm hd => (h.st q hq hm hd).to (b.block _ (h.rows q hm hd).lt), h.hi, (b.cell (p := ⟨B, 0, none⟩) (lt_of_cell h.rc)).trans h.rc⟩
theorem AB.drew {m : Nat} {ad : Nat → Option Addr} {g n c : Nat → Nat} {r k B : Nat} {w w1 : World} (h : AB m ad g n c r k B w w1) (j : Nat) : AB m ad g n c r k B w (w1.drewN j) :=
  ⟨⟨h.sp.os, h.sp.tape, h.sp.output, h.sp.size, h.sp.block⟩, h.rows, h.st, h.hi, h.rc⟩
/-- A byte of list k is written. -/
theorem AB.set {m G : Nat} {ad : Nat → Option Addr} {g n c : Nat → Nat} {r k B : Nat} {w w1 : World} (h : AB m ad g n c r k B w w1) (hl : ApL m G ad g n c w) (hk : k < m) (hd : ad k ≠ none) (i : Nat) (v : Value) : AB m ad g n c r k B w (w1.setCell ⟨g k, i, none⟩ v) := by
  have oth : ∀ j, j ≠ g k → (w1.setCell ⟨g k, i, none⟩ v).heap[j]? = w1.heap[j]? := fun j hj => heap_setCell_other _ _ _ _ hj
  refine ⟨⟨h.sp.os, h.sp.tape, h.sp.output, by rw [World.size_setCell]; exact h.sp.size, fun j hj hne => (oth j (hne k hk)).trans (h.sp.block j hj hne)⟩, fun q hq hdq => ?_, fun q hq hm hdq => ?_, h.hi, ?_⟩
  · by_cases e : q = k
    · subst e
      obtain ⟨cs, h1, h2⟩ := h.rows q hq hdq
      exact ⟨_, row_set h1 i v, by simpa using h2⟩
    · exact (h.rows q hq hdq).to (oth _ (hl.ne q k hq hk e))
  · exact (h.st q hq hm hdq).to (oth _ (hl.ne q k hm hk (by omega)))
  · have hB : B ≠ g k := fun e => by have := hl.low k hk hd; have := h.hi; omega
    have := oth B hB
    rw [← h.rc]
    simp only [World.cell?, this]
theorem AB.sliceAt {m G : Nat} {ad : Nat → Option Addr} {g n c : Nat → Nat} {r k B : Nat} {w w1 : World} (h : AB m ad g n c r k B w w1) (hl : ApL m G ad g n c w) (q : Nat) (hq : q < m) : w1.cell? ⟨G, q, none⟩ = some (.slice (ad q) (n q) (c q)) := by
  rw [← hl.cells q hq]
  have := h.sp.block G hl.lowG (fun k hk e => hl.neG k hk e.symm)
  simp only [World.cell?, this]
theorem AB.isBB {m G : Nat} {ad : Nat → Option Addr} {g n c : Nat → Nat} {r k B : Nat} {w w1 : World} (h : AB m ad g n c r k B w w1) (hl : ApL m G ad g n c w) (q : Nat) (hq : q < m) (hk : q < k) :
    IsBB w1 w1.heap.size (ad q) (lk n c q) (c q) (List.replicate (lk n c q) (UInt8.ofNat (stamp q r))) := by
  obtain ⟨c1, c2, c3⟩ := hl.cap q hq
  rcases hl.val q hq with hv | ⟨hv, hn0, hc0⟩
  · have hd : ad q ≠ none := by rw [hv]; simp
    obtain ⟨cs, h1, h2, h3⟩ := h.st q hk hq hd
    have hs : stamp q r < 256 := by have := hl.few; unfold stamp; split <;> omega
    rw [hv]
    refine ⟨⟨by simp, Nat.min_le_left _ _, c2, by unfold lk; omega, fun _ => ⟨_, rfl, fun j hj => ?_⟩⟩, fun _ ad' e => by cases e; exact (h.rows q hq hd).lt⟩
    have hj2 : j < lk n c q := by simpa using hj
    have e : (⟨g q, 0, none⟩ : Addr).add j = ⟨g q, j, none⟩ := by unfold Addr.add; split <;> simp_all
    rw [e, row_cell h1 j, h3 j hj2]
    simp
    omega
  · have hl0 : lk n c q = 0 := by unfold lk; rw [hn0, hc0]; rfl
    rw [hv, hl0, hc0]
    exact isBB_nil w1 _
theorem AB.next {m : Nat} {ad : Nat → Option Addr} {g n c : Nat → Nat} {r k B : Nat} {w w1 : World} (h : AB m ad g n c r k B w w1) (s : k < m → ad k ≠ none → StmpAt w1 (g k) (c k) (lk n c k) (stamp k r)) : AB m ad g n c r (k + 1) B w w1 :=
  ⟨h.sp, h.rows, fun q hq hm hd => by
    by_cases e : q = k
    · subst e; exact s hm hd
    · exact h.st q (by omega) hm hd, h.hi, h.rc⟩

theorem stamps_eq (l q r : Nat) (hq : q < 6) : ∀ b ∈ List.replicate l (UInt8.ofNat (stamp q r)), b.toNat = stamp q r := fun b hb => by
  rw [List.eq_of_mem_replicate hb]
  have : stamp q r < 256 := by unfold stamp; split <;> omega
  simp
  omega
set_option maxRecDepth 10000 in
set_option maxHeartbeats 2000000 in
theorem whole_nil (w : World) : Calls Try.prog 55 #[.slice none 0 0] w fun e w' => e = .returned (.slice none 0 0) ∧ w = w' := by
  go_enter Try.func55, Try.ntmps55
  go_wp2_with fail
  go_ret
  exact ⟨rfl, rfl⟩
set_option maxRecDepth 10000 in
set_option maxHeartbeats 2000000 in
theorem Apart_any (m G : Nat) (ad : Nat → Option Addr) (g n c : Nat → Nat) (w : World) (hl : ApL m G ad g n c w) (hr : ∀ q, q < m → ad q ≠ none → RowAt w (g q) (c q)) :
    Calls Try.prog 38 #[.slice (some ⟨G, 0, none⟩) m m] w fun e w' => e = .returned (.bool true) ∧ Sp m g w w' := by
  have hf := hl.few
  have HL := hid hl
  have HR := hid hr
  clear hl hr
  go_enter Try.func38, Try.ntmps38
  go_wp2_with fail
  go_loopw [10] (fun rv wr => ∃ r : Nat, r ≤ 2 ∧ rv = .int .i64 r ∧ Hid (Sp m g w wr) ∧ Hid (∀ q, q < m → ad q ≠ none → RowAt wr (g q) (c q))) (fun rv _ => 2 - (intOf rv).toNat)
  case atStart => exact ⟨0, Nat.zero_le _, rfl, Sp.refl m g w, HR.out⟩
  case round =>
    obtain ⟨r, hr, rfl, hsp, hrows⟩ := hrel
    by_cases hlt : r < 2
    · have hrz : (r : Int) < 2 := by omega
      go_wp2_with fail
      obtain ⟨B, hB⟩ : ∃ B, B = wr.heap.size := ⟨_, rfl⟩
      have hA0 : AB m ad g n c r 0 B w (wr.alloc (.cells #[.int .i64 r] 3)) := by
        have hb : Below wr.heap.size wr (wr.alloc (.cells #[.int .i64 r] 3)) := (Below.refl _ _).alloc (Nat.le_refl _) _
        refine ⟨hsp.out.below hb, fun q hq hd => (hrows.out q hq hd).to (hb.block _ (hrows.out q hq hd).lt), fun q hq => absurd hq (by omega), by rw [hB]; exact hsp.out.size, ?_⟩
        rw [hB, row_cell (heap_alloc_new wr _)]; rfl
      rw [← hB]
      generalize wr.alloc (.cells #[.int .i64 r] 3) = W0 at hA0 ⊢
      have HA0 := hid hA0
      clear hA0 hB hsp hrows
      go_loopw [15] (fun iv wx => ∃ k : Nat, k ≤ m ∧ iv = .int .i64 k ∧ Hid (AB m ad g n c r k B w wx)) (fun iv _ => m - (intOf iv).toNat)
      case atStart => exact ⟨0, Nat.zero_le _, rfl, HA0⟩
      case round =>
        obtain ⟨k, hk, rfl, hA⟩ := hrel
        by_cases hkl : k < m
        · have hkz : (k : Int) < m := by omega
          have hsl := hA.out.sliceAt HL.out k hkl
          obtain ⟨d1, d2, d3⟩ := HL.out.cap k hkl
          obtain ⟨gk, hgk⟩ : ∃ gk, gk = g k := ⟨_, rfl⟩
          obtain ⟨nk, hnk⟩ : ∃ nk, nk = n k := ⟨_, rfl⟩
          obtain ⟨A0, hA0k⟩ : ∃ A0, A0 = ad k := ⟨_, rfl⟩
          have hval := HL.out.val k hkl
          obtain ⟨ck, hck⟩ : ∃ ck, ck = c k := ⟨_, rfl⟩
          rw [← hA0k, ← hnk, ← hck] at hsl
          rw [← hA0k, ← hgk, ← hnk, ← hck] at hval
          rw [← hnk, ← hck] at d1
          rw [← hck] at d2
          rw [← hnk] at d3
          have Hgk := hid (And.intro hgk (And.intro hnk hck))
          have HA0k := hid hA0k
          obtain ⟨lv, hlv⟩ : ∃ lv, lv = min ck (nk + 40) := ⟨_, rfl⟩
          have hlz : (lv : Int) ≤ 140737488355328 := by rw [hlv]; omega
          have Hlv := hid hlv
          have hwh : ∀ w, Calls Try.prog 55 #[.slice A0 nk ck] w fun e w' => e = .returned (.slice A0 lv ck) ∧ w = w' := by
            intro w
            rcases hval with hv | ⟨hv, hn0, hc0⟩
            · rw [hv, hlv]; exact whole_any gk nk ck w d1 d2 (by omega)
            · rw [hv, hlv, hn0, hc0]; exact whole_nil w
          have Hval := hid hval
          have Hwh := hid hwh
          clear hgk hnk hck hlv hwh d1 d2 d3 hval hA0k
          go_wp2_with (go_at_call 55; refine (Hwh.out _).mono ?_; rintro e w' ⟨rfl, rfl⟩)
          clear hsl
          go_loopw [23] (fun iv wy => ∃ i : Nat, i ≤ lv ∧ iv = .int .i64 i ∧ Hid (AB m ad g n c r k B w wy) ∧ Hid (A0 ≠ none → StmpAt wy gk ck i (stamp k r))) (fun iv _ => lv - (intOf iv).toNat)
          case atStart =>
            refine ⟨0, Nat.zero_le _, rfl, hA, fun hd => ?_⟩
            obtain ⟨cs, e1, e2⟩ := hA.out.rows k hkl (by rw [← HA0k.out]; exact hd)
            rw [← Hgk.out.1] at e1
            rw [← Hgk.out.2.2] at e2
            exact ⟨cs, e1, e2, fun i hi => absurd hi (by omega)⟩
          case round =>
            obtain ⟨i, hi, rfl, hA2, hS⟩ := hrel
            by_cases hil : i < lv
            · have hiz : (i : Int) < lv := by omega
              have hrc := hA2.out.rc
              obtain rfl : A0 = some ⟨gk, 0, none⟩ := by
                rcases Hval.out with hv | ⟨hv, hn0, hc0⟩
                · exact hv
                · exfalso; have := Hlv.out; rw [hn0, hc0] at this; omega
              obtain ⟨cs, e1, e2, e3⟩ := hS.out (by simp)
              have hic : i < cs.size := by rw [e2]; have := Hlv.out; omega
              have hcell := row_cell e1 i
              rw [Array.getElem?_eq_getElem hic] at hcell
              have hfree := row_free e1 i
              have hst := fun w => stamped_any k r w (by omega) hlt
              obtain ⟨sv, hsv⟩ : ∃ sv, sv = stamp k r := ⟨_, rfl⟩
              rw [← hsv] at hst
              have Hst := hid hst
              have Hcs := hid (And.intro e1 (And.intro e2 e3))
              have Hsv := hid hsv
              clear e1 e2 e3 hst hsv
              go_wp2_with fail
              go_still_tail 7, (by kernel_rfl)
              refine wpStill_step (fun K hK => ?_)
              go_simp
              refine ⟨_, (Hwh.out _).mono (fun e w' h => ⟨h.1, h.2.symm⟩), hK _ ?_⟩
              clear hK K
              repeat still_step
              refine wpStill_step (fun K hK => ?_)
              go_simp
              refine ⟨_, (Hst.out _).mono (fun e w' h => ⟨h.1, h.2.symm⟩), hK _ ?_⟩
              clear hK K
              repeat still_step
              refine wpStill_nil ?_
              change wpList _ _ _ _ _ wr.drew
              go_wp2_with fail
              go_roundw
              case rel =>
                refine ⟨i + 1, by omega, by go_num, ?_, ?_⟩
                · have q := (hA2.out.set HL.out hkl (by rw [← HA0k.out]; simp) i (.int .u8 (sv : Nat))).drew 1
                  rw [← Hgk.out.1] at q
                  exact q
                · intro _
                  obtain ⟨e1, e2, e3⟩ := Hcs.out
                  refine ⟨cs.setIfInBounds i (.int .u8 (sv : Nat)), row_set e1 i _, by simpa using e2, fun j hj => ?_⟩
                  by_cases e : j = i
                  · subst e
                    rw [← Hsv.out]
                    simp [hic]
                  · rw [Array.getElem?_setIfInBounds_ne (by omega)]
                    exact e3 j (by omega)
              case measure => simp [intOf]; omega
            · obtain rfl : i = lv := by omega
              have hN := hA2.out.next (fun _ hd => by
                have e := hS.out (by rw [HA0k.out]; exact hd)
                rw [Hgk.out.1, Hgk.out.2.2, Hlv.out, Hgk.out.2.1, Hgk.out.2.2] at e
                exact e)
              have HN := hid hN
              clear hN
              go_wp2_with fail
              go_roundw
              case rel => exact ⟨k + 1, by omega, by go_num, HN⟩
              case measure => simp [intOf]; omega
        · obtain rfl : k = m := by omega
          clear HA0
          go_wp2_with fail
          go_loopw [37] (fun iv wx => ∃ q : Nat, q ≤ k ∧ iv = .int .i64 q ∧ Hid (AB k ad g n c r k B w wx)) (fun iv _ => k - (intOf iv).toNat)
          case atStart => exact ⟨0, Nat.zero_le _, rfl, hA⟩
          case round =>
            obtain ⟨q, hq, rfl, hA2⟩ := hrel
            by_cases hql : q < k
            · have hqz : (q : Int) < k := by omega
              have hsl := hA2.out.sliceAt HL.out q hql
              obtain ⟨d1, d2, d3⟩ := HL.out.cap q hql
              have hBB := hA2.out.isBB HL.out q hql hql
              obtain ⟨gk, hgk⟩ : ∃ gk, gk = g q := ⟨_, rfl⟩
              obtain ⟨nk, hnk⟩ : ∃ nk, nk = n q := ⟨_, rfl⟩
              obtain ⟨A0, hA0k⟩ : ∃ A0, A0 = ad q := ⟨_, rfl⟩
              have hval := HL.out.val q hql
              obtain ⟨ck, hck⟩ : ∃ ck, ck = c q := ⟨_, rfl⟩
              obtain ⟨lv, hlv⟩ : ∃ lv, lv = lk n c q := ⟨_, rfl⟩
              rw [← hA0k, ← hck, ← hlv] at hBB
              rw [← hA0k, ← hnk, ← hck] at hsl
              rw [← hA0k, ← hgk, ← hnk, ← hck] at hval
              rw [← hnk, ← hck] at d1
              rw [← hck] at d2
              rw [← hnk] at d3
              have hlv2 : min ck (nk + 40) = lv := by rw [hlv, hck, hnk]; rfl
              have hwh : ∀ w, Calls Try.prog 55 #[.slice A0 nk ck] w fun e w' => e = .returned (.slice A0 lv ck) ∧ w = w' := by
                intro w
                rw [← hlv2]
                rcases hval with hv | ⟨hv, hn0, hc0⟩
                · rw [hv]; exact whole_any gk nk ck w d1 d2 (by omega)
                · rw [hv, hn0, hc0]; exact whole_nil w
              have Hwh := hid hwh
              have HBB := hid hBB
              have Hd := hid (And.intro d1 (And.intro d2 d3))
              clear hgk hnk hck hlv hlv2 hwh d1 d2 d3 hBB hval hA0k
              go_wp2_with fail
              have hb1 : Below wr.heap.size wr (wr.alloc (.cells #[.int .i64 q] 3)) := (Below.refl _ _).alloc (Nat.le_refl _) _
              have hA3 := hA2.out.below hb1
              have hcq : (wr.alloc (.cells #[.int .i64 q] 3)).cell? ⟨wr.heap.size, 0, none⟩ = some (.int .i64 q) := by rw [row_cell (heap_alloc_new wr _)]; rfl
              have hB1 := HBB.out.on hb1
              obtain ⟨Bk, hBk⟩ : ∃ Bk, Bk = wr.heap.size := ⟨_, rfl⟩
              rw [← hBk] at hcq ⊢
              generalize wr.alloc (.cells #[.int .i64 q] 3) = W1 at hA3 hcq hB1 ⊢
              have HA3 := hid hA3
              have HC := hid (And.intro hcq hB1)
              clear hA3 hcq hB1 hsl hb1 hBk
              refine (Hwh.out _).mono ?_
              rintro e w' ⟨rfl, rfl⟩
              go_wp2_with fail
              refine (all_yes A0 _ lv ck q r Bk B W1 HC.out.2 (by omega) hlt HC.out.1 HA3.out.rc (stamps_eq _ _ _ (by omega))).mono ?_
              rintro e w2 ⟨rfl, hb2⟩
              have HA4 := hid (HA3.out.below hb2)
              clear hb2
              go_wp2_with fail
              go_roundw
              case rel => exact ⟨q + 1, by omega, by go_num, HA4⟩
              case measure => simp [intOf]; omega
            · go_wp2_with fail
              go_roundw
              case rel => exact ⟨r + 1, by omega, by go_num, hA2.out.sp, hA2.out.rows⟩
              case measure => simp [intOf]; omega
    · go_wp2_with fail
      go_ret
      exact ⟨rfl, hsp.out⟩
end Go.Proofs.Ytgccjclloomfgaa
