/-
  The contracts of an encoder's Put.
-/
import Derived.Test.YtbgbacajgaeooaaEn
namespace Go.Proofs.Ytbgbacajgaeooaa
open Go.RowKit

/-- How wide the interval in block g is. -/
def wdW (w : World) (g : Nat) : Nat :=
  match w.cell? ⟨g, 1, none⟩, w.cell? ⟨g, 2, none⟩ with
  | some (.int _ x), some (.int _ y) => (y - x).toNat
  | _, _ => 0
theorem wdW_of {w : World} {g x y : Nat} (hx : w.cell? ⟨g, 1, none⟩ = some (.int .u32 (x : Nat))) (hy : w.cell? ⟨g, 2, none⟩ = some (.int .u32 (y : Nat))) : wdW w g = y - x := by
  unfold wdW
  rw [hx, hy]
  show ((y : Int) - (x : Int)).toNat = y - x
  omega
/-- On the way: the interval x to y will shed all that 'shd k' tells (k: enough). -/
structure Way (k x y : Nat) : Prop where
  le : x ≤ y
  lt : y < 4294967296
  wide : 4294967296 ≤ (y - x + 1) * 256 ^ k
theorem Way.next {k x y : Nat} (h : Way k x y) (ht : x / 16777216 = y / 16777216) : ∃ j, k = j + 1 ∧ Way j (sx x) (sy y) ∧ sy y - sx x + 1 = (y - x + 1) * 256 := by
  have e : sy y - sx x + 1 = (y - x + 1) * 256 := by have := h.le; have := h.lt; unfold sx sy; omega
  cases k with
  | zero =>
    have := h.wide
    have := h.le
    have := h.lt
    exfalso
    have hw : 4294967296 ≤ y - x + 1 := by simpa using h.wide
    omega
  | succ j =>
    obtain ⟨h1, h2⟩ := s_le x y h.le h.lt ht
    refine ⟨j, rfl, ⟨h1, h2, ?_⟩, e⟩
    rw [e, Nat.mul_assoc, ← Nat.pow_succ']
    exact h.wide
theorem way4 {x y : Nat} (hle : x ≤ y) (hy : y < 4294967296) : Way 4 x y := ⟨hle, hy, by
  have : 1 * 256 ^ 4 ≤ (y - x + 1) * 256 ^ 4 := Nat.mul_le_mul_right _ (by omega)
  exact Nat.le_trans (by decide) this⟩
/-- Put's state from shed to shed: the byte b waits, if ok; L will have been shed in the end, and the interval will be fx to fy. -/
structure Pst (B : Nat) (S : Nat → Prop) (w : World) (g : Nat) (L : List UInt8) (fx fy : Nat) (wr : World) (b : Nat) (ok : Bool) : Prop where
  is : ∃ S' F' x y l k, Ob B S' wr g 55 (ecells g x y) F' l ∧ Stp S S' w wr ∧ Way k x y ∧
    ((ok = true ∧ b < 256 ∧ l ++ UInt8.ofNat b :: (shd k x y).1 = L ∧ (shd k x y).2 = (fx, fy)) ∨ (ok = false ∧ l = L ∧ x = fx ∧ y = fy))
/-- One shed more: from an interval with nothing waiting. -/
structure Pre (B : Nat) (S : Nat → Prop) (w : World) (g : Nat) (L : List UInt8) (fx fy : Nat) (wr : World) (x y : Nat) : Prop where
  is : ∃ S' F' l k, Ob B S' wr g 55 (ecells g x y) F' l ∧ Stp S S' w wr ∧ Way k x y ∧ l ++ (shd k x y).1 = L ∧ (shd k x y).2 = (fx, fy)
theorem shed_pre {B : Nat} {S : Nat → Prop} {w : World} {g : Nat} {L : List UInt8} {fx fy : Nat} {wr : World} {x y : Nat} (h : Pre B S w g L fx fy wr x y) :
    Calls Try.prog 30 #[.pointer (some ⟨g, 1, none⟩)] wr fun r w' => ∃ (b : Nat) (ok : Bool), r = .returned (.tuple #[.int .u8 (b : Nat), .bool ok]) ∧ Pst B S w g L fx fy w' b ok ∧ wdW w' g + (if ok then 0 else 1) ≥ wdW wr g + 1 ∧ wdW w' g < 4294967296 := by
  obtain ⟨S', F', l, k, he, hs, hw, hl, hf⟩ := h.is
  have hx : wr.cell? ⟨g, 1, none⟩ = some (.int .u32 (x : Nat)) := row_cell he.row 1
  have hy : wr.cell? ⟨g, 2, none⟩ = some (.int .u32 (y : Nat)) := row_cell he.row 2
  have hwd := wdW_of hx hy
  have hle := hw.le
  have hlt := hw.lt
  by_cases ht : x / 16777216 = y / 16777216
  · obtain ⟨j, rfl, hw', hd⟩ := hw.next ht
    rw [shd_go j x y ht] at hl hf
    refine (shed_go g x y wr hx hy (by omega) (by omega) ht (row_free he.row 1) (row_free he.row 2)).mono ?_
    rintro r w' ⟨rfl, q, rfl⟩
    have hb : But (· = g) wr (((wr.setCell ⟨g, 1, none⟩ (.int .u32 (sx x : Nat))).setCell ⟨g, 2, none⟩ (.int .u32 (sy y : Nat))).drewN q) := (((But.refl (· = g) wr).set _ _ (.inl rfl)).set _ _ (.inl rfl)).drewN q
    have he' : Ob B S' (((wr.setCell ⟨g, 1, none⟩ (.int .u32 (sx x : Nat))).setCell ⟨g, 2, none⟩ (.int .u32 (sy y : Nat))).drewN q) g 55 (ecells g (sx x) (sy y)) F' l := by
      refine he.turn hb ?_
      have r1 := row_set he.row 1 (.int .u32 (sx x : Nat))
      exact row_set r1 2 (.int .u32 (sy y : Nat))
    have hwd' := wdW_of (row_cell he'.row 1) (row_cell he'.row 2)
    have hlt' := hw'.lt
    refine ⟨x / 16777216, true, rfl, ⟨S', F', sx x, sy y, l, j, he', hs.trans (.of_but (he.butg hb)), hw', .inl ⟨rfl, by omega, hl, hf⟩⟩, ?_, ?_⟩
    · rw [hwd, hwd']; simp only [if_true]; omega
    · rw [hwd']; omega
  · rw [shd_stop k x y ht] at hl hf
    refine (shed_stop g x y wr hx hy (by omega) (by omega) ht).mono ?_
    rintro r w' ⟨rfl, rfl⟩
    simp only [List.append_nil] at hl
    simp only [Prod.mk.injEq] at hf
    refine ⟨0, false, rfl, ⟨S', F', x, y, l, k, he, hs, hw, .inr ⟨rfl, hl, hf.1, hf.2⟩⟩, ?_, ?_⟩
    · simp
    · rw [hwd]; omega
/-- Is a value yes? -/
def tf : Value → Nat
  | .bool true => 1
  | _ => 0
theorem less_wd {a b c : Nat} {ok : Bool} (h1 : b + (if ok then 0 else 1) ≥ c + 1) (hc : c = a) (hb : b < 4294967296) : 4294967296 - b + tf (.bool ok) < 4294967296 - a + tf (.bool true) := by
  subst hc
  cases ok <;> simp only [Bool.false_eq_true, if_false, if_true] at h1 <;> simp only [tf] <;> omega
/-- The waiting byte put behind the others. -/
theorem Pst.byte {B : Nat} {S : Nat → Prop} {w : World} {g : Nat} {L : List UInt8} {fx fy : Nat} {wr : World} {b : Nat} (h : Pst B S w g L fx fy wr b true) (hL : L.length ≤ 100000) :
    ∃ S' x y l A c, b < 256 ∧ wr.heap[g]? = some (.cells (ecells g x y (.slice A l.length c)) 55 (0, 0)) ∧ wr.ownsRow 0 5 1 (.slice A l.length c) l.length (l.map bv) ∧ l.length ≤ 100000 ∧ wdW wr g = y - x ∧ Ob B S' wr g 55 (ecells g x y) (.slice A l.length c) l ∧
      ∀ W2 A2 c2, Apd (wr.alloc (.cells #[.int .u8 (b : Nat)] 5)) W2 (.slice A l.length c) (.slice A2 (l.length + 1) c2) (l.length + 1) ((l ++ [UInt8.ofNat b]).map bv) →
        W2.heap[g]? = some (.cells (ecells g x y (.slice A l.length c)) 55 (0, 0)) ∧ Pre B S w g L fx fy (W2.setCell ⟨g, 3, none⟩ (.slice A2 (l.length + 1) c2)) x y ∧ wdW (W2.setCell ⟨g, 3, none⟩ (.slice A2 (l.length + 1) c2)) g = y - x := by
  obtain ⟨S', F', x, y, l, k, he, hs, hw, hor⟩ := h.is
  obtain ⟨A, c, rfl⟩ := own_sl he.ff
  rcases hor with ⟨_, hb, hl, hf⟩ | ⟨h0, _⟩
  · refine ⟨S', x, y, l, A, c, hb, he.row, he.ff, ?_, wdW_of (row_cell he.row 1) (row_cell he.row 2), he, ?_⟩
    · have := congrArg List.length hl
      rw [List.length_append] at this
      omega
    · intro W2 A2 c2 ha
      have ha' : Apd wr W2 (.slice A l.length c) (.slice A2 (l.length + 1) c2) (l.length + 1) ((l ++ [UInt8.ofNat b]).map bv) := ha.less (fun k hk => (he.ff.lt k hk).2)
      have hF := own_gne he.ff he.row he.t5
      have hgF : some g ≠ Value.ownBlock (.slice A l.length c) := fun e => hF g e.symm rfl
      obtain ⟨ho, hst⟩ := he.appd (F' := .slice A2 (l.length + 1) c2) (l2 := [UInt8.ofNat b]) 3 (l.length + 1) rfl (by simp) ha'
      refine ⟨(ha'.grown.block g (lt_of_heap he.row) hgF).trans he.row, ⟨_, _, _, k, ho, hs.trans hst, hw, ?_, hf⟩, wdW_of (row_cell ho.row 1) (row_cell ho.row 2)⟩
      rw [← hl, List.append_assoc]
      rfl
  · cases h0
/-- An encoder, as plain data: its interval, the bytes that were shed. -/
structure Es where
  x : Nat
  y : Nat
  l : List UInt8
/-- What Put makes of it; what it answers. -/
def Es.put (s : Es) (bit p : Int) : Es × Nat :=
  if ¬ (bit = 0 ∨ bit = 1) ∨ ¬ (1 ≤ p ∧ p ≤ 65535) then (s, 2)
  else if 65536 ≤ s.l.length then (s, 3)
  else (⟨(put1 s.x s.y p.toNat (decide (bit = 1))).2.1, (put1 s.x s.y p.toNat (decide (bit = 1))).2.2, s.l ++ (put1 s.x s.y p.toNat (decide (bit = 1))).1⟩, 0)
set_option maxRecDepth 10000 in
set_option maxHeartbeats 1000000 in
theorem Put_good {B : Nat} {S : Nat → Prop} {w : World} {g x y : Nat} {F : Value} {l : List UInt8} (h : Ob B S w g 55 (ecells g x y) F l) (hv : IvOk x y) (hl : l.length < 65536) (bit : Bool) (p : Nat) (h1 : 1 ≤ p) (h2 : p ≤ 65535) :
    Calls Try.prog 10 #[.pointer (some ⟨g, 0, none⟩), .int .i64 (if bit then 1 else 0), .int .i64 (p : Nat)] w fun r w' => r = .returned (.int .i64 0) ∧ ∃ S' F', Ob B S' w' g 55 (ecells g (put1 x y p bit).2.1 (put1 x y p bit).2.2) F' (l ++ (put1 x y p bit).1) ∧ Stp S S' w w' := by
  have HM := hid (made_yes g w (row_cell h.row 0))
  have HL := hid (fun w => likely_any (p : Int) w)
  have hpp : decide (1 ≤ (p : Int) ∧ (p : Int) ≤ 65535) = true := by simp; omega
  have c3 : w.cell? ⟨g, 3, none⟩ = some F := row_cell h.row 3
  have hx : w.cell? ⟨g, 1, none⟩ = some (.int .u32 (x : Nat)) := row_cell h.row 1
  have hy : w.cell? ⟨g, 2, none⟩ = some (.int .u32 (y : Nat)) := row_cell h.row 2
  have fx := row_free h.row 1
  have fy := row_free h.row 2
  have hcut := cut_in x y p hv h1 h2
  have HC : Hid (∀ q, Calls Try.prog 29 #[.pointer (some ⟨g, 1, none⟩), .int .i64 (p : Nat)] (w.drewN q) fun r w' => r = .returned (.int .u32 (cutM x y p : Nat)) ∧ ∃ k, w' = (w.drewN q).drewN k) := fun q => cut_any g x y p (w.drewN q) hx hy hv h1 h2
  obtain ⟨m, hm⟩ : ∃ m, m = cutM x y p := ⟨_, rfl⟩
  have hylt := hv.lt
  have HT : Hid (∀ q, Calls Try.prog 28 #[.pointer (some ⟨g, 1, none⟩), .int .i64 (if bit then 1 else 0), .int .u32 (m : Nat)] (w.drewN q) fun r w' => r = .returned noResult ∧ Pre B S w g (l ++ (put1 x y p bit).1) (put1 x y p bit).2.1 (put1 x y p bit).2.2 w' (took x y p bit).1 (took x y p bit).2) := by
    intro q
    obtain ⟨t1, t2, t3⟩ := took_ok x y p bit hv h1 h2
    have hq := h.drewN q
    have fin : ∀ w', But (· = g) (w.drewN q) w' → w'.heap[g]? = some (.cells (ecells g (took x y p bit).1 (took x y p bit).2 F) 55 (0, 0)) → Pre B S w g (l ++ (put1 x y p bit).1) (put1 x y p bit).2.1 (put1 x y p bit).2.2 w' (took x y p bit).1 (took x y p bit).2 := by
      intro w' hb hr
      refine ⟨S, F, l, 4, hq.turn hb hr, .of_but (((But.refl S w).drewN q).trans (hq.butg hb) (fun i hi => .inl hi)), way4 t2 (by omega), rfl, rfl⟩
    cases bit
    · refine (take_nought g m (.int .u32 (x : Nat)) (w.drewN q) hx fx (by omega)).mono ?_
      rintro r w' ⟨rfl, rfl⟩
      refine ⟨rfl, fin _ ((But.refl (· = g) (w.drewN q)).set _ _ (.inl rfl)) ?_⟩
      rw [row_set hq.row 1, hm]
      rfl
    · refine (take_one g m (.int .u32 (y : Nat)) (w.drewN q) hy fy).mono ?_
      rintro r w' ⟨rfl, rfl⟩
      refine ⟨rfl, fin _ ((But.refl (· = g) (w.drewN q)).set _ _ (.inl rfl)) ?_⟩
      rw [row_set hq.row 2, hm]
      rfl
  obtain ⟨A, c, rfl⟩ := own_sl h.ff
  obtain ⟨L, hL⟩ : ∃ L, L = l ++ (put1 x y p bit).1 := ⟨_, rfl⟩
  obtain ⟨fx1, hfx⟩ : ∃ z, z = (put1 x y p bit).2.1 := ⟨_, rfl⟩
  obtain ⟨fy1, hfy⟩ : ∃ z, z = (put1 x y p bit).2.2 := ⟨_, rfl⟩
  rw [← hL, ← hfx, ← hfy] at HT ⊢
  have hll : L.length ≤ 100000 := by
    have := shd_len 4 (took x y p bit).1 (took x y p bit).2
    rw [hL, List.length_append]
    unfold put1
    omega
  have HM2 := hid hm
  rw [← hm] at HC
  clear h fx fy hx hy hcut hylt hv hm hL hfx hfy
  have hl' : decide ((65536 : Int) ≤ (l.length : Int)) = false := by simp only [decide_eq_false_iff_not]; omega
  clear hl h1 h2
  go_enter Try.func10, Try.ntmps10
  cases bit <;> simp only [Bool.false_eq_true, if_false, if_true] at HT ⊢
  all_goals
    go_upto_region 7 with (first
      | (go_at_call 26; refine HM.out.mono ?_; rintro r w' ⟨rfl, rfl⟩)
      | (go_at_call 27; refine (HL.out _).mono ?_; rintro r w' ⟨rfl, rfl⟩))
    go_region_with (first
      | (go_at_call 29; refine (HC.out 1).mono ?_; rintro r w' ⟨rfl, k, rfl⟩)
      | (go_at_call 28; refine (HT.out _).mono ?_; rintro r w1 ⟨rfl, h1⟩; have H1 := hid h1; clear h1))
  all_goals
    go_wp2_with (go_at_call 30; refine (shed_pre H1.out).mono ?_; rintro r w2 ⟨b, ok, rfl, h2, d1, d2⟩; have H2 := hid h2; clear h2)
    go_loopw [7, 8] (fun vb vo wr => ∃ (b : Nat) (ok : Bool), vb = .int .u8 (b : Nat) ∧ vo = .bool ok ∧ Hid (Pst B S w g L fx1 fy1 wr b ok) ∧ wdW wr g < 4294967296) (fun _ vo wr => 4294967296 - wdW wr g + tf vo)
    case atStart => exact ⟨b, ok, rfl, rfl, H2, d2⟩
    case round =>
      obtain ⟨b, ok, rfl, rfl, hst, hwd⟩ := hrel
      clear H2 d1 d2 HC HT HM HL H1
      cases ok
      · obtain ⟨S', F', x', y', l', k', he, hs, hw, hor⟩ := hst.out.is
        rcases hor with ⟨h0, _⟩ | ⟨_, rfl, rfl, rfl⟩
        · cases h0
        have HE := hid he
        have HS := hid hs
        clear he hs hw hst
        go_wp2_with fail
        go_ret
        exact ⟨rfl, _, ⟨_, HE.out⟩, HS.out⟩
      · obtain ⟨S', x', y', l', A', c', hb, hr, ho, hlen, hwr, _, hgo⟩ := hst.out.byte hll
        have c3' : wr.cell? ⟨g, 3, none⟩ = some (.slice A' l'.length c') := row_cell hr 3
        have HO := hid (ho.alloc (.cells #[.int .u8 (b : Nat)] 5))
        have HG := hid hgo
        have HW := hid (And.intro hwr hwd)
        have HB := hid (one_isB wr (UInt8.ofNat b) (b : Int) (by simp; omega))
        have hlen' := hid hlen
        clear hr ho hlen hwr hgo hwd hb hst
        go_wp2_with (first
          | (at_builtin; go_loud (refine wpList_append_ap rfl (.tmp 58) (.tmp 60) rfl (.slice A' l'.length c') l'.length l' rfl HO.out (some ⟨wr.heap.size, 0, none⟩) 1 1 [UInt8.ofNat b] rfl HB.out (by have := hlen'.out; omega) ?_); intro A2 c2 W2 hA2; obtain ⟨hr2, hp2, hw2⟩ := HG.out W2 A2 c2 hA2.out; have cc3 := row_cell hr2 3; have ff3 := row_free hr2 3; have HP := hid hp2; have HW2 := hid hw2; clear hr2 hp2 hw2)
          | (go_at_call 30; refine (shed_pre HP.out).mono ?_; rintro r w3 ⟨b3, ok3, rfl, h3, e1, e2⟩; have H3 := hid h3; clear h3; have E1 := hid e1; have E2 := hid e2; clear e1 e2))
        go_roundw
        case rel => exact ⟨b3, ok3, rfl, rfl, H3, E2.out⟩
        case measure => exact less_wd E1.out (HW2.out.trans HW.out.1.symm) E2.out
end Go.Proofs.Ytbgbacajgaeooaa
