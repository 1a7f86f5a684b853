/-
  The document's decoder: next, NewDecoder, Get, Read.
-/
import Derived.Test.YtbgbacajgaeooaaRtp
import Derived.Test.YtbgbacajgaeooaaGet
namespace Go.Proofs.Ytbgbacajgaeooaa
open Go.RowKit

def rdcells (x y : Nat) (F : Value) (t z : Nat) : Array Value := #[.int .u64 (x : Nat), .int .u64 (y : Nat), F, .int .i64 (t : Nat), .int .u64 (z : Nat)]
/-- The document's decoder lies in block g: it has the bytes b, t were taken, its number is z. -/
structure RdAt (B : Nat) (S : Nat → Prop) (w : World) (g : Nat) (x y : Nat) (b : List UInt8) (t z : Nat) (A : Option Addr) (n c : Nat) : Prop where
  row : w.heap[g]? = some (.cells (rdcells x y (.slice A n c) t z) 70 (0, 0))
  lst : IsB w A n c b
  low : 0 < n → ∀ ad, A = some ad → S ad.block ∧ ad.block ≠ g ∧ ad.block < w.heap.size
  sg : S g
  lt : ∀ i, S i → B ≤ i ∧ i < w.heap.size
section
variable {B : Nat} {S T : Nat → Prop} {w w' : World} {g x y : Nat} {b : List UInt8} {t z : Nat} {A : Option Addr} {n c : Nat}
theorem RdAt.but (h : RdAt B S w g x y b t z A n c) (k : But T w w') (hT : ∀ i, S i → ¬ T i) : RdAt B S w' g x y b t z A n c :=
  ⟨(k.block g (lt_of_heap h.row) (hT g h.sg)).trans h.row, isB_but h.lst (fun hp ad e => ⟨(h.low hp ad e).2.2, hT _ (h.low hp ad e).1⟩) k,
    fun hp ad e => ⟨(h.low hp ad e).1, (h.low hp ad e).2.1, Nat.lt_of_lt_of_le (h.low hp ad e).2.2 k.size⟩, h.sg, fun i hi => ⟨(h.lt i hi).1, Nat.lt_of_lt_of_le (h.lt i hi).2 k.size⟩⟩
theorem RdAt.below (h : RdAt B S w g x y b t z A n c) (k : Below w.heap.size w w') : RdAt B S w' g x y b t z A n c := h.but (T := fun _ => False) (.of_below k) (fun _ _ h => h)
theorem RdAt.drewN (h : RdAt B S w g x y b t z A n c) (k : Nat) : RdAt B S (w.drewN k) g x y b t z A n c := h.below (below_drewN (Below.refl _ w) k)
theorem RdAt.turn {x' y' t' z' : Nat} (h : RdAt B S w g x y b t z A n c) (k : But (· = g) w w') (hr : w'.heap[g]? = some (.cells (rdcells x' y' (.slice A n c) t' z') 70 (0, 0))) : RdAt B S w' g x' y' b t' z' A n c :=
  ⟨hr, isB_but h.lst (fun hp ad e => ⟨(h.low hp ad e).2.2, (h.low hp ad e).2.1⟩) k,
    fun hp ad e => ⟨(h.low hp ad e).1, (h.low hp ad e).2.1, Nat.lt_of_lt_of_le (h.low hp ad e).2.2 k.size⟩, h.sg, fun i hi => ⟨(h.lt i hi).1, Nat.lt_of_lt_of_le (h.lt i hi).2 k.size⟩⟩
theorem RdAt.butg (h : RdAt B S w g x y b t z A n c) (k : But (· = g) w w') : But S w w' := k.mono (fun i hi => by subst hi; exact .inl h.sg)
end
set_option maxRecDepth 10000 in
set_option maxHeartbeats 4000000 in
theorem RNext_any {B : Nat} {S : Nat → Prop} {w : World} {g x y : Nat} {b : List UInt8} {t z : Nat} {A : Option Addr} {n c : Nat} (h : RdAt B S w g x y b t z A n c) (ht : t ≤ 1000000) :
    Calls Try.prog 34 #[.pointer (some ⟨g, 0, none⟩)] w fun r w' => r = .returned (.int .u64 ((b.getD t 0).toNat : Int)) ∧ RdAt B S w' g x y b (t + 1) z A n c ∧ But (· = g) w w' := by
  have c3 : w.cell? ⟨g, 3, none⟩ = some (.int .i64 (t : Nat)) := row_cell h.row 3
  have f3 := row_free h.row 3
  obtain ⟨t1, ht1⟩ : ∃ t1, t1 = t + 1 := ⟨_, rfl⟩
  have e1 : IntKind.i64.wrap ((t : Int) + 1) = (t1 : Int) := by rw [IntKind.wrap_i64]; omega
  have hb : But (· = g) w (w.setCell ⟨g, 3, none⟩ (.int .i64 (t1 : Nat))) := (But.refl _ w).set _ _ (.inl rfl)
  have h1 : RdAt B S (w.setCell ⟨g, 3, none⟩ (.int .i64 (t1 : Nat))) g x y b t1 z A n c := h.turn hb (by rw [row_set h.row 3]; rfl)
  obtain ⟨W1, hW1⟩ : ∃ W1, W1 = w.setCell ⟨g, 3, none⟩ (.int .i64 (t1 : Nat)) := ⟨_, rfl⟩
  rw [← hW1] at hb h1
  have d3 : W1.cell? ⟨g, 3, none⟩ = some (.int .i64 (t1 : Nat)) := row_cell h1.row 3
  have d2 : W1.cell? ⟨g, 2, none⟩ = some (.slice A n c) := row_cell h1.row 2
  have hlen := h1.lst.len
  have HF : Hid (∀ k, RdAt B S (W1.drewN k) g x y b (t + 1) z A n c ∧ But (· = g) w (W1.drewN k)) := fun k => ⟨by rw [← ht1]; exact h1.drewN k, hb.drewN k⟩
  have HW := hid hW1
  by_cases hlt : t < n
  · obtain ⟨ad, rfl, hc⟩ := h1.lst.lies (by omega)
    have db : W1.cell? (ad.add t) = some (.int .u8 (b[t].toNat : Int)) := hc t (by omega)
    have hg : b.getD t 0 = b[t] := by rw [List.getD_eq_getElem?_getD, List.getElem?_eq_getElem (by omega), Option.getD_some]
    rw [hg]
    have h256 := b[t].toNat_lt
    generalize b[t].toNat = v at db h256 ⊢
    have e2 : IntKind.i64.wrap ((t1 : Int) - 1) = (t : Int) := by rw [IntKind.wrap_i64]; omega
    have e3 : IntKind.u64.wrap (v : Int) = (v : Int) := by rw [IntKind.wrap_u64]; omega
    have hcap := h1.lst.cap
    have i1 : (t : Int) < (n : Int) := by omega
    have i2 : ¬ ((n : Int) < (t1 : Int)) := by omega
    have i3 : decide (n < t1) = false := decide_eq_false (by omega)
    clear h h1 hb hW1 ht1 hc hg h256 hlen hlt i2
    go_enter Try.func34, Try.ntmps34
    go_wp2_with fail
    rw [← HW.out]
    clear HW c3 f3 e1
    go_quiet (fail)
    go_wp2_with fail
    go_quiet (fail)
    go_wp2_with fail
    go_ret
    rw [World.drewN_drewN]
    exact ⟨rfl, (HF.out _).1, (HF.out _).2⟩
  · have hg : b.getD t 0 = 0 := by rw [List.getD_eq_getElem?_getD, List.getElem?_eq_none (by omega)]; rfl
    rw [hg]
    have i3 : decide (n < t1) = true := decide_eq_true (by omega)
    clear h h1 hb hW1 ht1 hg hlen hlt
    go_enter Try.func34, Try.ntmps34
    go_wp2_with fail
    rw [← HW.out]
    clear HW c3 f3 e1
    go_quiet (fail)
    go_wp2_with fail
    go_ret
    exact ⟨rfl, (HF.out _).1, (HF.out _).2⟩
/-- The number when j more were taken. -/
theorem z4_step (b : List UInt8) (t : Nat) : z4 ((0 :: 0 :: 0 :: 0 :: b).drop (t + 1)) = z4 ((0 :: 0 :: 0 :: 0 :: b).drop t) * 256 % 4294967296 + (b.getD t 0).toNat := by
  have h := z4_tail ((0 :: 0 :: 0 :: 0 :: b).drop t)
  rw [List.drop_drop] at h
  rw [h]
  have e : ((0 :: 0 :: 0 :: 0 :: b).drop t).getD 4 0 = b.getD t 0 := by
    rw [List.getD_eq_getElem?_getD, List.getElem?_drop]
    rw [List.getD_eq_getElem?_getD]
    rfl
  rw [e]
/-- On the way to the first four. -/
theorem z4_few (b : List UInt8) (t : Nat) (h : t < 4) : z4 ((0 :: 0 :: 0 :: 0 :: b).drop t) < 16777216 := by
  have g : ((0 :: 0 :: 0 :: 0 :: b).drop t).getD 0 0 = 0 := by
    rw [drop_getD]
    match t, h with
    | 0, _ => rfl
    | 1, _ => rfl
    | 2, _ => rfl
    | 3, _ => rfl
  have h1 := (((0 :: 0 :: 0 :: 0 :: b).drop t).getD 1 0).toNat_lt
  have h2 := (((0 :: 0 :: 0 :: 0 :: b).drop t).getD 2 0).toNat_lt
  have h3 := (((0 :: 0 :: 0 :: 0 :: b).drop t).getD 3 0).toNat_lt
  unfold z4
  rw [g]
  generalize ((0 :: 0 :: 0 :: 0 :: b).drop t).getD 1 0 = a1 at h1 ⊢
  generalize ((0 :: 0 :: 0 :: 0 :: b).drop t).getD 2 0 = a2 at h2 ⊢
  generalize ((0 :: 0 :: 0 :: 0 :: b).drop t).getD 3 0 = a3 at h3 ⊢
  have h0 : (0 : UInt8).toNat = 0 := rfl
  rw [h0]
  omega
/-- One number more: z times 256, and the next byte. -/
theorem RdAt.num {B : Nat} {S : Nat → Prop} {w : World} {g x y : Nat} {b : List UInt8} {t z z' : Nat} {A : Option Addr} {n c : Nat} (h : RdAt B S w g x y b t z A n c) : RdAt B S (w.setCell ⟨g, 4, none⟩ (.int .u64 (z' : Nat))) g x y b t z' A n c ∧ But (· = g) w (w.setCell ⟨g, 4, none⟩ (.int .u64 (z' : Nat))) := by
  have k : But (· = g) w (w.setCell ⟨g, 4, none⟩ (.int .u64 (z' : Nat))) := (But.refl _ w).set _ _ (.inl rfl)
  exact ⟨h.turn k (by rw [row_set h.row 4]; rfl), k⟩
set_option maxRecDepth 10000 in
set_option maxHeartbeats 4000000 in
theorem RNewDecoder_any (A : Option Addr) (l : List UInt8) (n c : Nat) (w : World) (h : IsBB w w.heap.size A n c l) :
    Calls Try.prog 19 #[.slice A n c] w fun r w' => ∃ g S A' n' c', r = .returned (.pointer (some ⟨g, 0, none⟩)) ∧ RdAt w.heap.size S w' g 0 4294967295 l 4 (z4 l) A' n' c' ∧ Below w.heap.size w w' := by
  have hsm := hid h.small
  have HB0 : Hid (∀ w1, Below w.heap.size w w1 → IsB (w1.alloc (.cells #[] 5)) A n c l) := fun w1 b1 => ((h.below b1).below (((Below.refl w1.heap.size w1).alloc (Nat.le_refl _) _).mono b1.size)).toIsB
  have HO0 : Hid (∀ w1 : World, (w1.alloc (.cells #[] 5)).ownsRow 0 5 1 (.slice (some ⟨w1.heap.size, 0, none⟩) 0 0) 0 (([] : List UInt8).map bv)) := fun w1 => World.ownsRow_made w1 #[] 0 (Nat.zero_le _) (Nat.zero_le _) rfl
  have HI : Hid (∀ w1 W2 A' c', Below w.heap.size w w1 → Apd (w1.alloc (.cells #[] 5)) W2 (.slice (some ⟨w1.heap.size, 0, none⟩) 0 0) (.slice A' (0 + n) c') (0 + n) (([] ++ l).map bv) →
      RdAt w.heap.size (fun i => i = W2.heap.size ∨ Value.ownBlock (.slice A' n c') = some i) (W2.alloc (.cells #[.int .u64 0, .int .u64 4294967295, .slice A' n c', .int .i64 0, .int .u64 0] 70)) W2.heap.size 0 4294967295 l 0 0 A' n c' ∧ Below w.heap.size w (W2.alloc (.cells #[.int .u64 0, .int .u64 4294967295, .slice A' n c', .int .i64 0, .int .u64 0] 70))) := by
    intro w1 W2 A' c' hb ha
    rw [Nat.zero_add] at ha
    have hb1 : Below w.heap.size w (w1.alloc (.cells #[] 5)) := hb.alloc hb.size _
    have hb2 : Below w.heap.size w W2 := hb1.grown ha.grown hb1.size (fun k e => by cases e; exact hb.size)
    have hfr : ∀ k, Value.ownBlock (.slice A' n c') = some k → w.heap.size ≤ k := by
      intro k hk
      rcases ha.fresh with h1 | ⟨j, h1, h2⟩
      · rw [h1] at hk; cases hk; exact hb.size
      · rw [h1] at hk; cases hk; exact Nat.le_trans hb1.size h2
    have ho : W2.ownsRow 0 5 1 (.slice A' n c') n (l.map bv) := ha.own
    have hIB := own_isB2 ho (by have := hsm.out; omega)
    refine ⟨⟨?_, (hIB.below ((Below.refl W2.heap.size W2).alloc (Nat.le_refl _) _)).toIsB, fun hp ad e => ?_, .inl rfl, fun i hi => ?_⟩, hb2.alloc hb2.size _⟩
    · rw [heap_alloc_new W2]
      rfl
    · subst e
      have h3 := hIB.low (by rw [hIB.len]; exact hp) ad rfl
      rcases ho.2 with ⟨h1, _⟩ | ⟨g', cap, cur, hv, hg, _⟩
      · cases h1
      · rw [hv]
        injection hv with e1 e2
        injection e1 with e1
        subst e1
        have h4 : g' < W2.heap.size := h3
        refine ⟨.inr rfl, Nat.ne_of_lt h4, ?_⟩
        simp only [World.size_alloc]
        exact Nat.lt_succ_of_lt h4
    · rcases hi with rfl | hi
      · exact ⟨hb2.size, by simp⟩
      · have := ho.lt i hi
        exact ⟨hfr i hi, by simp; omega⟩
  clear h
  go_enter Try.func19, Try.ntmps19
  go_wp2_with (first
    | (go_at_call 9; refine (RNew_any w).mono ?_; rintro r w1 ⟨rfl, b1⟩; have B1 := hid b1; clear b1)
    | (at_builtin; go_loud (refine wpList_append_ap rfl (.tmp 6) (.tmp 7) rfl (.slice (some ⟨w1.heap.size, 0, none⟩) 0 0) 0 [] rfl (HO0.out w1) A n c l rfl (HB0.out w1 B1.out) (by have := hsm.out; omega) ?_); intro A2 c2 W2 hA2; have HD := hid (HI.out w1 W2 A2 c2 B1.out hA2.out)))
  go_loopw [4] (fun vi wr => ∃ k, k ≤ 4 ∧ vi = .int .i64 (k : Nat) ∧ Hid (RdAt w.heap.size (fun i => i = W2.heap.size ∨ Value.ownBlock (.slice A2 n c2) = some i) wr W2.heap.size 0 4294967295 l k (z4 (List.drop k (0 :: 0 :: 0 :: 0 :: l))) A2 n c2 ∧ Below w.heap.size w wr)) (fun vi _ => 4 - (intOf vi).toNat)
  case atStart => exact ⟨0, Nat.zero_le _, rfl, hid (by have h0 := HD.out; rw [List.drop_zero, z4_0]; exact h0)⟩
  case round =>
    obtain ⟨k, hk, rfl, hst⟩ := hrel
    clear HD HI HO0 HB0
    generalize W2.heap.size = g at hst ⊢
    generalize (fun i => i = g ∨ Value.ownBlock (.slice A2 n c2) = some i) = S at hst
    by_cases hlt : k < 4
    · have hlz : (k : Int) < 4 := by omega
      have hfew := z4_few l k hlt
      have hstp := z4_step l k
      have hb256 := (l.getD k 0).toNat_lt
      obtain ⟨hd, hb⟩ := hst.out
      obtain ⟨z', hz'⟩ : ∃ z', z' = z4 (List.drop (k + 1) (0 :: 0 :: 0 :: 0 :: l)) := ⟨_, rfl⟩
      rw [← hz'] at hstp
      have HZ := hid hz'
      clear hz'
      generalize z4 (List.drop k (0 :: 0 :: 0 :: 0 :: l)) = z at hd hfew hstp hst
      have HN : Hid (∀ q, Calls Try.prog 34 #[.pointer (some ⟨g, 0, none⟩)] (wr.drewN q) fun r w' => r = .returned (.int .u64 ((l.getD k 0).toNat : Int)) ∧ RdAt w.heap.size S w' g 0 4294967295 l (k + 1) z A2 n c2 ∧ But (· = g) wr w') := by
        intro q
        refine (RNext_any (hd.drewN q) (by omega)).mono ?_
        rintro r w' ⟨rfl, h2, b2⟩
        exact ⟨rfl, h2, ((But.refl (· = g) wr).drewN q).trans b2 (fun i hi => .inl hi)⟩
      generalize (l.getD k 0).toNat = v at hb256 hstp HN
      obtain ⟨z2, hz2⟩ : ∃ z2, z2 = z * 256 := ⟨_, rfl⟩
      have e1 : IntKind.u64.wrap ((z : Int) * 256) = (z2 : Int) := by rw [IntKind.wrap_u64]; omega
      have e2 : IntKind.u64.wrap ((z2 : Int) + (v : Int)) = (z' : Int) := by rw [IntKind.wrap_u64]; omega
      have c4 : wr.cell? ⟨g, 4, none⟩ = some (.int .u64 (z : Nat)) := row_cell hd.row 4
      have HFin : Hid (∀ w', RdAt w.heap.size S w' g 0 4294967295 l (k + 1) z A2 n c2 → But (· = g) wr w' → w'.cell? ⟨g, 4, none⟩ = some (.int .u64 (z : Nat)) ∧ w'.frozen? ⟨g, 4, none⟩ = false ∧ Hid (RdAt w.heap.size S (w'.setCell ⟨g, 4, none⟩ (.int .u64 (z' : Nat))) g 0 4294967295 l (k + 1) z' A2 n c2 ∧ Below w.heap.size w (w'.setCell ⟨g, 4, none⟩ (.int .u64 (z' : Nat))))) := by
        intro w' h2 b2
        obtain ⟨h3, b3⟩ := h2.num (z' := z')
        exact ⟨row_cell h2.row 4, row_free h2.row 4, h3, hb.trans ((hd.butg (b2.trans b3 (fun i hi => .inl hi))).below (fun i hi => (hd.lt i hi).1) hb.size)⟩
      clear hst hd hb hb256 hfew hstp hz2 hk hlt
      go_wp2_with fail
      go_region_with (first
        | (go_at_call 34; ((refine (HN.out 1).mono ?_); rintro r w3 ⟨rfl, h3, b3⟩; obtain ⟨k4, f4, H4⟩ := HFin.out w3 h3 b3; clear h3 b3)))
      all_goals
        go_wp2_with fail
        go_roundw
        case rel => exact ⟨k + 1, by omega, by go_num, by rw [← HZ.out]; exact H4⟩
        case measure => simp [intOf]; omega
    · obtain rfl : k = 4 := by omega
      clear hk hlt
      rw [show ((4 : Nat) : Int) = 4 from rfl]
      go_wp2_with fail
      go_ret
      obtain ⟨hd, hb⟩ := hst.out
      exact ⟨_, _, _, _, _, rfl, hd, hb⟩
set_option maxRecDepth 10000 in
set_option maxHeartbeats 1000000 in
theorem RRead_any {B : Nat} {S : Nat → Prop} {w : World} {g x y : Nat} {b : List UInt8} {t z : Nat} {A : Option Addr} {n c : Nat} (h : RdAt B S w g x y b t z A n c) :
    Calls Try.prog 23 #[.pointer (some ⟨g, 0, none⟩)] w fun r w' => r = .returned (.int .i64 ((min t n : Nat) : Int)) ∧ ∃ k, w' = w.drewN k := by
  have c3 : w.cell? ⟨g, 3, none⟩ = some (.int .i64 (t : Nat)) := row_cell h.row 3
  have c2 : w.cell? ⟨g, 2, none⟩ = some (.slice A n c) := row_cell h.row 2
  clear h
  obtain ⟨m, hm⟩ : ∃ m, m = min t n := ⟨_, rfl⟩
  rw [← hm]
  have e : (if (n : Int) < (t : Int) then (n : Int) else (t : Int)) = (m : Int) := by split <;> omega
  have e2 : (if n < t then (n : Int) else (t : Int)) = (m : Int) := by split <;> omega
  clear hm
  go_enter Try.func23, Try.ntmps23
  go_wp2_with fail
  go_region
  go_wp2_with fail
  go_ret
  exact ⟨rfl, 1, rfl⟩
theorem bitOf_eq (x y p : Nat) (R : List UInt8) : bitOf x y p R = decide (z4 R ≤ cutM x y p) := rfl
set_option maxRecDepth 10000 in
set_option maxHeartbeats 4000000 in
theorem RGet_good {B : Nat} {S : Nat → Prop} {w : World} {g x y : Nat} {b : List UInt8} {t : Nat} {A : Option Addr} {n c : Nat} (R : List UInt8) (hR : R = (0 :: 0 :: 0 :: 0 :: b).drop t) (h : RdAt B S w g x y b t (z4 R) A n c) (ht : t ≤ 900000) (hv : IvOk x y) (p : Nat) (h1 : 1 ≤ p) (h2 : p ≤ 65535) (bt : Bool) (hbt : bt = bitOf x y p R) :
    Calls Try.prog 21 #[.pointer (some ⟨g, 0, none⟩), .int .i64 (p : Nat)] w fun r w' => r = .returned (.tuple #[.int .i64 (if bt then 1 else 0), .int .i64 0]) ∧ RdAt B S w' g (put1 x y p bt).2.1 (put1 x y p bt).2.2 b (t + (put1 x y p bt).1.length) (z4 (R.drop (put1 x y p bt).1.length)) A n c ∧ But (· = g) w w' := by
  have c4 : w.cell? ⟨g, 4, none⟩ = some (.int .u64 (z4 R : Nat)) := row_cell h.row 4
  have HT : Hid (∀ q, Calls Try.prog 31 #[.pointer (some ⟨g, 0, none⟩), .int .i64 (-1), .int .i64 (p : Nat), .int .u64 (z4 R : Nat)] (w.drewN q) fun r w' => ∃ A1 c1, r = .returned (.tuple #[.int .i64 (if bt then 1 else 0), .slice A1 (put1 x y p bt).1.length c1]) ∧ RdAt B S w' g (put1 x y p bt).2.1 (put1 x y p bt).2.2 b t (z4 R) A n c ∧ But (· = g) w w') := by
    intro q
    have hq := h.drewN q
    have r0 := hq.row
    have hb2 := hbt
    rw [bitOf_eq] at hb2
    clear hbt c4
    generalize z4 R = z0 at hq r0 h hb2
    refine (Take_any g x y p (-1) bt z0 (w.drewN q) 70 _ r0 rfl rfl hv h1 h2 (.inl ⟨rfl, hb2⟩)).mono ?_
    rintro r w' ⟨v, rfl, hT⟩
    obtain ⟨A1, c1, rfl⟩ := hT.sl
    exact ⟨A1, c1, rfl, hq.turn hT.but hT.row, ((But.refl (· = g) w).drewN q).trans hT.but (fun i hi => .inl hi)⟩
  have p1 : decide ((p : Int) < 1) = false := decide_eq_false (by omega)
  have p2 : decide ((65535 : Int) < (p : Int)) = false := decide_eq_false (by omega)
  have hL4 : (put1 x y p bt).1.length ≤ 4 := shd_len 4 _ _
  obtain ⟨L, hL⟩ : ∃ L, L = put1 x y p bt := ⟨_, rfl⟩
  rw [← hL] at HT hL4 ⊢
  obtain ⟨len, hlen⟩ : ∃ len, len = L.1.length := ⟨_, rfl⟩
  rw [← hlen] at HT hL4 ⊢
  have Hbel := hid (fun (w' : World) (k : But (· = g) w w') => h.butg k)
  clear hL hlen h hv h1 h2 hbt
  have HR := hid hR
  obtain ⟨z0, hz0⟩ : ∃ z0, z0 = z4 R := ⟨_, rfl⟩
  rw [← hz0] at c4 HT
  have HZ0 := hid hz0
  clear hR hz0
  obtain ⟨bi, hbi⟩ : ∃ bi : Int, bi = if bt then 1 else 0 := ⟨_, rfl⟩
  rw [← hbi] at HT ⊢
  clear hbi
  go_enter Try.func21, Try.ntmps21
  go_wp2_with fail
  go_region_with (first
    | (go_at_call 31; ((refine (HT.out 1).mono ?_); rintro r w1 ⟨A1, c1, rfl, hd, b1⟩; have HD := hid hd; have HB := hid b1; clear hd b1)))
  go_wp2_with fail
  go_loopw [8] (fun vi wr => ∃ k, k ≤ len ∧ vi = .int .i64 (k : Nat) ∧ Hid (RdAt B S wr g L.2.1 L.2.2 b (t + k) (z4 (R.drop k)) A n c ∧ But (· = g) w wr)) (fun vi _ => len - (intOf vi).toNat)
  case atStart => exact ⟨0, Nat.zero_le _, rfl, hid (by rw [List.drop_zero, ← HZ0.out]; exact ⟨HD.out, HB.out⟩)⟩
  case round =>
    obtain ⟨k, hk, rfl, hst⟩ := hrel
    clear HD HT HB
    by_cases hlt : k < len
    · have hlz : (k : Int) < (len : Int) := by omega
      have hlz2 : decide (k < len) = true := decide_eq_true hlt
      have hstp := z4_step b (t + k)
      have hRk : (0 :: 0 :: 0 :: 0 :: b).drop (t + k) = R.drop k := by rw [HR.out, List.drop_drop]
      have hRk1 : (0 :: 0 :: 0 :: 0 :: b).drop (t + k + 1) = R.drop (k + 1) := by rw [HR.out, List.drop_drop]; rfl
      rw [hRk, hRk1] at hstp
      have hz32 := z4_lt (R.drop k)
      have hb256 := (b.getD (t + k) 0).toNat_lt
      obtain ⟨hd, hb⟩ := hst.out
      obtain ⟨z', hz'⟩ : ∃ z', z' = z4 (R.drop (k + 1)) := ⟨_, rfl⟩
      rw [← hz'] at hstp
      have HZ := hid hz'
      clear hz' hRk hRk1
      generalize z4 (R.drop k) = z at hd hstp hst hz32
      have HN : Hid (∀ q, Calls Try.prog 34 #[.pointer (some ⟨g, 0, none⟩)] (wr.drewN q) fun r w' => r = .returned (.int .u64 ((b.getD (t + k) 0).toNat : Int)) ∧ RdAt B S w' g L.2.1 L.2.2 b (t + k + 1) z A n c ∧ But (· = g) wr w') := by
        intro q
        refine (RNext_any (hd.drewN q) (by omega)).mono ?_
        rintro r w' ⟨rfl, h2, b2⟩
        exact ⟨rfl, h2, ((But.refl (· = g) wr).drewN q).trans b2 (fun i hi => .inl hi)⟩
      generalize (b.getD (t + k) 0).toNat = v at hb256 hstp HN
      obtain ⟨z2, hz2⟩ : ∃ z2, z2 = z * 256 := ⟨_, rfl⟩
      obtain ⟨z3, hz3⟩ : ∃ z3, z3 = z2 % 4294967296 := ⟨_, rfl⟩
      have e1 : IntKind.u64.wrap ((z : Int) * 256) = (z2 : Int) := by rw [IntKind.wrap_u64]; omega
      have HE3 : Hid (IntKind.u64.wrap ((z2 : Int) % 4294967296 + (v : Int)) = (z' : Int)) := by show _ = _; rw [IntKind.wrap_u64]; omega
      have c4 : wr.cell? ⟨g, 4, none⟩ = some (.int .u64 (z : Nat)) := row_cell hd.row 4
      have HFin : Hid (∀ w', RdAt B S w' g L.2.1 L.2.2 b (t + k + 1) z A n c → But (· = g) wr w' → w'.cell? ⟨g, 4, none⟩ = some (.int .u64 (z : Nat)) ∧ w'.frozen? ⟨g, 4, none⟩ = false ∧ Hid (RdAt B S (w'.setCell ⟨g, 4, none⟩ (.int .u64 (z' : Nat))) g L.2.1 L.2.2 b (t + (k + 1)) z' A n c ∧ But (· = g) w (w'.setCell ⟨g, 4, none⟩ (.int .u64 (z' : Nat))))) := by
        intro w' h2 b2
        obtain ⟨h3, b3⟩ := h2.num (z' := z')
        exact ⟨row_cell h2.row 4, row_free h2.row 4, h3, (hb.trans b2 (fun i hi => .inl hi)).trans b3 (fun i hi => .inl hi)⟩
      clear hst hd hb hb256 hz32 hstp hz2 hz3 hk hlt
      go_wp2_with fail
      go_region_with (first
        | (go_at_call 34; ((refine (HN.out 1).mono ?_); rintro r w3 ⟨rfl, h3, b3⟩; obtain ⟨k4, f4, H4⟩ := HFin.out w3 h3 b3; clear h3 b3)))
      all_goals
        go_wp2_with fail
        go_roundw
        case rel => exact ⟨k + 1, by omega, by go_num, by rw [← HZ.out, HE3.out]; exact H4⟩
        case measure => simp [intOf]; omega
    · obtain rfl : k = len := by omega
      clear hk hlt
      go_wp2_with fail
      go_ret2
      exact ⟨rfl, hst.out.1, hst.out.2⟩
set_option maxRecDepth 10000 in
set_option maxHeartbeats 1000000 in
theorem RGet_arg (a : Addr) (w : World) (p : Int) (hp : ¬ (1 ≤ p ∧ p ≤ 65535)) :
    Calls Try.prog 21 #[.pointer (some a), .int .i64 p] w fun r w' => r = .returned (.tuple #[.int .i64 0, .int .i64 2]) ∧ w = w' := by
  by_cases p1 : p < 1
  · clear hp
    go_enter Try.func21, Try.ntmps21
    go_wp2_with fail
    go_ret2
    exact ⟨rfl, rfl⟩
  · have p3 : 1 ≤ p := by omega
    have p2 : 65535 < p := by omega
    clear hp p1
    go_enter Try.func21, Try.ntmps21
    go_wp2_with fail
    go_ret2
    exact ⟨rfl, rfl⟩
end Go.Proofs.Ytbgbacajgaeooaa
