/-
  The contracts of the disk's small calls: Size, Synced, Down, Arm, Fail; settle and start.
-/
import Derived.Test.YtgccjclloomfgaaOp
namespace Go.Proofs.Ytgccjclloomfgaa
open Go.RowKit

theorem own_sl {w : World} {base n : Nat} {v : Value} {xs : List Value} (h : w.ownsRow base 5 1 v n xs) : ∃ A c, v = .slice A n c := by
  rcases h.2 with ⟨rfl, rfl⟩ | ⟨g, cap, cur, rfl, _⟩
  · exact ⟨_, _, rfl⟩
  · exact ⟨_, _, rfl⟩
set_option maxRecDepth 10000 in
set_option maxHeartbeats 1000000 in
theorem Size_any {B : Nat} {S : Nat → Prop} {w : World} {g : Nat} {F L : Value} {d : Dk} {e : Int} (h : DkAt B S w g F L d e) :
    Calls Try.prog 34 #[.pointer (some ⟨g, 0, none⟩)] w fun r w' => r = .returned (.int .i64 (d.now.length : Nat)) ∧ w = w' := by
  have HM := hid (made_any h)
  obtain ⟨A, c, rfl⟩ := own_sl h.ff
  have c2 := h.cells.2.2.1
  clear h
  go_enter Try.func34, Try.ntmps34
  go_wp2_with (go_at_call 39; refine HM.out.mono ?_; rintro r w' ⟨rfl, rfl⟩)
  go_ret
  exact ⟨rfl, rfl⟩
set_option maxRecDepth 10000 in
set_option maxHeartbeats 1000000 in
theorem Synced_any {B : Nat} {S : Nat → Prop} {w : World} {g : Nat} {F L : Value} {d : Dk} {e : Int} (h : DkAt B S w g F L d e) :
    Calls Try.prog 11 #[.pointer (some ⟨g, 0, none⟩)] w fun r w' => r = .returned (.int .i64 (d.floor : Nat)) ∧ w = w' := by
  have HM := hid (made_any h)
  have c2 := h.cells.2.2.2.1
  clear h
  go_enter Try.func11, Try.ntmps11
  go_wp2_with (go_at_call 39; refine HM.out.mono ?_; rintro r w' ⟨rfl, rfl⟩)
  go_ret
  exact ⟨rfl, rfl⟩
set_option maxRecDepth 10000 in
set_option maxHeartbeats 1000000 in
theorem Down_any {B : Nat} {S : Nat → Prop} {w : World} {g : Nat} {F L : Value} {d : Dk} {e : Int} (h : DkAt B S w g F L d e) :
    Calls Try.prog 19 #[.pointer (some ⟨g, 0, none⟩)] w fun r w' => r = .returned (.bool d.down) ∧ w = w' := by
  have HM := hid (made_any h)
  have c2 := h.cells.2.2.2.2.2.1
  clear h
  go_enter Try.func19, Try.ntmps19
  go_wp2_with (go_at_call 39; refine HM.out.mono ?_; rintro r w' ⟨rfl, rfl⟩)
  go_ret
  exact ⟨rfl, rfl⟩
/-- Armed with n. -/
def Dk.arm (d : Dk) (n : Int) : Dk × Nat := if n < 0 then (d, 2) else ({ d with armed := n.toNat + 1 }, 0)
def Dk.fail (d : Dk) (n e : Int) : Dk × Nat := if n < 1 ∨ (e ≠ 10 ∧ e ≠ 5) then (d, 2) else ({ d with fails := n.toNat + 1, err := e.toNat }, 0)
set_option maxRecDepth 10000 in
set_option maxHeartbeats 1000000 in
theorem Arm_any {B : Nat} {S : Nat → Prop} {w : World} {g : Nat} {F L : Value} {d : Dk} {e : Int} (h : DkAt B S w g F L d e) (n : Int) (hn : n ≤ 9223372036854775807) :
    Calls Try.prog 16 #[.pointer (some ⟨g, 0, none⟩), .int .i64 n] w fun r w' => r = .returned (.int .i64 ((d.arm n).2 : Nat)) ∧ DkAt B S w' g F L (d.arm n).1 e ∧ But (· = g) w w' := by
  have HM := hid (made_any h)
  have c6 := h.cells.2.2.2.2.2.2.1
  have f6 := row_free h.row 6
  by_cases h0 : n < 0
  · have H := hid h
    have ee : d.arm n = (d, 2) := by unfold Dk.arm; rw [if_pos h0]
    clear h
    go_enter Try.func16, Try.ntmps16
    go_wp2_with (go_at_call 39; refine HM.out.mono ?_; rintro r w' ⟨rfl, rfl⟩)
    go_ret
    rw [ee]
    exact ⟨rfl, H.out, But.refl _ w⟩
  · have ee : d.arm n = ({ d with armed := n.toNat + 1 }, 0) := by unfold Dk.arm; rw [if_neg h0]
    have hbb : But (· = g) w (w.setCell ⟨g, 6, none⟩ (.int .i64 n)) := (But.refl (· = g) w).set ⟨g, 6, none⟩ _ (.inl rfl)
    have Hfin : Hid (DkAt B S (w.setCell ⟨g, 6, none⟩ (.int .i64 n)) g F L (d.arm n).1 e ∧ But (· = g) w (w.setCell ⟨g, 6, none⟩ (.int .i64 n))) := by
      refine ⟨h.turn hbb ?_ (by rw [ee]) (by rw [ee]) (by rw [ee]) (by rw [ee]; exact ⟨h.ok.fn, h.ok.fo, h.ok.same, h.ok.mx, h.ok.mo, h.ok.m4, h.ok.fa⟩) (by rw [ee]; exact h.er) (by rw [ee]; show n.toNat + 1 ≤ _; omega) (by rw [ee]; exact h.fe), hbb⟩
      rw [row_set h.row 6, ee]
      unfold dcells
      have e3 : ((n.toNat + 1 : Nat) : Int) - 1 = n := by omega
      rw [e3]
      rfl
    have hnn : 0 ≤ n := by omega
    clear h hbb h0
    go_enter Try.func16, Try.ntmps16
    go_wp2_with (go_at_call 39; refine HM.out.mono ?_; rintro r w' ⟨rfl, rfl⟩)
    go_ret
    rw [ee] at Hfin ⊢
    exact ⟨rfl, Hfin.out.1, Hfin.out.2⟩
set_option maxRecDepth 10000 in
set_option maxHeartbeats 1000000 in
theorem Fail_any {B : Nat} {S : Nat → Prop} {w : World} {g : Nat} {F L : Value} {d : Dk} {e : Int} (h : DkAt B S w g F L d e) (n x : Int) (hn : n ≤ 9223372036854775807) :
    Calls Try.prog 17 #[.pointer (some ⟨g, 0, none⟩), .int .i64 n, .int .i64 x] w fun r w' => r = .returned (.int .i64 ((d.fail n x).2 : Nat)) ∧ (∃ e', DkAt B S w' g F L (d.fail n x).1 e') ∧ But (· = g) w w' := by
  have HM := hid (made_any h)
  obtain ⟨_, _, _, _, _, _, _, c7, c8⟩ := h.cells
  have f7 := row_free h.row 7
  have f8 := row_free h.row 8
  by_cases h0 : n < 1 ∨ (x ≠ 10 ∧ x ≠ 5)
  · have H := hid h
    have ee : d.fail n x = (d, 2) := by unfold Dk.fail; rw [if_pos h0]
    clear h
    by_cases h1 : n < 1
    · clear h0
      go_enter Try.func17, Try.ntmps17
      go_wp2_with (go_at_call 39; refine HM.out.mono ?_; rintro r w' ⟨rfl, rfl⟩)
      go_ret
      rw [ee]
      exact ⟨rfl, ⟨e, H.out⟩, But.refl _ w⟩
    · have h2 : x ≠ 10 := by omega
      have h3 : x ≠ 5 := by omega
      have h4 : 1 ≤ n := by omega
      have b2 : (x != 10) = true := by simpa using h2
      have b3 : (x != 5) = true := by simpa using h3
      clear h0
      go_enter Try.func17, Try.ntmps17
      go_wp2_with (go_at_call 39; refine HM.out.mono ?_; rintro r w' ⟨rfl, rfl⟩)
      go_ret
      rw [ee]
      exact ⟨rfl, ⟨e, H.out⟩, But.refl _ w⟩
  · have ee : d.fail n x = ({ d with fails := n.toNat + 1, err := x.toNat }, 0) := by unfold Dk.fail; rw [if_neg h0]
    have hbb : But (· = g) w ((w.setCell ⟨g, 7, none⟩ (.int .i64 n)).setCell ⟨g, 8, none⟩ (.int .i64 x)) := ((But.refl (· = g) w).set ⟨g, 7, none⟩ _ (.inl rfl)).set ⟨g, 8, none⟩ _ (.inl rfl)
    have h4 : 1 ≤ n := by omega
    have Hfin : Hid (DkAt B S ((w.setCell ⟨g, 7, none⟩ (.int .i64 n)).setCell ⟨g, 8, none⟩ (.int .i64 x)) g F L (d.fail n x).1 x ∧ But (· = g) w ((w.setCell ⟨g, 7, none⟩ (.int .i64 n)).setCell ⟨g, 8, none⟩ (.int .i64 x))) := by
      refine ⟨h.turn hbb ?_ (by rw [ee]) (by rw [ee]) (by rw [ee]) (by rw [ee]; exact ⟨h.ok.fn, h.ok.fo, h.ok.same, h.ok.mx, h.ok.mo, h.ok.m4, by show n.toNat + 1 ≠ 1; omega⟩) (by rw [ee]; intro _; show x = ((x.toNat : Nat) : Int) ∧ x.toNat ≠ 0; omega) (by rw [ee]; exact h.ae) (by rw [ee]; show n.toNat + 1 ≤ _; omega), hbb⟩
      have r1 := row_set h.row 7 (.int .i64 n)
      rw [row_set r1 8, ee]
      unfold dcells
      have e3 : ((n.toNat + 1 - 1 : Nat) : Int) = n := by omega
      rw [e3]
      rfl
    by_cases h5 : x = 10
    · subst h5
      clear h hbb h0
      go_enter Try.func17, Try.ntmps17
      go_wp2_with (go_at_call 39; refine HM.out.mono ?_; rintro r w' ⟨rfl, rfl⟩)
      go_ret
      rw [ee] at Hfin ⊢
      exact ⟨rfl, ⟨_, Hfin.out.1⟩, Hfin.out.2⟩
    · obtain rfl : x = 5 := by omega
      clear h hbb h0 h5
      go_enter Try.func17, Try.ntmps17
      go_wp2_with (go_at_call 39; refine HM.out.mono ?_; rintro r w' ⟨rfl, rfl⟩)
      go_ret
      rw [ee] at Hfin ⊢
      exact ⟨rfl, ⟨_, Hfin.out.1⟩, Hfin.out.2⟩
/-- All is synced: the old file is the file. -/
def Dk.settled (d : Dk) : Dk := { d with old := d.now, floor := d.now.length }
theorem settled_ok {d : Dk} (h : d.Ok) : d.settled.Ok := ⟨Nat.le_refl _, Nat.le_refl _, rfl, h.mx, h.mx, h.m4, h.fa⟩
theorem DkAt.settled {B : Nat} {S : Nat → Prop} {w w' : World} {g : Nat} {F L : Value} {d d' : Dk} {e e' : Int} (h : DkAt B S w g F L d e) (b : But (· = g) w w')
    (hr : w'.heap[g]? = some (.cells (dcells g F (.slice none 0 0) d' e') 61 (0, 0))) (e1 : d'.now = d.now) (e2 : d'.old = d.now) (e3 : d'.floor = d.now.length) (ok : d'.Ok) (er : d'.fails ≠ 0 → e' = (d'.err : Nat) ∧ d'.err ≠ 0) (ae : d'.armed ≤ 9223372036854775808) (fe : d'.fails ≤ 9223372036854775808) :
    DkAt B S w' g F (.slice none 0 0) d' e' := by
  have h1 := own_gne h.ff h.row (by decide)
  refine ⟨hr, ?_, ?_, fun k _ e => (by cases e), h.sg, h.sf, fun k e => (by cases e), fun i hi => ⟨(h.lt i hi).1, Nat.lt_of_lt_of_le (h.lt i hi).2 b.size⟩, ok, er, ae, fe⟩
  · rw [e1]; exact ownsRow_but h.ff b h1
  · rw [e2, e3, List.drop_length, Nat.sub_self]; exact World.ownsRow_nil w' _ _ _
set_option maxRecDepth 10000 in
set_option maxHeartbeats 1000000 in
theorem settle_any {B : Nat} {S : Nat → Prop} {w : World} {g : Nat} {F L : Value} {d : Dk} {e : Int} (h : DkAt B S w g F L d e) :
    Calls Try.prog 47 #[.pointer (some ⟨g, 0, none⟩)] w fun r w' => r = .returned noResult ∧ DkAt B S w' g F (.slice none 0 0) d.settled e ∧ But (· = g) w w' := by
  obtain ⟨A, c, rfl⟩ := own_sl h.ff
  obtain ⟨_, _, c2, c3, c4, _, _, _, _⟩ := h.cells
  have f3 := row_free h.row 3
  have f4 := row_free h.row 4
  have hbb : But (· = g) w ((w.setCell ⟨g, 3, none⟩ (.int .i64 (d.now.length : Nat))).setCell ⟨g, 4, none⟩ (.slice none 0 0)) := ((But.refl (· = g) w).set ⟨g, 3, none⟩ _ (.inl rfl)).set ⟨g, 4, none⟩ _ (.inl rfl)
  have r1 := row_set h.row 3 (.int .i64 (d.now.length : Nat))
  have r2 := row_set r1 4 (.slice none 0 0)
  have Hfin := hid (And.intro (h.settled (d' := d.settled) (e' := e) hbb (by rw [r2]; rfl) rfl rfl rfl (settled_ok h.ok) h.er h.ae h.fe) hbb)
  obtain ⟨AL, cL, hL⟩ := own_sl h.ll
  rw [hL] at c4
  clear h hbb r1 r2
  go_enter Try.func47, Try.ntmps47
  go_wp2_with fail
  go_end0
  exact ⟨rfl, Hfin.out.1, Hfin.out.2⟩
/-- The disk put up with its file. -/
def Dk.up (d : Dk) : Dk := { d with old := d.now, floor := d.now.length, down := false, armed := 0, fails := 0 }
theorem up_ok {d : Dk} (h : d.Ok) : d.up.Ok := ⟨Nat.le_refl _, Nat.le_refl _, rfl, h.mx, h.mx, h.m4, by show (0 : Nat) ≠ 1; decide⟩
set_option maxRecDepth 10000 in
set_option maxHeartbeats 1000000 in
theorem start_any {B : Nat} {S : Nat → Prop} {w : World} {g : Nat} {F L : Value} {d : Dk} {e : Int} (h : DkAt B S w g F L d e) :
    Calls Try.prog 44 #[.pointer (some ⟨g, 0, none⟩)] w fun r w' => r = .returned noResult ∧ DkAt B S w' g F (.slice none 0 0) d.up e ∧ But (· = g) w w' := by
  have HS := hid (settle_any h)
  clear h
  go_enter Try.func44, Try.ntmps44
  go_wp2_with (go_at_call 47; refine HS.out.mono ?_; rintro r w1 ⟨rfl, h1, b1⟩; obtain ⟨_, _, _, _, _, c5, c6, c7, _⟩ := h1.cells; have f5 := row_free h1.row 5; have f6 := row_free h1.row 6; have f7 := row_free h1.row 7; have H1 := hid h1; have HB := hid b1; clear h1 b1)
  go_end0
  have hbb : But (· = g) w (((w1.setCell ⟨g, 5, none⟩ (.bool false)).setCell ⟨g, 6, none⟩ (.int .i64 (-1))).setCell ⟨g, 7, none⟩ (.int .i64 0)) := (((HB.out.set ⟨g, 5, none⟩ _ (.inl rfl)).set ⟨g, 6, none⟩ _ (.inl rfl))).set ⟨g, 7, none⟩ _ (.inl rfl)
  have hb1 : But (· = g) w1 (((w1.setCell ⟨g, 5, none⟩ (.bool false)).setCell ⟨g, 6, none⟩ (.int .i64 (-1))).setCell ⟨g, 7, none⟩ (.int .i64 0)) := ((((But.refl (· = g) w1).set ⟨g, 5, none⟩ _ (.inl rfl)).set ⟨g, 6, none⟩ _ (.inl rfl))).set ⟨g, 7, none⟩ _ (.inl rfl)
  refine ⟨rfl, H1.out.turn hb1 ?_ rfl rfl rfl (up_ok (d := d.settled) H1.out.ok) (fun hf => absurd rfl hf) (Nat.zero_le _) (Nat.zero_le _), hbb⟩
  have r1 := row_set H1.out.row 5 (.bool false)
  have r2 := row_set r1 6 (.int .i64 (-1))
  rw [row_set r2 7]
  rfl
theorem nil_nil (n c : Nat) (w : World) : (binOp BinOp.eql 27 (.slice none n c) (.slice none 0 0)).run Try.prog w = .ok (.bool true) w := by kernel_rfl
theorem some_nil (a : Addr) (n c : Nat) (w : World) : (binOp BinOp.eql 27 (.slice (some a) n c) (.slice none 0 0)).run Try.prog w = .ok (.bool false) w := by kernel_rfl
set_option maxHeartbeats 1000000 in
set_option maxRecDepth 10000 in
theorem Clone_any (A : Option Addr) (l : List UInt8) (n c : Nat) (w : World) (h : IsBB w w.heap.size A n c l) :
    Calls Try.prog 43 #[.slice A n c] w fun e w' => ∃ v, e = .returned v ∧ w'.ownsRow w.heap.size 5 1 v n (l.map bv) ∧ Below w.heap.size w w' := by
  obtain ⟨i0, hi, hz0, hz1, hz2⟩ := info_parts Try.info5
  have Hlen := hid h.len
  have hs := h.small
  rcases A with _ | ad
  · have hn : n = 0 := by
      rcases Nat.eq_zero_or_pos n with h0 | h0
      · exact h0
      · obtain ⟨ad, e, _⟩ := h.lies (by rw [Hlen.out]; exact h0)
        cases e
    subst hn
    obtain rfl : l = [] := List.eq_nil_of_length_eq_zero Hlen.out
    go_enter Try.func43, Try.ntmps43
    have hnn := nil_nil 0 c
    go_wp2
    go_ret
    exact ⟨_, rfl, ⟨by simp, .inl ⟨rfl, rfl⟩⟩, Below.refl _ _⟩
  · have hnn := some_nil ad n c
    go_enter Try.func43, Try.ntmps43
    have h0 : (w.alloc (.cells #[] 5)).ownsRow w.heap.size 5 1 (.slice (some ⟨w.heap.size, 0, none⟩) 0 0) 0 [] := World.ownsRow_made w #[] 0 (Nat.le_refl _) (Nat.zero_le _) rfl
    have hb0 : Below w.heap.size w (w.alloc (.cells #[] 5)) := (Below.refl _ w).alloc (Nat.le_refl _) _
    go_wp2_with (at_builtin; go_loud (refine wpList_append_own _ rfl _ _ 27 rfl w.heap.size 5 i0 (.int .u8 0) 1 1 Try.underlying27 hi hz0 hz1 hz2 rfl (by decide) (.slice (some ⟨w.heap.size, 0, none⟩) 0 0) 0 [] rfl h0 ad n c (l.map bv) rfl ?c0 ?c1 (bv_one l) ?c3 ?c4 ?c5 ?_))
    case c0 => rw [List.length_map, Hlen.out, Nat.mul_one]
    case c1 =>
      intro j u hu
      have hp : 0 < (l.map bv).length := by
        have := (List.getElem?_eq_some_iff.1 hu).1
        omega
      obtain ⟨ad', e, hc⟩ := h.src hb0 hp
      cases e
      exact hc j u hu
    case c3 => unfold maxLen; omega
    case c4 => omega
    case c5 => exact hb0.size
    intro v' w1 hown hgrow _
    go_wp2
    go_ret
    exact ⟨_, rfl, by simpa using hown, hb0.grown hgrow hb0.size (fun k e => by cases e; exact Nat.le_refl _)⟩
end Go.Proofs.Ytgccjclloomfgaa
