/-
  The contract of Crash.
-/
import Derived.Test.YtgccjclloomfgaaRst
import Derived.Test.YtgccjclloomfgaaSpl
import Derived.StillTailTactics
namespace Go.Proofs.Ytgccjclloomfgaa
open Go.RowKit

theorem junked_nil (l : List UInt8) (f : Nat) : junked l f [] = l := by unfold junked; simp
theorem junked_none (f : Nat) (j : List UInt8) : junked [] f j = [] := by
  have := junked_len [] f j
  exact List.eq_nil_of_length_eq_zero this
theorem spoil_all {B : Nat} {S : Nat → Prop} {w : World} {g : Nat} {F L : Value} {d : Dk} {e : Int} (A : Option Addr) (n c : Nat) (junk : List UInt8) (h : DkAt B S w g F L d e) (hi : Out S w A n c junk) :
    Calls Try.prog 49 #[.pointer (some ⟨g, 0, none⟩), .slice A n c] w fun r w' => r = .returned noResult ∧ DkAt B S w' g F L { d with now := junked d.now d.floor junk } e ∧ But S w w' := by
  by_cases hz : n = 0 ∨ d.now.length = 0
  · refine (spoil_none A n c h hz).mono ?_
    rintro r w' ⟨rfl, rfl⟩
    have e1 : junked d.now d.floor junk = d.now := by
      rcases hz with hz | hz
      · obtain rfl : junk = [] := List.eq_nil_of_length_eq_zero (by rw [hi.len]; exact hz)
        exact junked_nil _ _
      · rw [List.eq_nil_of_length_eq_zero hz]; exact junked_none _ _
    rw [e1]
    exact ⟨rfl, h, But.refl S w⟩
  · exact spoil_any A n c junk h hi.toIsB (fun hp ad e hb => (hi.ap (by rw [hi.len]; exact hp) ad e).1 (h.sf _ hb)) (fun e => hz (.inl e)) (fun e => hz (.inr e))
set_option maxRecDepth 10000 in
set_option maxHeartbeats 2000000 in
theorem Crash_any {B : Nat} {S : Nat → Prop} {w : World} {g : Nat} {F L : Value} {d : Dk} {e : Int} (k : Int) (A : Option Addr) (n c : Nat) (junk : List UInt8) (h : DkAt B S w g F L d e) (hi : Out S w A n c junk) (hk : k ≤ 9223372036854775807) :
    Calls Try.prog 20 #[.pointer (some ⟨g, 0, none⟩), .agg #[.int .i64 k, .slice A n c]] w fun r w' => r = .returned (.int .i64 0) ∧ ∃ F' S', DkAt B S' w' g F' (.slice none 0 0) (d.crash k junk) e ∧ Stp S S' w w' := by
  have hb0 : Below w.heap.size w (w.alloc (.cells #[.int .i64 k, .slice A n c] 40)) := (Below.refl _ w).alloc (Nat.le_refl _) _
  have h0 := h.below hb0
  have hi0 := hi.stp (Stp.of_below (S := S) hb0)
  have HM := hid (made_any h0)
  have S0 := hid (Stp.of_below (S := S) hb0)
  have hgl := lt_of_heap h.row
  have hr := heap_alloc_new w (.cells #[.int .i64 k, .slice A n c] 40)
  have ck := row_cell hr 0
  have cj := row_cell hr 1
  by_cases hk0 : k < 0
  · have HR := hid (restore_any h0)
    have ec : d.crash k junk = Dk.up { d with now := d.old } := by unfold Dk.crash Dk.up; simp only [hk0, if_true]
    rw [ec]
    clear h h0 hi hi0 hb0
    go_enter Try.func20, Try.ntmps20
    go_wp2_with (first
      | (go_at_call 39; refine HM.out.mono ?_; rintro r w' ⟨rfl, rfl⟩)
      | (go_at_call 48; refine HR.out.mono ?_; rintro r w1 ⟨rfl, F', S', h1, s1⟩; have HU := hid (start_any h1); have S1 := hid (S0.out.trans s1); have G1 := hid h1.sg; clear h1 s1)
      | (go_at_call 44; refine HU.out.mono ?_; rintro r w2 ⟨rfl, h2, s2⟩; have H2 := hid h2; have S2 := hid (S1.out.trans (Stp.of_but (s2.mono (S' := S') (by rintro i rfl; exact .inl G1.out)))); clear h2 s2))
    go_ret
    exact ⟨rfl, _, _, H2.out, S2.out⟩
  · obtain ⟨K, rfl⟩ : ∃ K : Nat, k = K := ⟨k.toNat, by omega⟩
    obtain ⟨AF, cF, rfl⟩ := own_sl h0.ff
    obtain ⟨_, _, c2, c3, _, _, _, _, _⟩ := h0.cells
    have f2 := row_free h0.row 2
    have hmx := h0.ok.mx
    have hm4 := h0.ok.m4
    have hfn := h0.ok.fn
    have hcap : d.now.length ≤ cF := by have := h0.ff; obtain ⟨A9, c9, e9, h9, _⟩ := own_slice this; cases e9; omega
    obtain ⟨N, hN⟩ : ∃ N, d.now.length = N := ⟨_, rfl⟩
    obtain ⟨fl, hfl⟩ : ∃ fl, d.floor = fl := ⟨_, rfl⟩
    obtain ⟨m, hm⟩ : ∃ m, m = N - fl := ⟨_, rfl⟩
    obtain ⟨t, ht⟩ : ∃ t, t = min K m := ⟨_, rfl⟩
    obtain ⟨q, hq⟩ : ∃ q, q = fl + t := ⟨_, rfl⟩
    rw [hN] at c2 hmx hfn hcap
    rw [hfl] at c3 hfn
    have hqN : q ≤ N := by omega
    have e1 : IntKind.i64.wrap ((N : Int) - (fl : Int)) = (m : Int) := by rw [IntWalk.i64_in _ (by omega)]; omega
    have e2 : (if m < K then (m : Int) else (K : Int)) = (t : Int) := by rw [ht]; split <;> omega
    have e2' : (if (m : Int) < (K : Int) then (m : Int) else (K : Int)) = (t : Int) := by rw [ht]; split <;> omega
    have e3 : IntKind.i64.wrap ((fl : Int) + (t : Int)) = (q : Int) := by rw [IntWalk.i64_in _ (by omega)]; omega
    have hcut := slice_cut AF N cF q (by omega)
    have hcutd := DkAt.cut h0 (n := q) (by omega) (by omega)
    have ek : d.crash (K : Int) junk = Dk.up { d with now := junked (d.now.take q) d.floor junk } := by
      have e9 : leftK d.now d.floor K = d.now.take q := by
        unfold leftK
        rcases Nat.le_total (d.floor + K) N with h9 | h9
        · congr 1; omega
        · rw [List.take_of_length_le (by omega), List.take_of_length_le (by omega)]
      unfold Dk.crash Dk.up
      simp only [hk0, if_false, Int.toNat_natCast, e9]
    rw [ek]
    have Hd := hid hcutd
    have Hi := hid hi0
    have Hn := hid hN
    have hnb : w.heap.size ≠ g := by omega
    have ck' : (w.alloc (.cells #[.int .i64 (K : Nat), .slice A n c] 40)).cell? ⟨w.heap.size, 0, none⟩ = some (.int .i64 (K : Nat)) := ck
    have cj' : (w.alloc (.cells #[.int .i64 (K : Nat), .slice A n c] 40)).cell? ⟨w.heap.size, 1, none⟩ = some (.slice A n c) := cj
    clear ck cj h h0 hi hi0 hb0 hr hcutd ek hN hfl hm ht hq
    go_enter Try.func20, Try.ntmps20
    go_wp2_with (go_at_call 39; refine HM.out.mono ?_; rintro r w' ⟨rfl, rfl⟩)
    generalize (w.alloc (.cells #[.int .i64 (K : Nat), .slice A n c] 40)) = Wb at ck' cj' c2 c3 f2 Hd Hi S0 ⊢
    go_still_tail 24, (by kernel_rfl)
    change wpList _ _ _ _ _ Wb.drew
    have HD2 : Hid (DkAt B S (Wb.setCell ⟨g, 2, none⟩ (.slice AF q cF)).drew g (.slice AF q cF) L { d with now := d.now.take q } e ∧ Stp S S w (Wb.setCell ⟨g, 2, none⟩ (.slice AF q cF)).drew ∧ Out S (Wb.setCell ⟨g, 2, none⟩ (.slice AF q cF)).drew A n c junk) :=
      ⟨Hd.out.1.drew, (S0.out.trans (Stp.of_but Hd.out.2)).but.drew |> Stp.of_but, (Hi.out.stp (Stp.of_but Hd.out.2)).drew⟩
    have qj : (Wb.setCell ⟨g, 2, none⟩ (.slice AF q cF)).cell? ⟨w.heap.size, 1, none⟩ = some (.slice A n c) := keep_set hnb cj'
    clear c3 ck' cj' e1 e2 e2' e3 hcut Hd Hi S0
    go_wp2_with (first
      | (go_at_call 49; refine (spoil_all A n c junk HD2.out.1 HD2.out.2.2).mono ?_; rintro r w1 ⟨rfl, h1, s1⟩; have HU := hid (start_any h1); have S1 := hid (HD2.out.2.1.trans (Stp.of_but s1)); have G1 := hid h1.sg; clear h1 s1)
      | (go_at_call 44; refine HU.out.mono ?_; rintro r w2 ⟨rfl, h2, s2⟩; have H2 := hid h2; have S2 := hid (S1.out.trans (Stp.of_but (s2.mono (S' := S) (by rintro i rfl; exact .inl G1.out)))); clear h2 s2))
    go_ret
    exact ⟨rfl, _, _, H2.out, S2.out⟩
end Go.Proofs.Ytgccjclloomfgaa
