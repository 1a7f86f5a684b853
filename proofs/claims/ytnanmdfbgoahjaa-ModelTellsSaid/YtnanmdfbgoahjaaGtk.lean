/-
  Get's closures 'take' and 'number'.
-/
import Derived.Test.YtnanmdfbgoahjaaGto
import Derived.Laws.BitsAllLaws
namespace Go.Proofs.Ytnanmdfbgoahjaa
open Go.RowKit

theorem add_zero (a : Addr) : a.add 0 = a := by unfold Addr.add; simp
theorem slice_cut (A : Option Addr) (n c k : Nat) (hk : k ≤ c) (w' : World) : (Instr.slice 23 (.slice A n c) none (some (.int .i64 (k : Nat))) none).run Try.prog w' = .ok (.slice A k c) w' := by
  have hs : (sizeOf (Try.prog.elem 23)).run Try.prog w' = .ok 1 w' := by kernel_rfl
  rw [run_slice_h (ht := by kernel_rfl) (h0 := by omega) (h2 := by omega), hs]
  have e : (if c = 0 then A else A.map (fun x => x.add (0 * 1))) = A := by
    split
    · rfl
    · cases A with
      | none => rfl
      | some a => simp [add_zero]
  simp [Result.andThen, sliced]
  rw [show (fun x : Addr => x.add 0) = id from funext add_zero]
  simp
theorem slice_part {w : World} {B : Nat} {A : Option Addr} {n c : Nat} {l : List UInt8} (h : IsBB w B A n c l) (i j : Nat) (hi : i ≤ j) (hj : j ≤ n) :
    ∃ A', (∀ w' : World, (Instr.slice 23 (.slice A n c) (some (.int .i64 (i : Nat))) (some (.int .i64 (j : Nat))) none).run Try.prog w' = .ok (.slice A' (j - i) (c - i)) w') ∧ IsBB w B A' (j - i) (c - i) ((l.drop i).take (j - i)) := by
  have hc := h.cap
  have hlen := h.len
  refine ⟨if c = i then A else A.map (·.add (i * 1)), fun w' => ?_, ⟨by rw [List.length_take, List.length_drop, hlen]; omega, by omega, by have := h.max; omega, by have := h.small; omega, fun hp => ?_⟩, fun hp ad' e => ?_⟩
  · have hs : (sizeOf (Try.prog.elem 23)).run Try.prog w' = .ok 1 w' := by kernel_rfl
    rw [run_slice_lh (ht := by kernel_rfl) (h0 := by omega) (h1 := by omega) (h2 := by omega), hs]
    simp [Result.andThen, sliced]
  · rw [List.length_take, List.length_drop, hlen] at hp
    obtain ⟨ad, e, hr⟩ := h.lies (by omega)
    subst e
    rw [if_neg (by omega)]
    refine ⟨_, rfl, fun k hk => ?_⟩
    rw [List.length_take, List.length_drop] at hk
    rw [Nat.mul_one, add_of_add, hr (i + k) (by omega), List.getElem_take, List.getElem_drop]
  · rw [List.length_take, List.length_drop, hlen] at hp
    obtain ⟨ad, e2, hr⟩ := h.lies (by omega)
    subst e2
    rw [if_neg (by omega)] at e
    cases e
    rw [block_of_add]
    exact h.low (by omega) ad rfl
section
variable {w0 w : World} {p : Gp} {A : Option Addr} {n c : Nat} {l : List UInt8} {s : St}
theorem isBB_none {w : World} {B : Nat} : IsBB w B none ([] : List UInt8).length 0 [] := isBB_nil w B
set_option maxRecDepth 10000 in
set_option maxHeartbeats 1000000 in
theorem take_any (h : GtAt w0 w p A n c l s) (k : Nat) (hk : k ≤ 65535) : Calls Try.prog 23 #[.int .i64 (k : Nat), .pointer (some ⟨p.b, 0, none⟩), .pointer (some ⟨p.a, 0, none⟩), .pointer (some ⟨p.f, 0, none⟩), .pointer (some ⟨p.e, 0, none⟩)] w fun r w' =>
    ∃ A' c', r = .returned (.slice A' (takeL l k s).length c') ∧ IsBB w' w0.heap.size A' (takeL l k s).length c' (takeL l k s) ∧ GtAt w0 w' p A n c l (takeS l k s) ∧ But2 p.a p.e w w' := by
  have H := hid h
  have c1 : w.cell? ⟨p.b, 0, none⟩ = some (.slice A n c) := row_cell h.rb 0
  have c2 : w.cell? ⟨p.a, 0, none⟩ = some (.int .i64 (s.at_ : Nat)) := row_cell h.ra 0
  have c3 : w.cell? ⟨p.e, 0, none⟩ = some (.int .i64 s.e) := row_cell h.re 0
  have c4 : w.cell? ⟨p.f, 0, none⟩ = some (.func (.func 22) #[] #[.pointer (some ⟨p.e, 0, none⟩)]) := row_cell h.rf 0
  have hn := h.src.small
  have hl := h.src.len
  have hr := h.rng
  have HF := hid (fail_any h 12)
  have hat : s.at_ ≤ n := by omega
  obtain ⟨a, ha⟩ : ∃ a, s.at_ = a := ⟨_, rfl⟩
  obtain ⟨e, he⟩ : ∃ e, s.e = e := ⟨_, rfl⟩
  rw [ha] at c2 hat
  rw [he] at c3
  by_cases hs : short l k s
  · have e1 : takeL l k s = [] := by unfold takeL; split; · rfl
                                     · rfl
    have e2 : takeS l k s = failS s 12 := by
      by_cases hz : s.e = 0
      · rw [takeS_no hz hs]; unfold failS; rw [if_pos hz]
      · rw [takeS_stay hz]; unfold failS; rw [if_neg hz]
    have e3 : (failS s 12).e ≠ 0 := by
      by_cases hz : s.e = 0
      · unfold failS; rw [if_pos hz]; show (12 : Int) ≠ 0; decide
      · unfold failS; rw [if_neg hz]; exact hz
    rw [e1, e2]
    have hz : (n : Int) - (a : Int) < (k : Int) := by unfold short at hs; omega
    have E3 := hid e3
    clear e1 e2 e3 hs ha he h hl hr
    generalize failS s 12 = s1 at *
    go_enter Try.func23, Try.ntmps23
    go_wp2_with (go_at_call 22; refine HF.out.mono ?_; rintro r w1 ⟨rfl, h1, b1⟩; have q3 : w1.cell? ⟨p.e, 0, none⟩ = some (.int .i64 s1.e) := row_cell h1.re 0; have H1 := hid h1; have B1 := hid b1; have hne := E3.out; clear h1 b1)
    go_ret
    exact ⟨_, _, rfl, isBB_none, H1.out, B1.out⟩
  · have hz : ¬ (n : Int) - (a : Int) < (k : Int) := by unfold short at hs; omega
    by_cases h0 : e = 0
    · subst h0
      have e1 : takeL l k s = (l.drop a).take k := by rw [takeL_yes he hs, ha]
      have e2 : takeS l k s = ⟨a + k, 0⟩ := by rw [takeS_yes he hs, ha]
      rw [e1, e2]
      obtain ⟨t, ht⟩ : ∃ t, a + k = t := ⟨_, rfl⟩
      have ht1 : t ≤ n := by unfold short at hs; omega
      have ht2 : (a : Int) + (k : Int) = (t : Int) := by omega
      have ht3 : (t : Int) - (k : Int) = (a : Int) := by omega
      have hP := h.place t (by omega)
      rw [he] at hP
      obtain ⟨A', hA, hB⟩ := slice_part hP.1.src a t (by omega) ht1
      have e3 : t - a = k := by omega
      rw [e3] at hA hB
      have hlen : ((l.drop a).take k).length = k := by rw [List.length_take, List.length_drop]; omega
      rw [hlen, ht]
      have f2 := row_free h.ra 0
      have d1 : (w.setCell ⟨p.a, 0, none⟩ (.int .i64 (t : Nat))).cell? ⟨p.b, 0, none⟩ = some (.slice A n c) := row_cell hP.1.rb 0
      have d2 : (w.setCell ⟨p.a, 0, none⟩ (.int .i64 (t : Nat))).cell? ⟨p.a, 0, none⟩ = some (.int .i64 (t : Nat)) := row_cell hP.1.ra 0
      have HP := hid hP
      have HB := hid hB
      clear e1 e2 hs ha he h hP hB hl hr HF e3 ht hlen
      go_enter Try.func23, Try.ntmps23
      go_wp2_with fail
      go_ret
      exact ⟨_, _, rfl, HB.out, HP.out⟩
    · have hne : s.e ≠ 0 := by rw [he]; exact h0
      rw [takeL_stay hne, takeS_stay hne]
      clear hs ha he h hl hr HF hne
      go_enter Try.func23, Try.ntmps23
      go_wp2_with fail
      go_ret
      exact ⟨_, _, rfl, isBB_none, H.out, But2.refl _ _ _⟩
end
end Go.Proofs.Ytnanmdfbgoahjaa
