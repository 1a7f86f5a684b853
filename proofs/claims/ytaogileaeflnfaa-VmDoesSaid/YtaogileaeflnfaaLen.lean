/-
  Length, the first byte, what a first byte begins.
-/
import Derived.Test.YtaogileaeflnfaaRgt
import Derived.Laws.BitsAllLaws
namespace Go.Proofs.Ytaogileaeflnfaa
open Go.RowKit

theorem boxed (w : World) (o d s n : Int) : Below w.heap.size w (w.alloc (.cells #[.int .u8 o, .int .i64 d, .int .i64 s, .int .i64 n] 24)) := (Below.refl _ w).alloc (Nat.le_refl _) _
/-- An instruction's box. -/
structure Bx (w : World) (b : Nat) (o d s n : Int) : Prop where
  c0 : w.cell? ⟨b, 0, none⟩ = some (.int .u8 o)
  c1 : w.cell? ⟨b, 1, none⟩ = some (.int .i64 d)
  c2 : w.cell? ⟨b, 2, none⟩ = some (.int .i64 s)
  c3 : w.cell? ⟨b, 3, none⟩ = some (.int .i64 n)
theorem Bx.below {w w' : World} {b : Nat} {o d s n : Int} (h : Bx w b o d s n) (hb : Below w.heap.size w w') : Bx w' b o d s n :=
  ⟨keeps hb h.c0, keeps hb h.c1, keeps hb h.c2, keeps hb h.c3⟩
theorem bx_made (w : World) (o d s n : Int) : Bx (w.alloc (.cells #[.int .u8 o, .int .i64 d, .int .i64 s, .int .i64 n] 24)) w.heap.size o d s n :=
  ⟨by go_simp, by go_simp, by go_simp, by go_simp⟩
/-- Behind a call: the box, the blocks of before. -/
theorem bx_on {w w1 : World} {o d s n : Int} (b1 : Below (w.alloc (.cells #[.int .u8 o, .int .i64 d, .int .i64 s, .int .i64 n] 24)).heap.size (w.alloc (.cells #[.int .u8 o, .int .i64 d, .int .i64 s, .int .i64 n] 24)) w1) :
    Bx w1 w.heap.size o d s n ∧ Below w.heap.size w w1 := ⟨(bx_made w o d s n).below b1, (boxed w o d s n).trans (b1.mono (by simp))⟩
set_option maxRecDepth 10000 in
set_option maxHeartbeats 1000000 in
theorem Length_any (o d s n : Int) (w : World) : Calls Try.prog 60 #[vI o d s n] w fun e w' => e = .returned (.int .i64 (lenI o d s n)) ∧ Below w.heap.size w w' := by
  have HR := hid (fun w => Right_any o d s n w)
  have HO := hid (fun w => rowOf_any o d s n w)
  by_cases hok : okI o d s n
  · rw [show lenI o d s n = 1 + rB o s from if_pos hok]
    rw [show rightE o d s n = 0 from if_pos hok] at HR
    have hb := rB_in o s
    unfold vI vR at HO
    unfold vI at HR
    unfold vI
    generalize rB o s = rb at *
    have e1 : wrap64 (1 + rb) = 1 + rb := by unfold wrap64; omega
    have e2 : IntKind.i64.wrap (1 + rb) = 1 + rb := by rw [IntKind.wrap_i64]; omega
    clear hok hb
    go_enter Try.func60, Try.ntmps60
    go_wp2_with (go_at_call 23; (with_reducible refine (HR.out _).mono ?_); rintro r w1 ⟨rfl, b1⟩; obtain ⟨⟨c0, c1, c2, c3⟩, b2⟩ := bx_on b1; have B2 := hid b2; clear b1 b2)
    refine (HO.out _).mono ?_
    rintro r w2 ⟨rfl, b3⟩
    have B3 := hid (B2.out.trans (b3.mono B2.out.size))
    clear B2 b3 c0 c1 c2 c3
    go_wp2_with fail
    go_ret
    exact ⟨rfl, B3.out.alloc B3.out.size _⟩
  · rw [show lenI o d s n = 0 from if_neg hok]
    rw [show rightE o d s n = 110 from if_neg hok] at HR
    unfold vI at HR
    unfold vI
    clear hok
    go_enter Try.func60, Try.ntmps60
    go_wp2_with (go_at_call 23; (with_reducible refine (HR.out _).mono ?_); rintro r w1 ⟨rfl, b1⟩; obtain ⟨_, b2⟩ := bx_on b1; have B2 := hid b2; clear b1 b2)
    go_ret
    exact ⟨rfl, B2.out⟩
theorem or8 (a b : Int) (h1 : 0 ≤ a) (h2 : a ≤ 30) (h3 : 0 ≤ b) (h4 : b ≤ 7) : bits .or .u8 (a * 8) b = a * 8 + b := by
  obtain ⟨x, rfl⟩ : ∃ x : Nat, a = x := ⟨a.toNat, by omega⟩
  obtain ⟨y, rfl⟩ : ∃ y : Nat, b = y := ⟨b.toNat, by omega⟩
  rw [show (x : Int) * 8 = ((x * 8 : Nat) : Int) by omega, u8_or_nat _ _ (by omega) (by omega), nat_join 3 (x * 8) y (by omega) (by omega)]
  omega
set_option maxRecDepth 10000 in
set_option maxHeartbeats 1000000 in
theorem begun_any (x : Nat) (hx : x < 256) (w : World) :
    Calls Try.prog 59 #[.int .u8 (x : Nat)] w fun e w' => e = .returned (vI (oG x) (dG x) (sG x) 0) ∧ Below w.heap.size w w' := by
  have HR := hid (fun o w => reck_any o w)
  obtain ⟨q, hq⟩ : ∃ q : Nat, q = x / 8 := ⟨_, rfl⟩
  obtain ⟨m, hm⟩ : ∃ m : Nat, m = x % 8 := ⟨_, rfl⟩
  have e1 : (x : Int) / 8 = (q : Int) := by omega
  have e2 : (x : Int) % 8 = (m : Int) := by omega
  have e3 : bits .and .u8 (x : Int) 7 = (m : Int) := by
    rw [show (7 : Int) = ((7 : Nat) : Int) from rfl, u8_and_nat _ _ hx (by decide), nat_mask3]; omega
  have E := hid (show oG x = q ∧ dG x = (if reck q then 0 else (m : Int)) ∧ sG x = (if reck q then (m : Int) else 0) by unfold oG dG sG; rw [e1, e2]; exact ⟨rfl, rfl, rfl⟩)
  have hml : m < 8 := by omega
  clear hq hm
  unfold vI
  by_cases hr : reck q
  · have hd : decide (reck q) = true := decide_eq_true hr
    rw [if_pos hr, if_pos hr] at E
    clear hr
    go_enter Try.func59, Try.ntmps59
    go_wp2_with (go_at_call 54; (with_reducible refine (HR.out _ _).mono ?_); rw [hd]; rintro r w1 ⟨rfl, rfl⟩)
    refine bodyPost_ret (results_24 (by kernel_rfl : Try.f59.results = #[.cell 2 24]) _ _ w.heap.size _ _ _ rfl (heap_alloc2_old w _ _) rfl) rfl ?_
    rw [E.out.1, E.out.2.1, E.out.2.2]
    exact ⟨rfl, fr2 w _ _⟩
  · have hd : decide (reck q) = false := decide_eq_false hr
    rw [if_neg hr, if_neg hr] at E
    clear hr
    go_enter Try.func59, Try.ntmps59
    go_wp2_with (go_at_call 54; (with_reducible refine (HR.out _ _).mono ?_); rw [hd]; rintro r w1 ⟨rfl, rfl⟩)
    refine bodyPost_ret (results_24 (by kernel_rfl : Try.f59.results = #[.cell 2 24]) _ _ w.heap.size _ _ _ rfl (heap_alloc2_old w _ _) rfl) rfl ?_
    rw [E.out.1, E.out.2.1, E.out.2.2]
    exact ⟨rfl, fr2 w _ _⟩
theorem bel_on {w w1 w2 : World} (h : Below w.heap.size w w1) (b : Below w1.heap.size w1 w2) : Below w.heap.size w w2 := h.trans (b.mono h.size)
theorem near_rB {o s : Int} (h : near o) : rB o s = 1 := by
  unfold near at h
  rcases row_cases o s with ⟨r0, r1, r2, r3, r4, hc⟩ | ⟨r0, r1, r2, r3, r4, hc⟩ | ⟨r0, r1, r2, r3, r4, hc⟩ | ⟨r0, r1, r2, r3, r4, hc⟩ | ⟨r0, r1, r2, r3, r4, hc⟩ | ⟨r0, r1, r2, r3, r4, hc⟩ | ⟨r0, r1, r2, r3, r4, hc⟩ | ⟨r0, r1, r2, r3, r4, hc⟩ | ⟨r0, r1, r2, r3, r4, hc⟩ | ⟨r0, r1, r2, r3, r4, hc⟩ | ⟨r0, r1, r2, r3, r4, hc⟩ <;> omega
theorem near_rN {o s : Int} (h : near o) : rN o s = 65535 := by
  unfold near at h
  rcases row_cases o s with ⟨r0, r1, r2, r3, r4, hc⟩ | ⟨r0, r1, r2, r3, r4, hc⟩ | ⟨r0, r1, r2, r3, r4, hc⟩ | ⟨r0, r1, r2, r3, r4, hc⟩ | ⟨r0, r1, r2, r3, r4, hc⟩ | ⟨r0, r1, r2, r3, r4, hc⟩ | ⟨r0, r1, r2, r3, r4, hc⟩ | ⟨r0, r1, r2, r3, r4, hc⟩ | ⟨r0, r1, r2, r3, r4, hc⟩ | ⟨r0, r1, r2, r3, r4, hc⟩ | ⟨r0, r1, r2, r3, r4, hc⟩ <;> omega
end Go.Proofs.Ytaogileaeflnfaa
