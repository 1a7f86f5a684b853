/-
  The contract of follow.
-/
import Derived.Test.YtaogileaeflnfaaVmn
import Derived.Test.YtaogileaeflnfaaLad
import Derived.Test.YtaogileaeflnfaaDoy
import Derived.BigRegion
import Derived.Deep.CutRange
set_option linter.unusedVariables false
set_option linter.unusedSimpArgs false
namespace Go.Proofs.Ytaogileaeflnfaa
open Go.RowKit

/-- A program at work: at the place k, the machine y, what was put out. -/
structure Fw (w wr : World) (gs n B g hb mb nH cH nM cM : Nat) (l : List UInt8) (S : List Nat) (k : Nat) (y : Mn) (out : List UInt8) (v : Value) : Prop where
  ld : LdAt wr gs n l S
  m : MO wr B g hb mb nH cH nM cM y
  ok : y.ok
  k : k ∈ S
  own : wr.ownsRow w.heap.size 5 1 v out.length (out.map bv)
  but : But (Its g hb mb) w wr
section
variable {w wr w' : World} {gs n B g hb mb nH cH nM cM : Nat} {l : List UInt8} {S : List Nat} {k : Nat} {y : Mn} {out : List UInt8} {v : Value}
theorem Fw.below (h : Fw w wr gs n B g hb mb nH cH nM cM l S k y out v) (b : Below wr.heap.size wr w') : Fw w w' gs n B g hb mb nH cH nM cM l S k y out v :=
  ⟨h.ld.below b, h.m.below b, h.ok, h.k, own_below h.own b, h.but.trans (S' := Its g hb mb) (.of_below b) (fun i hi => .inl hi)⟩
theorem Fw.to (h : Fw w wr gs n B g hb mb nH cH nM cM l S k y out v) {k2 : Nat} (hk : k2 ∈ S) : Fw w wr gs n B g hb mb nH cH nM cM l S k2 y out v := ⟨h.ld, h.m, h.ok, hk, h.own, h.but⟩
theorem Fw.did (h : Fw w wr gs n B g hb mb nH cH nM cM l S k y out v) {o d s i : Int} (hw : gs ≠ g ∧ gs ≠ hb ∧ gs ≠ mb) (hlt : g < w.heap.size ∧ hb < w.heap.size ∧ mb < w.heap.size) (m : MO w' B g hb mb nH cH nM cM (doM o d s i y)) (b : But (Its g hb mb) wr w') : Fw w w' gs n B g hb mb nH cH nM cM l S k (doM o d s i y) out v :=
  ⟨h.ld.on (b.block _ h.ld.lt (by rintro (e | e | e); exact hw.1 e; exact hw.2.1 e; exact hw.2.2 e)) b.size, m, doM_ok o d s i h.ok, h.k, ownsRow_but h.own b (fun j hj e => by have := h.own.lt j hj; rcases e with e | e | e <;> omega), h.but.trans b (fun i hi => .inl hi)⟩
theorem Fw.app (h : Fw w wr gs n B g hb mb nH cH nM cM l S k y out v) (hlt : gs < w.heap.size ∧ g < w.heap.size ∧ hb < w.heap.size ∧ mb < w.heap.size) {out2 : List UInt8} {v2 : Value} (o : w'.ownsRow w.heap.size 5 1 v2 out2.length (out2.map bv)) (b : Below w.heap.size wr w') : Fw w w' gs n B g hb mb nH cH nM cM l S k y out2 v2 := by
  refine ⟨h.ld.on (b.block _ hlt.1) b.size, ⟨(b.block _ hlt.2.1).trans h.m.row, ?_, ?_, h.m.ge, h.m.sm⟩, h.ok, h.k, o, ⟨b.os.trans h.but.os, b.tape.trans h.but.tape, b.output.trans h.but.output, Nat.le_trans h.but.size b.size, fun i hi hn => (b.block i hi).trans (h.but.block i hi hn)⟩⟩
  · refine ⟨h.m.h.1, ?_⟩
    rcases h.m.h.2 with ⟨e, _⟩ | ⟨j, cap, cur, hv, hj, hh, r⟩
    · cases e
    · refine .inr ⟨j, cap, cur, hv, hj, ?_, r⟩
      injection hv with e1; injection e1 with e1; injection e1 with e1
      subst e1
      exact (b.block _ hlt.2.2.1).trans hh
  · refine ⟨h.m.m.1, ?_⟩
    rcases h.m.m.2 with ⟨e, _⟩ | ⟨j, cap, cur, hv, hj, hh, r⟩
    · cases e
    · refine .inr ⟨j, cap, cur, hv, hj, ?_, r⟩
      injection hv with e1; injection e1 with e1; injection e1 with e1
      subst e1
      exact (b.block _ hlt.2.2.2).trans hh
theorem Fw.steps (h : Fw w wr gs n B g hb mb nH cH nM cM l S k y out v) : wr.cell? ⟨gs, k * 5, none⟩ = some (.int .u8 (getR l k).o) ∧ wr.cell? ⟨gs, k * 5 + 1, none⟩ = some (.int .i64 (getR l k).d) ∧ wr.cell? ⟨gs, k * 5 + 2, none⟩ = some (.int .i64 (getR l k).s) ∧ wr.cell? ⟨gs, k * 5 + 3, none⟩ = some (.int .i64 (getR l k).n) ∧ wr.cell? ⟨gs, k * 5 + 4, none⟩ = some (.int .i64 (getR l k).e) := by
  have hr := h.ld.at_ k h.k
  exact ⟨hr 0 _ rfl, hr 1 _ rfl, hr 2 _ rfl, hr 3 _ rfl, hr 4 _ rfl⟩
end
/-- How follow ends. -/
def FwEnd (w : World) (l : List UInt8) (most : Int) (x : Mn) (fuel : Int) (B g hb mb nH cH nM cM : Nat) (e : Ending) (w' : World) : Prop :=
  (∃ G y out v, runF l most G 0 x fuel [] = some (.halt y out) ∧ e = .returned (.tuple #[v, .int .i64 0]) ∧ w'.ownsRow w.heap.size 5 1 v out.length (out.map bv) ∧ MO w' B g hb mb nH cH nM cM y ∧ But (Its g hb mb) w w') ∨
  (∃ G er, runF l most G 0 x fuel [] = some (.er er) ∧ e = .returned (.tuple #[.slice none 0 0, .int .i64 er]) ∧ But (Its g hb mb) w w')
def stepF (l : List UInt8) (most : Int) (G k : Nat) (x : Mn) (fuel : Int) (out : List UInt8) (o d s n : Int) (nx : Nat) : Option Fin :=
    if o = 0 then some (.halt x out) else
    if o = 26 then (if most ≤ (out.length : Int) then some (.er 112) else runF l most G nx x fuel (out ++ [x.a.toUInt8])) else
    if 1 ≤ o ∧ o ≤ 25 then runF l most G nx (doM o d s n x) fuel out else
    if tkn o x.f = true then
      (if n = (k : Int) ∨ (n < (k : Int) ∧ fuel < 1) then some (.er 111) else runF l most G n.toNat x (if n < (k : Int) then fuel - 1 else fuel) out)
    else runF l most G nx x fuel out
theorem meas_on (a n k j : Nat) (h1 : k < n) (h2 : k < j) : a * (n + 1) + (n - j) < a * (n + 1) + (n - k) := by omega
theorem meas_back (fu : Int) (n k j : Nat) (h1 : 1 ≤ fu) : (fu - 1).toNat * (n + 1) + (n - j) < fu.toNat * (n + 1) + (n - k) := by
  rw [show fu.toNat = (fu - 1).toNat + 1 by omega, Nat.add_mul]
  omega
theorem zero24 (w : World) : (zeroValue 24).run Try.prog w = .ok (.agg #[.int .u8 0, .int .i64 0, .int .i64 0, .int .i64 0]) w := by kernel_rfl
set_option maxRecDepth 10000 in
set_option maxHeartbeats 16000000 in
theorem follow_any (w : World) (gs n B g hb mb nH cH nM cM : Nat) (l : List UInt8) (S : List Nat) (x : Mn) (fuel most : Int) (post : Bool) (hn : l.length = n) (hr : rightP l post) (hS : starts l = some S) (h0 : Fw w w gs n B g hb mb nH cH nM cM l S 0 x [] (.slice none 0 0))
    (hw : gs ≠ g ∧ gs ≠ hb ∧ gs ≠ mb) (hm : most ≤ 1000) (hf : fuel ≤ 1000) :
    Calls Try.prog 37 #[.slice (some ⟨gs, 0, none⟩) n n, .pointer (some ⟨g, 0, none⟩), .int .i64 fuel, .int .i64 most] w (FwEnd w l most x fuel B g hb mb nH cH nM cM) := by
  have H0 := hid h0
  have HR := hid (fun k (hk : k ∈ S) => hr.step hS hk)
  have HG := hid (fun k (hk : k ∈ S) => ((starts_mem hS).2 k hk).2.1)
  have HL : Hid (gs < w.heap.size ∧ g < w.heap.size ∧ hb < w.heap.size ∧ mb < w.heap.size) := ⟨h0.ld.lt, h0.m.lt, h0.m.hlt.2, h0.m.mlt.2⟩
  clear h0
  go_enter Try.func37, Try.ntmps37
  go_wp2_with fail
  go_loopw [2, 10, 11] (fun v2 v10 v11 wr => ∃ (k : Nat) (y : Mn) (fu : Int) (out : List UInt8), v11 = .int .i64 (k : Nat) ∧ v2 = .int .i64 fu ∧ fu ≤ fuel ∧ out.length ≤ 1000 ∧ Hid (Fw w wr gs n B g hb mb nH cH nM cM l S k y out v10) ∧ Hid (∀ G r, runF l most G k y fu out = some r → ∃ G2, runF l most G2 0 x fuel [] = some r)) (fun v2 _ v11 _ => (intOf v2).toNat * (n + 1) + (n - (intOf v11).toNat))
  case atStart => exact ⟨0, x, fuel, [], rfl, rfl, Int.le_refl _, by simp, H0, fun G r h => ⟨G, h⟩⟩
  case round =>
    obtain ⟨k, y, fu, out, rfl, rfl, hfu, hout, HS, HT⟩ := hrel
    clear H0
    obtain ⟨f0, f1, f2, f3, f4⟩ := HS.out.steps
    obtain ⟨i1, i2, i3, i4, i5⟩ := got_in (HG.out k HS.out.k)
    obtain ⟨ge, gb, gj, gn⟩ := HR.out k HS.out.k
    have hkz : (k : Int) < (n : Int) := by omega
    have hkm : (k : Int) * 5 = ((k * 5 : Nat) : Int) := by omega
    have zv := zero24
    have A0 : ∀ o, (wr.alloc o).cell? ⟨gs, k * 5, none⟩ = some (.int .u8 (getR l k).o) := fun o => (HS.out.below ((Below.refl _ wr).alloc (Nat.le_refl _) o)).steps.1
    have A1 : ∀ o, (wr.alloc o).cell? ⟨gs, k * 5 + 1, none⟩ = some (.int .i64 (getR l k).d) := fun o => (HS.out.below ((Below.refl _ wr).alloc (Nat.le_refl _) o)).steps.2.1
    have A2 : ∀ o, (wr.alloc o).cell? ⟨gs, k * 5 + 2, none⟩ = some (.int .i64 (getR l k).s) := fun o => (HS.out.below ((Below.refl _ wr).alloc (Nat.le_refl _) o)).steps.2.2.1
    have A3 : ∀ o, (wr.alloc o).cell? ⟨gs, k * 5 + 3, none⟩ = some (.int .i64 (getR l k).n) := fun o => (HS.out.below ((Below.refl _ wr).alloc (Nat.le_refl _) o)).steps.2.2.2.1
    have A4 : ∀ o, (wr.alloc o).cell? ⟨gs, k * 5 + 4, none⟩ = some (.int .i64 (getR l k).e) := fun o => (HS.out.below ((Below.refl _ wr).alloc (Nat.le_refl _) o)).steps.2.2.2.2
    go_upto_region 3 with fail
    have RS := hid (fun G r (h : stepF l most G k y fu out (getR l k).o (getR l k).d (getR l k).s (getR l k).n (nxt l k) = some r) => HT.out (G + 1) r h)
    have hoi := (put_get l k ge).2.1
    have hop := okI_op hoi
    have HX := hid ((HS.out.below ((Below.refl _ wr).alloc (Nat.le_refl _) (.cells #[.int .u8 (getR l k).o, .int .i64 (getR l k).d, .int .i64 (getR l k).s, .int .i64 (getR l k).n] 24))).below (Below.refl _ _).drew)
    have BX := hid (heap_alloc_new wr (.cells #[.int .u8 (getR l k).o, .int .i64 (getR l k).d, .int .i64 (getR l k).s, .int .i64 (getR l k).n] 24))
    replace gj := hid gj
    replace gn := hid gn
    replace hoi := hid hoi
    replace hop := hid hop
    have hix := hid (And.intro i1 (And.intro i2 i3))
    clear i1 i2 i3 i4 gb ge HT
    go_region
    clear f0 f1 f2 f3 f4 A0 A1 A2 A3 A4 zv
    replace BX : Hid ((wr.alloc (.cells #[.int .u8 (getR l k).o, .int .i64 (getR l k).d, .int .i64 (getR l k).s, .int .i64 (getR l k).n] 24)).drew.heap[wr.heap.size]? = some (.cells #[.int .u8 (getR l k).o, .int .i64 (getR l k).d, .int .i64 (getR l k).s, .int .i64 (getR l k).n] 24 (0, 0))) := BX
    generalize (wr.alloc (.cells #[.int .u8 (getR l k).o, .int .i64 (getR l k).d, .int .i64 (getR l k).s, .int .i64 (getR l k).n] 24)).drew = W3 at *
    generalize wr.heap.size = b5 at *
    clear i5
    generalize (getR l k).o = o at *
    generalize (getR l k).d = d at *
    generalize (getR l k).s = s at *
    generalize (getR l k).n = nn at *
    have c0 : W3.cell? ⟨b5, 0, none⟩ = some (.int .u8 o) := row_cell BX.out 0
    have c1 : W3.cell? ⟨b5, 1, none⟩ = some (.int .i64 d) := row_cell BX.out 1
    have c2 : W3.cell? ⟨b5, 2, none⟩ = some (.int .i64 s) := row_cell BX.out 2
    have c3 : W3.cell? ⟨b5, 3, none⟩ = some (.int .i64 nn) := row_cell BX.out 3
    obtain ⟨nx, hnx⟩ : ∃ nx, nxt l k = nx := ⟨_, rfl⟩
    rw [hnx] at gn RS hix ⊢
    clear hnx HR HG hkm
    have hkn := hid (show k < n by omega)
    by_cases h0 : o = 0
    · subst h0
      obtain ⟨G2, h2⟩ := RS.out 0 (.halt y out) (by unfold stepF; rw [if_pos rfl])
      replace h2 := hid h2
      go_wp2_with fail
      go_ret2
      exact .inl ⟨G2, y, out, u10, h2.out, rfl, HX.out.own, HX.out.m, HX.out.but⟩
    have n0 : (o == 0) = false := by simp only [beq_eq_false_iff_ne, ne_eq]; exact h0
    by_cases h26 : o = 26
    · subst h26
      have hnx := gn.out (by omega)
      obtain ⟨A, c, hv, hAc, hcm⟩ := own_slice HX.out.own
      subst hv
      obtain ⟨N, hN⟩ : ∃ N, out.length = N := ⟨_, rfl⟩
      have HN := hid hN
      rw [hN] at hout ⊢
      by_cases hm2 : most ≤ (N : Int)
      · obtain ⟨G2, h2⟩ := RS.out 0 (.er 112) (by unfold stepF; rw [if_neg (by decide), if_pos rfl, if_pos (by rw [HN.out]; exact hm2)])
        replace h2 := hid h2
        have d1 : decide (most ≤ (N : Int)) = true := decide_eq_true hm2
        have d2 : decide ((N : Int) ≥ most) = true := decide_eq_true hm2
        clear hN hAc hcm
        go_wp2_with fail
        go_ret2
        exact .inr ⟨G2, 112, h2.out, rfl, HX.out.but⟩
      · have d1 : decide (most ≤ (N : Int)) = false := decide_eq_false hm2
        have d2 : decide ((N : Int) ≥ most) = false := decide_eq_false hm2
        have cA := HX.out.m.mr.ca
        unfold U.bv at cA
        have RS2 := hid (fun G r (h : runF l most G nx y fu (out ++ [y.a.toUInt8]) = some r) => RS.out G r (by unfold stepF; rw [if_neg (by decide), if_pos rfl, if_neg (by rw [HN.out]; exact hm2)]; exact h))
        have hzb : ((y.a.toUInt8.toNat : Nat) : Int) = (y.a.toNat : Int) % 256 := by simp
        have HO : Hid (W3.ownsRow w.heap.size 5 1 (.slice A N c) N (out.map bv)) := hid (by have := HX.out.own; rwa [HN.out] at this)
        have HB2 := hid (fun (W' : World) (v' : Value) (ho : W'.ownsRow w.heap.size 5 1 v' (N + 1) ((out ++ [y.a.toUInt8]).map bv)) (hb : Below w.heap.size W3 W') => (HX.out.to hnx).app HL.out (out2 := out ++ [y.a.toUInt8]) (v2 := v') (by rw [List.length_append, HN.out]; exact ho) hb)
        have hsz := hid HX.out.but.size
        obtain ⟨ya, hya⟩ : ∃ ya : Int, (y.a.toNat : Int) = ya := ⟨_, rfl⟩
        rw [hya] at cA hzb
        have HIS := hid (one_isB W3 y.a.toUInt8 (ya % 256) hzb.symm)
        clear hN hya hzb RS
        go_wp2_with (at_builtin; go_loud (refine wpList_append_bytes rfl (.tmp 37) (.tmp 43) rfl w.heap.size W3 (.slice A N c) N out rfl (HO.out.alloc _) (some ⟨W3.heap.size, 0, none⟩) 1 1 [y.a.toUInt8] rfl HIS.out (by omega) ((Below.refl _ _).alloc hsz.out _) hsz.out ?_; intro v' W' ho hb hkk))
        go_roundw
        case rel => exact ⟨nx, y, fu, out ++ [y.a.toUInt8], rfl, rfl, hfu, by rw [List.length_append, HN.out]; simp; omega, HB2.out _ _ ho.out hb.out, RS2⟩
        case measure => exact meas_on _ _ _ _ hkn.out hix.out.2.1
    have n26 : (o == 26) = false := by simp only [beq_eq_false_iff_ne, ne_eq]; exact h26
    have HWk := hid (works_any o)
    by_cases hwk : 1 ≤ o ∧ o ≤ 25
    · rw [decide_eq_true hwk] at HWk
      have hnx := gn.out (by omega)
      have HDo := hid (do_any W3 B g hb mb nH cH nM cM y o d s nn hwk hoi.out HX.out.m HX.out.ok)
      have RS2 := hid (fun G r (h : runF l most G nx (doM o d s nn y) fu out = some r) => RS.out G r (by unfold stepF; rw [if_neg h0, if_neg h26, if_pos hwk]; exact h))
      have HF2 := hid (fun (W' : World) (m : MO W' B g hb mb nH cH nM cM (doM o d s nn y)) (b : But (Its g hb mb) W3 W') => (HX.out.to hnx).did (w' := W') hw HL.out.2 m b)
      unfold vI at HDo
      clear RS
      go_wp2_with (first
        | (go_at_call 22; refine (HWk.out _).mono ?_; rintro r W4 ⟨rfl, rfl⟩)
        | (go_at_call 25; refine HDo.out.mono ?_; rintro r W5 ⟨rfl, m5, b5'⟩))
      go_roundw
      case rel => exact ⟨nx, doM o d s nn y, fu, out, rfl, rfl, hfu, hout, HF2.out _ m5 b5', RS2⟩
      case measure => exact meas_on _ _ _ _ hkn.out hix.out.2.1
    rw [decide_eq_false hwk] at HWk
    have hop2 := hop.out
    have h27 : 27 ≤ o := by omega
    obtain ⟨j, hj, rfl⟩ := gj.out h27
    have HTk := hid (taken_any o y.f)
    have cF := HX.out.m.mr.cf
    obtain ⟨yf, hyf⟩ : ∃ b, y.f = b := ⟨_, rfl⟩
    rw [hyf] at cF HTk
    obtain ⟨tk, htk⟩ : ∃ b, tkn o yf = b := ⟨_, rfl⟩
    rw [htk] at HTk
    have htk2 := hid (show tkn o y.f = tk by rw [hyf, htk])
    have hstp := hid (fun G => (show stepF l most G k y fu out o d s (j : Int) nx = if tk = true then (if (j : Int) = (k : Int) ∨ ((j : Int) < (k : Int) ∧ fu < 1) then some (.er 111) else runF l most G (j : Int).toNat y (if (j : Int) < (k : Int) then fu - 1 else fu) out) else runF l most G nx y fu out by unfold stepF; rw [if_neg h0, if_neg h26, if_neg hwk, htk2.out]))
    have htk3 := hid (show tk = false → ¬ (o = 0 ∨ o = 29 ∨ o = 30) by
      intro e
      rintro (h | h | h)
      · exact h0 h
      · rw [← htk, h] at e; cases e
      · rw [← htk, h] at e; cases e)
    clear hyf htk hop2 gj
    cases tk
    · have hnx := gn.out (htk3.out rfl)
      have RS2 := hid (fun G r (h : runF l most G nx y fu out = some r) => RS.out G r (by rw [hstp.out, if_neg (by decide)]; exact h))
      clear RS hstp
      go_upto_region 12 with (go_at_call 22; refine (HWk.out _).mono ?_; rintro r W4 ⟨rfl, rfl⟩)
      go_quiet ((go_at_call 53; exact Calls.quiet_of_same (HTk.out _)))
      have HX2 := hid ((HX.out.to hnx).below (w' := W4.drewN nq) (below_drewN (Below.refl _ _) nq))
      go_wp2_with fail
      go_roundw
      case rel => exact ⟨nx, y, fu, out, rfl, rfl, hfu, hout, HX2, RS2⟩
      case measure => exact meas_on _ _ _ _ hkn.out hix.out.2.1
    by_cases e1 : j = k
    · subst e1
      obtain ⟨G2, h2⟩ := RS.out 0 (.er 111) (by rw [hstp.out, if_pos rfl, if_pos (.inl rfl)])
      replace h2 := hid h2
      clear RS hstp
      go_upto_region 12 with (go_at_call 22; refine (HWk.out _).mono ?_; rintro r W4 ⟨rfl, rfl⟩)
      go_quiet ((go_at_call 53; exact Calls.quiet_of_same (HTk.out _)))
      have c3q : (W4.drewN nq).cell? ⟨b5, 3, none⟩ = some (.int .i64 (j : Int)) := c3
      have HB2 := hid ((HX.out.below (w' := W4.drewN nq) (below_drewN (Below.refl _ _) nq)).but)
      go_wp2_with fail
      go_ret2
      exact .inr ⟨G2, 111, h2.out, rfl, HB2.out⟩
    have q1 : ((j : Int) == (k : Int)) = false := by simp only [beq_eq_false_iff_ne, ne_eq]; omega
    by_cases e2 : j < k
    · have q2 : decide ((j : Int) < (k : Int)) = true := decide_eq_true (by omega)
      by_cases e3 : fu < 1
      · have q3 : decide (fu < 1) = true := decide_eq_true e3
        obtain ⟨G2, h2⟩ := RS.out 0 (.er 111) (by rw [hstp.out, if_pos rfl, if_pos (.inr ⟨by omega, e3⟩)])
        replace h2 := hid h2
        clear RS hstp
        go_upto_region 12 with (go_at_call 22; refine (HWk.out _).mono ?_; rintro r W4 ⟨rfl, rfl⟩)
        go_quiet ((go_at_call 53; exact Calls.quiet_of_same (HTk.out _)))
        have c3q : (W4.drewN nq).cell? ⟨b5, 3, none⟩ = some (.int .i64 (j : Int)) := c3
        have HB2 := hid ((HX.out.below (w' := W4.drewN nq) (below_drewN (Below.refl _ _) nq)).but)
        go_wp2_with fail
        go_ret2
        exact .inr ⟨G2, 111, h2.out, rfl, HB2.out⟩
      · have q3 : decide (fu < 1) = false := decide_eq_false e3
        have RS2 := hid (fun G r (h : runF l most G j y (fu - 1) out = some r) => RS.out G r (by rw [hstp.out, if_pos rfl, if_neg (by omega), if_pos (by omega), Int.toNat_natCast]; exact h))
        have hfw : wrap64 (fu - 1) = fu - 1 := by unfold wrap64; omega
        have hfw2 : IntKind.i64.wrap (fu - 1) = fu - 1 := IntWalk.i64_in _ (by omega)
        have hfl : fu - 1 ≤ fuel := by omega
        have hms := hid (meas_back fu n k j (by omega))
        clear RS hstp
        go_upto_region 12 with (go_at_call 22; refine (HWk.out _).mono ?_; rintro r W4 ⟨rfl, rfl⟩)
        go_quiet ((go_at_call 53; exact Calls.quiet_of_same (HTk.out _)))
        have c3q : (W4.drewN nq).cell? ⟨b5, 3, none⟩ = some (.int .i64 (j : Int)) := c3
        have HX2 := hid ((HX.out.to hj).below (w' := W4.drewN nq) (below_drewN (Below.refl _ _) nq))
        go_wp2_with fail
        go_roundw
        case rel => exact ⟨j, y, fu - 1, out, rfl, rfl, hfl, hout, HX2, RS2⟩
        case measure => exact hms.out
    · have q2 : decide ((j : Int) < (k : Int)) = false := decide_eq_false (by omega)
      have RS2 := hid (fun G r (h : runF l most G j y fu out = some r) => RS.out G r (by rw [hstp.out, if_pos rfl, if_neg (by omega), if_neg (by omega), Int.toNat_natCast]; exact h))
      have hjk : k < j := by omega
      have hms := hid (meas_on fu.toNat n k j hkn.out hjk)
      clear RS hstp
      go_upto_region 12 with (go_at_call 22; refine (HWk.out _).mono ?_; rintro r W4 ⟨rfl, rfl⟩)
      go_quiet ((go_at_call 53; exact Calls.quiet_of_same (HTk.out _)))
      have c3q : (W4.drewN nq).cell? ⟨b5, 3, none⟩ = some (.int .i64 (j : Int)) := c3
      have HX2 := hid ((HX.out.to hj).below (w' := W4.drewN nq) (below_drewN (Below.refl _ _) nq))
      go_wp2_with fail
      go_roundw
      case rel => exact ⟨j, y, fu, out, rfl, rfl, hfu, hout, HX2, RS2⟩
      case measure => exact hms.out
end Go.Proofs.Ytaogileaeflnfaa
