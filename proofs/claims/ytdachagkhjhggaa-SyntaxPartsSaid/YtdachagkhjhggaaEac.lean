/-
  each: the statements of a list, and those within them, told one behind the other to any closure that keeps a state of its own.
-/
import Derived.Test.YtdachagkhjhggaaRgs
import Derived.Test.YtdachagkhjhggaaDee
import Derived.Shelf.Abstract
namespace Go.Proofs.Ytdachagkhjhggaa
open Go.RowKit
set_option linter.unusedVariables false
set_option linter.unusedSimpArgs false

/-- All that was there stays, but for block g. -/
structure Bu (g : Nat) (w w' : World) : Prop where
  os : w'.os = w.os
  tape : w'.tape = w.tape
  output : w'.output = w.output
  size : w.heap.size ≤ w'.heap.size
  block : ∀ i, i < w.heap.size → i ≠ g → w'.heap[i]? = w.heap[i]?
theorem Bu.refl (g : Nat) (w : World) : Bu g w w := ⟨rfl, rfl, rfl, Nat.le_refl _, fun _ _ _ => rfl⟩
theorem Bu.trans {g : Nat} {a b c : World} (h : Bu g a b) (k : Bu g b c) : Bu g a c :=
  ⟨k.os.trans h.os, k.tape.trans h.tape, k.output.trans h.output, Nat.le_trans h.size k.size, fun i hi hn => (k.block i (Nat.lt_of_lt_of_le hi h.size) hn).trans (h.block i hi hn)⟩
theorem Bu.of_below {g : Nat} {a b : World} (h : Below a.heap.size a b) : Bu g a b := ⟨h.os, h.tape, h.output, h.size, fun i hi _ => h.block i hi⟩
theorem Bu.alloc {g : Nat} {a b : World} (h : Bu g a b) (o : Obj) : Bu g a (b.alloc o) := h.trans (.of_below ((Below.refl _ b).alloc (Nat.le_refl _) o))
theorem Bu.set {g : Nat} {a b : World} (h : Bu g a b) (i : Nat) (u : Value) : Bu g a (b.setCell ⟨g, i, none⟩ u) :=
  ⟨h.os, h.tape, h.output, by rw [World.size_setCell]; exact h.size, fun k hk hn => (Below.heap_setCell b _ u k (fun e => hn e)).trans (h.block k hk hn)⟩
theorem Bu.below {g B : Nat} {a b : World} (h : Bu g a b) (hg : B ≤ g) (hB : B ≤ a.heap.size) : Below B a b :=
  ⟨h.os, h.tape, h.output, h.size, fun i hi => h.block i (by omega) (by omega)⟩
theorem Bu.cell {g : Nat} {a b : World} (h : Bu g a b) {p : Addr} {v : Value} (hc : a.cell? p = some v) (hn : p.block ≠ g) : b.cell? p = some v :=
  (World.cell?_of_block (h.block p.block (lt_cell hc) hn)).trans hc
theorem B13.bu {g : Nat} {w w' : World} {b : Nat} {x : Sd} {vb ve : Value} (h : B13 w b x vb ve) (hb : Bu g w w') (hn : b ≠ g) : B13 w' b x vb ve :=
  ⟨hb.cell h.c0 hn, hb.cell h.c1 hn, hb.cell h.c2 hn, hb.cell h.c3 hn, hb.cell h.c4 hn, hb.cell h.c5 hn, hb.cell h.c6 hn, hb.cell h.c7 hn, hb.cell h.c8 hn, hb.cell h.c9 hn, hb.cell h.c10 hn, hb.cell h.c11 hn, hb.cell h.c12 hn⟩
/-- What a closure makes of all statements, down to so many levels. -/
def Tr.run {S : Type} (step : S → Sd → Nat → Nat → Nat → Bool × S) : Tr → Nat → S → Bool × S
  | .nil, _, s => (true, s)
  | .st _ _ _ _, 0, s => (true, s)
  | .st x b e q, L + 1, s =>
    match step s x b.len e.len L with
    | (false, s1) => (false, s1)
    | (true, s1) =>
      match b.run step L s1 with
      | (false, s2) => (false, s2)
      | (true, s2) =>
        match e.run step L s2 with
        | (false, s3) => (false, s3)
        | (true, s3) => q.run step (L + 1) s3
theorem Tr.run_zero {S : Type} (step : S → Sd → Nat → Nat → Nat → Bool × S) (t : Tr) (s : S) : t.run step 0 s = (true, s) := by cases t <;> rfl
/-- A closure that keeps a state in block g. -/
structure Tel {S : Type} (f g : Nat) (caps : Array Value) (St : S → World → Prop) (step : S → Sd → Nat → Nat → Nat → Bool × S) : Prop where
  later : ∀ s w w', St s w → Below w.heap.size w w' → St s w'
  lt : ∀ s w, St s w → g < w.heap.size
  tell : ∀ s w x (Ab : Option Addr) nb cb (Ae : Option Addr) ne ce (L : Nat), St s w → Calls Try.prog f (#[vS x (.slice Ab nb cb) (.slice Ae ne ce), .int .i64 (L : Int)] ++ caps) w fun e w' => e = .returned (.bool (step s x nb ne L).1) ∧ St (step s x nb ne L).2 w' ∧ Bu g w w'
  enter : ∀ args w, (callFunc f args).run Try.prog w = .ok (.enter f args) w
set_option maxRecDepth 10000 in
set_option maxHeartbeats 8000000 in
theorem each_any {S : Type} {f g : Nat} {caps : Array Value} {St : S → World → Prop} {step : S → Sd → Nat → Nat → Nat → Bool × S} (H : Tel f g caps St step) (m : Nat) : ∀ (t : Tr), t.sz < m → ∀ (B : Nat) (A : Option Addr) (n c L : Nat) (s : S) (w : World), Sl w B t A n c → B ≤ g → St s w → L ≤ 1000 →
    Calls Try.prog 19 #[.slice A n c, .int .i64 L, .func (.func f) #[] caps] w fun e w' => e = .returned (.bool (t.run step L s).1) ∧ St (t.run step L s).2 w' ∧ Bu g w w' := by
  induction m with
  | zero => intro t ht; omega
  | succ m ih =>
    intro t ht B A n c L s w hS hBg hst hL
    have hsml := hS.sml
    by_cases h0 : L = 0
    · subst h0
      rw [Tr.run_zero]
      have HI := hid hst
      clear hS ih H hst
      go_enter Try.func19, Try.ntmps19
      go_wp2
      go_ret
      exact ⟨rfl, HI.out, Bu.refl _ _⟩
    obtain ⟨L1, rfl⟩ : ∃ L1, L = L1 + 1 := ⟨L - 1, by omega⟩
    have HH := hid H
    have he := H.enter
    have HB := hid hS.rest
    have HSt := hid hst
    have HSL := hid (And.intro ht (And.intro hL (And.intro hBg (H.lt _ _ hst))))
    have IH := hid (fun t h => ih t h)
    obtain ⟨LZ, hLZ⟩ : ∃ LZ : Int, ((L1 + 1 : Nat) : Int) = LZ := ⟨_, rfl⟩
    have hLZ1 : (LZ == 0) = false := by simp only [beq_eq_false_iff_ne, ne_eq]; omega
    have hLZ2 : LZ - 1 = (L1 : Int) := by omega
    have hLZ3 : 0 ≤ LZ ∧ LZ ≤ 1000 := by omega
    rw [hLZ]
    clear hS ih H hst hLZ hL h0 hBg
    go_enter Try.func19, Try.ntmps19
    go_wp2_with fail
    go_loopw [13] (fun v13 wr => ∃ (i : Nat) (t' : Tr) (s' : S), v13 = .int .i64 (i : Nat) ∧ Hid (Rest wr B t' A i n) ∧ Hid (Bu g w wr) ∧ Hid (St s' wr) ∧ Hid (t'.run step (L1 + 1) s' = t.run step (L1 + 1) s ∧ t'.sz ≤ t.sz)) (fun v13 _ => n - (intOf v13).toNat)
    case atStart => exact ⟨0, t, s, rfl, HB, hid (Bu.refl _ _), HSt, hid ⟨rfl, Nat.le_refl _⟩⟩
    case round =>
      obtain ⟨i, t', s', rfl, HR, HW, HS2, HI⟩ := hrel
      have hi := HR.out.le
      by_cases hlt : i < n
      · have hltz : (i : Int) < (n : Int) := by omega
        obtain ⟨x, b, e, q, ad, Ab, nb, cb, Ae, ne, ce, rfl, rfl, hab, hat, hb, he2, hq⟩ := HR.out.at hlt
        have HQ := hid hq
        have HBE := hid (And.intro hb he2)
        obtain ⟨c0, c1, c2, c3, c4, c5, c6, c7, c8, c9, c10, c11, c12⟩ := hat
        have HM := hid (b13_made wr x (.slice Ab nb cb) (.slice Ae ne ce))
        have HM2 := hid ((Below.refl wr.heap.size wr).alloc (Nat.le_refl _) (.cells #[.int .u8 x.k, .int .u8 x.o, .int .i64 x.d, .int .i64 x.s, .int .i64 x.n, .bool x.nt, .int .u8 x.co, .int .i64 x.cd, .int .i64 x.cs, .int .i64 x.cn, .slice Ab nb cb, .slice Ae ne ce, .int .i64 x.ln] 42))
        obtain ⟨r1, s1, hst⟩ : ∃ r1 s1, step s' x nb ne L1 = (r1, s1) := ⟨_, _, rfl⟩
        obtain ⟨r2, s2, hb2⟩ : ∃ r2 s2, b.run step L1 s1 = (r2, s2) := ⟨_, _, rfl⟩
        obtain ⟨r3, s3, he3⟩ : ∃ r3 s3, e.run step L1 s2 = (r3, s3) := ⟨_, _, rfl⟩
        have hrun : t.run step (L1 + 1) s = if r1 then (if r2 then (if r3 then q.run step (L1 + 1) s3 else (false, s3)) else (false, s2)) else (false, s1) := by
          rw [← HI.out.1]
          simp only [Tr.run, hb.len, he2.len, hst]
          cases r1
          · rfl
          simp only [hb2]
          cases r2
          · rfl
          simp only [he3]
          cases r3 <;> rfl
        have HRun := hid hrun
        have HT := hid (fun w h => HH.out.tell s' w x Ab nb cb Ae ne ce L1 h)
        rw [hst] at HT
        have HST := hid (HH.out.later _ _ _ HS2.out HM2.out)
        have hbz : b.sz < m ∧ e.sz < m ∧ q.sz ≤ t.sz := by
          have h1 := HI.out.2
          have h2 := HSL.out.1
          simp only [Tr.sz] at h1
          omega
        have hgw : g < wr.heap.size := Nat.lt_of_lt_of_le HSL.out.2.2.2 HW.out.size
        have HG := hid hgw
        have HLs := hid hbz
        have C1 := hid (fun w' (h : Bu g wr w') (k : St s1 w') => IH.out b hbz.1 B Ab nb cb L1 s1 w' (hb.below (h.below HSL.out.2.2.1 (by have := HSL.out; omega))) HSL.out.2.2.1 k (by have := HSL.out; omega))
        have C2 := hid (fun w' (h : Bu g wr w') (k : St s2 w') => IH.out e hbz.2.1 B Ae ne ce L1 s2 w' (he2.below (h.below HSL.out.2.2.1 (by have := HSL.out; omega))) HSL.out.2.2.1 k (by have := HSL.out; omega))
        rw [hb2] at C1
        rw [he3] at C2
        clear hb he2 hq hst hb2 he3 hrun hbz hgw HB HSt HS2 HI
        unfold vS at HT
        go_wp2_with fail
        refine (HT.out _ HST.out).mono ?_
        rintro r w2 ⟨rfl, hs2, b2⟩
        have HS3 := hid hs2
        have HB2 : Hid (Bu g wr w2) := (Bu.of_below HM2.out).trans b2
        have HX := hid (HM.out.bu b2 (by have := HG.out; omega))
        clear hs2 b2 HT HST HM HM2 c0 c1 c2 c3 c4 c5 c6 c7 c8 c9 c10 c11 c12
        dsimp only at *
        have k10 := HX.out.c10
        cases r1
        · clear C1 C2
          go_wp2_with fail
          go_ret
          exact ⟨by rw [HRun.out]; rfl, by rw [HRun.out]; exact HS3.out, HW.out.trans HB2.out⟩
        cases r2
        · go_wp2_with (go_at_call 19; (with_reducible refine (C1.out _ HB2.out HS3.out).mono ?_); rintro r w3 ⟨rfl, hs3, b3⟩; have HS4 := hid hs3; have HB3 := hid (HB2.out.trans b3); have k11 := (HX.out.bu b3 (by have := HG.out; omega)).c11; clear hs3 b3)
          go_ret
          exact ⟨by rw [HRun.out]; rfl, by rw [HRun.out]; exact HS4.out, HW.out.trans HB3.out⟩
        · go_wp2_with (go_at_call 19; first
            | ((with_reducible refine (C1.out _ HB2.out HS3.out).mono ?_); rintro r w3 ⟨rfl, hs3, b3⟩; have HS4 := hid hs3; have HB3 := hid (HB2.out.trans b3); have k11 := (HX.out.bu b3 (by have := HG.out; omega)).c11; clear hs3 b3)
            | ((with_reducible refine (C2.out _ HB3.out HS4.out).mono ?_); rintro r w4 ⟨rfl, hs4, b4⟩; have HS5 := hid hs4; have HB4 := hid (HB3.out.trans b4); clear hs4 b4; cases r3))
          · go_ret
            exact ⟨by rw [HRun.out]; rfl, by rw [HRun.out]; exact HS5.out, HW.out.trans HB4.out⟩
          · go_roundw
            case rel =>
              refine ⟨i + 1, q, s3, by go_num, hid (HQ.out.below (HB4.out.below HSL.out.2.2.1 (by have := HSL.out; have := HG.out; omega))), hid (HW.out.trans HB4.out), HS5, hid ⟨?_, HLs.out.2.2⟩⟩
              rw [HRun.out]; rfl
            case measure => simp [intOf]; omega
      · obtain rfl : i = n := by omega
        obtain rfl := HR.out.end
        go_wp2_with fail
        go_ret
        have h := HI.out.1
        simp only [Tr.run] at h
        exact ⟨by rw [← h]; rfl, by rw [← h]; exact HS2.out, HW.out⟩
end Go.Proofs.Ytdachagkhjhggaa
