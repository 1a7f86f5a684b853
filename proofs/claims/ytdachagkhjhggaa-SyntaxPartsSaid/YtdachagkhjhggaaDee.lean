/-
  deep, Deep: how many statements, no more than so many.
-/
import Derived.Test.YtdachagkhjhggaaTre
namespace Go.Proofs.Ytdachagkhjhggaa
open Go.RowKit
set_option linter.unusedVariables false
set_option linter.unusedSimpArgs false

/-- A whole number in a block of its own. -/
def Num (w : World) (g : Nat) (z : Int) : Prop := w.heap[g]? = some (.cells #[.int .i64 z] 3 (0, 0))
theorem Num.cell {w : World} {g : Nat} {z : Int} (h : Num w g z) : w.cell? ⟨g, 0, none⟩ = some (.int .i64 z) := row_cell h 0
theorem Num.free {w : World} {g : Nat} {z : Int} (h : Num w g z) : w.frozen? ⟨g, 0, none⟩ = false := row_free h 0
theorem Num.lt {w : World} {g : Nat} {z : Int} (h : Num w g z) : g < w.heap.size := lt_of_heap h
theorem Num.set {w : World} {g : Nat} {z : Int} (h : Num w g z) (y : Int) : Num (w.setCell ⟨g, 0, none⟩ (.int .i64 y)) g y := row_set h 0 _
theorem Num.below {w w' : World} {g B : Nat} {z : Int} (h : Num w g z) (hb : Below B w w') (hg : g < B) : Num w' g z := (hb.block g hg).trans h
theorem keepc {g : Nat} {w w' : World} {p : Addr} {v : Value} (hb : Below g w w') (hp : p.block < g) (h : w.cell? p = some v) : w'.cell? p = some v := (hb.cell hp).trans h
set_option maxRecDepth 10000 in
set_option maxHeartbeats 4000000 in
theorem deep_any (m : Nat) : ∀ (t : Tr), t.sz < m → ∀ (B g : Nat) (A : Option Addr) (n c L N : Nat) (w : World), Sl w B t A n c → B ≤ g → Num w g N → N ≤ 3000 → L ≤ 60 →
    Calls Try.prog 16 #[.slice A n c, .int .i64 L, .int .i64 3000, .pointer (some ⟨g, 0, none⟩)] w fun e w' => ∃ r, e = .returned (.bool r) ∧ ∃ N' : Nat, Num w' g N' ∧ Below g w w' ∧ (r = false → N' = N + t.sz ∧ N' ≤ 3000) := by
  induction m with
  | zero => intro t ht; omega
  | succ m ih =>
    intro t ht B g A n c L N w hS hg hN hN3 hL
    have hsml := hS.sml
    have HC := hN.cell
    have HF := hN.free
    by_cases h1 : 3000 < N + n
    · have h1z : (3000 : Int) < (N : Int) + (n : Int) := by omega
      have HN := hid hN
      have hx := hid (hN.set ((N : Int) + (n : Int)))
      clear hS ih hN
      go_enter Try.func16, Try.ntmps16
      go_wp2_with fail
      go_ret
      exact ⟨_, rfl, N + n, by push_cast; exact hx.out, below_set (Below.refl _ _) _ _ (Nat.le_refl _), fun h => by cases h⟩
    by_cases h2 : 0 < n ∧ L = 0
    · obtain ⟨h2, rfl⟩ := h2
      have h1z : (N : Int) + (n : Int) ≤ 3000 := by omega
      have h2z : (0 : Int) < (n : Int) := by omega
      have HN := hid hN
      have hx := hid (hN.set ((N : Int) + (n : Int)))
      clear hS ih hN h1
      go_enter Try.func16, Try.ntmps16
      go_wp2_with fail
      go_ret
      exact ⟨_, rfl, N + n, by push_cast; exact hx.out, below_set (Below.refl _ _) _ _ (Nat.le_refl _), fun h => by cases h⟩
    have h1z : (N : Int) + (n : Int) ≤ 3000 := by omega
    have HB := hid hS
    have HN := hid hN
    have hx := hid (hN.set ((N : Int) + (n : Int)))
    have bx := hid (below_set (Below.refl g w) ⟨g, 0, none⟩ (.int .i64 ((N : Int) + (n : Int))) (Nat.le_refl _))
    have HL := hid (And.intro h1 (And.intro h2 (And.intro hN3 hL)))
    have HSL := hid (And.intro ht hS.len)
    by_cases h3 : n = 0
    · subst h3
      have e : t.sz = 0 := by
        have := Tr.len_nil hS.len
        subst this; rfl
      have h0z : ((N : Int) + 0) = (N : Int) := by omega
      have hN' := hid (hN.set (N : Int))
      have bx' := hid (below_set (Below.refl g w) ⟨g, 0, none⟩ (.int .i64 (N : Int)) (Nat.le_refl _))
      clear hS ih hN h1 h2 HB
      go_enter Try.func16, Try.ntmps16
      go_wp2_with fail
      go_loopw [9] (fun v9 wr => v9 = .int .i64 0 ∧ wr = w.setCell ⟨g, 0, none⟩ (.int .i64 (N : Int))) (fun v9 _ => 0)
      case atStart => exact ⟨rfl, by simp⟩
      case round =>
        obtain ⟨rfl, rfl⟩ := hrel
        go_wp2_with fail
        go_ret
        exact ⟨_, rfl, N, hN'.out, bx'.out, fun _ => ⟨by omega, HL.out.2.2.1⟩⟩
    have hn0 : (0 : Int) < (n : Int) := by omega
    have hL1 : ¬ ((L : Int) < 1) := by omega
    have hL1d : decide ((L : Int) < 1) = false := decide_eq_false hL1
    have IH := hid (fun t h => ih t h)
    clear hS ih hN h1 h2 
    go_enter Try.func16, Try.ntmps16
    go_wp2_with fail
    go_loopw [9] (fun v9 wr => ∃ (i N' : Nat) (t' : Tr), v9 = .int .i64 (i : Nat) ∧ Hid (Rest wr B t' A i n) ∧ Hid (Num wr g N') ∧ Hid (Below g w wr) ∧ Hid (N' ≤ 3000 ∧ N' + t'.sz = N + t.sz + t'.len ∧ t'.sz ≤ t.sz)) (fun v9 _ => n - (intOf v9).toNat)
    case atStart => exact ⟨0, N + n, t, rfl, hid (HB.out.rest.below (B := B) (bx.out.mono hg)), by push_cast; exact hx, bx, by show _ ∧ _; have := HL.out; have := HSL.out; omega⟩
    case round =>
      obtain ⟨i, N', t', rfl, HR, HN2, HB2, HI⟩ := hrel
      have hi := HR.out.le
      by_cases hlt : i < n
      · obtain ⟨x, b, e, q, ad, Ab, nb, cb, Ae, ne, ce, rfl, rfl, hab, hat, hb, he, hq⟩ := HR.out.at hlt
        have a10 := hat.c10
        have a11 := hat.c11
        have HC2 := HN2.out.cell
        have HF2 := HN2.out.free
        have HAB : Hid ((ad.add (i * 13)).block < g) := by show _ < _; rw [block_of_add]; omega
        have HBb := hid hb
        have HBe := hid he
        have HQ := hid hq
        have hsz : b.sz < m ∧ e.sz < m := by
          have h1 := HSL.out.1
          have h2 := HI.out.2.2
          have h5 : (Tr.st x b e q).sz = 1 + b.sz + e.sz + q.sz := rfl
          omega
        have HZ := hid hsz
        obtain ⟨L1, hL2⟩ : ∃ L1 : Nat, (L : Int) - 1 = (L1 : Int) := ⟨L - 1, by omega⟩
        clear hat hb he hq hsz
        have C1 := hid (IH.out b HZ.out.1 B g Ab nb cb L1 N' wr HBb.out hg HN2.out HI.out.1 (by have := HL.out; omega))
        have C2 := hid (fun w1 (N1 : Nat) (h1 : Num w1 g N1) (h2 : Below g w wr → Below g wr w1) (h3 : N1 ≤ 3000) => IH.out e HZ.out.2 B g Ae ne ce L1 N1 w1 (HBe.out.below ((h2 HB2.out).mono hg)) hg h1 h3 (by have := HL.out; omega))
        go_wp2_with (go_at_call 16; (with_reducible refine C1.out.mono ?_); rintro e1 w1 ⟨r1, rfl, N1, hn1, hb1, hr1⟩; have HN3 := hid hn1; have HB3 := hid hb1; have HR3 := hid hr1; have a11' := keepc (p := ⟨(ad.add (i * 13)).block, (ad.add (i * 13)).off + 11, none⟩) hb1 HAB.out a11; clear hn1 hb1 hr1; rcases r1 with _ | _)
        · refine (C2.out w1 N1 HN3.out (fun _ => HB3.out) (HR3.out trivial).2).mono ?_
          rintro e2 w2 ⟨r2, rfl, N2, hn2, hb2, hr2⟩
          have HN4 := hid hn2
          have HB4 := hid hb2
          have HR4 := hid hr2
          have HR5 := hid (HR3.out trivial)
          clear hn2 hb2 hr2 HR3 C2 C1
          rcases r2 with _ | _
          · dsimp only
            go_wp2_with fail
            go_roundw
            case rel =>
              have hbl : Below g wr w2 := HB3.out.trans HB4.out
              refine ⟨i + 1, N2, q, by go_num, HQ.out.below (hbl.mono hg), HN4, HB2.out.trans hbl, ?_⟩
              have h1 := HI.out
              have h2 := HR4.out rfl
              have h3 := HR5.out
              have h5 : (Tr.st x b e q).sz = 1 + b.sz + e.sz + q.sz := rfl
              have h6 : (Tr.st x b e q).len = q.len + 1 := rfl
              exact ⟨h2.2, by omega, by omega⟩
            case measure => simp [intOf]; omega
          · dsimp only
            go_wp2_with fail
            go_ret
            exact ⟨_, rfl, N2, HN4.out, HB2.out.trans (HB3.out.trans HB4.out), fun h => by cases h⟩
        · go_ret
          exact ⟨_, rfl, N1, HN3.out, HB2.out.trans HB3.out, fun h => by cases h⟩
      · obtain rfl : i = n := by omega
        obtain rfl := HR.out.end
        go_wp2_with fail
        go_ret
        exact ⟨_, rfl, N', HN2.out, HB2.out, fun _ => by have := HI.out; simp only [Tr.sz, Tr.len] at this; omega⟩
set_option maxRecDepth 10000 in
set_option maxHeartbeats 4000000 in
/-- Deep, of 60 levels and 3000 statements: what is not too deep has no more than 3000. -/
theorem Deep_any (t : Tr) (A : Option Addr) (n c : Nat) (w : World) (h : Sl w w.heap.size t A n c) :
    Calls Try.prog 5 #[.slice A n c, .int .i64 60, .int .i64 3000] w fun e w' => ∃ r, e = .returned (.bool r) ∧ Below w.heap.size w w' ∧ (r = false → t.sz ≤ 3000) := by
  have hn : Num (w.alloc (.cells #[.int .i64 0] 3)) w.heap.size ((0 : Nat) : Int) := heap_alloc_new w _
  have HC := hid (deep_any (t.sz + 1) t (by omega) w.heap.size w.heap.size A n c 60 0 (w.alloc (.cells #[.int .i64 0] 3)) (h.below ((Below.refl _ _).alloc (Nat.le_refl _) _)) (Nat.le_refl _) hn (by omega) (by omega))
  clear h hn
  go_enter Try.func5, Try.ntmps5
  go_wp2_with (go_at_call 16; (refine HC.out.mono ?_); rintro e1 w1 ⟨r1, rfl, N1, hn1, hb1, hr1⟩; have HN3 := hid hn1; have HB3 := hid hb1; have HR3 := hid hr1; clear hn1 hb1 hr1)
  go_ret
  exact ⟨r1, rfl, ((Below.refl _ _).alloc (Nat.le_refl _) _).trans HB3.out, fun h => by have := HR3.out h; omega⟩
end Go.Proofs.Ytdachagkhjhggaa
