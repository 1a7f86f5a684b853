/-
  A disk, its files, and what lay ahead of them: the calls' contracts for a caller.
-/
import Derived.Test.YtpeepohiajmhcaaCrt
import Derived.Test.YtpeepohiajmhcaaFra
import Derived.Test.YtpeepohiajmhcaaZa
namespace Go.Proofs.Ytpeepohiajmhcaa
open Go.RowKit

theorem trn_trn (o : Option En) (a : Nat) (l : List UInt8) : trn o a (trn o a l) = l := by
  cases o with
  | none => rfl
  | some e => exact c.turnL_turnL _ _ _ _
set_option maxRecDepth 10000 in
set_option maxHeartbeats 1000000 in
/-- The disk is shorter than what stands ahead. -/
theorem FTrunc_over {B : Nat} {S : Nat → Prop} {w : World} {g : Nat} {F L : Value} {d : Dk} {e : Int} {h : Nat} {o : Option En} (hd : DkAt B S w g F L d e) (f : FlAt S w h g o) (hz : d.now.length < ahd o) :
    Calls Try.prog 13 #[.pointer (some ⟨h, 0, none⟩), .int .i64 0] w fun r w' => r = .returned (.int .i64 2) ∧ DkAt B S w' g F L d e ∧ But S w w' := by
  have HM := hid (fmade_any f)
  have HZ := hid (FSize_any hd f)
  have hT := Truncate_bad (hd.drewN 2) (ahd o : Nat) (by omega)
  obtain ⟨_, c1, c2, _⟩ := f.cells
  have Hc1 := hid c1
  have Hc2 := hid c2
  have HO : Hid (¬ S h) := f.out
  have hz0 : d.now.length - ahd o = 0 := by omega
  rw [hz0] at HZ
  rw [show ((0 : Nat) : Int) = 0 from rfl] at HZ
  have hle := ahd_le o
  obtain ⟨a, ha⟩ : ∃ a, ahd o = a := ⟨_, rfl⟩
  rw [ha] at c2 Hc2 hT hle
  have HT := hid hT
  have hs : IntKind.i64.wrap ((a : Int) + 0) = (a : Int) := by rw [IntWalk.i64_in _ (by omega)]; omega
  have hs2 : IntKind.i64.wrap (a : Int) = (a : Int) := by rw [IntWalk.i64_in _ (by omega)]
  have B0 : Hid (But S w (w.drewN 2)) := (But.refl S w).drewN 2
  clear f hd hz ha hz0 hT
  go_enter Try.func13, Try.ntmps13
  go_wp2_with (first
    | (go_at_call 33; (with_reducible refine HM.out.mono ?_); rintro r w' ⟨rfl, rfl⟩)
    | (go_at_call 14; (with_reducible refine HZ.out.mono ?_); rintro r w' ⟨rfl, rfl⟩))
  go_region_held3 (fun w' => w'.cell? ⟨h, 1, none⟩ = some (.pointer (some ⟨g, 0, none⟩)) ∧ w'.cell? ⟨h, 2, none⟩ = some (.int .i64 (a : Nat))) (first | go_keep | exact ⟨k1, k2⟩)
    (first | (go_at_call 15; (with_reducible refine HT.out.mono ?_); rintro r w3 ⟨rfl, h3, s3⟩; have k1 := s3.cell (p := ⟨h, 1, none⟩) Hc1.out HO.out; have k2 := s3.cell (p := ⟨h, 2, none⟩) Hc2.out HO.out; have H3 := hid h3; have S3 := hid s3; clear h3 s3))
  all_goals
    go_wp2_with fail
    go_ret
    exact ⟨rfl, H3.out, B0.out.trans S3.out (fun i hi => .inl hi)⟩
/-- A list of bytes of another's. -/
structure Kb where
  A : Option Addr
  n : Nat
  c : Nat
  l : List UInt8
/-- The disk d in block g; its files; others' bytes; all that lay below base stands as it did in w0. -/
structure Cy (base : Nat) (w0 W : World) (g : Nat) (d : Dk) (Fs : List (Nat × Option En)) (Ks : List Kb) : Prop where
  ex : ∃ S F L e, DkAt base S W g F L d e ∧ (∀ p, p ∈ Fs → FlAt S W p.1 g p.2) ∧ (∀ p, p ∈ Ks → Out S W p.A p.n p.c p.l)
  bel : Below base w0 W
theorem Cy.to {base : Nat} {w0 W W' : World} {g : Nat} {S S' : Nat → Prop} {F L F' L' : Value} {d d' : Dk} {e e' : Int} {Fs : List (Nat × Option En)} {Ks : List Kb} (hb : Below base w0 W) (h : DkAt base S W g F L d e) (hf : ∀ p, p ∈ Fs → FlAt S W p.1 g p.2) (hk : ∀ p, p ∈ Ks → Out S W p.A p.n p.c p.l) (h' : DkAt base S' W' g F' L' d' e') (s : Stp S S' W W') : Cy base w0 W' g d' Fs Ks := by
  have hs := (h.lt g h.sg)
  exact ⟨⟨S', F', L', e', h', fun p hp => (hf p hp).stp s, fun p hp => (hk p hp).stp s⟩, hb.trans (s.but.below (fun i hi => (h.lt i hi).1) (by omega))⟩
theorem Cy.below {base : Nat} {w0 W W' : World} {g : Nat} {d : Dk} {Fs : List (Nat × Option En)} {Ks : List Kb} (h : Cy base w0 W g d Fs Ks) (b : Below W.heap.size W W') : Cy base w0 W' g d Fs Ks := by
  obtain ⟨⟨S, F, L, e, hd, hf, hk⟩, hb⟩ := h
  exact Cy.to hb hd hf hk (hd.below b) (.of_below b)
theorem Cy.more {base : Nat} {w0 W : World} {g : Nat} {S : Nat → Prop} {F L : Value} {d : Dk} {e : Int} {Fs : List (Nat × Option En)} {Ks : List Kb} {h : Nat} {o : Option En} (c : Cy base w0 W g d Fs Ks) (hd : DkAt base S W g F L d e) (hf : ∀ p, p ∈ Fs → FlAt S W p.1 g p.2) (hk : ∀ p, p ∈ Ks → Out S W p.A p.n p.c p.l) (f : FlAt S W h g o) : Cy base w0 W g d ((h, o) :: Fs) Ks :=
  ⟨⟨S, F, L, e, hd, fun p hp => by rcases List.mem_cons.1 hp with rfl | h1; exact f; exact hf p h1, hk⟩, c.bel⟩
theorem Cy.new (m : Nat) (W : World) (hm : m ≤ 4194304) : Calls Try.prog 6 #[.int .i64 (m : Nat)] W fun r w' => ∃ g, r = .returned (.tuple #[.pointer (some ⟨g, 0, none⟩), .int .i64 0]) ∧ Cy W.heap.size W w' g (Dk.load m []) [] [] := by
  refine (New_any m W hm).mono ?_
  rintro r w' ⟨g, S, F, rfl, h, b⟩
  exact ⟨g, rfl, ⟨S, F, _, 0, h, fun p hp => absurd hp (by simp), fun p hp => absurd hp (by simp)⟩, b⟩
section
variable {base : Nat} {w0 W : World} {g : Nat} {d : Dk} {Fs : List (Nat × Option En)} {Ks : List Kb}
theorem Cy.keep (h : Cy base w0 W g d Fs Ks) {A : Option Addr} {n c : Nat} {l : List UInt8} (hm : (⟨A, n, c, l⟩ : Kb) ∈ Ks) : IsB W A n c l := by
  obtain ⟨⟨S, F, L, e, hd, hf, hk⟩, hb⟩ := h
  exact (hk _ hm).toIsB
theorem Cy.size (h : Cy base w0 W g d Fs Ks) : Calls Try.prog 10 #[.pointer (some ⟨g, 0, none⟩)] W fun r w' => r = .returned (.int .i64 (d.now.length : Nat)) ∧ W = w' := by
  obtain ⟨⟨S, F, L, e, hd, hf, hk⟩, hb⟩ := h; exact Size_any hd
theorem Cy.image (h : Cy base w0 W g d Fs Ks) : Calls Try.prog 23 #[.pointer (some ⟨g, 0, none⟩)] W fun r w' => ∃ A c, r = .returned (.slice A d.now.length c) ∧ IsB w' A d.now.length c d.now ∧ Cy base w0 w' g d Fs Ks := by
  have h' := h
  obtain ⟨⟨S, F, L, e, hd, hf, hk⟩, hb⟩ := h
  have hmx := hd.ok.mx
  have hm4 := hd.ok.m4
  refine (Image_any hd).mono ?_
  rintro r w' ⟨v, rfl, ho, b⟩
  obtain ⟨A, c, rfl, hI⟩ := own_isBB ho (by omega)
  exact ⟨A, c, rfl, hI.toIsB, h'.below b⟩
theorem Cy.trunc (h : Cy base w0 W g d Fs Ks) (n : Nat) (z : Int) (hz : z = (n : Int)) (hn : n ≤ d.now.length) {d' : Dk} {c : Nat} (hd' : d.trunc n = (d', c)) : Calls Try.prog 15 #[.pointer (some ⟨g, 0, none⟩), .int .i64 z] W fun r w' => r = .returned (.int .i64 (c : Nat)) ∧ Cy base w0 w' g d' Fs Ks := by
  subst hz
  obtain ⟨⟨S, F, L, e, hd, hf, hk⟩, hb⟩ := h
  refine (Truncate_any hd n hn).mono ?_
  rw [hd']
  rintro r w' ⟨rfl, F', L', S', h1, s1⟩
  exact ⟨rfl, Cy.to hb hd hf hk h1 s1⟩
theorem Cy.fail (h : Cy base w0 W g d Fs Ks) (n x : Int) (hn : n ≤ 9223372036854775807) {d' : Dk} {c : Nat} (hd' : d.fail n x = (d', c)) : Calls Try.prog 9 #[.pointer (some ⟨g, 0, none⟩), .int .i64 n, .int .i64 x] W fun r w' => r = .returned (.int .i64 (c : Nat)) ∧ Cy base w0 w' g d' Fs Ks := by
  obtain ⟨⟨S, F, L, e, hd, hf, hk⟩, hb⟩ := h
  refine (Fail_any hd n x hn).mono ?_
  rw [hd']
  rintro r w' ⟨rfl, ⟨e', h1⟩, b1⟩
  exact ⟨rfl, Cy.to hb hd hf hk h1 (.of_but (hd.butg b1))⟩
theorem Cy.plain (h : Cy base w0 W g d Fs Ks) (h0 : d.now.length = 0) : Calls Try.prog 7 #[.pointer (some ⟨g, 0, none⟩), .slice none 0 0, .slice none 0 0] W fun r w' => ∃ k, r = .returned (.tuple #[.pointer (some ⟨k, 0, none⟩), .int .i64 0]) ∧ Cy base w0 w' g d ((k, none) :: Fs) Ks := by
  have h' := h
  obtain ⟨⟨S, F, L, e, hd, hf, hk⟩, hb⟩ := h
  refine (Create_plain S (fun i hi => (hd.lt i hi).2) hd h0 none none 0 0).mono ?_
  rintro r w' ⟨k, rfl, f, b, _⟩
  exact ⟨k, rfl, (h'.below b).more (hd.below b) (fun p hp => (hf p hp).below b) (fun p hp => (hk p hp).stp (.of_below b)) f⟩
theorem Cy.state (h : Cy base w0 W g d Fs Ks) (h0 : d.now.length ≠ 0) (A A2 : Option Addr) (n cap m cap2 : Nat) : Calls Try.prog 7 #[.pointer (some ⟨g, 0, none⟩), .slice A n cap, .slice A2 m cap2] W fun r w' => r = .returned (.tuple #[.pointer none, .int .i64 20]) ∧ W = w' := by
  obtain ⟨⟨S, F, L, e, hd, hf, hk⟩, hb⟩ := h; exact Create_state hd h0 A A2 n cap m cap2
theorem Cy.arg (h : Cy base w0 W g d Fs Ks) (h0 : d.now.length = 0) (A A2 : Option Addr) (n cap m cap2 : Nat) (hb : (n = 0 ∧ m ≠ 0) ∨ (n ≠ 0 ∧ m ≠ 32)) : Calls Try.prog 7 #[.pointer (some ⟨g, 0, none⟩), .slice A n cap, .slice A2 m cap2] W fun r w' => r = .returned (.tuple #[.pointer none, .int .i64 2]) ∧ W = w' := by
  obtain ⟨⟨S, F, L, e, hd, hf, hk⟩, _⟩ := h; exact Create_arg hd h0 A A2 n cap m cap2 hb
theorem Cy.short (h : Cy base w0 W g d Fs Ks) (h0 : d.now.length < 32) (A : Option Addr) (n cap : Nat) (hn : n ≠ 0) : Calls Try.prog 8 #[.pointer (some ⟨g, 0, none⟩), .slice A n cap] W fun r w' => r = .returned (.tuple #[.pointer none, .int .i64 12]) ∧ W = w' := by
  obtain ⟨⟨S, F, L, e, hd, hf, hk⟩, _⟩ := h; exact Open_short hd h0 A n cap hn
/-- Bytes laid since W1, where the disk lay already. -/
structure Late (W1 W : World) (A : Option Addr) (n cap : Nat) (l : List UInt8) : Prop where
  is : IsBB W W.heap.size A n cap l
  ge : 0 < l.length → ∀ ad, A = some ad → W1.heap.size ≤ ad.block
theorem Late.below {W1 W W' : World} {A : Option Addr} {n cap : Nat} {l : List UInt8} (h : Late W1 W A n cap l) (b : Below W.heap.size W W') : Late W1 W' A n cap l := ⟨h.is.on b, h.ge⟩
theorem Late.out {W1 W : World} {A : Option Addr} {n cap : Nat} {l : List UInt8} {S : Nat → Prop} (h : Late W1 W A n cap l) (hS : ∀ i, S i → i < W1.heap.size) : Out S W A n cap l := h.is.out_new h.ge hS
theorem Cy.app {W1 : World} (h1 : Cy base w0 W1 g d Fs Ks) (b1 : Below W1.heap.size W1 W) {A A2 : Option Addr} {n cap m : Nat} {salt : List UInt8} (hn : n ≠ 0) (hs : Late W1 W A2 32 m salt) (h0 : d.now.length = 0) {d1 : Dk} {x : Nat} (e1 : d.app salt = (d1, x)) (hx : x ≠ 0) :
    Calls Try.prog 7 #[.pointer (some ⟨g, 0, none⟩), .slice A n cap, .slice A2 32 m] W fun r w' => r = .returned (.tuple #[.pointer none, .int .i64 (x : Nat)]) ∧ Cy base w0 w' g d1 Fs Ks := by
  have h' := h1.below b1
  obtain ⟨⟨S, F, L, e, hd, hf, hk⟩, hb⟩ := h1
  refine (Create_app (hd.below b1) h0 A A2 n cap m salt hn (hs.out (fun i hi => (hd.lt i hi).2)) e1 hx).mono ?_
  rintro r w' ⟨rfl, F', S', h2, s2⟩
  exact ⟨rfl, Cy.to hb hd hf hk h2 ((Stp.of_below b1).trans s2)⟩
theorem Cy.syn {W1 : World} (h1 : Cy base w0 W1 g d Fs Ks) (b1 : Below W1.heap.size W1 W) {A A2 : Option Addr} {n cap m : Nat} {salt : List UInt8} (hn : n ≠ 0) (hs : Late W1 W A2 32 m salt) (h0 : d.now.length = 0) {d1 d2 : Dk} {x : Nat} (e1 : d.app salt = (d1, 0)) (e2 : d1.syn = (d2, x)) (hx : x ≠ 0) :
    Calls Try.prog 7 #[.pointer (some ⟨g, 0, none⟩), .slice A n cap, .slice A2 32 m] W fun r w' => r = .returned (.tuple #[.pointer none, .int .i64 (x : Nat)]) ∧ Cy base w0 w' g d2 Fs Ks := by
  obtain ⟨⟨S, F, L, e, hd, hf, hk⟩, hb⟩ := h1
  refine (Create_syn (hd.below b1) h0 A A2 n cap m salt hn (hs.out (fun i hi => (hd.lt i hi).2)) e1 e2 hx).mono ?_
  rintro r w' ⟨rfl, F', L', S', h2, s2⟩
  exact ⟨rfl, Cy.to hb hd hf hk h2 ((Stp.of_below b1).trans s2)⟩
theorem Cy.good {W1 : World} (h1 : Cy base w0 W1 g d Fs Ks) (b1 : Below W1.heap.size W1 W) {A A2 : Option Addr} {n cap m : Nat} {pw salt : List UInt8} (hn : n ≠ 0) (hp : Late W1 W A n cap pw) (hs : Late W1 W A2 32 m salt) (h0 : d.now.length = 0) {d1 d2 : Dk} (e1 : d.app salt = (d1, 0)) (e2 : d1.syn = (d2, 0)) :
    Calls Try.prog 7 #[.pointer (some ⟨g, 0, none⟩), .slice A n cap, .slice A2 32 m] W fun r w' => ∃ k, r = .returned (.tuple #[.pointer (some ⟨k, 0, none⟩), .int .i64 0]) ∧ Cy base w0 w' g d2 ((k, some (enOf pw salt)) :: Fs) Ks := by
  obtain ⟨⟨S, F, L, e, hd, hf, hk⟩, hb⟩ := h1
  have hS : ∀ i, S i → i < W1.heap.size := fun i hi => (hd.lt i hi).2
  refine (Create_good (fun _ => False) (fun _ q => q.elim) (hd.below b1) h0 A A2 n cap m pw salt hn (hp.out hS) (hs.out hS) e1 e2).mono ?_
  rintro r w' ⟨k, F', L', S', rfl, h2, s2, f2', _⟩
  have f2 := f2'.less (Y := S') (fun i q => .inl q)
  have s3 := (Stp.of_below b1).trans s2
  have q := Cy.to hb hd hf hk h2 s3
  refine ⟨k, rfl, ⟨⟨S', F', L', e, h2, fun p hp => ?_, fun p hp => (hk p hp).stp s3⟩, q.bel⟩⟩
  rcases List.mem_cons.1 hp with rfl | h1
  · exact f2
  · exact (hf p h1).stp s3
theorem Cy.open_ {W1 : World} (h1 : Cy base w0 W1 g d Fs Ks) (b1 : Below W1.heap.size W1 W) {A : Option Addr} {n cap : Nat} {pw salt : List UInt8} (hn : n ≠ 0) (hp : Late W1 W A n cap pw) (h0 : 32 ≤ d.now.length) (hs : d.now.take 32 = salt) {d' : Dk} (hd' : d.op = (d', 0)) :
    Calls Try.prog 8 #[.pointer (some ⟨g, 0, none⟩), .slice A n cap] W fun r w' => ∃ k, r = .returned (.tuple #[.pointer (some ⟨k, 0, none⟩), .int .i64 0]) ∧ Cy base w0 w' g d' ((k, some (enOf pw salt)) :: Fs) Ks := by
  obtain ⟨⟨S, F, L, e, hd, hf, hk⟩, hb⟩ := h1
  have hS : ∀ i, S i → i < W1.heap.size := fun i hi => (hd.lt i hi).2
  refine (Open_good (fun _ => False) (fun _ q => q.elim) (hd.below b1) h0 A n cap pw hn (hp.out hS) (by rw [hd'])).mono ?_
  rw [hd', hs]
  rintro r w' ⟨k, rfl, h2, b2, f2', _⟩
  have f2 := f2'.less (Y := S) (fun i q => .inl q)
  have s3 := (Stp.of_below b1).trans (.of_but b2)
  have q := Cy.to hb hd hf hk h2 s3
  refine ⟨k, rfl, ⟨⟨S, F, L, e, h2, fun p hp => ?_, fun p hp => (hk p hp).stp s3⟩, q.bel⟩⟩
  rcases List.mem_cons.1 hp with rfl | h1
  · exact f2
  · exact (hf p h1).stp s3
theorem Cy.fsize (h : Cy base w0 W g d Fs Ks) {k : Nat} {o : Option En} (hm : (k, o) ∈ Fs) {z : Nat} (hz : d.now.length - ahd o = z) : Calls Try.prog 14 #[.pointer (some ⟨k, 0, none⟩)] W fun r w' => r = .returned (.int .i64 (z : Nat)) ∧ Cy base w0 w' g d Fs Ks := by
  have h' := h
  obtain ⟨⟨S, F, L, e, hd, hf, hk⟩, hb⟩ := h
  refine (FSize_any hd (hf _ hm)).mono ?_
  rw [hz]
  rintro r w' ⟨rfl, rfl⟩
  exact ⟨rfl, h'.below (below_drewN (Below.refl _ W) 1)⟩
theorem Cy.fplain (h : Cy base w0 W g d Fs Ks) {k : Nat} {o : Option En} (hm : (k, o) ∈ Fs) {b : Bool} (hb : o.isNone = b) : Calls Try.prog 18 #[.pointer (some ⟨k, 0, none⟩)] W fun r w' => r = .returned (.bool b) ∧ W = w' := by
  obtain ⟨⟨S, F, L, e, hd, hf, hk⟩, _⟩ := h
  rw [← hb]
  exact Plain_any (hf _ hm)
theorem Cy.fappend {W1 : World} (h1 : Cy base w0 W1 g d Fs Ks) (b1 : Below W1.heap.size W1 W) {k : Nat} {o : Option En} (hm : (k, o) ∈ Fs) {A : Option Addr} {n cap : Nat} {l : List UInt8} (hi : Late W1 W A n cap l) (hn : n ≤ 4194304) {d' : Dk} {x : Nat} (hd' : d.app (trn o d.now.length l) = (d', x)) :
    Calls Try.prog 12 #[.pointer (some ⟨k, 0, none⟩), .slice A n cap] W fun r w' => r = .returned (.int .i64 (x : Nat)) ∧ Cy base w0 w' g d' Fs Ks := by
  obtain ⟨⟨S, F, L, e, hd, hf, hk⟩, hb⟩ := h1
  refine (FAppend_any (hd.below b1) ((hf _ hm).below b1) A n cap l (hi.out (fun i hi => (hd.lt i hi).2)) hn).mono ?_
  rw [hd']
  rintro r w' ⟨rfl, F', S', h2, s2⟩
  exact ⟨rfl, Cy.to hb hd hf hk h2 ((Stp.of_below b1).trans s2)⟩
theorem Cy.freadBad (h : Cy base w0 W g d Fs Ks) {k : Nat} {o : Option En} (hm : (k, o) ∈ Fs) (i n : Int) (hn : ¬ (0 ≤ i ∧ 0 ≤ n ∧ i ≤ ((d.now.length - ahd o : Nat) : Int) - n)) (h2 : n ≤ 9223372036854775807) : Calls Try.prog 11 #[.pointer (some ⟨k, 0, none⟩), .int .i64 i, .int .i64 n] W fun r w' => r = .returned (.tuple #[.slice none 0 0, .int .i64 2]) ∧ Cy base w0 w' g d Fs Ks := by
  have h' := h
  obtain ⟨⟨S, F, L, e, hd, hf, hk⟩, hb⟩ := h
  refine (FRead_bad hd (hf _ hm) i n hn h2).mono ?_
  rintro r w' ⟨rfl, j, rfl⟩
  exact ⟨rfl, h'.below (below_drewN (Below.refl _ W) j)⟩
theorem Cy.fread (h : Cy base w0 W g d Fs Ks) {k : Nat} {o : Option En} (hm : (k, o) ∈ Fs) (i n : Nat) (y z : Int) (hy : y = (i : Int)) (hz : z = (n : Int)) (hin : i + n ≤ d.now.length - ahd o) (ha : ahd o ≤ d.now.length) {d' : Dk} (hd' : d.op = (d', 0)) {l : List UInt8} (hl : trn o (i + ahd o) ((d.now.drop (i + ahd o)).take n) = l) :
    Calls Try.prog 11 #[.pointer (some ⟨k, 0, none⟩), .int .i64 y, .int .i64 z] W fun r w' => ∃ A c, r = .returned (.tuple #[.slice A n c, .int .i64 0]) ∧ Cy base w0 w' g d' Fs (⟨A, n, c, l⟩ :: Ks) := by
  subst hy hz
  obtain ⟨⟨S, F, L, e, hd, hf, hk⟩, hb⟩ := h
  refine (FRead_any hd (hf _ hm) i n hin ha (by rw [hd'])).mono ?_
  rw [hd', hl]
  rintro r w' ⟨A, c, rfl, h2, b2, o2⟩
  have q := Cy.to hb hd hf hk h2 (.of_but b2)
  refine ⟨A, c, rfl, ⟨⟨S, F, L, e, h2, fun p hp => (hf p hp).stp (.of_but b2), fun p hp => ?_⟩, q.bel⟩⟩
  rcases List.mem_cons.1 hp with rfl | h1
  · exact o2 S (fun i hi => (hd.lt i hi).2)
  · exact (hk p h1).stp (.of_but b2)
theorem Cy.ftruncBad (h : Cy base w0 W g d Fs Ks) {k : Nat} {o : Option En} (hm : (k, o) ∈ Fs) (n : Int) (hn : ¬ (0 ≤ n ∧ n ≤ ((d.now.length - ahd o : Nat) : Int))) : Calls Try.prog 13 #[.pointer (some ⟨k, 0, none⟩), .int .i64 n] W fun r w' => r = .returned (.int .i64 2) ∧ Cy base w0 w' g d Fs Ks := by
  have h' := h
  obtain ⟨⟨S, F, L, e, hd, hf, hk⟩, hb⟩ := h
  refine (FTrunc_bad hd (hf _ hm) n hn).mono ?_
  rintro r w' ⟨rfl, j, rfl⟩
  exact ⟨rfl, h'.below (below_drewN (Below.refl _ W) j)⟩
theorem Cy.ftrunc (h : Cy base w0 W g d Fs Ks) {k : Nat} {o : Option En} (hm : (k, o) ∈ Fs) (n : Nat) (z : Int) (hz : z = (n : Int)) (hn : n ≤ d.now.length - ahd o) (ha : ahd o ≤ d.now.length) {d' : Dk} {c : Nat} (hd' : d.trunc (n + ahd o) = (d', c)) : Calls Try.prog 13 #[.pointer (some ⟨k, 0, none⟩), .int .i64 z] W fun r w' => r = .returned (.int .i64 (c : Nat)) ∧ Cy base w0 w' g d' Fs Ks := by
  subst hz
  obtain ⟨⟨S, F, L, e, hd, hf, hk⟩, hb⟩ := h
  refine (FTrunc_any hd (hf _ hm) n hn ha).mono ?_
  rw [hd']
  rintro r w' ⟨rfl, F', L', S', h1, s1⟩
  exact ⟨rfl, Cy.to hb hd hf hk h1 s1⟩
theorem Cy.ftruncOver (h : Cy base w0 W g d Fs Ks) {k : Nat} {o : Option En} (hm : (k, o) ∈ Fs) (ha : d.now.length < ahd o) : Calls Try.prog 13 #[.pointer (some ⟨k, 0, none⟩), .int .i64 0] W fun r w' => r = .returned (.int .i64 2) ∧ Cy base w0 w' g d Fs Ks := by
  obtain ⟨⟨S, F, L, e, hd, hf, hk⟩, hb⟩ := h
  refine (FTrunc_over hd (hf _ hm) ha).mono ?_
  rintro r w' ⟨rfl, h1, s1⟩
  exact ⟨rfl, Cy.to hb hd hf hk h1 (.of_but s1)⟩
end
end Go.Proofs.Ytpeepohiajmhcaa
