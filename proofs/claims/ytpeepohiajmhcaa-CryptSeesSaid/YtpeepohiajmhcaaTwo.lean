/-
  An encrypted file and a plain one, each on its disk: the calls' contracts.
-/
import Derived.Test.YtpeepohiajmhcaaAwa
namespace Go.Proofs.Ytpeepohiajmhcaa
open Go.RowKit

/-- The disks d and p in blocks gd and gp, their files in hf and hg; X: the blocks that may turn. -/
structure Two (base : Nat) (W : World) (X : Nat → Prop) (gd gp : Nat) (d p : Dk) (hf hg : Nat) (en : En) : Prop where
  ex : ∃ Sd Sp Fd Ld ed Fp Lp ep, DkAt base Sd W gd Fd Ld d ed ∧ DkAt base Sp W gp Fp Lp p ep ∧ (∀ i, Sd i → ¬ Sp i) ∧ X = U Sd Sp
  ff : FlAt X W hf gd (some en)
  fg : FlAt X W hg gp none
theorem U_left {Sd Sp Sd' : Nat → Prop} {W W' : World} (s : Stp Sd Sd' W W') : Stp (U Sd Sp) (U Sd' Sp) W W' :=
  ⟨s.but.mono (fun _ hi => .inl (.inl hi)), fun i hi => hi.elim (fun h => (s.new i h).imp .inl id) (fun h => .inl (.inr h))⟩
theorem U_right {Sd Sp Sp' : Nat → Prop} {W W' : World} (s : Stp Sp Sp' W W') : Stp (U Sd Sp) (U Sd Sp') W W' :=
  ⟨s.but.mono (fun _ hi => .inl (.inr hi)), fun i hi => hi.elim (fun h => .inl (.inl h)) (fun h => (s.new i h).imp .inr id)⟩
section
variable {base : Nat} {W W' : World} {Sd Sp Sd' Sp' : Nat → Prop} {gd gp : Nat} {d p d' p' : Dk} {hf hg : Nat} {en : En} {Fd Ld Fp Lp F' L' : Value} {ed ep e' : Int}
theorem Two.left (hd : DkAt base Sd W gd Fd Ld d ed) (hp : DkAt base Sp W gp Fp Lp p ep) (hx : ∀ i, Sd i → ¬ Sp i) (ff : FlAt (U Sd Sp) W hf gd (some en)) (fg : FlAt (U Sd Sp) W hg gp none) (h' : DkAt base Sd' W' gd F' L' d' e') (s : Stp Sd Sd' W W') : ∃ X', Two base W' X' gd gp d' p hf hg en ∧ Stp (U Sd Sp) X' W W' :=
  ⟨_, ⟨⟨Sd', Sp, F', L', e', Fp, Lp, ep, h', hp.but s.but (fun i hi hs => hx i hs hi), fun i hi hs => by
    rcases s.new i hi with h1 | h1
    · exact hx i h1 hs
    · have := (hp.lt i hs).2; omega, rfl⟩, ff.stp (U_left s), fg.stp (U_left s)⟩, U_left s⟩
theorem Two.right (hd : DkAt base Sd W gd Fd Ld d ed) (hp : DkAt base Sp W gp Fp Lp p ep) (hx : ∀ i, Sd i → ¬ Sp i) (ff : FlAt (U Sd Sp) W hf gd (some en)) (fg : FlAt (U Sd Sp) W hg gp none) (h' : DkAt base Sp' W' gp F' L' p' e') (s : Stp Sp Sp' W W') : ∃ X', Two base W' X' gd gp d p' hf hg en ∧ Stp (U Sd Sp) X' W W' :=
  ⟨_, ⟨⟨Sd, Sp', Fd, Ld, ed, F', L', e', hd.but s.but (fun i hi hs => hx i hi hs), h', fun i hi hs => by
    rcases s.new i hs with h1 | h1
    · exact hx i hi h1
    · have := (hd.lt i hi).2; omega, rfl⟩, ff.stp (U_right s), fg.stp (U_right s)⟩, U_right s⟩
end
section
variable {base : Nat} {W : World} {X : Nat → Prop} {gd gp : Nat} {d p : Dk} {hf hg : Nat} {en : En}
theorem Two.lt (t : Two base W X gd gp d p hf hg en) : ∀ i, X i → base ≤ i ∧ i < W.heap.size := by
  obtain ⟨⟨Sd, Sp, _, _, _, _, _, _, hd, hp, _, rfl⟩, _, _⟩ := t
  exact fun i hi => hi.elim (hd.lt i) (hp.lt i)
theorem Two.bb (t : Two base W X gd gp d p hf hg en) : base ≤ W.heap.size := by
  obtain ⟨⟨Sd, Sp, _, _, _, _, _, _, hd, hp, _, rfl⟩, _, _⟩ := t
  have := hd.lt gd hd.sg
  omega
theorem Two.ok (t : Two base W X gd gp d p hf hg en) : d.Ok ∧ p.Ok := by
  obtain ⟨⟨Sd, Sp, _, _, _, _, _, _, hd, hp, _, rfl⟩, _, _⟩ := t
  exact ⟨hd.ok, hp.ok⟩
theorem Two.below {W' : World} (t : Two base W X gd gp d p hf hg en) (b : Below W.heap.size W W') : Two base W' X gd gp d p hf hg en := by
  obtain ⟨⟨Sd, Sp, Fd, Ld, ed, Fp, Lp, ep, hd, hp, hx, rfl⟩, ff, fg⟩ := t
  exact ⟨⟨Sd, Sp, Fd, Ld, ed, Fp, Lp, ep, hd.below b, hp.below b, hx, rfl⟩, ff.below b, fg.below b⟩
/-- Bytes of the caller, below base. -/
theorem Two.low {A : Option Addr} {n c : Nat} {l : List UInt8} (t : Two base W X gd gp d p hf hg en) (h : IsBB W base A n c l) : Out X W A n c l := h.out (fun i hi => (t.lt i hi).1)
theorem Two.fappend (t : Two base W X gd gp d p hf hg en) {A : Option Addr} {n c : Nat} {l : List UInt8} (hi : Out X W A n c l) (hn : n ≤ 4194304) {d' : Dk} {x : Nat} (h' : d.app (trn (some en) d.now.length l) = (d', x)) :
    Calls Try.prog 12 #[.pointer (some ⟨hf, 0, none⟩), .slice A n c] W fun r w' => r = .returned (.int .i64 (x : Nat)) ∧ ∃ X', Two base w' X' gd gp d' p hf hg en ∧ Stp X X' W w' := by
  obtain ⟨⟨Sd, Sp, Fd, Ld, ed, Fp, Lp, ep, hd, hp, hx, rfl⟩, ff, fg⟩ := t
  refine (FAppend_any hd (ff.less (fun i hi => .inl hi)) A n c l (out_less hi (fun i hi => .inl hi)) hn).mono ?_
  rw [h']
  rintro r w' ⟨rfl, F', S', h1, s1⟩
  exact ⟨rfl, Two.left hd hp hx ff fg h1 s1⟩
theorem Two.gappend (t : Two base W X gd gp d p hf hg en) {A : Option Addr} {n c : Nat} {l : List UInt8} (hi : Out X W A n c l) (hn : n ≤ 4194304) {p' : Dk} {x : Nat} (h' : p.app l = (p', x)) :
    Calls Try.prog 12 #[.pointer (some ⟨hg, 0, none⟩), .slice A n c] W fun r w' => r = .returned (.int .i64 (x : Nat)) ∧ ∃ X', Two base w' X' gd gp d p' hf hg en ∧ Stp X X' W w' := by
  obtain ⟨⟨Sd, Sp, Fd, Ld, ed, Fp, Lp, ep, hd, hp, hx, rfl⟩, ff, fg⟩ := t
  refine (FAppend_any hp (fg.less (fun i hi => .inr hi)) A n c l (out_less hi (fun i hi => .inr hi)) hn).mono ?_
  rw [show p.app (trn none p.now.length l) = (p', x) from h']
  rintro r w' ⟨rfl, F', S', h1, s1⟩
  exact ⟨rfl, Two.right hd hp hx ff fg h1 s1⟩
theorem Two.fsync (t : Two base W X gd gp d p hf hg en) {d' : Dk} {x : Nat} (h' : d.syn = (d', x)) :
    Calls Try.prog 17 #[.pointer (some ⟨hf, 0, none⟩)] W fun r w' => r = .returned (.int .i64 (x : Nat)) ∧ ∃ X', Two base w' X' gd gp d' p hf hg en ∧ Stp X X' W w' := by
  obtain ⟨⟨Sd, Sp, Fd, Ld, ed, Fp, Lp, ep, hd, hp, hx, rfl⟩, ff, fg⟩ := t
  refine (FSync_any hd (ff.less (fun i hi => .inl hi))).mono ?_
  rw [h']
  rintro r w' ⟨rfl, ⟨L', h1⟩, s1⟩
  exact ⟨rfl, Two.left hd hp hx ff fg h1 (.of_but s1)⟩
theorem Two.gsync (t : Two base W X gd gp d p hf hg en) {p' : Dk} {x : Nat} (h' : p.syn = (p', x)) :
    Calls Try.prog 17 #[.pointer (some ⟨hg, 0, none⟩)] W fun r w' => r = .returned (.int .i64 (x : Nat)) ∧ ∃ X', Two base w' X' gd gp d p' hf hg en ∧ Stp X X' W w' := by
  obtain ⟨⟨Sd, Sp, Fd, Ld, ed, Fp, Lp, ep, hd, hp, hx, rfl⟩, ff, fg⟩ := t
  refine (FSync_any hp (fg.less (fun i hi => .inr hi))).mono ?_
  rw [h']
  rintro r w' ⟨rfl, ⟨L', h1⟩, s1⟩
  exact ⟨rfl, Two.right hd hp hx ff fg h1 (.of_but s1)⟩
theorem Two.freadBad (t : Two base W X gd gp d p hf hg en) (i n : Int) (hb : ¬ (0 ≤ i ∧ 0 ≤ n ∧ i ≤ ((d.now.length - 32 : Nat) : Int) - n)) (hn : n ≤ 9223372036854775807) :
    Calls Try.prog 11 #[.pointer (some ⟨hf, 0, none⟩), .int .i64 i, .int .i64 n] W fun r w' => r = .returned (.tuple #[.slice none 0 0, .int .i64 2]) ∧ ∃ k, w' = W.drewN k := by
  obtain ⟨⟨Sd, Sp, Fd, Ld, ed, Fp, Lp, ep, hd, hp, hx, rfl⟩, ff, fg⟩ := t
  exact FRead_bad hd (ff.less (fun i hi => .inl hi)) i n hb hn
theorem Two.greadBad (t : Two base W X gd gp d p hf hg en) (i n : Int) (hb : ¬ (0 ≤ i ∧ 0 ≤ n ∧ i ≤ (p.now.length : Int) - n)) (hn : n ≤ 9223372036854775807) :
    Calls Try.prog 11 #[.pointer (some ⟨hg, 0, none⟩), .int .i64 i, .int .i64 n] W fun r w' => r = .returned (.tuple #[.slice none 0 0, .int .i64 2]) ∧ ∃ k, w' = W.drewN k := by
  obtain ⟨⟨Sd, Sp, Fd, Ld, ed, Fp, Lp, ep, hd, hp, hx, rfl⟩, ff, fg⟩ := t
  exact FRead_bad hp (fg.less (fun i hi => .inr hi)) i n hb hn
theorem Two.freadNo (t : Two base W X gd gp d p hf hg en) (i n : Nat) (hb : i + n ≤ d.now.length - 32) (hz : 32 ≤ d.now.length) {d' : Dk} {x : Nat} (h' : d.op = (d', x)) (hx0 : x ≠ 0) :
    Calls Try.prog 11 #[.pointer (some ⟨hf, 0, none⟩), .int .i64 (i : Nat), .int .i64 (n : Nat)] W fun r w' => r = .returned (.tuple #[.slice none 0 0, .int .i64 (x : Nat)]) ∧ ∃ X', Two base w' X' gd gp d' p hf hg en ∧ Stp X X' W w' := by
  obtain ⟨⟨Sd, Sp, Fd, Ld, ed, Fp, Lp, ep, hd, hp, hx, rfl⟩, ff, fg⟩ := t
  refine (FRead_no hd (ff.less (fun i hi => .inl hi)) i n hb hz (by rw [h']; exact hx0)).mono ?_
  rw [h']
  rintro r w' ⟨rfl, h1, s1⟩
  exact ⟨rfl, Two.left hd hp hx ff fg h1 (.of_but s1)⟩
theorem Two.greadNo (t : Two base W X gd gp d p hf hg en) (i n : Nat) (hb : i + n ≤ p.now.length) {p' : Dk} {x : Nat} (h' : p.op = (p', x)) (hx0 : x ≠ 0) :
    Calls Try.prog 11 #[.pointer (some ⟨hg, 0, none⟩), .int .i64 (i : Nat), .int .i64 (n : Nat)] W fun r w' => r = .returned (.tuple #[.slice none 0 0, .int .i64 (x : Nat)]) ∧ ∃ X', Two base w' X' gd gp d p' hf hg en ∧ Stp X X' W w' := by
  obtain ⟨⟨Sd, Sp, Fd, Ld, ed, Fp, Lp, ep, hd, hp, hx, rfl⟩, ff, fg⟩ := t
  refine (FRead_no hp (fg.less (fun i hi => .inr hi)) i n hb (Nat.zero_le _) (by rw [h']; exact hx0)).mono ?_
  rw [h']
  rintro r w' ⟨rfl, h1, s1⟩
  exact ⟨rfl, Two.right hd hp hx ff fg h1 (.of_but s1)⟩
theorem Two.fread (t : Two base W X gd gp d p hf hg en) (i n : Nat) (hb : i + n ≤ d.now.length - 32) (hz : 32 ≤ d.now.length) {d' : Dk} (h' : d.op = (d', 0)) {l : List UInt8} (hl : trn (some en) (i + 32) ((d.now.drop (i + 32)).take n) = l) :
    Calls Try.prog 11 #[.pointer (some ⟨hf, 0, none⟩), .int .i64 (i : Nat), .int .i64 (n : Nat)] W fun r w' => ∃ A c, r = .returned (.tuple #[.slice A n c, .int .i64 0]) ∧ ∃ X', Two base w' X' gd gp d' p hf hg en ∧ Stp X X' W w' ∧ Out X' w' A n c l := by
  have hlt := t.lt
  obtain ⟨⟨Sd, Sp, Fd, Ld, ed, Fp, Lp, ep, hd, hp, hx, rfl⟩, ff, fg⟩ := t
  refine (FRead_any hd (ff.less (fun i hi => .inl hi)) i n hb hz (by rw [h'])).mono ?_
  rw [h', show trn (some en) (i + ahd (some en)) ((d.now.drop (i + ahd (some en))).take n) = l from hl]
  rintro r w' ⟨A, c, rfl, h1, s1, o1⟩
  have s2 : Stp (U Sd Sp) (U Sd Sp) W w' := U_left (.of_but s1)
  exact ⟨A, c, rfl, _, ⟨⟨Sd, Sp, _, _, _, Fp, Lp, ep, h1, hp.but s1 (fun i hi hs => hx i hs hi), hx, rfl⟩, ff.stp s2, fg.stp s2⟩, s2, o1 _ (fun i hi => (hlt i hi).2)⟩
theorem Two.gread (t : Two base W X gd gp d p hf hg en) (i n : Nat) (hb : i + n ≤ p.now.length) {p' : Dk} (h' : p.op = (p', 0)) {l : List UInt8} (hl : (p.now.drop i).take n = l) :
    Calls Try.prog 11 #[.pointer (some ⟨hg, 0, none⟩), .int .i64 (i : Nat), .int .i64 (n : Nat)] W fun r w' => ∃ A c, r = .returned (.tuple #[.slice A n c, .int .i64 0]) ∧ ∃ X', Two base w' X' gd gp d p' hf hg en ∧ Stp X X' W w' ∧ Out X' w' A n c l := by
  have hlt := t.lt
  obtain ⟨⟨Sd, Sp, Fd, Ld, ed, Fp, Lp, ep, hd, hp, hx, rfl⟩, ff, fg⟩ := t
  refine (FRead_any hp (fg.less (fun i hi => .inr hi)) i n hb (Nat.zero_le _) (by rw [h'])).mono ?_
  rw [h', show trn none (i + ahd none) ((p.now.drop (i + ahd none)).take n) = l from hl]
  rintro r w' ⟨A, c, rfl, h1, s1, o1⟩
  have s2 : Stp (U Sd Sp) (U Sd Sp) W w' := U_right (.of_but s1)
  exact ⟨A, c, rfl, _, ⟨⟨Sd, Sp, Fd, Ld, ed, _, _, _, hd.but s1 (fun i hi hs => hx i hi hs), h1, hx, rfl⟩, ff.stp s2, fg.stp s2⟩, s2, o1 _ (fun i hi => (hlt i hi).2)⟩
theorem Two.ftruncBad (t : Two base W X gd gp d p hf hg en) (n : Int) (hb : ¬ (0 ≤ n ∧ n ≤ ((d.now.length - 32 : Nat) : Int))) :
    Calls Try.prog 13 #[.pointer (some ⟨hf, 0, none⟩), .int .i64 n] W fun r w' => r = .returned (.int .i64 2) ∧ ∃ k, w' = W.drewN k := by
  obtain ⟨⟨Sd, Sp, Fd, Ld, ed, Fp, Lp, ep, hd, hp, hx, rfl⟩, ff, fg⟩ := t
  exact FTrunc_bad hd (ff.less (fun i hi => .inl hi)) n hb
theorem Two.gtruncBad (t : Two base W X gd gp d p hf hg en) (n : Int) (hb : ¬ (0 ≤ n ∧ n ≤ (p.now.length : Int))) :
    Calls Try.prog 13 #[.pointer (some ⟨hg, 0, none⟩), .int .i64 n] W fun r w' => r = .returned (.int .i64 2) ∧ ∃ k, w' = W.drewN k := by
  obtain ⟨⟨Sd, Sp, Fd, Ld, ed, Fp, Lp, ep, hd, hp, hx, rfl⟩, ff, fg⟩ := t
  exact FTrunc_bad hp (fg.less (fun i hi => .inr hi)) n hb
theorem Two.ftrunc (t : Two base W X gd gp d p hf hg en) (n : Nat) (hn : n ≤ d.now.length - 32) (hz : 32 ≤ d.now.length) {d' : Dk} {x : Nat} (h' : d.trunc (n + 32) = (d', x)) :
    Calls Try.prog 13 #[.pointer (some ⟨hf, 0, none⟩), .int .i64 (n : Nat)] W fun r w' => r = .returned (.int .i64 (x : Nat)) ∧ ∃ X', Two base w' X' gd gp d' p hf hg en ∧ Stp X X' W w' := by
  obtain ⟨⟨Sd, Sp, Fd, Ld, ed, Fp, Lp, ep, hd, hp, hx, rfl⟩, ff, fg⟩ := t
  refine (FTrunc_any hd (ff.less (fun i hi => .inl hi)) n hn hz).mono ?_
  rw [show d.trunc (n + ahd (some en)) = (d', x) from h']
  rintro r w' ⟨rfl, F', L', S', h1, s1⟩
  exact ⟨rfl, Two.left hd hp hx ff fg h1 s1⟩
theorem Two.gtrunc (t : Two base W X gd gp d p hf hg en) (n : Nat) (hn : n ≤ p.now.length) {p' : Dk} {x : Nat} (h' : p.trunc n = (p', x)) :
    Calls Try.prog 13 #[.pointer (some ⟨hg, 0, none⟩), .int .i64 (n : Nat)] W fun r w' => r = .returned (.int .i64 (x : Nat)) ∧ ∃ X', Two base w' X' gd gp d p' hf hg en ∧ Stp X X' W w' := by
  obtain ⟨⟨Sd, Sp, Fd, Ld, ed, Fp, Lp, ep, hd, hp, hx, rfl⟩, ff, fg⟩ := t
  refine (FTrunc_any hp (fg.less (fun i hi => .inr hi)) n hn (Nat.zero_le _)).mono ?_
  rw [show p.trunc (n + ahd none) = (p', x) from h']
  rintro r w' ⟨rfl, F', L', S', h1, s1⟩
  exact ⟨rfl, Two.right hd hp hx ff fg h1 s1⟩
theorem Two.darm (t : Two base W X gd gp d p hf hg en) (n : Int) (hn : n ≤ 9223372036854775807) {d' : Dk} {x : Nat} (h' : d.arm n = (d', x)) :
    Calls Try.prog 38 #[.pointer (some ⟨gd, 0, none⟩), .int .i64 n] W fun r w' => r = .returned (.int .i64 (x : Nat)) ∧ ∃ X', Two base w' X' gd gp d' p hf hg en ∧ Stp X X' W w' := by
  obtain ⟨⟨Sd, Sp, Fd, Ld, ed, Fp, Lp, ep, hd, hp, hx, rfl⟩, ff, fg⟩ := t
  refine (Arm_any hd n hn).mono ?_
  rw [h']
  rintro r w' ⟨rfl, h1, s1⟩
  exact ⟨rfl, Two.left hd hp hx ff fg h1 (.of_but (hd.butg s1))⟩
theorem Two.parm (t : Two base W X gd gp d p hf hg en) (n : Int) (hn : n ≤ 9223372036854775807) {p' : Dk} {x : Nat} (h' : p.arm n = (p', x)) :
    Calls Try.prog 38 #[.pointer (some ⟨gp, 0, none⟩), .int .i64 n] W fun r w' => r = .returned (.int .i64 (x : Nat)) ∧ ∃ X', Two base w' X' gd gp d p' hf hg en ∧ Stp X X' W w' := by
  obtain ⟨⟨Sd, Sp, Fd, Ld, ed, Fp, Lp, ep, hd, hp, hx, rfl⟩, ff, fg⟩ := t
  refine (Arm_any hp n hn).mono ?_
  rw [h']
  rintro r w' ⟨rfl, h1, s1⟩
  exact ⟨rfl, Two.right hd hp hx ff fg h1 (.of_but (hp.butg s1))⟩
theorem Two.dfail (t : Two base W X gd gp d p hf hg en) (n e : Int) (hn : n ≤ 9223372036854775807) {d' : Dk} {x : Nat} (h' : d.fail n e = (d', x)) :
    Calls Try.prog 9 #[.pointer (some ⟨gd, 0, none⟩), .int .i64 n, .int .i64 e] W fun r w' => r = .returned (.int .i64 (x : Nat)) ∧ ∃ X', Two base w' X' gd gp d' p hf hg en ∧ Stp X X' W w' := by
  obtain ⟨⟨Sd, Sp, Fd, Ld, ed, Fp, Lp, ep, hd, hp, hx, rfl⟩, ff, fg⟩ := t
  refine (Fail_any hd n e hn).mono ?_
  rw [h']
  rintro r w' ⟨rfl, ⟨e', h1⟩, s1⟩
  exact ⟨rfl, Two.left hd hp hx ff fg h1 (.of_but (hd.butg s1))⟩
theorem Two.pfail (t : Two base W X gd gp d p hf hg en) (n e : Int) (hn : n ≤ 9223372036854775807) {p' : Dk} {x : Nat} (h' : p.fail n e = (p', x)) :
    Calls Try.prog 9 #[.pointer (some ⟨gp, 0, none⟩), .int .i64 n, .int .i64 e] W fun r w' => r = .returned (.int .i64 (x : Nat)) ∧ ∃ X', Two base w' X' gd gp d p' hf hg en ∧ Stp X X' W w' := by
  obtain ⟨⟨Sd, Sp, Fd, Ld, ed, Fp, Lp, ep, hd, hp, hx, rfl⟩, ff, fg⟩ := t
  refine (Fail_any hp n e hn).mono ?_
  rw [h']
  rintro r w' ⟨rfl, ⟨e', h1⟩, s1⟩
  exact ⟨rfl, Two.right hd hp hx ff fg h1 (.of_but (hp.butg s1))⟩
theorem Two.dcrash (t : Two base W X gd gp d p hf hg en) (k : Int) (hk : k ≤ 9223372036854775807) {d' : Dk} (h' : d.crash k [] = d') :
    Calls Try.prog 22 #[.pointer (some ⟨gd, 0, none⟩), .agg #[.int .i64 k, .slice none 0 0]] W fun r w' => r = .returned (.int .i64 0) ∧ ∃ X', Two base w' X' gd gp d' p hf hg en ∧ Stp X X' W w' := by
  obtain ⟨⟨Sd, Sp, Fd, Ld, ed, Fp, Lp, ep, hd, hp, hx, rfl⟩, ff, fg⟩ := t
  refine (Crash_any k none 0 0 [] hd ⟨(isBB_nil W 0).toIsB, fun hp => absurd hp (by simp)⟩ hk).mono ?_
  rw [h']
  rintro r w' ⟨rfl, F', S', h1, s1⟩
  exact ⟨rfl, Two.left hd hp hx ff fg h1 s1⟩
theorem Two.pcrash (t : Two base W X gd gp d p hf hg en) (k : Int) (hk : k ≤ 9223372036854775807) {p' : Dk} (h' : p.crash k [] = p') :
    Calls Try.prog 22 #[.pointer (some ⟨gp, 0, none⟩), .agg #[.int .i64 k, .slice none 0 0]] W fun r w' => r = .returned (.int .i64 0) ∧ ∃ X', Two base w' X' gd gp d p' hf hg en ∧ Stp X X' W w' := by
  obtain ⟨⟨Sd, Sp, Fd, Ld, ed, Fp, Lp, ep, hd, hp, hx, rfl⟩, ff, fg⟩ := t
  refine (Crash_any k none 0 0 [] hp ⟨(isBB_nil W 0).toIsB, fun hp => absurd hp (by simp)⟩ hk).mono ?_
  rw [h']
  rintro r w' ⟨rfl, F', S', h1, s1⟩
  exact ⟨rfl, Two.right hd hp hx ff fg h1 s1⟩
theorem Two.dopen (t : Two base W X gd gp d p hf hg en) {A : Option Addr} {n c : Nat} {pw salt : List UInt8} (hn : n ≠ 0) (hi : Out X W A n c pw) (h0 : 32 ≤ d.now.length) (hs : d.now.take 32 = salt) {d' : Dk} (h' : d.op = (d', 0)) :
    Calls Try.prog 8 #[.pointer (some ⟨gd, 0, none⟩), .slice A n c] W fun r w' => ∃ h, r = .returned (.tuple #[.pointer (some ⟨h, 0, none⟩), .int .i64 0]) ∧ ∃ X', Two base w' X' gd gp d' p h hg (enOf pw salt) ∧ Stp X X' W w' := by
  obtain ⟨⟨Sd, Sp, Fd, Ld, ed, Fp, Lp, ep, hd, hp, hx, rfl⟩, ff, fg⟩ := t
  refine (Open_good Sp (fun i hi => (hp.lt i hi).2) hd h0 A n c pw hn (out_less hi (fun i hi => .inl hi)) (by rw [h'])).mono ?_
  rw [h', hs]
  rintro r w' ⟨h, rfl, h1, s1, f1, _⟩
  have s2 : Stp (U Sd Sp) (U Sd Sp) W w' := U_left (.of_but s1)
  exact ⟨h, rfl, _, ⟨⟨Sd, Sp, _, _, _, Fp, Lp, ep, h1, hp.but s1 (fun i hi hs => hx i hs hi), hx, rfl⟩, f1, fg.stp s2⟩, s2⟩
theorem Two.psync (t : Two base W X gd gp d p hf hg en) {p' : Dk} {x : Nat} (h' : p.syn = (p', x)) :
    Calls Try.prog 19 #[.pointer (some ⟨gp, 0, none⟩)] W fun r w' => r = .returned (.int .i64 (x : Nat)) ∧ ∃ X', Two base w' X' gd gp d p' hf hg en ∧ Stp X X' W w' := by
  obtain ⟨⟨Sd, Sp, Fd, Ld, ed, Fp, Lp, ep, hd, hp, hx, rfl⟩, ff, fg⟩ := t
  refine (Sync_any hp).mono ?_
  rw [h']
  rintro r w' ⟨rfl, ⟨L', h1⟩, s1⟩
  exact ⟨rfl, Two.right hd hp hx ff fg h1 (.of_but s1)⟩
theorem Two.dimage (t : Two base W X gd gp d p hf hg en) : Calls Try.prog 23 #[.pointer (some ⟨gd, 0, none⟩)] W fun r w' => ∃ A c, r = .returned (.slice A d.now.length c) ∧ IsBB w' w'.heap.size A d.now.length c d.now ∧ Below W.heap.size W w' := by
  obtain ⟨⟨Sd, Sp, Fd, Ld, ed, Fp, Lp, ep, hd, hp, hx, rfl⟩, ff, fg⟩ := t
  have hmx := hd.ok.mx
  have hm4 := hd.ok.m4
  refine (Image_any hd).mono ?_
  rintro r w' ⟨v, rfl, ho, b⟩
  obtain ⟨A, c, rfl, hI⟩ := own_isBB ho (by omega)
  exact ⟨A, c, rfl, hI, b⟩
theorem Two.pimage (t : Two base W X gd gp d p hf hg en) : Calls Try.prog 23 #[.pointer (some ⟨gp, 0, none⟩)] W fun r w' => ∃ A c, r = .returned (.slice A p.now.length c) ∧ IsBB w' w'.heap.size A p.now.length c p.now ∧ Below W.heap.size W w' := by
  obtain ⟨⟨Sd, Sp, Fd, Ld, ed, Fp, Lp, ep, hd, hp, hx, rfl⟩, ff, fg⟩ := t
  have hmx := hp.ok.mx
  have hm4 := hp.ok.m4
  refine (Image_any hp).mono ?_
  rintro r w' ⟨v, rfl, ho, b⟩
  obtain ⟨A, c, rfl, hI⟩ := own_isBB ho (by omega)
  exact ⟨A, c, rfl, hI, b⟩
theorem Two.fsize (t : Two base W X gd gp d p hf hg en) : Calls Try.prog 14 #[.pointer (some ⟨hf, 0, none⟩)] W fun r w' => r = .returned (.int .i64 ((d.now.length - 32 : Nat) : Int)) ∧ w' = W.drewN 1 := by
  obtain ⟨⟨Sd, Sp, Fd, Ld, ed, Fp, Lp, ep, hd, hp, hx, rfl⟩, ff, fg⟩ := t
  exact FSize_any hd ff
theorem Two.gsize (t : Two base W X gd gp d p hf hg en) : Calls Try.prog 14 #[.pointer (some ⟨hg, 0, none⟩)] W fun r w' => r = .returned (.int .i64 (p.now.length : Nat)) ∧ w' = W.drewN 1 := by
  obtain ⟨⟨Sd, Sp, Fd, Ld, ed, Fp, Lp, ep, hd, hp, hx, rfl⟩, ff, fg⟩ := t
  exact FSize_any hp fg
end
end Go.Proofs.Ytpeepohiajmhcaa
