/-
  The chapter's examples: awake.
-/
import Derived.Test.YtpeepohiajmhcaaCyg
namespace Go.Proofs.Ytpeepohiajmhcaa
open Go.RowKit

theorem lit_bel (W : World) (cs : Array Value) (k : Nat × Nat) : Below W.heap.size W (W.alloc (.cells cs 5 k)) := (Below.refl _ W).alloc (Nat.le_refl _) _
/-- A written-out list of bytes, its mark k. -/
theorem lit_late (W : World) (l : List UInt8) (cs : Array Value) (n k : Nat) (hcs : (l.map bv).toArray = cs) (hn : l.length = n) (hk : n + 1 = k) (hl : n ≤ 1000) : Late W (W.alloc (.cells cs 5 (n, k))) (some ⟨W.heap.size, 0, none⟩) n n l := by
  subst hn hcs hk
  exact ⟨lit_isBB W l hl l.length, fun _ ad e => by cases e; exact Nat.le_refl _⟩
section
variable {base : Nat} {w0 W : World} {g : Nat} {d : Dk} {Fs : List (Nat × Option En)} {Ks : List Kb}
theorem Cy.litApp (h : Cy base w0 W g d Fs Ks) {k : Nat} {o : Option En} (hm : (k, o) ∈ Fs) (l : List UInt8) (cs : Array Value) (n m : Nat) (hcs : (l.map bv).toArray = cs) (hn : l.length = n) (hk : n + 1 = m) (hl : n ≤ 1000) {d' : Dk} {x : Nat} (z : Int) (hz : (x : Int) = z) (hd' : d.app (trn o d.now.length l) = (d', x)) :
    Calls Try.prog 12 #[.pointer (some ⟨k, 0, none⟩), .slice (some ⟨W.heap.size, 0, none⟩) n n] (W.alloc (.cells cs 5 (n, m))) fun r w' => r = .returned (.int .i64 z) ∧ Cy base w0 w' g d' Fs Ks := by
  subst hz
  exact Cy.fappend h (lit_bel W cs _) hm (lit_late W l cs n m hcs hn hk hl) (by omega) hd'
theorem Cy.imageTo (h : Cy base w0 W g d Fs Ks) {l : List UInt8} {n : Nat} (hl : d.now = l) (hn : l.length = n) : Calls Try.prog 23 #[.pointer (some ⟨g, 0, none⟩)] W fun r w' => ∃ A c, r = .returned (.slice A n c) ∧ IsB w' A n c l ∧ Cy base w0 w' g d Fs Ks := by
  have := h.image
  rw [hl, hn] at this
  exact this
theorem Cy.sizeTo (h : Cy base w0 W g d Fs Ks) {n : Nat} (z : Int) (hz : (n : Int) = z) (hn : d.now.length = n) : Calls Try.prog 10 #[.pointer (some ⟨g, 0, none⟩)] W fun r w' => r = .returned (.int .i64 z) ∧ W = w' := by
  have := h.size
  rw [hn, hz] at this
  exact this
theorem Cy.fsizeTo (h : Cy base w0 W g d Fs Ks) {k : Nat} {o : Option En} (hm : (k, o) ∈ Fs) (n : Nat) (z : Int) (hz : (n : Int) = z) (hn : d.now.length - ahd o = n) : Calls Try.prog 14 #[.pointer (some ⟨k, 0, none⟩)] W fun r w' => r = .returned (.int .i64 z) ∧ Cy base w0 w' g d Fs Ks := by
  have := h.fsize hm hn
  rw [hz] at this
  exact this
theorem Cy.newTo (m : Nat) (z : Int) (hz : (m : Int) = z) (W : World) (hm : m ≤ 4194304) : Calls Try.prog 6 #[.int .i64 z] W fun r w' => ∃ g, r = .returned (.tuple #[.pointer (some ⟨g, 0, none⟩), .int .i64 0]) ∧ Cy W.heap.size W w' g (Dk.load m []) [] [] := by
  have := Cy.new m W hm
  rw [hz] at this
  exact this
/-- 32 noughts made behind a written-out password. -/
theorem Cy.goodLit (h : Cy base w0 W g d Fs Ks) (h0 : d.now.length = 0) (b : UInt8) (cs : Array Value) (hcs : ([b].map bv).toArray = cs) {W2 : World} (hN : New (W.alloc (.cells cs 5 (1, 2))) W2 (W.alloc (.cells cs 5 (1, 2))).heap.size 32 32 (List.replicate 32 0)) {d1 d2 : Dk} (e1 : d.app (List.replicate 32 0) = (d1, 0)) (e2 : d1.syn = (d2, 0)) :
    Calls Try.prog 7 #[.pointer (some ⟨g, 0, none⟩), .slice (some ⟨W.heap.size, 0, none⟩) 1 1, .slice (some ⟨W.heap.size + 1, 0, none⟩) 32 32] W2 fun r w' => ∃ k, r = .returned (.tuple #[.pointer (some ⟨k, 0, none⟩), .int .i64 0]) ∧ Cy base w0 w' g d2 ((k, some (enOf [b] (List.replicate 32 0))) :: Fs) Ks := by
  have hb := bel_trans (lit_bel W cs (1, 2)) hN.bel
  have hp := (lit_late W [b] cs 1 2 hcs rfl rfl (by omega)).below hN.bel
  rw [World.size_alloc] at hN
  exact Cy.good h hb (by decide) hp ⟨hN.isBB, fun _ ad e => by cases e; exact Nat.le_succ _⟩ h0 e1 e2
theorem Cy.openLit (h : Cy base w0 W g d Fs Ks) (b : UInt8) (cs : Array Value) (hcs : ([b].map bv).toArray = cs) (h0 : 32 ≤ d.now.length) {salt : List UInt8} (hs : d.now.take 32 = salt) {d' : Dk} (hd' : d.op = (d', 0)) :
    Calls Try.prog 8 #[.pointer (some ⟨g, 0, none⟩), .slice (some ⟨W.heap.size, 0, none⟩) 1 1] (W.alloc (.cells cs 5 (1, 2))) fun r w' => ∃ k, r = .returned (.tuple #[.pointer (some ⟨k, 0, none⟩), .int .i64 0]) ∧ Cy base w0 w' g d' ((k, some (enOf [b] salt)) :: Fs) Ks :=
  Cy.open_ h (lit_bel W cs _) (by decide) (lit_late W [b] cs 1 2 hcs rfl rfl (by omega)) h0 hs hd'
end
def D0 : Dk := Dk.load 1000 []
def A1 : Dk := { D0 with now := abcL }
theorem aw1 : D0.app (trn none D0.now.length abcL) = (A1, 0) := rfl
theorem list_split {a b : List UInt8} {n : Nat} (h : a.length = n) : (a ++ b).drop n = b ∧ (a ++ b).take n = a := by subst h; exact ⟨List.drop_left, List.take_left⟩
def B1 : Dk := { D0 with now := List.replicate 32 0 }
def B2 : Dk := { B1 with old := List.replicate 32 0, floor := 32 }
def B3 (X : List UInt8) : Dk := { B2 with now := List.replicate 32 0 ++ X }
theorem bw1 : D0.app (List.replicate 32 0) = (B1, 0) := rfl
theorem bw2 : B1.syn = (B2, 0) := rfl
theorem bw3 (X : List UInt8) (h : X.length = 3) : B2.app X = (B3 X, 0) := by
  have h1 : B2.op = (B2, 0) := rfl
  have h2 : B2.now.length = 32 := rfl
  unfold Dk.app
  rw [h1, if_neg (by simp), if_neg (by rw [h2, h]; decide)]
  rfl
theorem B3_op (X : List UInt8) : (B3 X).op = (B3 X, 0) := rfl
theorem B3_len (X : List UInt8) (h : X.length = 3) : (B3 X).now.length = 35 := by
  show (List.replicate 32 0 ++ X).length = 35
  rw [List.length_append, h]; rfl
theorem B3_take (X : List UInt8) : (B3 X).now.take 32 = List.replicate 32 0 := (list_split List.length_replicate).2
theorem B3_read (X : List UInt8) (h : X.length = 3) : ((B3 X).now.drop 32).take 3 = X := by
  have : (B3 X).now.drop 32 = X := (list_split List.length_replicate).1
  rw [this, List.take_of_length_le (by omega)]
theorem wnq (w : World) : (binOp BinOp.neq 9 (.string ⟨#[97, 98, 99]⟩) (.string ⟨#[97, 98, 99]⟩)).run Try.prog w = .ok (.bool false) w := by kernel_rfl
theorem weq (w : World) : (binOp BinOp.eql 9 (.string ⟨#[97, 98, 99]⟩) (.string ⟨#[97, 98, 99]⟩)).run Try.prog w = .ok (.bool true) w := by kernel_rfl
set_option maxRecDepth 10000 in
set_option maxHeartbeats 4000000 in
theorem awake_any (w : World) : Calls Try.prog 16 #[] w fun r w' => r = .returned (.bool true) ∧ Below w.heap.size w w' := by
  have kc := fun (w : World) (C : Array Value) (n c : Nat) => Lib.run_convert_bytes_const (P := Try.prog) w 29 5 C n c Try.isSl27 Try.isU8
  have t1 := wnq
  have t2 := weq
  obtain ⟨en, hen⟩ : ∃ en, enOf [112] (List.replicate 32 0) = en := ⟨_, rfl⟩
  have Hen := hid hen
  obtain ⟨X, hX⟩ : ∃ X, trn (some en) 32 abcL = X := ⟨_, rfl⟩
  have hXl : X.length = 3 := by rw [← hX, trn_len]; rfl
  have HX := hid hX
  have HXl := hid hXl
  have Hrd : Hid (trn (some en) (0 + ahd (some en)) (((B3 X).now.drop (0 + ahd (some en))).take 3) = abcL) := by
    show trn (some en) 32 (((B3 X).now.drop 32).take 3) = abcL
    rw [B3_read X hXl, ← hX, trn_trn]
  have C1 := hid (Cy.newTo 1000 1000 rfl w (by omega))
  clear hen hX hXl
  go_enter Try.func16, Try.ntmps16
  go_upto_region 3 with (first
    | (go_at_call 6; (with_reducible refine C1.out.mono ?_); rintro r W1 ⟨g, rfl, h1⟩; have S1 : Hid (Cy w.heap.size w W1 g D0 [] []) := h1; have C2 := hid (Cy.plain S1.out rfl); clear h1 C1)
    | (go_at_call 7; (with_reducible refine C2.out.mono ?_); rintro r W2 ⟨f, rfl, h2⟩; have S2 := hid h2; have C3 := hid (Cy.litApp S2.out (List.mem_cons_self ..) abcL #[.int .u8 97, .int .u8 98, .int .u8 99] 3 4 rfl rfl rfl (by omega) 0 rfl aw1); clear h2 C2))
  go_upto_region 5 with (first
    | (go_at_call 12; (with_reducible refine C3.out.mono ?_); rintro r W3 ⟨rfl, h3⟩; have S3 := hid h3; have C4 := hid (Cy.imageTo S3.out (l := abcL) (n := 3) rfl rfl); clear h3 C3)
    | (go_at_call 23; (with_reducible refine C4.out.mono ?_); rintro r W4 ⟨A4, c4, rfl, i4, h4⟩; have kz : (convert 29 9 (.slice A4 3 c4)).run Try.prog W4 = .ok (.string ⟨#[97, 98, 99]⟩) W4 := i4.conv; have S4 := hid h4; have C5 := hid (Cy.fplain S4.out (List.mem_cons_self ..) (b := true) rfl); clear h4 i4 C4)
    | (go_at_call 18; (with_reducible refine C5.out.mono ?_); rintro r W5 ⟨rfl, rfl⟩; have C6 := hid (Cy.newTo 1000 1000 rfl W4 (by omega))))
  clear kz
  go_upto_region 7 with (first
    | (go_at_call 6; (with_reducible refine C6.out.mono ?_); rintro r W6 ⟨g2, rfl, h6⟩; have S6 : Hid (Cy W4.heap.size W4 W6 g2 D0 [] []) := h6; clear h6 C6)
    | (at_make; (refine wpList_zeros_w (by rfl) _ _ rfl (W6.alloc (.cells #[.int .u8 112] 5 (1, 2))) 32 rfl rfl (by omega) ?_); intro W7 hN7; have C7 := hid (Cy.goodLit S6.out rfl 112 #[.int .u8 112] rfl hN7.out bw1 bw2); rw [Hen.out] at C7; clear hN7)
    | (go_at_call 7; (with_reducible refine C7.out.mono ?_); rintro r W8 ⟨k, rfl, h8⟩; have S8 := hid h8; have C8 := hid (Cy.litApp S8.out (List.mem_cons_self ..) abcL #[.int .u8 97, .int .u8 98, .int .u8 99] 3 4 rfl rfl rfl (by omega) 0 rfl (by rw [show B2.now.length = 32 from rfl, HX.out]; exact bw3 X HXl.out)); clear h8 C7))
  go_upto_region 9 with (first
    | (go_at_call 12; (with_reducible refine C8.out.mono ?_); rintro r W9 ⟨rfl, h9⟩; have S9 := hid h9; have C9 := hid (Cy.fplain S9.out (List.mem_cons_self ..) (b := false) rfl); have C10 := hid (Cy.fsizeTo S9.out (List.mem_cons_self ..) 3 3 rfl (by show (B3 X).now.length - 32 = 3; rw [B3_len X HXl.out])); clear h9 C8)
    | (go_at_call 18; (with_reducible refine C9.out.mono ?_); rintro r W5 ⟨rfl, rfl⟩)
    | (go_at_call 14; (with_reducible refine C10.out.mono ?_); rintro r W10 ⟨rfl, h10⟩; have S10 := hid h10; have C11 := hid (Cy.sizeTo S10.out 35 rfl (B3_len X HXl.out)); clear h10 C10)
    | (go_at_call 10; (with_reducible refine C11.out.mono ?_); rintro r W5 ⟨rfl, rfl⟩; have C12 := hid (Cy.fread S10.out (List.mem_cons_self ..) 0 3 0 3 rfl rfl (by show 0 + 3 ≤ (B3 X).now.length - 32; rw [B3_len X HXl.out]; omega) (by show 32 ≤ (B3 X).now.length; rw [B3_len X HXl.out]; omega) (B3_op X) Hrd.out)))
  go_upto_region 12 with (first
    | (go_at_call 11; (with_reducible refine C12.out.mono ?_); rintro r W12 ⟨A12, c12, rfl, h12⟩; have S12 := hid h12; have C13 := hid (Cy.openLit S12.out 112 #[.int .u8 112] rfl (by rw [B3_len X HXl.out]; omega) (B3_take X) (B3_op X)); rw [Hen.out] at C13; clear h12 C12)
    | (go_at_call 8; (with_reducible refine C13.out.mono ?_); rintro r W13 ⟨k2, rfl, h13⟩; have S13 := hid h13; have C14 := hid (Cy.fread S13.out (List.mem_cons_self ..) 0 3 0 3 rfl rfl (by show 0 + 3 ≤ (B3 X).now.length - 32; rw [B3_len X HXl.out]; omega) (by show 32 ≤ (B3 X).now.length; rw [B3_len X HXl.out]; omega) (B3_op X) Hrd.out); clear h13 C13)
    | (go_at_call 11; (with_reducible refine C14.out.mono ?_); rintro r W14 ⟨A14, c14, rfl, h14⟩; have S14 := hid h14; have C15 := hid (Cy.state S14.out (by rw [B3_len X HXl.out]; omega) none none 0 0 0 0); have kz1 : (convert 29 9 (.slice A14 3 c14)).run Try.prog W14 = .ok (.string ⟨#[97, 98, 99]⟩) W14 := (Cy.keep S14.out (l := abcL) (List.mem_cons_self ..)).conv; have kz2 : (convert 29 9 (.slice A12 3 c12)).run Try.prog W14 = .ok (.string ⟨#[97, 98, 99]⟩) W14 := (Cy.keep S14.out (l := abcL) (List.mem_cons_of_mem _ (List.mem_cons_self ..))).conv; clear h14 C14))
  go_wp2_with (first
    | (go_at_call 7; (with_reducible refine C15.out.mono ?_); rintro r W5 ⟨rfl, rfl⟩))
  go_ret
  exact ⟨rfl, S4.out.bel.trans (S14.out.bel.mono S4.out.bel.size)⟩
end Go.Proofs.Ytpeepohiajmhcaa
