/-
  The walk of CryptNumbers.
-/
import Derived.Test.YtpeepohiajmhcaaAwa
namespace Go.Proofs.Ytpeepohiajmhcaa
open Go.RowKit

def so : List UInt8 := List.replicate 32 0
theorem so_len : so.length = 32 := List.length_replicate
def M0 : Dk := Dk.load 31 []
theorem m1 : M0.app so = (M0, 5) := rfl
def F1 : Dk := { D0 with fails := 3, err := 10 }
def F2 : Dk := { F1 with now := so, fails := 2 }
def F3 : Dk := { F2 with fails := 0 }
def F4 (X : List UInt8) : Dk := { F3 with now := so ++ X }
theorem f1 : D0.fail 2 10 = (F1, 0) := rfl
theorem f2 : F1.app so = (F2, 0) := rfl
theorem f3 : F2.syn = (F3, 10) := rfl
theorem f3o : F3.op = (F3, 0) := rfl
theorem f4 (X : List UInt8) (h : X.length = 3) : F3.app X = (F4 X, 0) := by
  have h2 : F3.now.length = 32 := rfl
  unfold Dk.app
  rw [f3o, if_neg (by simp), if_neg (by rw [h2, h]; decide)]
  rfl
theorem f4o (X : List UInt8) : (F4 X).op = (F4 X, 0) := rfl
theorem f4l (X : List UInt8) (n : Nat) (h : X.length = n) : (F4 X).now.length = 32 + n := by
  show (so ++ X).length = _
  rw [List.length_append, h]; rfl
theorem f4d (X : List UInt8) : (F4 X).now.drop 32 = X := (list_split so_len).1
theorem f4t (X : List UInt8) : (F4 X).now.take 32 = so := (list_split so_len).2
theorem f5 (X : List UInt8) (h : X.length = 3) : (F4 X).trunc 33 = (F4 (X.take 1), 0) := by
  have h2 := f4l X 3 h
  have h3 : (F4 X).now.take 33 = so ++ X.take 1 := by
    show (so ++ X).take 33 = _
    rw [List.take_append, List.take_of_length_le (by rw [so_len]; omega), so_len]
  unfold Dk.trunc
  rw [f4o, if_neg (by omega), if_neg (by simp), h3]
  rfl
def F6 (X : List UInt8) : Dk := { F3 with now := (so ++ X).take 5 }
theorem f6 (X : List UInt8) : (F4 X).trunc 5 = (F6 X, 0) := by
  have h2 := f4l X X.length rfl
  unfold Dk.trunc
  rw [f4o, if_neg (by omega), if_neg (by simp)]
  rfl
theorem f6l (X : List UInt8) : (F6 X).now.length = 5 := by
  show ((so ++ X).take 5).length = 5
  rw [List.length_take, List.length_append, so_len]; omega
section
variable {base : Nat} {w0 W : World} {g : Nat} {d : Dk} {Fs : List (Nat × Option En)} {Ks : List Kb}
/-- A salt of noughts made behind a written-out password. -/
theorem late_two {W2 : World} {b : UInt8} {cs : Array Value} {n : Nat} (hcs : ([b].map bv).toArray = cs) (hN : New (W.alloc (.cells cs 5 (1, 2))) W2 (W.alloc (.cells cs 5 (1, 2))).heap.size n n (List.replicate n 0)) :
    Below W.heap.size W W2 ∧ Late W W2 (some ⟨W.heap.size, 0, none⟩) 1 1 [b] ∧ Late W W2 (some ⟨W.heap.size + 1, 0, none⟩) n n (List.replicate n 0) := by
  have hb := bel_trans (lit_bel W cs (1, 2)) hN.bel
  have hp := (lit_late W [b] cs 1 2 hcs rfl rfl (by omega)).below hN.bel
  rw [World.size_alloc] at hN
  exact ⟨hb, hp, hN.isBB, fun _ ad e => by cases e; exact Nat.le_succ _⟩
end
theorem Cy.ks {base : Nat} {w0 W : World} {g : Nat} {d : Dk} {Fs : List (Nat × Option En)} {Ks : List Kb} {c n : Nat} {A : Option Addr} {l : List UInt8} (h : Cy base w0 W g d Fs (⟨A, n, c, l⟩ :: Ks)) (hl : 0 < l.length) : ∃ ad, A = some ad := by
  obtain ⟨ad, e, _⟩ := (h.keep (List.mem_cons_self ..)).lies hl
  exact ⟨ad, e⟩
theorem one_at {w : World} {ad : Addr} {c : Nat} {b : UInt8} (h : IsB w (some ad) 1 c [b]) : w.cell? ad = some (.int .u8 (b.toNat : Int)) := by
  obtain ⟨ad', e, hc⟩ := h.lies (by simp)
  cases e
  exact hc 0 (by simp)
set_option maxRecDepth 10000 in
set_option maxHeartbeats 8000000 in
theorem CryptNumbers_any (w : World) : Calls Try.prog 3 #[] w fun r w' => r = .returned (.bool true) ∧ Below w.heap.size w w' := by
  have kc := fun (w : World) (C : Array Value) (n c : Nat) => Lib.run_convert_bytes_const (P := Try.prog) w 29 5 C n c Try.isSl27 Try.isU8
  obtain ⟨en, hen⟩ : ∃ en, enOf [112] so = en := ⟨_, rfl⟩
  obtain ⟨eq, heq⟩ : ∃ eq, enOf [113] so = eq := ⟨_, rfl⟩
  obtain ⟨X, hX⟩ : ∃ X, trn (some en) 32 abcL = X := ⟨_, rfl⟩
  have hXl : X.length = 3 := by rw [← hX, trn_len]; rfl
  obtain ⟨Y, hY⟩ : ∃ Y, X.take 1 = Y := ⟨_, rfl⟩
  have hYl : Y.length = 1 := by rw [← hY, List.length_take, hXl]; rfl
  have hYt : trn (some en) 32 [97] = Y := by
    rw [← hY, ← hX]
    show c.turnL en.K en.non 32 (abcL.take 1) = _
    exact c.turnL_take _ _ _ _ _
  have Hen := hid hen
  have Heq := hid heq
  have HX := hid hX
  have HXl := hid hXl
  have HY := hid hY
  have HYl := hid hYl
  have Hra : Hid (((F4 Y).now.drop 32).take 1 = Y) := by
    show ((F4 Y).now.drop 32).take 1 = Y
    rw [f4d, List.take_of_length_le (by omega)]
  have Hrd : Hid (trn (some en) (0 + ahd (some en)) (((F4 Y).now.drop (0 + ahd (some en))).take 1) = [97]) := by
    show trn (some en) 32 (((F4 Y).now.drop 32).take 1) = [97]
    rw [Hra.out, ← hYt, trn_trn]
  have HYn : Hid ((F4 Y).now.length = 33) := f4l Y 1 hYl
  have C1 := hid (Cy.newTo 1000 1000 rfl w (by omega))
  clear hen heq hX hXl hY hYl hYt
  go_enter Try.func3, Try.ntmps3
  go_upto_region 3 with (first
    | (go_at_call 6; (with_reducible refine C1.out.mono ?_); rintro r W1 ⟨g, rfl, h1⟩; have S1 : Hid (Cy w.heap.size w W1 g D0 [] []) := h1; clear h1 C1)
    | (at_make; (refine wpList_zeros_w (by rfl) _ _ rfl W1 32 rfl rfl (by omega) ?_); intro W2 hN2; have S2 := hid (S1.out.below hN2.out.bel); have B2 := hid hN2.out.bel; have C2 := hid (Cy.arg S2.out rfl none (some ⟨W1.heap.size, 0, none⟩) 0 0 32 32 (.inl ⟨rfl, by decide⟩)); clear hN2)
    | (go_at_call 7; (with_reducible refine C2.out.mono ?_); rintro r W9 ⟨rfl, rfl⟩; clear C2))
  go_upto_region 4 with (first
    | (at_make; (refine wpList_zeros_w (by rfl) _ _ rfl (W2.alloc (.cells #[.int .u8 112] 5 (1, 2))) 31 rfl rfl (by omega) ?_); intro W3 hN3; have B3 := hid (bel_trans B2.out (late_two (b := 112) rfl hN3.out).1); have S3 := hid (S1.out.below B3.out); have C3 := hid (Cy.arg S3.out rfl (some ⟨W2.heap.size, 0, none⟩) (some ⟨W2.heap.size + 1, 0, none⟩) 1 1 31 31 (.inr ⟨by decide, by decide⟩)); clear hN3)
    | (go_at_call 7; (with_reducible refine C3.out.mono ?_); rintro r W9 ⟨rfl, rfl⟩; clear C3; have B4 := hid (bel_trans B3.out (lit_bel W3 #[.int .u8 112] (1, 2))); have C4 := hid (Cy.short (S1.out.below B4.out) (by decide) (some ⟨W3.heap.size, 0, none⟩) 1 1 (by decide))))
  obtain ⟨W4, hW4⟩ : ∃ W4, W4 = W3.alloc (.cells #[.int .u8 112] 5 (1, 2)) := ⟨_, rfl⟩
  have C5 := hid (Create_none none none none 0 0 0 0 (w := W4) (made_nil W4))
  have HW4 := hid hW4
  clear hW4
  go_upto_region 6 with (first
    | (go_at_call 8; (with_reducible refine C4.out.mono ?_); rintro r W9 ⟨rfl, e9⟩; rw [← HW4.out] at e9; subst e9; rw [← HW4.out] at B4; clear C4)
    | (go_at_call 7; (with_reducible refine C5.out.mono ?_); rintro r W9 ⟨rfl, rfl⟩; clear C5))
  clear HW4 B3 S3 S2 B2
  obtain ⟨W5, hW5⟩ : ∃ W5, W5 = W4.alloc (.cells #[.pointer none, .int .i64 0, .slice none 0 0, .int .i64 0, .slice none 0 0, .bool false, .int .i64 0, .int .i64 0, .int .i64 0] 32) := ⟨_, rfl⟩
  have c5 : W5.cell? ⟨W4.heap.size, 0, none⟩ = some (.pointer none) := by rw [hW5]; exact row_cell (heap_alloc_new W4 _) 0
  have B5 : Hid (Below W1.heap.size W1 W5) := by rw [hW5]; exact bel_trans B4.out ((Below.refl _ W4).alloc (Nat.le_refl _) _)
  have C5 := hid (Open_none (some ⟨W4.heap.size, 0, none⟩) none 0 0 (w := W5) (made_zero _ W5 c5))
  have HW5 := hid hW5
  have C6 := hid (Cy.newTo 31 31 rfl W5 (by omega))
  clear hW5 c5
  go_upto_region 7 with (first
    | (go_at_call 8; rw [← HW5.out]; (with_reducible refine C5.out.mono ?_); rintro r W9 ⟨rfl, rfl⟩; clear C5))
  clear HW5
  go_upto_region 9 with (first
    | (go_at_call 6; (with_reducible refine C6.out.mono ?_); rintro r W6 ⟨g2, rfl, h6⟩; have S6 : Hid (Cy W5.heap.size W5 W6 g2 M0 [] []) := h6; clear h6 C6)
    | (at_make; (refine wpList_zeros_w (by rfl) _ _ rfl (W6.alloc (.cells #[.int .u8 112] 5 (1, 2))) 32 rfl rfl (by omega) ?_); intro W7 hN7; have HL := late_two (b := 112) rfl hN7.out; have C7 := hid (Cy.app S6.out HL.1 (n := 1) (cap := 1) (A := some ⟨W6.heap.size, 0, none⟩) (by decide) HL.2.2 rfl m1 (by decide)); clear hN7 HL)
    | (go_at_call 7; refine C7.out.mono ?_; rintro r W8 ⟨rfl, h8⟩; have B8 := hid (bel_trans B5.out h8.bel); have S8 := hid (S1.out.below B8.out); have C8 := hid (Cy.fail S8.out 2 10 (by omega) f1); clear h8 C7))
  clear S6 B5
  go_upto_region 10 with (first
    | (go_at_call 9; refine C8.out.mono ?_; rintro r W9 ⟨rfl, h9⟩; have S9 := hid h9; clear h9 C8))
  go_upto_region 12 with (first
    | (at_make; (refine wpList_zeros_w (by rfl) _ _ rfl (W9.alloc (.cells #[.int .u8 112] 5 (1, 2))) 32 rfl rfl (by omega) ?_); intro W10 hN10; have HL := late_two (b := 112) rfl hN10.out; have C10 := hid (Cy.syn S9.out HL.1 (n := 1) (cap := 1) (A := some ⟨W9.heap.size, 0, none⟩) (by decide) HL.2.2 rfl f2 f3 (by decide)); clear hN10 HL)
    | (go_at_call 7; refine C10.out.mono ?_; rintro r W11 ⟨rfl, h11⟩; have S11 := hid h11; have C11 := hid (Cy.sizeTo S11.out 32 rfl (by rfl)); have C12 := hid (Cy.openLit S11.out 112 #[.int .u8 112] rfl (by decide) (salt := so) (by rfl) f3o); rw [Hen.out] at C12; clear h11 C10)
    | (go_at_call 10; (with_reducible refine C11.out.mono ?_); rintro r w9 ⟨rfl, rfl⟩))
  go_upto_region 14 with (first
    | (go_at_call 8; (with_reducible refine C12.out.mono ?_); rintro r W12 ⟨k, rfl, h12⟩; have S12 := hid h12; have C13 := hid (Cy.freadBad S12.out (List.mem_cons_self ..) 0 1 (by show ¬ ((0 : Int) ≤ 0 ∧ (0 : Int) ≤ 1 ∧ (0 : Int) ≤ ((32 - 32 : Nat) : Int) - 1); decide) (by decide)); clear h12 C12)
    | (go_at_call 11; (with_reducible refine C13.out.mono ?_); rintro r W13 ⟨rfl, h13⟩; have S13 := hid h13; have C14 := hid (Cy.litApp S13.out (List.mem_cons_self ..) abcL #[.int .u8 97, .int .u8 98, .int .u8 99] 3 4 rfl rfl rfl (by omega) 0 rfl (by rw [show F3.now.length = 32 from rfl, HX.out]; exact f4 X HXl.out)); clear h13 C13))
  go_upto_region 15 with (first
    | (go_at_call 12; (with_reducible refine C14.out.mono ?_); rintro r W14 ⟨rfl, h14⟩; have S14 := hid h14; have C15 := hid (Cy.ftruncBad S14.out (List.mem_cons_self ..) 4 (by show ¬ ((0 : Int) ≤ 4 ∧ (4 : Int) ≤ (((F4 X).now.length - 32 : Nat) : Int)); rw [f4l X 3 HXl.out]; decide)); clear h14 C14)
    | (go_at_call 13; (with_reducible refine C15.out.mono ?_); rintro r W15 ⟨rfl, h15⟩; have S15 := hid h15; have C16 := hid (Cy.ftrunc S15.out (List.mem_cons_self ..) 1 1 rfl (by show 1 ≤ (F4 X).now.length - 32; rw [f4l X 3 HXl.out]; decide) (by show 32 ≤ (F4 X).now.length; rw [f4l X 3 HXl.out]; decide) (by show (F4 X).trunc 33 = (F4 Y, 0); rw [← HY.out]; exact f5 X HXl.out)); rw [show ((0 : Nat) : Int) = 0 from rfl] at C16; clear h15 C15)
    | (go_at_call 13; (with_reducible refine C16.out.mono ?_); rintro r W16 ⟨rfl, h16⟩; have S16 := hid h16; have C17 := hid (Cy.fsizeTo S16.out (List.mem_cons_self ..) 1 1 rfl (by show (F4 Y).now.length - 32 = 1; rw [HYn.out])); clear h16 C16)
    | (go_at_call 14; (with_reducible refine C17.out.mono ?_); rintro r W17 ⟨rfl, h17⟩; have S17 := hid h17; have C18 := hid (Cy.sizeTo S17.out 33 rfl HYn.out); have C19 := hid (Cy.openLit S17.out 113 #[.int .u8 113] rfl (by rw [HYn.out]; decide) (f4t Y) (f4o Y)); rw [Heq.out] at C19; clear h17 C17)
    | (go_at_call 10; (with_reducible refine C18.out.mono ?_); rintro r w9 ⟨rfl, rfl⟩; clear C18))
  go_upto_region 18 with (first
    | (go_at_call 8; (with_reducible refine C19.out.mono ?_); rintro r W18 ⟨k2, rfl, h18⟩; have S18 := hid h18; have C20 := hid (Cy.fread S18.out (k := k) (o := some en) (List.mem_cons_of_mem _ (List.mem_cons_self ..)) 0 1 0 1 rfl rfl (by show 0 + 1 ≤ (F4 Y).now.length - 32; rw [HYn.out]; decide) (by show 32 ≤ (F4 Y).now.length; rw [HYn.out]; decide) (f4o Y) Hrd.out); clear h18 C19)
    | (go_at_call 11; (with_reducible refine C20.out.mono ?_); rintro r W19 ⟨A19, c19, rfl, h19⟩; obtain ⟨ad, rfl⟩ := h19.ks (by decide); have S19 := hid h19; have C21 := hid (Cy.fread S19.out (k := k2) (o := some eq) (List.mem_cons_self ..) 0 1 0 1 rfl rfl (by show 0 + 1 ≤ (F4 Y).now.length - 32; rw [HYn.out]; decide) (by show 32 ≤ (F4 Y).now.length; rw [HYn.out]; decide) (f4o Y) rfl); clear h19 C20)
    | (go_at_call 11; (with_reducible refine C21.out.mono ?_); rintro r W20 ⟨A20, c20, rfl, h20⟩; have S20 := hid h20; have C22 := hid (Cy.trunc S20.out 5 5 rfl (by rw [HYn.out]; decide) (f6 Y)); clear h20 C21))
  go_upto_region 19 with (first
    | (go_at_call 15; refine C22.out.mono ?_; rintro r W21 ⟨rfl, h21⟩; have S21 := hid h21; clear h21 C22))
  have ka := one_at (Cy.keep S21.out (A := some ad) (n := 1) (c := c19) (l := [97]) (List.mem_cons_of_mem _ (List.mem_cons_self ..)))
  have ka2 : W21.cell? (ad.add 0) = some (.int .u8 97) := ka
  have C23 := hid (Cy.fsizeTo S21.out (k := k) (o := some en) (List.mem_cons_of_mem _ (List.mem_cons_self ..)) 0 0 rfl (by show (F6 Y).now.length - 32 = 0; rw [f6l]))
  go_wp2_with (first
    | (go_at_call 14; (with_reducible refine C23.out.mono ?_); rintro r W22 ⟨rfl, h22⟩; have C24 := hid (Cy.ftruncOver h22 (k := k) (o := some en) (List.mem_cons_of_mem _ (List.mem_cons_self ..)) (by show (F6 Y).now.length < 32; rw [f6l]; decide)); clear h22 C23)
    | (go_at_call 13; (with_reducible refine C24.out.mono ?_); rintro r W23 ⟨rfl, h23⟩; have B23 := hid h23.bel; clear h23 C24)
    | (go_at_call 16; (with_reducible refine (awake_any _).mono ?_); rintro r W24 ⟨rfl, b24⟩; have B24 := hid (bel_trans B23.out b24); clear b24))
  go_ret
  exact ⟨rfl, B24.out⟩
end Go.Proofs.Ytpeepohiajmhcaa
