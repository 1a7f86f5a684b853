/-
  The chapter's examples come out ('awake').
-/
import Derived.Test.YtbgbacajgaeooaaCal
import Derived.Test.YtbgbacajgaeooaaGta
import Derived.Test.YtbgbacajgaeooaaKit
namespace Go.Proofs.Ytbgbacajgaeooaa
open Go.RowKit

section
variable {n : Nat} {w W : World} {g : Nat} {s : Es} {L : List (Bool × Nat × Es)}
theorem OL.put10 (h : OL n w W ((true, g, s) :: L)) (bit p : Int) {s' : Es} {c : Nat} (e : s.put bit p = (s', c)) (z : Int) (hz : z = (c : Int)) :
    Calls Try.prog 10 #[.pointer (some ⟨g, 0, none⟩), .int .i64 bit, .int .i64 p] W fun r w' => r = .returned (.int .i64 z) ∧ OL w'.heap.size w w' ((true, g, s') :: L) := by
  subst hz
  have := h.put bit p
  rw [e] at this
  exact this
theorem OL.endL (h : OL n w W ((true, g, s) :: L)) (l : List UInt8) (e : s.l ++ be4 s.x = l) (m : Nat) (hm : l.length = m) :
    Calls Try.prog 13 #[.pointer (some ⟨g, 0, none⟩)] W fun r w' => ∃ A c, r = .returned (.slice A m c) ∧ IsBB w' w'.heap.size A m c l ∧ Below W.heap.size W w' := by
  subst hm
  obtain ⟨S, _, _, hl⟩ := h.first
  refine h.end.mono ?_
  rintro r w' ⟨v, rfl, ho⟩
  rw [e] at ho
  have hb : l.length ≤ 1000000 := by rw [← e, List.length_append]; show s.l.length + 4 ≤ _; omega
  obtain ⟨A, c, rfl, hI⟩ := ho.isBB hb
  exact ⟨A, c, rfl, hI, ho.bel⟩
end
def esA : Es := ⟨0, 2147483647, []⟩
def esB : Es := ⟨2147483648, 4294967295, []⟩
def esC : Es := ⟨0, 4294967295, [0, 0]⟩
theorem putA : es0.put 1 32768 = (esA, 0) := by kernel_rfl
theorem putB : es0.put 0 32768 = (esB, 0) := by kernel_rfl
theorem putC : es0.put 1 1 = (esC, 0) := by kernel_rfl
theorem putA2 : esA.put 2 5 = (esA, 2) := by kernel_rfl
theorem putA3 : esA.put 1 65536 = (esA, 2) := by kernel_rfl
theorem endA : esA.l ++ be4 esA.x = [0, 0, 0, 0] := by kernel_rfl
theorem endB : esB.l ++ be4 esB.x = [128, 0, 0, 0] := by kernel_rfl
theorem bitB : false = bitOf 0 4294967295 32768 [128, 0, 0, 0] := by decide +kernel
/-- Four bytes against four written out. -/
theorem Same4 {W : World} {A : Option Addr} {c0 : Nat} (a b c d : UInt8) (x0 x1 x2 x3 : Int) (h : IsBB W W.heap.size A 4 c0 [a, b, c, d]) (h0 : x0 = (a.toNat : Int)) (h1 : x1 = (b.toNat : Int)) (h2 : x2 = (c.toNat : Int)) (h3 : x3 = (d.toNat : Int)) :
    Calls Try.prog 14 #[.slice A 4 c0, .slice (some ⟨W.heap.size, 0, none⟩) 4 4] (W.alloc (.cells #[.int .u8 x0, .int .u8 x1, .int .u8 x2, .int .u8 x3] 5)) fun e w' => e = .returned (.bool true) ∧ Below W.heap.size W w' :=
  (SameBytes_true _ _ _ 4 _ _ _ (h.below ((Below.refl _ W).alloc (Nat.le_refl _) _)).toIsB (four_isB W a b c d x0 x1 x2 x3 h0 h1 h2 h3)).mono (fun _ w' h => ⟨h.1, by obtain ⟨k, e⟩ := h.2; rw [e]; exact below_drewN ((Below.refl _ W).alloc (Nat.le_refl _) _) k⟩)
theorem Get_B {B : Nat} {S : Nat → Prop} {w : World} {g N : Nat} {A : Option Addr} {n c : Nat} (h : DeAt B S w g 0 4294967295 [128, 0, 0, 0] N A n c) :
    Calls Try.prog 20 #[.pointer (some ⟨g, 0, none⟩), .int .i64 32768] w fun r w' => r = .returned (.tuple #[.int .i64 0, .int .i64 0]) ∧ But (· = g) w w' :=
  (Get_good h es0_ok 32768 (by decide) (by decide) false bitB).mono (fun _ _ h => ⟨h.1, h.2.2⟩)
set_option maxRecDepth 10000 in
set_option maxHeartbeats 1000000 in
theorem awake_any (w : World) : Calls Try.prog 16 #[] w fun r w' => r = .returned (.bool true) ∧ Below w.heap.size w w' := by
  have O0 := hid (OL.nil (Below.refl w.heap.size w))
  go_enter Try.func16, Try.ntmps16
  go_upto_region 6 with (first
    | (go_at_call 8; (with_reducible refine O0.out.new.mono ?_); rintro r w1 ⟨a, rfl, h1⟩; have O1 := hid h1; clear h1)
    | (go_at_call 8; (with_reducible refine O1.out.new.mono ?_); rintro r w2 ⟨b, rfl, h2⟩; have O2 := hid h2; clear h2)
    | (go_at_call 8; (with_reducible refine O2.out.new.mono ?_); rintro r w3 ⟨c, rfl, h3⟩; have O3 := hid h3.swap2.swap; clear h3)
    | (go_at_call 10; (with_reducible refine (O3.out.put10 1 32768 putA 0 rfl).mono ?_); rintro r w4 ⟨rfl, h4⟩; have O4 := hid h4.swap2.swap; clear h4)
    | (go_at_call 10; (with_reducible refine (O4.out.put10 0 32768 putB 0 rfl).mono ?_); rintro r w5 ⟨rfl, h5⟩; have O5 := hid h5.swap2.swap; clear h5)
    | (go_at_call 10; (with_reducible refine (O5.out.put10 1 1 putC 0 rfl).mono ?_); rintro r w6 ⟨rfl, h6⟩; have O6 := hid h6.swap; clear h6)
    | (go_at_call 13; (with_reducible refine (O6.out.endL [128, 0, 0, 0] endB 4 rfl).mono ?_); rintro r w7 ⟨A7, c7, rfl, i7, b7⟩; have O7 := hid ((O6.out.later b7).swap2.swap.up (O6.out.later b7).n1 (Nat.le_refl _)); have I7 := hid i7; clear i7 b7)
    | (go_at_call 18; (with_reducible refine (NewDecoder_any _ _ _ _ _ I7.out).mono ?_); rintro r w8 ⟨d, S8, A8, n8, c8, rfl, h8, b8⟩; have O8 := hid (O7.out.later b8); have D8 := hid h8; clear h8 b8)
    | (go_at_call 20; (with_reducible refine (Get_B D8.out).mono ?_); rintro r w9 ⟨rfl, b9⟩; have O9 := hid (O8.out.but b9 (fun i hi => by rw [hi]; exact (D8.out.lt _ D8.out.sg).1)); clear b9))
  go_wp2_with (first
    | (go_at_call 13; (with_reducible refine (O9.out.endL [0, 0, 0, 0] endA 4 rfl).mono ?_); rintro r w10 ⟨A10, c10, rfl, i10, b10⟩; have O10 := hid (O9.out.later b10).swap; have S10 := hid (Same4 0 0 0 0 0 0 0 0 i10 rfl rfl rfl rfl); clear i10 b10)
    | (go_at_call 14; (with_reducible refine S10.out.mono ?_); rintro r w11 ⟨rfl, b11⟩; have O12 := hid (O10.out.later b11); clear b11)
    | (go_at_call 13; (with_reducible refine (O12.out.endL [128, 0, 0, 0] endB 4 rfl).mono ?_); rintro r w12 ⟨A12, c12, rfl, i12, b12⟩; have O13 := hid (O12.out.later b12).swap2.swap; have S12 := hid (Same4 128 0 0 0 128 0 0 0 i12 rfl rfl rfl rfl); clear i12 b12)
    | (go_at_call 14; (with_reducible refine S12.out.mono ?_); rintro r w13 ⟨rfl, b13⟩; have O15 := hid (O13.out.later b13); clear b13)
    | (go_at_call 12; (with_reducible refine O15.out.len.mono ?_); rintro r w' ⟨rfl, rfl⟩; have O16 := hid O15.out.swap2.swap)
    | (go_at_call 10; (with_reducible refine (O16.out.put10 2 5 putA2 2 rfl).mono ?_); rintro r w17 ⟨rfl, h17⟩; have O17 := hid h17; clear h17)
    | (go_at_call 10; (with_reducible refine (O17.out.put10 1 65536 putA3 2 rfl).mono ?_); rintro r w18 ⟨rfl, h18⟩; have O18 := hid h18; clear h18))
  go_ret
  exact ⟨rfl, O18.out.bel⟩
end Go.Proofs.Ytbgbacajgaeooaa
