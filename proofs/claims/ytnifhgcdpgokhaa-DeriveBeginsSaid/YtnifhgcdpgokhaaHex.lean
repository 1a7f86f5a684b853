/-
  The contracts of sha.Of and of hex.
-/
import Derived.Test.YtnifhgcdpgokhaaSum
import Derived.Laws.Concat
namespace Go.Proofs.Ytnifhgcdpgokhaa
open Go.RowKit

theorem sha_len (l : List UInt8) : (sha l).length = 32 := by simp [sha]
theorem map_len32 {l : List UInt8} (h : l.length = 32) : (l.map bv).length = 32 := by simp [h]
theorem bv_all (l : List UInt8) : (l.map bv).toArray.all (·.oneCell') = true := by
  rw [List.all_toArray, List.all_eq_true]; exact bv_one l
theorem isBB_rest {w w' : World} {g : Nat} {A : Option Addr} {n c : Nat} {l : List UInt8} (h : IsBB w w.heap.size A n c l) (hb : Below w.heap.size w w') (hg : w.heap.size ≤ g) : Rest w' g w'.heap.size A n c l :=
  ⟨(h.below hb).toIsB, fun hp ad e => by have := h.low hp ad e; have := hb.size; omega⟩

theorem of_row {W0 W1 W2 W3 : World} {B g : Nat} (r0 : W0.heap[B]? = some (.cells z32 30 (0, 0))) (s0 : W0.heap.size = B + 1) (b1 : Below W0.heap.size W0 W1) (hg : W0.heap.size ≤ g) (g2 : W1.grownBy W2 (some g)) (b3 : Below W2.heap.size W2 W3) :
    W3.heap[B]? = some (.cells z32 30 (0, 0)) := by
  have e1 := b1.size
  have e2 := g2.size
  rw [b3.block B (by omega), g2.block B (by omega) (by intro e; have e2 : B = g := Option.some.inj e; omega), b1.block B (by omega), r0]
theorem of_below {w W0 W1 W2 W3 : World} {g : Nat} (b0 : Below w.heap.size w W0) (s0 : W0.heap.size = w.heap.size + 1) (b1 : Below W0.heap.size W0 W1) (hg : W0.heap.size ≤ g) (g2 : W1.grownBy W2 (some g)) (b3 : Below W2.heap.size W2 W3) :
    Below w.heap.size w W3 := by
  have e1 := b1.size
  have e2 := g2.size
  have q1 : Below w.heap.size w W1 := b0.trans (b1.mono (by omega))
  have q2 : Below w.heap.size w W2 := q1.grown g2 (by omega) (fun k e => by cases e; omega)
  exact q2.trans (b3.mono (by omega))

set_option maxRecDepth 10000 in
set_option maxHeartbeats 1000000 in
theorem Of_any (A : Option Addr) (l : List UInt8) (n c : Nat) (w : World) (h : IsBB w w.heap.size A n c l) :
    Calls Try.prog 17 #[.slice A n c] w fun e w' => e = .returned (.agg ((sha l).map bv).toArray) ∧ Below w.heap.size w w' := by
  have hlen := hid h.len
  have H := hid h
  have r0 : (w.alloc (.cells z32 30)).heap[w.heap.size]? = some (.cells z32 30 (0, 0)) := heap_alloc_new w _
  have b0 : Below w.heap.size w (w.alloc (.cells z32 30)) := (Below.refl w.heap.size w).alloc (Nat.le_refl _) (.cells z32 30)
  have s0 : (w.alloc (.cells z32 30)).heap.size = w.heap.size + 1 := by simp
  clear h
  go_enter Try.func17, Try.ntmps17
  go_upto_region 1 with (fail)
  change Code.wp _ _ _ _ (w.alloc (.cells z32 30))
  generalize w.alloc (.cells z32 30) = W0 at r0 b0 s0 ⊢
  have Hr0 := hid r0
  have Hb0 := hid b0
  have Hs0 := hid s0
  clear r0 b0 s0
  go_wp2_with (first
    | (go_at_call 25; refine (New_any _).mono ?_; rintro e W1 ⟨g, rfl, hd, hb1, hg⟩; have Hd := hid hd; have Hb1 := hid hb1; have Hg := hid hg; clear hd hb1 hg)
    | (go_at_call 26; refine (Write_any g [] l _ _ _ _ Hd.out (isBB_rest H.out (Hb0.out.trans (Hb1.out.mono Hb0.out.size)) (Nat.le_trans Hb0.out.size Hg.out)) (by have := H.out.small; show 0 + n < _; omega)).mono ?_; rintro e W2 ⟨rfl, hd2, hg2⟩; have Hd2 := hid hd2; have Hg2 := hid hg2; clear hd2 hg2)
    | (go_at_call 27; refine (Sum_any g ([] ++ l) _ Hd2.out (by have := H.out.small; have := hlen.out; rw [List.nil_append]; omega)).mono ?_; rintro e W3 ⟨rfl, hb3⟩; rw [List.nil_append]; have Hb3 := hid hb3; have HR : Hid (W3.heap[w.heap.size]? = some (.cells z32 30 (0, 0))) := (of_row Hr0.out Hs0.out Hb1.out Hg.out Hg2.out hb3); clear hb3)
    | (refine wpList_store_row (o := ⟨none, .store 30 (.tmp 2) (.tmp 9), _, _, _, _⟩) rfl 30 (.tmp 2) (.tmp 9) rfl w.heap.size ((sha l).map bv).toArray rfl rfl 30 z32 HR.out (size32 _ (map_len32 (sha_len l))) (z32_size _ (map_len32 (sha_len l))) (bv_all _) ?_))
  refine bodyPost_ret (results_cell_row (by kernel_rfl : Try.f17.results = #[.cell 2 30]) _ _ w.heap.size 30 ((sha l).map bv).toArray (0, 0) _ rfl (setRow_heap _ _ _ _ _ _ HR.out) Try.underlying30 rfl (size32 _ (map_len32 (sha_len l)))) rfl ⟨rfl, ?_⟩
  exact below_setRow (of_below Hb0.out Hs0.out Hb1.out Hg.out Hg2.out Hb3.out) (Nat.le_refl _) _

def digits : List UInt8 := [48, 49, 50, 51, 52, 53, 54, 55, 56, 57, 97, 98, 99, 100, 101, 102]
def dig (n : Nat) : UInt8 := digits.getD n 0
def hexL (l : List UInt8) : List UInt8 := l.flatMap fun b => [dig (b.toNat / 16), dig (b.toNat % 16)]
theorem hexL_snoc (l : List UInt8) (b : UInt8) : hexL (l ++ [b]) = hexL l ++ [dig (b.toNat / 16)] ++ [dig (b.toNat % 16)] := by simp [hexL]
theorem hexL_len (l : List UInt8) : (hexL l).length = 2 * l.length := by
  induction l with
  | nil => rfl
  | cons b r ih => simp only [hexL, List.flatMap_cons, List.length_append, List.length_cons, List.length_nil] at ih ⊢; omega
theorem cat_bytes (a : List UInt8) (b : UInt8) (h : a.length ≤ 1000) (w : World) : (Op.stringOp .add ⟨a.toArray⟩ ⟨#[b]⟩).run Try.prog w = .ok (.string ⟨(a ++ [b]).toArray⟩) w := by
  have hs : (⟨a.toArray⟩ : ByteArray).size = a.length := by simp [ByteArray.size]
  have hs2 : (⟨#[b]⟩ : ByteArray).size = 1 := rfl
  rw [run_string_add_sum _ _ _ (by rw [hs, hs2]; omega)]
  congr 2
theorem cut_digit (h : Nat) (hh : h < 16) (w : World) : (Instr.sliceAt 9 (.string ⟨#[48, 49, 50, 51, 52, 53, 54, 55, 56, 57, 97, 98, 99, 100, 101, 102]⟩) (some (.int .u8 (h : Nat))) (some (.int .u8 ((h : Nat) + 1 : Int))) none).run Try.prog w = .ok (.string ⟨#[dig h]⟩) w := by
  have : h = 0 ∨ h = 1 ∨ h = 2 ∨ h = 3 ∨ h = 4 ∨ h = 5 ∨ h = 6 ∨ h = 7 ∨ h = 8 ∨ h = 9 ∨ h = 10 ∨ h = 11 ∨ h = 12 ∨ h = 13 ∨ h = 14 ∨ h = 15 := by omega
  rcases this with rfl | rfl | rfl | rfl | rfl | rfl | rfl | rfl | rfl | rfl | rfl | rfl | rfl | rfl | rfl | rfl <;> (show _ = _; kernel_rfl)
theorem low_eq (x : Nat) (hx : x < 256) : bits BinOp.and IntKind.u8 (x : Int) 15 = ((x % 16 : Nat) : Int) := by
  have e := u8_and_nat x 15 hx (by omega)
  have e2 : x &&& 15 = x % 16 := Nat.and_two_pow_sub_one_eq_mod x 4
  rw [e2] at e
  exact e

end Go.Proofs.Ytnifhgcdpgokhaa
