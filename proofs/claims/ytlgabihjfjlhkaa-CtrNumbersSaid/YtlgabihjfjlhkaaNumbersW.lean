/-
  The walk of the law CtrNumbers.
-/
import Derived.Test.YtlgabihjfjlhkaaKey
import Derived.Test.YtlgabihjfjlhkaaTrn
import Derived.Test.YtlgabihjfjlhkaaRfs
import Derived.Test.YtlgabihjfjlhkaaSame
namespace Go.Proofs.Ytlgabihjfjlhkaa
open Go.RowKit

def z8 : List UInt8 := List.replicate 8 0
theorem first_block (K : Nat → Nat) : stL K z8 0 16 = encL K (List.replicate 16 0) := by
  have l1 : (encL K (List.replicate 16 0)).length = 16 := outL_len _
  apply List.ext_getElem
  · rw [stL_len, l1]
  · intro j h1 h2
    have hj : j < 16 := by rw [stL_len] at h1; exact h1
    rw [stL_get, Nat.zero_add, stB_get]
    have e1 : j / 16 = 0 := by omega
    have e2 : j % 16 = j := by omega
    simp only [e1, e2, blkS, z8, ex_a]
set_option maxRecDepth 10000 in
set_option maxHeartbeats 4000000 in
theorem numbers_walk (w : World) : Calls Try.prog 3 #[] w fun e w' => e = .returned (.bool true) ∧ Below w.heap.size w w' := by
  have hk : ∀ j, j < 32 → exKey j < 256 := fun j _ => fnOf_lt _ j
  go_enter Try.func3, Try.ntmps3
  go_upto_region 2 with (first
    | (go_at_call 7; refine (key_any6 _).mono ?_; rintro e W1 ⟨A1, c1, rfl, hA1, hB1⟩; have HA1 := hid hA1; have HB1 := hid hB1; clear hA1 hB1)
    | (go_at_call 6; refine (New_any A1 c1 _ _ HA1.out).mono ?_; rintro e W2 ⟨gc, rfl, hC2, hB2, _⟩; have HC2 : Hid (Ci W2 gc exKey) := hC2; have HB2 := hid (bel_trans HB1.out hB2); clear hC2 hB2 HA1 HB1))
  go_upto_region 3 with (at_make; go_loud (refine wpList_zeros rfl _ _ rfl W2 8 rfl rfl (by omega) ?_); intro W3 hN3; have HN3 : Hid (IsBB W3 W3.heap.size (some ⟨W2.heap.size, 0, none⟩) 8 8 z8) := hN3.out.isBB; have HC3 := hid (HC2.out.onB hN3.out.bel HC2.out.lt); have HB3 := hid (bel_trans HB2.out hN3.out.bel); clear hN3 HC2 HB2)
  generalize W2.heap.size = gn at HN3 ⊢
  go_upto_region 4 with (go_at_call 8; refine (Stream_any gc _ _ 8 _ 0 16 W3 HC3.out hk HN3.out (by omega) (by omega)).mono ?_; rintro e W4 ⟨g4, rfl, hS4⟩; have HS4 := hid hS4.isBB; have HN4 := hid (HN3.out.on hS4.bel); have HC4 := hid (HC3.out.onB hS4.bel HC3.out.lt); have HB4 := hid (bel_trans HB3.out hS4.bel); clear hS4 HN3 HC3 HB3)
  rw [first_block] at HS4
  go_upto_region 5 with (first
    | (at_make; go_loud (refine wpList_zeros rfl _ _ rfl W4 16 rfl rfl (by omega) ?_); intro W5 hN5; have HZ5 := hid hN5.out.isBB; have HS5 := hid (HS4.out.on hN5.out.bel); have HN5 := hid (HN4.out.on hN5.out.bel); have HC5 := hid (HC4.out.onB hN5.out.bel HC4.out.lt); have HB5 := hid (bel_trans HB4.out hN5.out.bel); clear hN5 HC4 HB4 HN4 HS4)
    | (go_at_call 9; refine (encrypt_any gc _ _ 16 _ W5 HC5.out hk HZ5.out).mono ?_; rintro e W6 ⟨g6, rfl, hI6, hB6, _⟩; have HI6 := hid hI6; have HS6 := hid (HS5.out.on hB6); have HN6 := hid (HN5.out.on hB6); have HC6 := hid (HC5.out.onB hB6 HC5.out.lt); have HB6 := hid (bel_trans HB5.out hB6); clear hI6 hB6 HC5 HB5 HN5 HS5 HZ5))
  go_upto_region 6 with (go_at_call 8; refine (Stream_bad gc _ _ 8 8 (-1) 1 W6 HC6.out (by unfold May; omega)).mono ?_; rintro e w' ⟨rfl, rfl⟩)
  go_upto_region 7 with (go_at_call 8; refine (Stream_bad gc _ _ 7 8 0 1 W6 HC6.out (by unfold May; omega)).mono ?_; rintro e w' ⟨rfl, rfl⟩)
  go_upto_region 8 with (go_at_call 8; refine (Stream_bad gc _ _ 8 8 1099511627777 1 W6 HC6.out (by unfold May; omega)).mono ?_; rintro e w' ⟨rfl, rfl⟩)
  go_upto_region 9 with (go_at_call 8; refine (Stream_bad gc _ _ 8 8 0 (-1) W6 HC6.out (by unfold May; omega)).mono ?_; rintro e w' ⟨rfl, rfl⟩)
  go_upto_region 10 with (go_at_call 8; refine (Stream_bad gc _ _ 8 8 0 4194305 W6 HC6.out (by unfold May; omega)).mono ?_; rintro e w' ⟨rfl, rfl⟩)
  go_upto_region 11 with (go_at_call 8; refine (Stream_nil _ 8 8 0 1 W6).mono ?_; rintro e w' ⟨rfl, rfl⟩)
  go_upto_region 12 with (first
    | (refine wpList_build rfl 35 _ rfl (by kernel_rfl) ?_; generalize hq : (Program.built Try.prog 35 _).getD #[] = Z1; have HZ1 : Hid (Z1[0]? = some (.bool false)) := (by show _ = _; rw [← hq]; kernel_rfl); clear hq)
    | (go_at_call 10; refine (Turn_none W6.heap.size _ none 8 8 0 0 0 _ ((row_cell (heap_alloc_new W6 (.cells Z1 35)) 0).trans HZ1.out)).mono ?_; rintro e w' ⟨rfl, rfl⟩))
  have ha7 : Below W6.heap.size W6 (W6.alloc (.cells Z1 35)) := (Below.refl W6.heap.size W6).alloc (Nat.le_refl _) _
  have HI7 := hid (HI6.out.on ha7)
  have HS7 := hid (HS6.out.on ha7)
  have HN7 := hid (HN6.out.on ha7)
  have HC7 := hid (HC6.out.onB ha7 HC6.out.lt)
  have HB7 := hid (bel_trans HB6.out ha7)
  clear ha7 HI6 HS6 HN6 HC6 HB6 HZ1
  generalize W6.alloc (.cells Z1 35) = W7 at HI7 HS7 HN7 HC7 HB7 ⊢
  go_upto_region 13 with (go_at_call 8; refine (Stream_any gc _ _ 8 _ 1099511627776 3 W7 HC7.out hk HN7.out (by omega) (by omega)).mono ?_; rintro e W8 ⟨g8, rfl, hS8⟩; have HF8 := hid hS8.isBB; have HI8 := hid (HI7.out.on hS8.bel); have HS8 := hid (HS7.out.on hS8.bel); have HN8 := hid (HN7.out.on hS8.bel); have HC8 := hid (HC7.out.onB hS8.bel HC7.out.lt); have HB8 := hid (bel_trans HB7.out hS8.bel); clear hS8 HN7 HC7 HB7 HI7 HS7)
  go_upto_region 14 with (first
    | (go_at_call 7; refine (key_any6 _).mono ?_; rintro e W9 ⟨A9, c9, rfl, hA9, hB9⟩; have HA9 := hid hA9; have HF9 := hid (HF8.out.on hB9); have HI9 := hid (HI8.out.on hB9); have HS9 := hid (HS8.out.on hB9); have HN9 := hid (HN8.out.on hB9); have HC9 := hid (HC8.out.onB hB9 HC8.out.lt); have HB9 := hid (bel_trans HB8.out hB9); clear hA9 hB9 HN8 HC8 HB8 HI8 HS8 HF8)
    | (go_at_call 11; refine (RefStream_any A9 _ c9 8 _ _ 1099511627776 3 W9 HA9.out HN9.out (by omega) (by omega)).mono ?_; rintro e W10 ⟨A10, c10, rfl, hR10, hB10⟩; have HR10 : Hid (IsBB W10 W10.heap.size A10 3 c10 (stL exKey z8 1099511627776 3)) := hR10; have HF10 := hid (HF9.out.on hB10); have HI10 := hid (HI9.out.on hB10); have HS10 := hid (HS9.out.on hB10); have HN10 := hid (HN9.out.on hB10); have HC10 := hid (HC9.out.onB hB10 HC9.out.lt); have HB10 := hid (bel_trans HB9.out hB10); clear hR10 hB10 HN9 HC9 HB9 HI9 HS9 HF9 HA9))
  go_upto_region 15 with (go_at_call 10; refine (Turn_any gc _ _ none 8 0 _ [] 7 0 W10 HC10.out hk HN10.out (isBB_nil W10 _) (by omega) (by omega)).mono ?_; rintro e W11 ⟨g11, rfl, hT11⟩; have HR11 := hid (HR10.out.on hT11.bel).toIsB; have HF11 := hid (HF10.out.on hT11.bel).toIsB; have HI11 := hid (HI10.out.on hT11.bel).toIsB; have HS11 := hid (HS10.out.on hT11.bel).toIsB; have HB11 := hid (bel_trans HB10.out hT11.bel); clear hT11 HR10 HF10 HI10 HS10 HN10 HC10 HB10)
  go_upto_region 16 with (first
    | (go_at_call 12; with_reducible refine (SameBytes_true (some ⟨g4, 0, none⟩) (some ⟨g6, 0, none⟩) (encL exKey (List.replicate 16 0)) 16 16 16 W11 HS11.out HI11.out).mono ?_; rintro e w' ⟨rfl, k1, rfl⟩; have HR12 := hid (HR11.out.drewN k1); have HF12 := hid (HF11.out.drewN k1))
    | (go_at_call 12; with_reducible refine (SameBytes_true (some ⟨g8, 0, none⟩) A10 (stL exKey z8 1099511627776 3) 3 3 c10 _ HF12.out HR12.out).mono ?_; rintro e w' ⟨rfl, k2, rfl⟩)
    | (go_at_call 13; refine (awake_any _).mono ?_; rintro e w' ⟨rfl, hb12⟩))
  go_ret
  exact ⟨rfl, bel_trans (below_drewN HB11.out _) hb12⟩
end Go.Proofs.Ytlgabihjfjlhkaa
