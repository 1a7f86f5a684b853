/-
  The contract of awake: the chapter's first examples come out.
-/
import Derived.Test.YtgdofhidjfeehaaHex
import Derived.Lib.SlBytesConst
namespace Go.Proofs.Ytgdofhidjfeehaa
open Go.RowKit

theorem hex0 : hexL (sha []) = [101, 51, 98, 48, 99, 52, 52, 50, 57, 56, 102, 99, 49, 99, 49, 52, 57, 97, 102, 98, 102, 52, 99, 56, 57, 57, 54, 102, 98, 57, 50, 52, 50, 55, 97, 101, 52, 49, 101, 52, 54, 52, 57, 98, 57, 51, 52, 99, 97, 52, 57, 53, 57, 57, 49, 98, 55, 56, 53, 50, 98, 56, 53, 53] := by kernel_rfl
theorem hex3 : hexL (sha [97, 98, 99]) = [98, 97, 55, 56, 49, 54, 98, 102, 56, 102, 48, 49, 99, 102, 101, 97, 52, 49, 52, 49, 52, 48, 100, 101, 53, 100, 97, 101, 50, 50, 50, 51, 98, 48, 48, 51, 54, 49, 97, 51, 57, 54, 49, 55, 55, 97, 57, 99, 98, 52, 49, 48, 102, 102, 54, 49, 102, 50, 48, 48, 49, 53, 97, 100] := by kernel_rfl
theorem new_isBB (w : World) (l : List UInt8) (fr : Nat × Nat) (hl : l.length ≤ 1000) : IsBB (w.alloc (.cells (l.map bv).toArray 5 fr)) (w.alloc (.cells (l.map bv).toArray 5 fr)).heap.size (some ⟨w.heap.size, 0, none⟩) l.length l.length l :=
  ⟨⟨rfl, Nat.le_refl _, by unfold maxLen; omega, by omega, fun hp => ⟨_, rfl, fun j hj => by
    have e : (⟨w.heap.size, 0, none⟩ : Addr).add j = ⟨w.heap.size, j, none⟩ := by unfold Addr.add; split <;> simp_all
    rw [e, cell_of_row _ _ j _ 5 fr (heap_alloc_new w _), List.getElem?_toArray]
    exact map_bv_getElem? l j hj⟩⟩, fun _ ad e => by cases e; simp⟩

set_option maxRecDepth 10000 in
set_option maxHeartbeats 1000000 in
theorem awake_any (w : World) : Calls Try.prog 11 #[] w fun e w' => e = .returned (.bool true) ∧ Below w.heap.size w w' := by
  have kc := fun (w : World) (C : Array Value) (n c : Nat) => Lib.run_convert_bytes_const (P := Try.prog) w 25 5 C n c Try.underlying25 Try.underlying5
  go_enter Try.func11, Try.ntmps11
  go_wp2_with fail
  refine (Of_any none [] 0 0 _ (isBB_nil w _)).mono ?_
  rintro e W1 ⟨rfl, hb1⟩
  have Hb1 := hid hb1
  clear hb1
  go_wp2_with fail
  refine (hex_any (sha []) (sha_len _) _).mono ?_
  rintro e W2 ⟨rfl, hb2⟩
  have Hb2 := hid hb2
  clear hb2
  rw [hex0]
  go_wp2_with fail
  refine (Of_any _ [97, 98, 99] 3 3 _ (new_isBB W2 [97, 98, 99] (3, 4) (by simp))).mono ?_
  rintro e W3 ⟨rfl, hb3⟩
  have Hb3 := hid hb3
  clear hb3
  go_wp2_with fail
  refine (hex_any (sha [97, 98, 99]) (sha_len _) _).mono ?_
  rintro e W4 ⟨rfl, hb4⟩
  have Hb4 := hid hb4
  clear hb4
  rw [hex3]
  go_wp2_with fail
  go_ret
  refine ⟨rfl, ?_⟩
  have q1 : Below w.heap.size w W2 := Hb1.out.trans (Hb2.out.mono Hb1.out.size)
  have q2 := q1.alloc q1.size (.cells #[.int .u8 97, .int .u8 98, .int .u8 99] 5 (3, 4))
  have q3 : Below w.heap.size w W3 := q2.trans (Hb3.out.mono q2.size)
  exact q3.trans (Hb4.out.mono q3.size)
end Go.Proofs.Ytgdofhidjfeehaa
