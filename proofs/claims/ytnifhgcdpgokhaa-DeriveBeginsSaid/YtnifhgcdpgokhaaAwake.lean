/-
  The contract of awake: the chapter's first examples come out.
-/
import Derived.Test.YtnifhgcdpgokhaaHexS
import Derived.Test.YtnifhgcdpgokhaaExamples
import Derived.Test.YtnifhgcdpgokhaaPbk
import Derived.Lib.SlBytesConst
namespace Go.Proofs.Ytnifhgcdpgokhaa
open Go.RowKit

theorem new_isBB (w : World) (l : List UInt8) (fr : Nat × Nat) (hl : l.length ≤ 1000) : IsBB (w.alloc (.cells (l.map bv).toArray 5 fr)) (w.alloc (.cells (l.map bv).toArray 5 fr)).heap.size (some ⟨w.heap.size, 0, none⟩) l.length l.length l :=
  ⟨⟨rfl, Nat.le_refl _, by unfold maxLen; omega, by omega, fun hp => ⟨_, rfl, fun j hj => by
    have e : (⟨w.heap.size, 0, none⟩ : Addr).add j = ⟨w.heap.size, j, none⟩ := by unfold Addr.add; split <;> simp_all
    rw [e, cell_of_row _ _ j _ 5 fr (heap_alloc_new w _), List.getElem?_toArray]
    exact map_bv_getElem? l j hj⟩⟩, fun _ ad e => by cases e; simp⟩

theorem two_isBB (w : World) (l1 l2 : List UInt8) (f1 f2 : Nat × Nat) (h1 : l1.length ≤ 1000) (h2 : l2.length ≤ 1000) :
    IsBB ((w.alloc (.cells (l1.map bv).toArray 5 f1)).alloc (.cells (l2.map bv).toArray 5 f2)) ((w.alloc (.cells (l1.map bv).toArray 5 f1)).alloc (.cells (l2.map bv).toArray 5 f2)).heap.size (some ⟨w.heap.size, 0, none⟩) l1.length l1.length l1 ∧
    IsBB ((w.alloc (.cells (l1.map bv).toArray 5 f1)).alloc (.cells (l2.map bv).toArray 5 f2)) ((w.alloc (.cells (l1.map bv).toArray 5 f1)).alloc (.cells (l2.map bv).toArray 5 f2)).heap.size (some ⟨w.heap.size + 1, 0, none⟩) l2.length l2.length l2 ∧
    Below w.heap.size w ((w.alloc (.cells (l1.map bv).toArray 5 f1)).alloc (.cells (l2.map bv).toArray 5 f2)) := by
  have b1 : Below w.heap.size w (w.alloc (.cells (l1.map bv).toArray 5 f1)) := (Below.refl _ _).alloc (Nat.le_refl _) _
  have s1 : (w.alloc (.cells (l1.map bv).toArray 5 f1)).heap.size = w.heap.size + 1 := by simp
  refine ⟨(new_isBB w l1 f1 h1).on ((Below.refl _ _).alloc (Nat.le_refl _) _), ?_, b1.alloc b1.size _⟩
  have e := new_isBB (w.alloc (.cells (l1.map bv).toArray 5 f1)) l2 f2 h2
  rw [s1] at e
  exact e
theorem kc_two (w : World) (o : Obj) (C : Array Value) (n c : Nat) : (convert 22 22 (.slice (some ⟨w.heap.size + 1, 0, none⟩) n c)).run Try.prog ((w.alloc o).alloc (.cells C 5)) = .ok (.slice (some ⟨w.heap.size + 1, 0, none⟩) n c) ((w.alloc o).alloc (.cells C 5 (C.size, C.size + 1))) := by
  have e := Lib.run_convert_bytes_const (P := Try.prog) (w.alloc o) 22 5 C n c Try.underlying22 Try.underlying5
  have s1 : (w.alloc o).heap.size = w.heap.size + 1 := by simp
  rw [s1] at e
  exact e

def saltB : List UInt8 := [115, 97, 108, 116]
theorem pbk_1_32 (A B : Option Addr) (l s : List UInt8) (n c m d : Nat) (w : World) (h : IsBB w w.heap.size A n c l) (hb : IsBB w w.heap.size B m d s) :
    Calls Try.prog 6 #[.slice A n c, .slice B m d, .int .i64 1, .int .i64 32] w fun e w' => ∃ g, e = .returned (.tuple #[.slice (some ⟨g, 0, none⟩) 32 32, .int .i64 0]) ∧ New w w' g 32 32 (pbk l s 1 32) :=
  Pbkdf2_yes A B l s n c m d 1 32 w h hb (by omega) (by omega) (by omega)

set_option maxRecDepth 10000 in
set_option maxHeartbeats 1000000 in
theorem awake_any (w : World) : Calls Try.prog 10 #[] w fun e w' => e = .returned (.bool true) ∧ Below w.heap.size w w' := by
  have kc := fun (w : World) (C : Array Value) (n c : Nat) => Lib.run_convert_bytes_const (P := Try.prog) w 22 5 C n c Try.underlying22 Try.underlying5
  have kd := kc_two
  obtain ⟨i1, i2, ib⟩ := two_isBB w jefeB [119, 104, 97, 116, 32, 100, 111, 32, 121, 97, 32, 119, 97, 110, 116, 32, 102, 111, 114, 32, 110, 111, 116, 104, 105, 110, 103, 63] (4, 5) (28, 29) (by decide) (by decide)
  have I1 := hid i1
  have I2 := hid i2
  have Ib := hid ib
  clear i1 i2 ib
  go_enter Try.func10, Try.ntmps10
  go_wp2_with fail
  refine (Hmac_any _ _ jefeB [119, 104, 97, 116, 32, 100, 111, 32, 121, 97, 32, 119, 97, 110, 116, 32, 102, 111, 114, 32, 110, 111, 116, 104, 105, 110, 103, 63] _ _ _ _ _ I1.out I2.out).mono ?_
  rintro e W1 ⟨rfl, hb1⟩
  have HY := hid (hmacK_len (keyL jefeB) [119, 104, 97, 116, 32, 100, 111, 32, 121, 97, 32, 119, 97, 110, 116, 32, 102, 111, 114, 32, 110, 111, 116, 104, 105, 110, 103, 63])
  have HX := hid hexJ
  obtain ⟨x, hx⟩ : ∃ x, x = hmac jefeB [119, 104, 97, 116, 32, 100, 111, 32, 121, 97, 32, 119, 97, 110, 116, 32, 102, 111, 114, 32, 110, 111, 116, 104, 105, 110, 103, 63] := ⟨_, rfl⟩
  have HYx : Hid (x.length = 32) := by show _ = _; rw [hx]; exact HY.out
  rw [← hx] at HX
  rw [← hx]
  have q1 : Below w.heap.size w W1 := Ib.out.trans (hb1.mono Ib.out.size)
  have b2 : Below W1.heap.size W1 ((W1.alloc (.cells z32 30)).setRow W1.heap.size (x.map bv).toArray) := below_setRow ((Below.refl _ _).alloc (Nat.le_refl _) _) (Nat.le_refl _) _
  have r2 : ((W1.alloc (.cells z32 30)).setRow W1.heap.size (x.map bv).toArray).heap[W1.heap.size]? = some (.cells (x.map bv).toArray 30 (0, 0)) := setRow_heap _ _ _ _ _ _ (heap_alloc_new W1 _)
  have HQ2 := hid (q1.trans (b2.mono q1.size))
  have HR2 := hid r2
  clear hx hb1 q1 b2 r2 I1 I2 Ib HY
  go_upto_region 2 with (refine wpList_store_row (o := ⟨none, .store 30 (.tmp 1) (.tmp 8), _, _, _, _⟩) rfl 30 (.tmp 1) (.tmp 8) rfl W1.heap.size (x.map bv).toArray rfl rfl 30 z32 (heap_alloc_new W1 _) (size32 _ (map_len32 HYx.out)) (z32_size _ (map_len32 HYx.out)) (bv_all _) ?_)
  change Code.wp _ _ _ _ ((W1.alloc (.cells z32 30)).setRow W1.heap.size (x.map bv).toArray)
  generalize ((W1.alloc (.cells z32 30)).setRow W1.heap.size (x.map bv).toArray) = W2 at HQ2 HR2 ⊢
  generalize W1.heap.size = g2 at HR2 ⊢
  obtain ⟨i1, i2, ib⟩ := two_isBB W2 passB saltB (8, 9) (4, 5) (by decide) (by decide)
  have I1 := hid i1
  have I2 := hid i2
  have q3 := HQ2.out.trans (ib.mono HQ2.out.size)
  have HQ3 := hid q3
  have HR3 := hid ((ib.block _ (lt_of_heap HR2.out)).trans HR2.out)
  clear i1 i2 ib q3 HQ2 HR2
  go_wp2_with fail
  refine (pbk_1_32 _ _ passB saltB _ _ _ _ _ I1.out I2.out).mono ?_
  rintro e W4 ⟨g4, rfl, hN⟩
  have HR4 := hid ((hN.bel.block _ (lt_of_heap HR3.out)).trans HR3.out)
  have HQ4 := hid (HQ3.out.trans (hN.bel.mono HQ3.out.size))
  have HN := hid hN.isBB
  have HP := hid hexP
  clear hN I1 I2 HQ3 HR3
  go_wp2_with fail
  have hI := arr_isBB HR4.out (by rw [HYx.out]; omega)
  rw [HYx.out] at hI
  refine (hex_any _ x _ _ _ hI (by omega)).mono ?_
  rintro e W5 ⟨rfl, hb5⟩
  rw [HX.out]
  have HN5 := hid (HN.out.on hb5)
  have HQ5 := hid (HQ4.out.trans (hb5.mono HQ4.out.size))
  clear hI hb5 HQ4 HN HR4
  go_wp2_with fail
  refine (hex_any _ (pbk passB saltB 1 32) _ _ _ HN5.out (by omega)).mono ?_
  rintro e W6 ⟨rfl, hb6⟩
  rw [show hexL (pbk passB saltB 1 32) = _ from HP.out]
  have HQ6 := hid (HQ5.out.trans (hb6.mono HQ5.out.size))
  clear hb6
  go_wp2_with fail
  go_ret
  exact ⟨rfl, HQ6.out⟩
end Go.Proofs.Ytnifhgcdpgokhaa
