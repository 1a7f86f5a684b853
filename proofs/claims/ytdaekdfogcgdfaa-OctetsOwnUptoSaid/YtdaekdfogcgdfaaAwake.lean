/-
  The chapter's examples: 'awake' returns true, and writes nothing that was there.
-/
import Derived.Test.YtdaekdfogcgdfaaText
namespace Go.Proofs.Ytdaekdfogcgdfaa
open Go.RowKit

/-- A list that is written out. -/
theorem isBB_built (w : World) (L : List UInt8) (C : Array Value) (hC : C = (L.map bv).toArray) (n : Nat) (hn : L.length = n) (h : n ≤ 140737488355328) :
    IsBB (w.alloc (.cells C 5)) (w.alloc (.cells C 5)).heap.size (some ⟨w.heap.size, 0, none⟩) n n L := by
  subst hC
  have hh : (w.alloc (.cells (L.map bv).toArray 5)).heap[w.heap.size]? = some (.cells (L.map bv).toArray 5 (0, 0)) := heap_alloc_new w _
  refine ⟨⟨hn, Nat.le_refl _, by unfold maxLen; omega, h, fun _ => ⟨_, rfl, fun j hj => ?_⟩⟩, fun _ ad e => ?_⟩
  · rw [Addr.add_lit, Nat.zero_add, row_cell hh j]
    rw [List.getElem?_toArray]
    exact map_bv_getElem? L j hj
  · cases e
    simp

set_option maxRecDepth 10000 in
set_option maxHeartbeats 1000000 in
theorem awake_any (w : World) : Calls Try.prog 19 #[] w fun e w' => e = .returned (.bool true) ∧ Below w.heap.size w w' := by
  have n1 : num 2 [1, 2] 0 = 258 := by decide
  have h1 : has 2 2 0 = true := by decide
  have n2 : num 4 [128, 0, 0, 1] 0 = 2147483649 := by decide
  have h2 : has 4 4 0 = true := by decide
  have n3 : num 1 [5] 0 = 5 := by decide
  have h3 : has 1 1 0 = true := by decide
  have t1 : txt [0, 2, 5, 6] 4 0 = [5, 6] := by decide
  have t2 : txtTo [0, 2, 5, 6] 4 0 = 4 := by decide
  have t3 : txtHas [0, 2, 5, 6] 4 0 = true := by decide
  go_enter Try.func19, Try.ntmps19
  go_wp2_with fail
  refine (U16_any _ [1, 2] 2 2 0 _ (isBB_built w [1, 2] #[.int .u8 1, .int .u8 2] rfl 2 rfl (by omega)).toIsB).mono ?_
  rintro e w' ⟨rfl, rfl⟩
  have b1 : Below w.heap.size w (w.alloc (Obj.cells #[Value.int IntKind.u8 1, Value.int IntKind.u8 2] 5)) := (Below.refl _ _).alloc (Nat.le_refl _) _
  obtain ⟨wa, hwa⟩ : ∃ wa, wa = (w.alloc (Obj.cells #[Value.int IntKind.u8 1, Value.int IntKind.u8 2] 5)) := ⟨_, rfl⟩
  rw [← hwa] at b1 ⊢
  clear hwa
  go_wp2_with fail
  refine (U32_any _ [128, 0, 0, 1] 4 4 0 _ (isBB_built wa [128, 0, 0, 1] #[.int .u8 128, .int .u8 0, .int .u8 0, .int .u8 1] rfl 4 rfl (by omega)).toIsB).mono ?_
  rintro e w' ⟨rfl, rfl⟩
  have b2 := b1.alloc b1.size (Obj.cells #[Value.int IntKind.u8 128, Value.int IntKind.u8 0, Value.int IntKind.u8 0, Value.int IntKind.u8 1] 5)
  obtain ⟨wb, hwb⟩ : ∃ wb, wb = (wa.alloc (Obj.cells #[Value.int IntKind.u8 128, Value.int IntKind.u8 0, Value.int IntKind.u8 0, Value.int IntKind.u8 1] 5)) := ⟨_, rfl⟩
  rw [← hwb] at b2 ⊢
  clear hwb b1
  go_wp2_with fail
  refine (U8_any _ [5] 1 1 0 _ (isBB_built wb [5] #[.int .u8 5] rfl 1 rfl (by omega)).toIsB).mono ?_
  rintro e w' ⟨rfl, rfl⟩
  have b3 := b2.alloc b2.size (Obj.cells #[Value.int IntKind.u8 5] 5)
  obtain ⟨wc, hwc⟩ : ∃ wc, wc = (wb.alloc (Obj.cells #[Value.int IntKind.u8 5] 5)) := ⟨_, rfl⟩
  rw [← hwc] at b3 ⊢
  clear hwc b2
  go_wp2_with fail
  refine (AddText_any none [] 0 0 _ _ (isBB_nil _ _) (by decide) (by omega)).mono ?_
  rintro e wd ⟨g, c1, rfl, hN⟩
  have b4 := b3.trans (hN.bel.mono b3.size)
  go_wp2_with fail
  refine (Text_any _ [0, 2, 5, 6] 4 4 0 _ (isBB_built wd [0, 2, 5, 6] #[.int .u8 0, .int .u8 2, .int .u8 5, .int .u8 6] rfl 4 rfl (by omega)).toIsB).mono ?_
  rintro e w' ⟨rfl, rfl⟩
  have hT := hN.isBB.below ((Below.refl wd.heap.size wd).alloc (Nat.le_refl _) (Obj.cells #[Value.int IntKind.u8 0, Value.int IntKind.u8 2, Value.int IntKind.u8 5, Value.int IntKind.u8 6] 5))
  have b5 := b4.alloc b4.size (Obj.cells #[Value.int IntKind.u8 0, Value.int IntKind.u8 2, Value.int IntKind.u8 5, Value.int IntKind.u8 6] 5)
  obtain ⟨we, hwe⟩ : ∃ we, we = (wd.alloc (Obj.cells #[Value.int IntKind.u8 0, Value.int IntKind.u8 2, Value.int IntKind.u8 5, Value.int IntKind.u8 6] 5)) := ⟨_, rfl⟩
  rw [← hwe] at b5 hT ⊢
  clear hwe b3 b4 hN
  have hT4 : IsBB we wd.heap.size (some ⟨g, 0, none⟩) 4 c1 [0, 2, 5, 6] := hT
  clear hT
  have hc := hT4.toIsB.conv
  clear hT4
  go_wp2_with fail
  refine (Add32_any _ [9] 1 1 258 _ (isBB_built we [9] #[.int .u8 9] rfl 1 rfl (by omega)) (by omega) (by omega)).mono ?_
  rintro e wf ⟨g2, c2, rfl, hM⟩
  have b6 := (b5.alloc b5.size (Obj.cells #[Value.int IntKind.u8 9] 5)).trans (hM.bel.mono (by have := b5.size; simp; omega))
  have hM4 : IsBB wf wf.heap.size (some ⟨g2, 0, none⟩) 5 c2 [9, 0, 0, 1, 2] := hM.isBB
  have hc2 := hM4.toIsB.conv
  clear hM hM4 hc b5
  go_wp2_with fail
  go_ret
  exact ⟨rfl, b6⟩
end Go.Proofs.Ytdaekdfogcgdfaa
