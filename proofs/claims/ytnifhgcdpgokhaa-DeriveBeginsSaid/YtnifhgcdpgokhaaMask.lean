/-
  A key in memory; the contract of the closure that tells what is hashed first: the key, masked.
-/
import Derived.Test.YtnifhgcdpgokhaaMem
import Derived.Test.YtnifhgcdpgokhaaKey
import Derived.Laws.CopyOwn
import Derived.Laws.BitsAllLaws
import Derived.Outline
namespace Go.Proofs.Ytnifhgcdpgokhaa
open Go.RowKit

def zb64 : Array Value := Array.replicate 64 (.int .u8 0)
theorem zero46 (w : World) : (zeroValue 46).run Try.prog w = .ok (.agg zb64) w := by kernel_rfl
theorem zb64_list : zb64 = (List.replicate 64 (Value.int .u8 0)).toArray := by kernel_rfl
theorem size64 (L : List Value) (h : L.length = 64) : (Try.prog.info? 46).map (·.size) = some L.toArray.size := by
  rw [List.size_toArray, h]; kernel_rfl
theorem zb64_size (L : List Value) (h : L.length = 64) : zb64.size = L.toArray.size := by
  have e : L.toArray.size = 64 := by rw [List.size_toArray, h]
  exact Eq.trans (by kernel_rfl : zb64.size = 64) e.symm
theorem bv_allOne (l : List UInt8) : (l.map bv).toArray.all (·.oneCell') = true := by
  rw [List.all_toArray, List.all_eq_true]; exact bv_one l
/-- Block g holds these 64 bytes, as an array. -/
def KeyAt (w : World) (g : Nat) (K : List UInt8) : Prop := K.length = 64 ∧ w.heap[g]? = some (.cells (K.map bv).toArray 46 (0, 0))
theorem lt_of_heap {w : World} {g : Nat} {o : Obj} (d : w.heap[g]? = some o) : g < w.heap.size := by
  rcases Nat.lt_or_ge g w.heap.size with hlt | hge
  · exact hlt
  · rw [Array.getElem?_eq_none hge] at d; cases d
theorem KeyAt.lt {w : World} {g : Nat} {K : List UInt8} (d : KeyAt w g K) : g < w.heap.size := lt_of_heap d.2
theorem KeyAt.on {w w' : World} {g : Nat} {K : List UInt8} (d : KeyAt w g K) (h : Below w.heap.size w w') : KeyAt w' g K := ⟨d.1, (h.block g d.lt).trans d.2⟩
/-- The first k bytes masked. -/
def maskP (m : UInt8) (K : List UInt8) (k : Nat) : List UInt8 := maskL m (K.take k) ++ K.drop k
theorem maskP_len (m : UInt8) (K : List UInt8) (k : Nat) : (maskP m K k).length = K.length := by simp [maskP, maskL]; omega
theorem maskP_set (m : UInt8) (K : List UInt8) (k : Nat) (h : k < K.length) : (maskP m K k).set k (K[k] ^^^ m) = maskP m K (k + 1) := by
  have hl : (maskL m (K.take k)).length = k := by rw [maskL_len, List.length_take]; omega
  unfold maskP
  rw [List.set_append_right _ _ (by omega), hl, Nat.sub_self, List.drop_eq_getElem_cons h, List.set_cons_zero, List.take_succ_eq_append_getElem h]
  unfold maskL
  rw [List.map_append, List.append_assoc]
  rfl
theorem maskP_get (m : UInt8) (K : List UInt8) (k : Nat) (h : k < K.length) : (maskP m K k)[k]? = some K[k] := by
  have hl : (maskL m (K.take k)).length = k := by rw [maskL_len, List.length_take]; omega
  unfold maskP
  rw [List.getElem?_append_right (by omega), hl, Nat.sub_self, List.getElem?_drop, Nat.add_zero, List.getElem?_eq_getElem h]
theorem maskP_end (m : UInt8) (K : List UInt8) (h : K.length = 64) : maskP m K 64 = maskL m K := by
  unfold maskP
  rw [List.take_of_length_le (by omega), List.drop_of_length_le (by omega), List.append_nil]

structure MaskSt (m : UInt8) (K : List UInt8) (t : Nat) (w wr : World) : Prop where
  bel : Below w.heap.size w wr
  b0 : wr.heap[w.heap.size]? = some (.cells zb64 46 (0, 0))
  b1 : wr.heap[w.heap.size + 1]? = some (.cells ((maskP m K t).map bv).toArray 46 (0, 0))
theorem MaskSt.next {m : UInt8} {K : List UInt8} {t : Nat} {w wr : World} (s : MaskSt m K t w wr) (ht : t < K.length) : MaskSt m K (t + 1) w (wr.setCell ⟨w.heap.size + 1, t, none⟩ (bv (K[t] ^^^ m))) := by
  refine ⟨?_, ?_, ?_⟩
  · exact ⟨s.bel.os, s.bel.tape, s.bel.output, by rw [World.size_setCell]; exact s.bel.size, fun i hi => by rw [heap_setCell_other _ _ _ _ (by show i ≠ w.heap.size + 1; omega)]; exact s.bel.block i hi⟩
  · rw [heap_setCell_other _ _ _ _ (by show w.heap.size ≠ w.heap.size + 1; omega)]; exact s.b0
  · rw [row_set s.b1 t _, set_toArray, ← maskP_set m K t ht, List.map_set]

set_option maxRecDepth 10000 in
set_option maxHeartbeats 1000000 in
theorem mask_any (g : Nat) (K : List UInt8) (m : UInt8) (w : World) (h : KeyAt w g K) :
    Calls Try.prog 28 #[.int .u8 (m.toNat : Int), .pointer (some ⟨g, 0, none⟩)] w fun e w' => e = .returned (.agg ((maskL m K).map bv).toArray) ∧ Below w.heap.size w w' := by
  have zv := zero46
  have H := hid h
  have hlt := h.lt
  have hlen := hid h.1
  have hsz := size64 (K.map bv) (by simp [h.1])
  have r0 : ((w.alloc (.cells zb64 46)).alloc (.cells zb64 46)).heap[w.heap.size]? = some (.cells zb64 46 (0, 0)) := heap_alloc2_old w _ _
  have r1 : ((w.alloc (.cells zb64 46)).alloc (.cells zb64 46)).heap[w.heap.size + 1]? = some (.cells zb64 46 (0, 0)) := heap_alloc2_new w _ _
  have hg : (w.alloc (.cells zb64 46)).heap[g]? = some (.cells (K.map bv).toArray 46 (0, 0)) := by rw [heap_alloc_old _ _ hlt]; exact h.2
  clear h
  have Hg := hid hg
  have Hr0 := hid r0
  have Hr1 := hid r1
  have Hsz := hid hsz
  clear hg r0 r1 hsz
  go_enter Try.func28, Try.ntmps28
  go_wp2_with (first
    | (refine wpList_load_row rfl 46 (.tmp 1) rfl g rfl 46 (K.map bv).toArray (0, 0) _ Hg.out Try.underlying46 rfl Hsz.out ?_)
    | (refine wpList_store_row (o := ⟨none, .store 46 (.tmp 4) (.tmp 6), _, _, _, _⟩) rfl 46 (.tmp 4) (.tmp 6) rfl (w.heap.size + 1) (K.map bv).toArray rfl rfl 46 zb64 Hr1.out Hsz.out (zb64_size _ (by simp [hlen.out])) (bv_allOne K) ?_))
  have S0 : MaskSt m K 0 w (((w.alloc (.cells zb64 46)).alloc (.cells zb64 46)).setRow (w.heap.size + 1) (K.map bv).toArray) := by
    refine ⟨?_, ?_, ?_⟩
    · have q := (Below.refl w.heap.size w).alloc (Nat.le_refl _) (.cells zb64 46)
      exact below_setRow (q.alloc q.size _) (Nat.le_succ _) _
    · rw [setRow_other _ _ _ _ (by omega)]; exact Hr0.out
    · exact setRow_heap _ _ _ _ _ _ Hr1.out
  generalize (((w.alloc (.cells zb64 46)).alloc (.cells zb64 46)).setRow (w.heap.size + 1) (K.map bv).toArray) = W0 at S0 ⊢
  clear zv
  have hm : m.toNat < 256 := UInt8.toNat_lt m
  go_loopw [7] (fun i wr => ∃ t : Nat, t ≤ 64 ∧ i = .int .i64 t ∧ Hid (MaskSt m K t w wr)) (fun i _ => 64 - (intOf i).toNat)
  case atStart => exact ⟨0, Nat.zero_le _, rfl, S0⟩
  case round =>
    obtain ⟨t, ht, rfl, hs⟩ := hrel
    clear S0
    by_cases hlt2 : t < 64
    · have hlz : (t : Int) < 64 := by omega
      have htl : t < K.length := by rw [hlen.out]; exact hlt2
      have hc : wr.cell? ⟨w.heap.size + 1, t, none⟩ = some (.int .u8 (K[t].toNat : Nat)) := by
        rw [row_cell hs.out.b1 t, List.getElem?_toArray, List.getElem?_map, maskP_get m K t htl]; rfl
      have hf := row_free hs.out.b1 t
      have hn := hid (hs.out.next htl)
      have q := u8_xor_nat K[t].toNat m.toNat (UInt8.toNat_lt _) hm
      have hv : bv (K[t] ^^^ m) = .int .u8 ((K[t].toNat ^^^ m.toNat : Nat) : Int) := by simp [bv]
      rw [hv] at hn
      have hx : K[t].toNat ^^^ m.toNat < 256 := Nat.xor_lt_two_pow (n := 8) (UInt8.toNat_lt _) hm
      generalize K[t].toNat ^^^ m.toNat = y at q hx hn
      generalize K[t].toNat = x at q hc
      clear hv
      go_wp2_with fail
      go_roundw
      case rel => exact ⟨t + 1, by omega, by go_num, hn⟩
      case measure => simp [intOf]; omega
    · obtain rfl : t = 64 := by omega
      have hb1 := hs.out.b1
      rw [maskP_end m K hlen.out] at hb1
      have Hb1 := hid hb1
      have hs2 := size64 ((maskL m K).map bv) (by simp [maskL_len, hlen.out])
      have hs3 := zb64_size ((maskL m K).map bv) (by simp [maskL_len, hlen.out])
      have HS2 := hid hs2
      have HS3 := hid hs3
      clear hb1 hs2 hs3
      go_wp2_with (first
        | (refine wpList_load_row rfl 46 (.tmp 4) rfl (w.heap.size + 1) rfl 46 ((maskL m K).map bv).toArray (0, 0) _ Hb1.out Try.underlying46 rfl HS2.out ?_)
        | (refine wpList_store_row (o := ⟨none, .store 46 (.tmp 3) (.tmp 17), _, _, _, _⟩) rfl 46 (.tmp 3) (.tmp 17) rfl w.heap.size ((maskL m K).map bv).toArray rfl rfl 46 zb64 hs.out.b0 HS2.out HS3.out (bv_allOne _) ?_))
      refine bodyPost_ret (results_cell_row (by kernel_rfl : Try.f28.results = #[.cell 3 46]) _ _ w.heap.size 46 ((maskL m K).map bv).toArray (0, 0) _ rfl (setRow_heap _ _ _ _ _ _ hs.out.b0) Try.underlying46 rfl HS2.out) rfl ⟨rfl, ?_⟩
      exact below_setRow hs.out.bel (Nat.le_refl _) _
end Go.Proofs.Ytnifhgcdpgokhaa
