/-
  The contracts of the closure that tells which byte comes where, of who makes it, and of 'replace'.
-/
import Derived.Test.YtlgabihjfjlhkaaBox
import Derived.Outline
import Derived.StillTailTactics
namespace Go.Proofs.Ytlgabihjfjlhkaa
open Go.RowKit

theorem and3_all : ((List.range 16).all fun j => decide (bits BinOp.and IntKind.i64 (j : Int) 3 = ((j % 4 : Nat) : Int))) = true := by kernel_rfl
theorem left_all : ((List.range 16).all fun j => decide (bits BinOp.or IntKind.i64 (wrap64 (bits BinOp.and IntKind.i64 ((j : Int) / 4 + (j : Int) % 4) 3 * 4)) ((j : Int) % 4) = (((j + 4 * (j % 4)) % 16 : Nat) : Int))) = true := by kernel_rfl
theorem right_all : ((List.range 16).all fun j => decide (bits BinOp.or IntKind.i64 (wrap64 (bits BinOp.and IntKind.i64 ((j : Int) / 4 + -((j : Int) % 4)) 3 * 4)) ((j : Int) % 4) = (((j + 12 * (j % 4)) % 16 : Nat) : Int))) = true := by kernel_rfl
theorem all16 {p : Nat → Prop} [DecidablePred p] (h : ((List.range 16).all fun j => decide (p j)) = true) (j : Nat) (hj : j < 16) : p j := of_decide_eq_true (List.all_eq_true.1 h j (List.mem_range.2 hj))
theorem ret_i64 {a b : Int} (h : a = b) : Ending.returned (.int .i64 a) = .returned (.int .i64 b) := by rw [h]
set_option maxRecDepth 10000 in
set_option maxHeartbeats 1000000 in
theorem left_place (j : Nat) (hj : j < 16) (ad : Addr) (w : World) (hc : w.cell? ad = some (.int .i64 1)) :
    Calls Try.prog 38 #[.int .i64 j, .pointer (some ad)] w fun e w' => e = .returned (.int .i64 (((j + 4 * (j % 4)) % 16 : Nat) : Int)) ∧ w = w' := by
  have q1 := all16 and3_all j hj
  go_enter Try.func38, Try.ntmps38
  go_wp2_with fail
  go_ret
  exact ⟨ret_i64 (all16 left_all j hj), rfl⟩
set_option maxRecDepth 10000 in
set_option maxHeartbeats 1000000 in
theorem right_place (j : Nat) (hj : j < 16) (ad : Addr) (w : World) (hc : w.cell? ad = some (.int .i64 (-1))) :
    Calls Try.prog 38 #[.int .i64 j, .pointer (some ad)] w fun e w' => e = .returned (.int .i64 (((j + 12 * (j % 4)) % 16 : Nat) : Int)) ∧ w = w' := by
  have q1 := all16 and3_all j hj
  go_enter Try.func38, Try.ntmps38
  go_wp2_with fail
  go_ret
  exact ⟨ret_i64 (all16 right_all j hj), rfl⟩
set_option maxRecDepth 10000 in
set_option maxHeartbeats 1000000 in
theorem turned_any (s : Int) (w : World) :
    Calls Try.prog 22 #[.int .i64 s] w fun e w' => e = .returned (.func (.func 38) #[] #[.pointer (some ⟨w.heap.size, 0, none⟩)]) ∧ w' = w.alloc (.cells #[.int .i64 s] 3) := by
  go_enter Try.func22, Try.ntmps22
  go_wp2_with fail
  go_ret
  exact ⟨rfl, rfl⟩

def zb16 : Array Value := Array.replicate 16 (.int .u8 0)
theorem zero48 (w : World) : (zeroValue 53).run Try.prog w = .ok (.agg zb16) w := by kernel_rfl
theorem size48 (L : List Value) (h : L.length = 16) : (Try.prog.info? 53).map (·.size) = some L.toArray.size := by
  rw [List.size_toArray, h]; kernel_rfl
theorem zb16_size (L : List Value) (h : L.length = 16) : zb16.size = L.toArray.size := by
  have e : L.toArray.size = 16 := by rw [List.size_toArray, h]
  exact Eq.trans (by kernel_rfl : zb16.size = 16) e.symm
theorem blkL_one (f : Blk16) : (blkL f).toArray.all (·.oneCell') = true := by
  rw [List.all_toArray, List.all_eq_true]
  intro v hv
  obtain ⟨j, _, rfl⟩ := List.mem_map.1 hv
  rfl
/-- The first n places replaced. -/
def repP (T : Nat → Nat) (fr : Nat → Nat) (f : Blk16) (n : Nat) : Blk16 := fun j => if j < n then T (f (fr j)) else f j
theorem repP_next (T fr : Nat → Nat) (f : Blk16) (n : Nat) : Same (upd (repP T fr f n) n (T (f (fr n)))) (repP T fr f (n + 1)) := by
  intro j _
  unfold upd repP
  by_cases e : j = n
  · subst e; simp
  · rw [if_neg e]
    by_cases h : j < n
    · rw [if_pos h, if_pos (by omega)]
    · rw [if_neg h, if_neg (by omega)]
/-- A table of 256 bytes at an address. -/
def Tab (w : World) (ad : Addr) (T : Nat → Nat) : Prop := ∀ x, x < 256 → w.cell? (ad.add x) = some (.int .u8 (T x : Nat))
theorem Tab.on {w w' : World} {g : Nat} {ad : Addr} {k : Nat → Nat} (h : Tab w ad k) (hb : But g w w') (hg : ad.block ≠ g) : Tab w' ad k :=
  fun j hj => hb.cell (h j hj) (by rw [block_of_add]; exact hg)
structure RepSt (w wr : World) (g : Nat) (T fr : Nat → Nat) (f : Blk16) (t : Nat) : Prop where
  blk : BlkAt wr g (repP T fr f t)
  was : BlkAt wr w.heap.size f
  but : But g w wr
theorem RepSt.drewN {w wr : World} {g : Nat} {T fr : Nat → Nat} {f : Blk16} {t : Nat} (s : RepSt w wr g T fr f t) (n : Nat) : RepSt w (wr.drewN n) g T fr f t := ⟨s.blk, s.was, s.but.drewN n⟩
theorem RepSt.next {w wr : World} {g : Nat} {T fr : Nat → Nat} {f : Blk16} {t : Nat} (s : RepSt w wr g T fr f t) (ht : t < 16) (hg : g < w.heap.size) : RepSt w (wr.setCell ⟨g, t, none⟩ (.int .u8 (T (f (fr t)) : Nat))) g T fr f (t + 1) :=
  ⟨(s.blk.set t _ ht).same (repP_next T fr f t), s.was.on ((But.refl g wr).set t _) (by omega), s.but.set t _⟩

set_option maxRecDepth 10000 in
set_option maxHeartbeats 1000000 in
theorem replace_any (g : Nat) (f : Blk16) (T fr : Nat → Nat) (td : Addr) (gc : Nat) (s : Int) (w : World) (h : BlkAt w g f) (hf : Low f) (hT : Tab w td T) (hlT : ∀ x, x < 256 → T x < 256) (hfr : ∀ j, j < 16 → fr j < 16) (hgd : td.block ≠ g)
    (hc : w.cell? ⟨gc, 0, none⟩ = some (.int .i64 s)) (hgc : gc ≠ g)
    (hcl : ∀ j : Nat, j < 16 → ∀ W : World, W.cell? ⟨gc, 0, none⟩ = some (.int .i64 s) → Calls Try.prog 38 #[.int .i64 (j : Nat), .pointer (some ⟨gc, 0, none⟩)] W fun e w' => e = .returned (.int .i64 (fr j : Nat)) ∧ W = w') :
    Calls Try.prog 25 #[.pointer (some ⟨g, 0, none⟩), .pointer (some td), .func (.func 38) #[] #[.pointer (some ⟨gc, 0, none⟩)]] w fun e w' => e = .returned (.tuple #[]) ∧ BlkAt w' g (fun j => T (f (fr j))) ∧ But g w w' := by
  have zv := zero48
  have hgl := h.lt
  have hsz := size48 (blkL f) (blkL_len f)
  have r0 : (w.alloc (.cells zb16 53)).heap[w.heap.size]? = some (.cells zb16 53 (0, 0)) := heap_alloc_new w _
  have hg : (w.alloc (.cells zb16 53)).heap[g]? = some (.cells (blkL f).toArray 53 (0, 0)) := by rw [heap_alloc_old _ _ hgl]; exact h
  have Hg0 := hid h
  have Hg := hid hg
  have Hr0 := hid r0
  have Hsz := hid hsz
  have HT := hid hT
  have HC := hid hc
  have HCL := hid hcl
  have S0 : RepSt w ((w.alloc (.cells zb16 53)).setRow w.heap.size (blkL f).toArray) g T fr f 0 := by
    refine ⟨?_, ?_, ?_⟩
    · unfold BlkAt
      rw [setRow_other _ _ _ _ (by omega), hg]
      rw [blkL_same (f := repP T fr f 0) (g := f) (fun j _ => by unfold repP; rw [if_neg (by omega)])]
    · exact setRow_heap _ _ _ _ _ _ r0
    · exact But.of (below_setRow ((Below.refl w.heap.size w).alloc (Nat.le_refl _) _) (Nat.le_refl _) _)
  have HS0 := hid S0
  clear h hg r0 hsz hT hc hcl S0
  go_enter Try.func25, Try.ntmps25
  go_wp2_with (first
    | (refine wpList_load_row rfl 53 (.tmp 9) rfl g rfl 53 (blkL f).toArray (0, 0) _ (by first | exact Hg0.out | exact Hg.out) Try.underlying53 rfl Hsz.out ?_)
    | (refine wpList_store_row (o := ⟨none, .store 53 (.tmp 6) (.tmp 10), _, _, _, _⟩) rfl 53 (.tmp 6) (.tmp 10) rfl w.heap.size (blkL f).toArray rfl rfl 53 zb16 Hr0.out Hsz.out (zb16_size _ (blkL_len f)) (blkL_one f) ?_))
  generalize ((w.alloc (.cells zb16 53)).setRow w.heap.size (blkL f).toArray) = W0 at HS0 ⊢
  clear zv Hr0 Hg Hsz
  go_loopw [11] (fun i wr => ∃ t : Nat, t ≤ 16 ∧ i = .int .i64 t ∧ Hid (RepSt w wr g T fr f t)) (fun i _ => 16 - (intOf i).toNat)
  case atStart => exact ⟨0, Nat.zero_le _, rfl, HS0⟩
  case round =>
    obtain ⟨t, ht, rfl, hs⟩ := hrel
    clear HS0
    by_cases hlt : t < 16
    · have hlz : (t : Int) < 16 := by omega
      have hcc : wr.cell? ⟨gc, 0, none⟩ = some (.int .i64 s) := hs.out.but.cell HC.out hgc
      have hcl := hid (HCL.out t hlt wr.drew hcc)
      have lfr := hfr t hlt
      have c1 := hs.out.was.cell (fr t) lfr
      have l1 := hf (fr t) lfr
      have c2 : wr.cell? (td.add (f (fr t))) = some (.int .u8 (T (f (fr t)) : Nat)) := (HT.out.on hs.out.but hgd) _ l1
      have c3 := hs.out.blk.cell t hlt
      have f1 := hs.out.blk.free t
      have l2 := hlT _ l1
      have hn : Hid (∀ n, RepSt w ((wr.drewN n).setCell ⟨g, t, none⟩ (.int .u8 (T (f (fr t)) : Nat))) g T fr f (t + 1)) := fun n => (hs.out.drewN n).next hlt hgl
      generalize repP T fr f t t = o1 at c3
      generalize T (f (fr t)) = z at c2 l2 hn
      generalize f (fr t) = y at c1 l1 c2
      generalize fr t = u at hcl c1 lfr
      clear hcc
      have iu : (u : Int) < 16 := by omega
      have iy : (y : Int) < 256 := by omega
      go_wp2_with fail
      go_still_tail 13, (by kernel_rfl)
      refine wpStill_step (fun K hK => ?_)
      go_simp
      refine ⟨_, (hcl.out).mono (fun e w' h => ⟨h.1, h.2.symm⟩), hK _ ?_⟩
      clear hK K
      repeat still_step
      refine wpStill_nil ?_
      change wpList _ _ _ _ _ wr.drew
      go_wp2_with fail
      go_roundw
      case rel => exact ⟨t + 1, by omega, by go_num, hid (hn.out 1)⟩
      case measure => simp [intOf]; omega
    · obtain rfl : t = 16 := by omega
      have e : Same (repP T fr f 16) (fun j => T (f (fr j))) := fun j hj => by unfold repP; rw [if_pos hj]
      go_wp2_with fail
      refine bodyPost_end (results_none rfl _ _ _) rfl ⟨rfl, hs.out.blk.same e, hs.out.but⟩
end Go.Proofs.Ytlgabihjfjlhkaa
