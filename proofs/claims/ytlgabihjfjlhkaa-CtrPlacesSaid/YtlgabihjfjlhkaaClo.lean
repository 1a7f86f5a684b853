/-
  The closure that tells the stream's byte at a place; what refuses.
-/
import Derived.Test.YtlgabihjfjlhkaaBlk
import Derived.BigRegion
import Derived.Deep.Cut
namespace Go.Proofs.Ytlgabihjfjlhkaa
open Go.RowKit

/-- All but the closure's own two cells stays. -/
structure But2 (h : Nat) (w w' : World) : Prop where
  os : w'.os = w.os
  tape : w'.tape = w.tape
  output : w'.output = w.output
  size : w.heap.size ≤ w'.heap.size
  block : ∀ i, i < w.heap.size → i ≠ h + 2 → i ≠ h + 3 → w'.heap[i]? = w.heap[i]?
theorem But2.refl (h : Nat) (w : World) : But2 h w w := ⟨rfl, rfl, rfl, Nat.le_refl _, fun _ _ _ _ => rfl⟩
theorem But2.below {h : Nat} {w0 w w' : World} (b : But2 h w w') (hb : Below h w0 w) (hs : h ≤ w.heap.size) : Below h w0 w' :=
  ⟨b.os.trans hb.os, b.tape.trans hb.tape, b.output.trans hb.output, Nat.le_trans hb.size b.size, fun i hi => (b.block i (by omega) (by omega) (by omega)).trans (hb.block i hi)⟩
theorem But2.put {h : Nat} {w W : World} (b : Below w.heap.size w W) (u v : Value) : But2 h w ((W.setCell ⟨h + 2, 0, none⟩ u).setCell ⟨h + 3, 0, none⟩ v) :=
  ⟨b.os, b.tape, b.output, by rw [World.size_setCell, World.size_setCell]; exact b.size, fun i hi h2 h3 => by rw [heap_setCell_other _ _ _ _ h3, heap_setCell_other _ _ _ _ h2]; exact b.block i hi⟩
/-- What the closure leads to. -/
structure StAt (wr : World) (h gc : Nat) (A : Option Addr) (c : Nat) (non : List UInt8) (K : Nat → Nat) (v : Value) (i : Nat) : Prop where
  ci : Ci wr gc K
  cp : wr.cell? ⟨h, 0, none⟩ = some (.pointer (some ⟨gc, 0, none⟩))
  no : IsBB wr h A 8 c non
  np : wr.cell? ⟨h + 1, 0, none⟩ = some (.slice A 8 c)
  r2 : wr.heap[h + 2]? = some (.cells #[v] 26 (0, 0))
  r3 : wr.heap[h + 3]? = some (.cells #[.int .u64 i] 50 (0, 0))
  bk : v = .slice none 0 0 ∨ ∃ g, v = .slice (some ⟨g, 0, none⟩) 16 16 ∧ h + 5 ≤ g ∧ IsBB wr wr.heap.size (some ⟨g, 0, none⟩) 16 16 (blkS K non i)
  lt : gc < h
theorem StAt.put {wr W : World} {h gc g i i' : Nat} {A : Option Addr} {c : Nat} {non : List UInt8} {K : Nat → Nat} {v : Value} (s : StAt wr h gc A c non K v i) (b : Below wr.heap.size wr W) (hg : wr.heap.size ≤ g) (h5 : h + 5 ≤ wr.heap.size)
    (hB : IsBB W W.heap.size (some ⟨g, 0, none⟩) 16 16 (blkS K non i')) : StAt ((W.setCell ⟨h + 2, 0, none⟩ (.slice (some ⟨g, 0, none⟩) 16 16)).setCell ⟨h + 3, 0, none⟩ (.int .u64 i')) h gc A c non K (.slice (some ⟨g, 0, none⟩) 16 16) i' := by
  have bu := But2.put (h := h) b (.slice (some ⟨g, 0, none⟩) 16 16) (.int .u64 i')
  have hl := s.lt
  have e0 : ∀ q, q < h + 2 → ((W.setCell ⟨h + 2, 0, none⟩ (.slice (some ⟨g, 0, none⟩) 16 16)).setCell ⟨h + 3, 0, none⟩ (.int .u64 i')).heap[q]? = wr.heap[q]? := fun q hq => bu.block q (by omega) (by omega) (by omega)
  have ec : ∀ (ad : Addr), ad.block < h + 2 → ((W.setCell ⟨h + 2, 0, none⟩ (.slice (some ⟨g, 0, none⟩) 16 16)).setCell ⟨h + 3, 0, none⟩ (.int .u64 i')).cell? ad = wr.cell? ad := fun ad hq => by
    unfold World.cell?
    rw [e0 _ hq]
  refine ⟨(e0 gc (by omega)).trans s.ci, (ec _ (by show h < h + 2; omega)).trans s.cp, ⟨s.no.toIsB.to fun ad e j => ?_, s.no.low⟩, (ec _ (by show h + 1 < h + 2; omega)).trans s.np, ?_, ?_, .inr ⟨g, rfl, by omega, ?_⟩, hl⟩
  · have := s.no.low (by rw [s.no.len]; omega) ad e
    exact ec _ (by rw [block_of_add]; omega)
  · rw [heap_setCell_other _ _ _ _ (by show h + 2 ≠ h + 3; omega)]
    have e : W.heap[h + 2]? = some (.cells #[v] 26 (0, 0)) := (b.block _ (by omega)).trans s.r2
    rw [row_set e 0]
    rfl
  · have e : (W.setCell ⟨h + 2, 0, none⟩ (.slice (some ⟨g, 0, none⟩) 16 16)).heap[h + 3]? = some (.cells #[.int .u64 i] 50 (0, 0)) := by
      rw [heap_setCell_other _ _ _ _ (by show h + 3 ≠ h + 2; omega)]
      exact (b.block _ (by omega)).trans s.r3
    rw [row_set e 0]
    rfl
  · refine ⟨hB.toIsB.to fun ad e j => ?_, fun hp ad e => ?_⟩
    · cases e
      rw [ad_add]
      unfold World.cell?
      rw [heap_setCell_other _ _ _ _ (by show g ≠ h + 3; omega), heap_setCell_other _ _ _ _ (by show g ≠ h + 2; omega)]
    · rw [World.size_setCell, World.size_setCell]
      exact hB.low hp ad e
theorem blk_cell {w : World} {g i : Nat} {non : List UInt8} {K : Nat → Nat} (h : IsBB w w.heap.size (some ⟨g, 0, none⟩) 16 16 (blkS K non i)) (p m : Nat) (hp : p / 16 = i) (hm : p % 16 = m) : w.cell? ⟨g, m, none⟩ = some (.int .u8 ((stB K non p).toNat : Int)) := by
  subst hp
  subst hm
  obtain ⟨ad, e, hc⟩ := h.lies (by rw [blkS_len]; omega)
  cases e
  have := hc (p % 16) (by rw [blkS_len]; omega)
  rw [ad_add, Nat.zero_add] at this
  rw [this, stB_get]
theorem nil_nil (w : World) : (binOp BinOp.eql 26 (.slice none 0 0) (.slice none 0 0)).run Try.prog w = .ok (.bool true) w := by kernel_rfl
theorem some_nil (a : Addr) (n c : Nat) (w : World) : (binOp BinOp.eql 26 (.slice (some a) n c) (.slice none 0 0)).run Try.prog w = .ok (.bool false) w := by kernel_rfl
set_option maxRecDepth 10000 in
set_option maxHeartbeats 1000000 in
theorem clo_any (h gc : Nat) (A : Option Addr) (c : Nat) (non : List UInt8) (K : Nat → Nat) (v : Value) (i p : Nat) (wr : World) (hs : StAt wr h gc A c non K v i) (hk : ∀ j, j < 32 → K j < 256) (h5 : h + 5 ≤ wr.heap.size) (hp : p ≤ 9223372036854775807) :
    Calls Try.prog 36 #[.int .u64 p, .pointer (some ⟨h + 2, 0, none⟩), .pointer (some ⟨h + 3, 0, none⟩), .pointer (some ⟨h, 0, none⟩), .pointer (some ⟨h + 1, 0, none⟩)] wr
      fun e w' => e = .returned (.int .u8 ((stB K non p).toNat : Int)) ∧ (∃ v' i', StAt w' h gc A c non K v' i') ∧ But2 h wr w' := by
  obtain ⟨q, hq⟩ : ∃ q, q = p / 16 := ⟨_, rfl⟩
  obtain ⟨m, hm⟩ : ∃ m, m = p % 16 := ⟨_, rfl⟩
  have hq1 : (p : Int) / 16 = (q : Int) := by omega
  have hm1 : (p : Int) % 16 = (m : Int) := by omega
  have hm16 : (m : Int) < 16 := by omega
  have hq64 : q < 18446744073709551616 := by omega
  have en := nil_nil
  have es := some_nil
  have ch := hs.cp
  have cn := hs.np
  have c2 : wr.cell? ⟨h + 2, 0, none⟩ = some v := by rw [row_cell hs.r2 0]; rfl
  have c3 : wr.cell? ⟨h + 3, 0, none⟩ = some (.int .u64 i) := by rw [row_cell hs.r3 0]; rfl
  have f2 := row_free hs.r2 0
  have f3 := row_free hs.r3 0
  have hno : IsBB wr wr.heap.size A 8 c non := ⟨hs.no.toIsB, fun hp ad e => by have := hs.no.low hp ad e; omega⟩
  have HB := hid (blockOf_any gc K A c non q wr hs.ci hk hno hq64)
  have Hq := hid hq
  have Hm := hid hm
  have HS := hid hs
  clear hno hq hm
  by_cases hsame : v ≠ .slice none 0 0 ∧ i = q
  · obtain ⟨hv, rfl⟩ := hsame
    rcases hs.bk with e | ⟨g, rfl, hg, hI⟩
    · exact absurd e hv
    · have cb := blk_cell hI p m Hq.out.symm Hm.out.symm
      clear hs hI hv
      go_enter Try.func36, Try.ntmps36
      go_wp2_with fail
      go_ret
      exact ⟨rfl, ⟨_, _, HS.out⟩, But2.refl h wr⟩
  · have fin : ∀ (g : Nat) (W : World), Below wr.heap.size wr W → wr.heap.size ≤ g → IsBB W W.heap.size (some ⟨g, 0, none⟩) 16 16 (blkS K non q) → Hid (((∃ v' i', StAt ((W.setCell ⟨h + 2, 0, none⟩ (.slice (some ⟨g, 0, none⟩) 16 16)).setCell ⟨h + 3, 0, none⟩ (.int .u64 q)) h gc A c non K v' i') ∧ But2 h wr ((W.setCell ⟨h + 2, 0, none⟩ (.slice (some ⟨g, 0, none⟩) 16 16)).setCell ⟨h + 3, 0, none⟩ (.int .u64 q))) ∧
        ((W.setCell ⟨h + 2, 0, none⟩ (.slice (some ⟨g, 0, none⟩) 16 16)).setCell ⟨h + 3, 0, none⟩ (.int .u64 q)).cell? ⟨h + 2, 0, none⟩ = some (.slice (some ⟨g, 0, none⟩) 16 16) ∧
        ((W.setCell ⟨h + 2, 0, none⟩ (.slice (some ⟨g, 0, none⟩) 16 16)).setCell ⟨h + 3, 0, none⟩ (.int .u64 q)).cell? ⟨g, m, none⟩ = some (.int .u8 ((stB K non p).toNat : Int)) ∧
        W.cell? ⟨h + 2, 0, none⟩ = some v ∧ (W.setCell ⟨h + 2, 0, none⟩ (.slice (some ⟨g, 0, none⟩) 16 16)).cell? ⟨h + 3, 0, none⟩ = some (.int .u64 i) ∧ W.frozen? ⟨h + 2, 0, none⟩ = false ∧ (W.setCell ⟨h + 2, 0, none⟩ (.slice (some ⟨g, 0, none⟩) 16 16)).frozen? ⟨h + 3, 0, none⟩ = false) := by
      intro g W hb hg hI
      have s1 := HS.out.put hb hg h5 hI
      have e2 : W.heap[h + 2]? = some (.cells #[v] 26 (0, 0)) := (hb.block _ (by omega)).trans HS.out.r2
      have e3 : (W.setCell ⟨h + 2, 0, none⟩ (.slice (some ⟨g, 0, none⟩) 16 16)).heap[h + 3]? = some (.cells #[.int .u64 i] 50 (0, 0)) := by
        rw [heap_setCell_other _ _ _ _ (by show h + 3 ≠ h + 2; omega)]
        exact (hb.block _ (by omega)).trans HS.out.r3
      refine ⟨⟨⟨_, _, s1⟩, But2.put hb _ _⟩, by rw [row_cell s1.r2 0]; rfl, ?_, by rw [row_cell e2 0]; rfl, by rw [row_cell e3 0]; rfl, row_free e2 0, row_free e3 0⟩
      rcases s1.bk with e | ⟨g', e, _, hI'⟩
      · cases e
      · cases e
        exact blk_cell hI' p m Hq.out.symm Hm.out.symm
    have Hfin := hid fin
    clear fin
    by_cases hv : v = .slice none 0 0
    · subst hv
      clear hs hsame
      go_enter Try.func36, Try.ntmps36
      go_upto_region 4 with (go_at_call 37; refine HB.out.mono ?_; rintro e W4 ⟨g4, rfl, hI4, hB4, hg4⟩; obtain ⟨hS5, d1, d2, d3, d4, d5, d6⟩ := Hfin.out g4 W4 hB4 hg4 hI4; have HS5 := hid hS5; clear hS5 hI4 hB4 Hfin HB)
      clear d3 d4 d5 d6 ch cn c2 c3 f2 f3
      generalize ((W4.setCell ⟨h + 2, 0, none⟩ (.slice (some ⟨g4, 0, none⟩) 16 16)).setCell ⟨h + 3, 0, none⟩ (.int .u64 q)) = W5 at HS5 d1 d2 ⊢
      go_wp2_with fail
      go_ret
      exact ⟨rfl, HS5.out.1, HS5.out.2⟩
    · have hne : ¬ ((q : Int) = (i : Int)) := fun e => hsame ⟨hv, by omega⟩
      rcases hs.bk with e | ⟨g, rfl, hg, hI⟩
      · exact absurd e hv
      clear hs hsame hI hv
      go_enter Try.func36, Try.ntmps36
      go_upto_region 4 with (go_at_call 37; refine HB.out.mono ?_; rintro e W4 ⟨g4, rfl, hI4, hB4, hg4⟩; obtain ⟨hS5, d1, d2, d3, d4, d5, d6⟩ := Hfin.out g4 W4 hB4 hg4 hI4; have HS5 := hid hS5; clear hS5 hI4 hB4 Hfin HB)
      clear d3 d4 d5 d6 ch cn c2 c3 f2 f3
      generalize ((W4.setCell ⟨h + 2, 0, none⟩ (.slice (some ⟨g4, 0, none⟩) 16 16)).setCell ⟨h + 3, 0, none⟩ (.int .u64 q)) = W5 at HS5 d1 d2 ⊢
      go_wp2_with fail
      go_ret
      exact ⟨rfl, HS5.out.1, HS5.out.2⟩
end Go.Proofs.Ytlgabihjfjlhkaa
