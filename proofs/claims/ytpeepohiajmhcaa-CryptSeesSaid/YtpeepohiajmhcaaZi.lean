/-
  Merged: CEnc CExp CNew CStr CBlk CClo CRef CStm CTrn.
-/
import Derived.Test.YtpeepohiajmhcaaZh
import Derived.Deep.MidRow
import Derived.Deep.Cut
import Derived.Outline
import Derived.BigRegion
import Derived.OwnWalk
/-
  The contracts of Encrypt and Decrypt, for a cipher in memory and a block of sixteen bytes anywhere.
-/
namespace Go.Proofs.Ytpeepohiajmhcaa.c
open Go.RowKit

/-- A list of sixteen bytes as a function of places; and back. -/
def fnOf (l : List UInt8) : Blk16 := fun j => (l.getD j 0).toNat
def outL (f : Blk16) : List UInt8 := (List.range 16).map (fun j => UInt8.ofNat (f j))
theorem fnOf_lt (l : List UInt8) (j : Nat) : fnOf l j < 256 := UInt8.toNat_lt _
theorem fnOf_low (l : List UInt8) : Low (fnOf l) := fun j _ => fnOf_lt l j
theorem outL_len (f : Blk16) : (outL f).length = 16 := by simp [outL]
theorem outL_get (f : Blk16) (j : Nat) (h : j < (outL f).length) : (outL f)[j] = UInt8.ofNat (f j) := by simp [outL]
theorem fnOf_out {f : Blk16} (h : Low f) : Same (fnOf (outL f)) f := fun j hj => by
  have h1 := h j hj
  unfold fnOf
  rw [List.getD_eq_getElem?_getD, List.getElem?_eq_getElem (by rw [outL_len]; exact hj), outL_get]
  simp
  omega
theorem out_fnOf (l : List UInt8) (h : l.length = 16) : outL (fnOf l) = l := by
  apply List.ext_getElem
  · rw [outL_len, h]
  · intro i h1 h2
    rw [outL_get]
    unfold fnOf
    rw [List.getD_eq_getElem?_getD, List.getElem?_eq_getElem h2]
    simp
theorem outL_same {f g : Blk16} (h : Same f g) : outL f = outL g := by
  unfold outL
  exact List.map_congr_left fun j hj => by rw [h j (List.mem_range.1 hj)]
theorem blkL_fnOf (l : List UInt8) (h : l.length = 16) (j : Nat) (v : Value) (hv : (blkL (fnOf l))[j]? = some v) : ∃ h2 : j < l.length, v = .int .u8 (l[j].toNat : Int) := by
  have hj : j < 16 := by have := (List.getElem?_eq_some_iff.1 hv).1; rw [blkL_len] at this; exact this
  rw [blkL_get _ j hj] at hv
  refine ⟨by omega, ?_⟩
  cases hv
  unfold nv fnOf
  rw [List.getD_eq_getElem?_getD, List.getElem?_eq_getElem (by omega)]
  rfl
/-- An array is read, whole, wherever it lies. -/
theorem wpList_load_any {P : Program} {ops : Array Oper} {rest : List Oper} {op : Oper} {a : Act} {w : World} {Q : Exit → Act → World → Prop} (hgd : op.guard = none) (ty : TypeId) (x : Operand) (ho : op.op = .load ty x)
    (ad : Addr) (hx : a.eval x = .pointer (some ad)) (cs : List Value) (d : TypeDesc) (hc : ∀ j v, cs[j]? = some v → w.cell? (ad.add j) = some v)
    (hu : P.underlying ty = some d) (hd : d.isRow = true) (hi : (P.info? ty).map (·.size) = some cs.length)
    (h : wpList P ops Q rest (a.put op.dst (.agg cs.toArray)) w) : wpList P ops Q (op :: rest) a w := by
  refine wpList_plain hgd fun K hK => ?_
  have hl : (loadCells ad cs.length).run P w = .ok cs.toArray w := run_loadCells_list (P := P) w ad cs hc
  have hrun : (loadVar ty ad).run P w = .ok (.agg cs.toArray) w := by
    cases hq : P.info? ty with
    | none => simp [hq] at hi
    | some i =>
      have hs : i.size = cs.length := by simpa [hq] using hi
      have hagg : (isAgg ty).run P w = .ok true w := by
        unfold isAgg
        rw [Sem.run_bind, run_underlying hu w]
        cases d <;> simp_all
      simp [loadVar, Sem.run_bind, hagg, sizeOf, typeInfo, hq, hs, hl]
  unfold Oper.wp execOp
  simp only [ho, hx, Instr.loadAt, Instr.sureAddr, Sem.run_bind, Sem.run_pure, Result.andThen_ok, hrun]
  exact hK _ _ h
/-- What a call of Encrypt or Decrypt works on: the block, the cipher, the closure's number. -/
structure EncSt (w wr : World) (gc : Nat) (K : Nat → Nat) (g : Nat) (gk : Nat) (s : Int) (f : Blk16) : Prop where
  blk : BlkAt wr g f
  ci : Ci wr gc K
  cl : wr.cell? ⟨gk, 0, none⟩ = some (.int .i64 s)
  bel : Below w.heap.size w wr
  ge : w.heap.size ≤ g
  gc : gc < w.heap.size
  gk : gk ≠ g
theorem EncSt.step {w wr w' : World} {gc : Nat} {K : Nat → Nat} {g gk : Nat} {s : Int} {f f' : Blk16} (e : EncSt w wr gc K g gk s f) (hb : BlkAt w' g f') (hu : But g wr w') : EncSt w w' gc K g gk s f' :=
  ⟨hb, e.ci.on hu (by have := e.gc; have := e.ge; omega), hu.cell e.cl e.gk, hu.below e.bel e.ge e.bel.size, e.ge, e.gc, e.gk⟩
theorem EncSt.same {w wr : World} {gc : Nat} {K : Nat → Nat} {g gk : Nat} {s : Int} {f f' : Blk16} (e : EncSt w wr gc K g gk s f) (h : Same f f') : EncSt w wr gc K g gk s f' :=
  ⟨e.blk.same h, e.ci, e.cl, e.bel, e.ge, e.gc, e.gk⟩
theorem EncSt.ne {w wr : World} {gc : Nat} {K : Nat → Nat} {g gk : Nat} {s : Int} {f : Blk16} (e : EncSt w wr gc K g gk s f) : gc ≠ g := by have := e.gc; have := e.ge; omega
theorem EncSt.isBB {w wr : World} {gc : Nat} {K : Nat → Nat} {g gk : Nat} {s : Int} {f : Blk16} (e : EncSt w wr gc K g gk s f) (hf : Low f) : IsBB wr wr.heap.size (some ⟨g, 0, none⟩) 16 16 (outL f) := by
  refine ⟨⟨outL_len f, by omega, by unfold maxLen; omega, by omega, fun _ => ⟨_, rfl, fun j hj => ?_⟩⟩, fun _ ad h => by cases h; exact e.blk.lt⟩
  rw [ad_add, Nat.zero_add, e.blk.cell j (by rw [outL_len] at hj; exact hj), outL_get]
  have := hf j (by rw [outL_len] at hj; exact hj)
  congr 2
  simp
  omega
/-- 'add', 'replace', 'mix', 'unmix' of such a state. -/
theorem EncSt.add {w wr : World} {gc : Nat} {K : Nat → Nat} {g gk : Nat} {s : Int} {f : Blk16} (e : EncSt w wr gc K g gk s f) (hf : Low f) (hk : ∀ j, j < 32 → K j < 256) (r : Nat) (hr : r ≤ 14) :
    Calls Try.prog 81 #[.pointer (some ⟨g, 0, none⟩), .pointer (some ⟨gc, 1 + 16 * r, none⟩)] wr fun e w' => e = .returned (.tuple #[]) ∧ EncSt w w' gc K g gk s (addF f (keyF K r)) :=
  (add_any g f (keyF K r) _ wr e.blk hf (e.ci.key r hr) (Low.key K hk r) e.ne).mono fun _ _ h => ⟨h.1, e.step h.2.1 h.2.2⟩
theorem EncSt.rep {w wr : World} {gc : Nat} {K : Nat → Nat} {g gk : Nat} {f : Blk16} (e : EncSt w wr gc K g gk 1 f) (hf : Low f) :
    Calls Try.prog 83 #[.pointer (some ⟨g, 0, none⟩), .pointer (some ⟨gc, 241, none⟩), .func (.func 90) #[] #[.pointer (some ⟨gk, 0, none⟩)]] wr fun e w' => e = .returned (.tuple #[]) ∧ EncSt w w' gc K g gk 1 (rowsF (subsF f)) :=
  (replace_any g f subN (fun j => (j + 4 * (j % 4)) % 16) ⟨gc, 241, none⟩ gk 1 wr e.blk hf e.ci.sub sub_lt (fun j hj => by omega) e.ne e.cl e.gk (fun j hj W hc => left_place j hj _ W hc)).mono fun _ _ h => ⟨h.1, e.step h.2.1 h.2.2⟩
theorem EncSt.unrep {w wr : World} {gc : Nat} {K : Nat → Nat} {g gk : Nat} {f : Blk16} (e : EncSt w wr gc K g gk (-1) f) (hf : Low f) :
    Calls Try.prog 83 #[.pointer (some ⟨g, 0, none⟩), .pointer (some ⟨gc, 497, none⟩), .func (.func 90) #[] #[.pointer (some ⟨gk, 0, none⟩)]] wr fun e w' => e = .returned (.tuple #[]) ∧ EncSt w w' gc K g gk (-1) (backsF (unrowsF f)) :=
  (replace_any g f backN (fun j => (j + 12 * (j % 4)) % 16) ⟨gc, 497, none⟩ gk (-1) wr e.blk hf e.ci.back back_lt (fun j hj => by omega) e.ne e.cl e.gk (fun j hj W hc => right_place j hj _ W hc)).mono fun _ _ h => ⟨h.1, e.step h.2.1 h.2.2⟩
theorem EncSt.mix {w wr : World} {gc : Nat} {K : Nat → Nat} {g gk : Nat} {s : Int} {f : Blk16} (e : EncSt w wr gc K g gk s f) (hf : Low f) :
    Calls Try.prog 84 #[.pointer (some ⟨g, 0, none⟩)] wr fun e w' => e = .returned (.tuple #[]) ∧ EncSt w w' gc K g gk s (mixF f) :=
  (mix_any g f wr e.blk hf).mono fun _ _ h => ⟨h.1, e.step h.2.1 h.2.2⟩
theorem enc_start (w : World) (gc : Nat) (K : Nat → Nat) (hc : Ci w gc K) (f : Blk16) (s : Int) :
    EncSt w (((w.alloc (.cells zb16 114)).setRow w.heap.size (blkL f).toArray).alloc (.cells #[.int .i64 s] 3)) gc K w.heap.size (w.heap.size + 1) s f := by
  have hg := hc.lt
  have b1 : Below w.heap.size w ((w.alloc (.cells zb16 114)).setRow w.heap.size (blkL f).toArray) := below_setRow ((Below.refl w.heap.size w).alloc (Nat.le_refl _) _) (Nat.le_refl _) _
  have z1 : ((w.alloc (.cells zb16 114)).setRow w.heap.size (blkL f).toArray).heap.size = w.heap.size + 1 := by simp [World.setRow]
  have b2 := b1.alloc b1.size (.cells #[.int .i64 s] 3)
  have r1 : ((w.alloc (.cells zb16 114)).setRow w.heap.size (blkL f).toArray).heap[w.heap.size]? = some (.cells (blkL f).toArray 114 (0, 0)) := setRow_heap _ _ _ _ _ _ (heap_alloc_new w _)
  refine ⟨?_, hc.onB b2 hg, ?_, b2, Nat.le_refl _, hg, by omega⟩
  · unfold BlkAt
    rw [heap_alloc_old _ _ (by omega)]
    exact r1
  · have := heap_alloc_new ((w.alloc (.cells zb16 114)).setRow w.heap.size (blkL f).toArray) (.cells #[.int .i64 s] 3)
    rw [z1] at this
    exact row_cell this 0

theorem refused_ok (g : Nat) (w : World) (K : Nat → Nat) (h : Ci w g K) (A : Option Addr) (c : Nat) : Calls Try.prog 79 #[.pointer (some ⟨g, 0, none⟩), .slice A 16 c] w fun e w' => e = .returned (.int .i64 0) ∧ w = w' :=
  (refused_any g w (ciF K) h A 16 c).mono fun _ _ h => ⟨h.1, h.2⟩
theorem key_at (g r : Nat) (x : Int) (hr : r ≤ 14) (hx : x = (r : Int)) (w : World) : Calls Try.prog 82 #[.pointer (some ⟨g, 0, none⟩), .int .i64 x] w fun e w' => e = .returned (.pointer (some ⟨g, 1 + 16 * r, none⟩)) ∧ w = w' := by
  subst hx; exact key_any g r hr w
/-- What Encrypt and Decrypt answer of a list of bytes. -/
def encL (K : Nat → Nat) (l : List UInt8) : List UInt8 := outL (encF (keyF K) (fnOf l))
def decL (K : Nat → Nat) (l : List UInt8) : List UInt8 := outL (decF (keyF K) (fnOf l))
set_option maxRecDepth 10000 in
set_option maxHeartbeats 1000000 in
theorem encrypt_any (gc : Nat) (K : Nat → Nat) (A : Option Addr) (c : Nat) (l : List UInt8) (w : World) (hc : Ci w gc K) (hk : ∀ j, j < 32 → K j < 256) (hl : IsBB w w.heap.size A 16 c l) :
    Calls Try.prog 75 #[.pointer (some ⟨gc, 0, none⟩), .slice A 16 c] w fun e w' => ∃ g, e = .returned (.tuple #[.slice (some ⟨g, 0, none⟩) 16 16, .int .i64 0]) ∧ IsBB w' w'.heap.size (some ⟨g, 0, none⟩) 16 16 (encL K l) ∧ Below w.heap.size w w' ∧ w.heap.size ≤ g := by
  have zv := zero48
  have hat : ∀ w, (Instr.arrayAt 114 (.slice A 16 c)).run Try.prog w = .ok (.pointer A) w := fun w => run_arrayAt w 114 _ 16 _ 16 c Try.underlying114 (Nat.le_refl _)
  have hlen := hl.len
  obtain ⟨ad, rfl, hcell⟩ := hl.lies (by omega)
  have hrd : Hid (∀ j v, (blkL (fnOf l))[j]? = some v → w.cell? (ad.add j) = some v) := by
    intro j v hv
    obtain ⟨h2, rfl⟩ := blkL_fnOf l hlen j v hv
    exact hcell j h2
  have hsz48 : (Try.prog.info? 114).map (·.size) = some (blkL (fnOf l)).length := by rw [blkL_len]; kernel_rfl
  have Hr0 := hid (heap_alloc_new w (.cells zb16 114))
  have HS := hid (enc_start w gc K hc (fnOf l) 1)
  have hkl : ∀ r, Low (keyF K r) := Low.key K hk
  have hf := fnOf_low l
  have HC := hid hc
  have hz1 : ((w.alloc (.cells zb16 114)).setRow w.heap.size (blkL (fnOf l)).toArray).heap.size = w.heap.size + 1 := by simp [World.setRow]
  have Hz1 := hid hz1
  have HA : Hid (encL K l = outL (encF (keyF K) (fnOf l))) := rfl
  clear hc hcell hl hz1 hlen
  obtain ⟨f0, hf0⟩ : ∃ f0, f0 = fnOf l := ⟨_, rfl⟩
  rw [← hf0] at hf hrd hsz48 HS Hz1 HA
  clear hf0
  go_enter Try.func75, Try.ntmps75
  go_wp2_with (first
    | (go_at_call 79; refine (refused_ok gc w K HC.out (some ad) c).mono ?_; rintro e w' ⟨rfl, rfl⟩)
    | (go_at_call 80; with_reducible refine (turned_any 1 _).mono ?_; rintro e w' ⟨rfl, rfl⟩; rw [Hz1.out]; generalize (((w.alloc (.cells zb16 114)).setRow w.heap.size (blkL f0).toArray).alloc (.cells #[.int .i64 1] 3)) = W1 at HS ⊢)
    | (refine wpList_load_any rfl 114 (.tmp 17) rfl ad rfl (blkL f0) _ hrd.out Try.underlying114 rfl hsz48 ?_)
    | (refine wpList_store_row (o := ⟨none, .store 114 (.tmp 7) (.tmp 18), _, _, _, _⟩) rfl 114 (.tmp 7) (.tmp 18) rfl w.heap.size (blkL f0).toArray rfl rfl 114 zb16 Hr0.out (size48 _ (blkL_len _)) (zb16_size _ (blkL_len _)) (blkL_one _) ?_)
    | (go_at_call 82; refine (key_at gc 0 _ (by omega) (by rfl) _).mono ?_; rintro e w' ⟨rfl, rfl⟩)
    | (go_at_call 81; refine (HS.out.add hf hk 0 (by omega)).mono ?_; rintro e W2 ⟨rfl, H2⟩; have HS2 := hid H2; clear H2 HS))
  have hf1 : Low (addF f0 (keyF K 0)) := hf.add (hkl 0)
  have HA2 : Hid (encL K l = outL (addF (rowsF (subsF (rndsF (keyF K) (addF f0 (keyF K 0)) 13))) (keyF K 14))) := HA.out
  clear HA Hr0 Hz1 hrd hsz48 HC
  obtain ⟨f1, he1⟩ : ∃ f1, f1 = addF f0 (keyF K 0) := ⟨_, rfl⟩
  rw [← he1] at hf1 HS2 HA2
  clear he1 hf hat
  go_loopw [9] (fun i wr => ∃ q : Nat, q ≤ 13 ∧ i = .int .i64 ((q + 1 : Nat) : Int) ∧ Hid (EncSt w wr gc K w.heap.size (w.heap.size + 1) 1 (rndsF (keyF K) f1 q))) (fun i _ => 14 - (intOf i).toNat)
  case atStart => exact ⟨0, Nat.zero_le _, rfl, HS2⟩
  case round =>
    obtain ⟨q, hq, rfl, hs⟩ := hrel
    clear HS2
    have hF := Low.rnds hf1 hkl q
    by_cases hlt : q < 13
    · have hlz : ((q + 1 : Nat) : Int) < 14 := by omega
      have HN : Hid (rndsF (keyF K) f1 (q + 1) = addF (mixF (rowsF (subsF (rndsF (keyF K) f1 q)))) (keyF K (q + 1))) := rfl
      generalize rndsF (keyF K) f1 q = F at hs hF HN
      go_wp2_with (first
        | (go_at_call 83; refine (hs.out.rep hF).mono ?_; rintro e W3 ⟨rfl, H3⟩; have HS3 := hid H3; clear H3)
        | (go_at_call 84; refine (HS3.out.mix hF.subs.rows).mono ?_; rintro e W4 ⟨rfl, H4⟩; have HS4 := hid H4; clear H4)
        | (go_at_call 82; refine (key_at gc (q + 1) _ (by omega) (by omega) _).mono ?_; rintro e w' ⟨rfl, rfl⟩)
        | (go_at_call 81; refine (HS4.out.add hF.subs.rows.mix hk (q + 1) (by omega)).mono ?_; rintro e W5 ⟨rfl, H5⟩; have HS5 := hid H5; clear H5))
      go_roundw
      case rel => exact ⟨q + 1, by omega, by go_num, by rw [HN.out]; exact HS5⟩
      case measure => simp [intOf]; omega
    · obtain rfl : q = 13 := by omega
      generalize rndsF (keyF K) f1 13 = F at hs hF HA2
      go_wp2_with (first
        | (go_at_call 83; refine (hs.out.rep hF).mono ?_; rintro e W3 ⟨rfl, H3⟩; have HS3 := hid H3; clear H3)
        | (go_at_call 82; refine (key_at gc 14 _ (by omega) (by rfl) _).mono ?_; rintro e w' ⟨rfl, rfl⟩)
        | (go_at_call 81; refine (HS3.out.add hF.subs.rows hk 14 (by omega)).mono ?_; rintro e W5 ⟨rfl, H5⟩; have HS5 := hid H5; clear H5))
      go_ret2
      have hb := HS5.out.isBB (hF.subs.rows.add (hkl 14))
      rw [← HA2.out] at hb
      exact ⟨w.heap.size, rfl, hb, HS5.out.bel, Nat.le_refl _⟩
end Go.Proofs.Ytpeepohiajmhcaa.c
/-
  The contract of 'expand': the words of a key, in memory.
-/
namespace Go.Proofs.Ytpeepohiajmhcaa.c
open Go.RowKit

/-- What word p + 8 is xor'd by, byte by byte. -/
def tF (K : Nat → Nat) (p t : Nat) : Nat :=
  if p % 8 = 0 then subN (wordF K (p + 7) ((t + 1) % 4)) ^^^ (if t = 0 then powX ((p + 7) / 8) else 0) else if p % 8 = 4 then subN (wordF K (p + 7) t) else wordF K (p + 7) t
theorem kb_next (K : Nat → Nat) (p t : Nat) (ht : t < 4) : kbF K (4 * p + 32 + t) = kbF K (4 * p + t) ^^^ tF K p t := by
  unfold kbF tF
  rw [show (4 * p + 32 + t) / 4 = p + 8 by omega, show (4 * p + 32 + t) % 4 = t by omega, show (4 * p + t) / 4 = p by omega, show (4 * p + t) % 4 = t by omega,
    wordF_high K (p + 8) t (by omega), show p + 8 - 8 = p by omega, show p + 8 - 1 = p + 7 by omega, show (p + 8) % 8 = p % 8 by omega]
  by_cases h : p % 8 = 0
  · rw [if_pos h, if_pos h, show (p + 8) / 8 - 1 = (p + 7) / 8 by omega]
  · rw [if_neg h, if_neg h]
theorem powX_next (p : Nat) (h : p % 8 = 0) : powX ((p + 1 + 7) / 8) = xtN (powX ((p + 7) / 8)) := by
  rw [show (p + 1 + 7) / 8 = (p + 7) / 8 + 1 by omega]; rfl
theorem powX_stay (p : Nat) (h : ¬ p % 8 = 0) : powX ((p + 1 + 7) / 8) = powX ((p + 7) / 8) := by
  rw [show (p + 1 + 7) / 8 = (p + 7) / 8 by omega]
/-- The first m bytes are the key's words'. -/
def expP (K F : Nat → Nat) (m : Nat) : Nat → Nat := fun j => if j < m then kbF K j else F j
theorem expP_next (K F : Nat → Nat) (m v : Nat) (hv : v = kbF K m) (j : Nat) : upd (expP K F m) m v j = expP K F (m + 1) j := by
  unfold upd expP
  by_cases e : j = m
  · subst e; rw [if_pos rfl, if_pos (by omega), hv]
  · rw [if_neg e]
    by_cases h : j < m
    · rw [if_pos h, if_pos (by omega)]
    · rw [if_neg h, if_neg (by omega)]
theorem ci_copied (F : Nat → Nat) (l : List UInt8) (h : l.length = 32) : (ciL F).toArray.toList.take 1 ++ (l.map bv ++ (ciL F).toArray.toList.drop (1 + (l.map bv).length)) = ciL (expP (fnOf l) F 32) := by
  rw [List.length_map, h]
  apply List.ext_getElem?
  intro i
  rcases i with _ | i
  · rw [List.getElem?_append_left (by rw [List.length_take, List.toList_toArray, ciL_len]; omega), List.getElem?_take, if_pos (by omega), List.toList_toArray, ciL_zero, ciL_zero]
  · have h1 : ((ciL F).toArray.toList.take 1).length = 1 := by rw [List.length_take, List.toList_toArray, ciL_len]; omega
    rw [List.getElem?_append_right (by omega), h1, Nat.add_sub_cancel]
    by_cases hi : i < 752
    · rw [show i + 1 = 1 + i by omega, ciL_get _ i hi]
      by_cases h2 : i < 32
      · rw [List.getElem?_append_left (by rw [List.length_map]; omega), List.getElem?_map, List.getElem?_eq_getElem (by omega)]
        unfold expP kbF
        rw [if_pos h2, wordF_low _ _ _ (by omega), show 4 * (i / 4) + i % 4 = i by omega]
        unfold fnOf
        rw [List.getD_eq_getElem?_getD, List.getElem?_eq_getElem (by omega)]
        rfl
      · rw [List.getElem?_append_right (by rw [List.length_map]; omega), List.length_map, h, List.getElem?_drop, List.toList_toArray, show 1 + 32 + (i - 32) = 1 + i by omega, ciL_get F i hi]
        unfold expP
        rw [if_neg h2]
    · rw [List.getElem?_eq_none (by rw [List.length_append, List.length_map, List.length_drop, List.toList_toArray, ciL_len]; omega), List.getElem?_eq_none (by rw [ciL_len]; omega)]
theorem kb_one (l : List UInt8) : ∀ v ∈ l.map bv, v.oneCell' = true := bv_one l
def zb4 : Array Value := #[.int .u8 0, .int .u8 0, .int .u8 0, .int .u8 0]
theorem zero61 (w : World) : (zeroValue 94).run Try.prog w = .ok (.agg zb4) w := by kernel_rfl
def sel4 (a b c d t : Nat) : Nat := if t = 0 then a else if t = 1 then b else if t = 2 then c else d
theorem ix61 (a b c d t : Nat) (ht : t < 4) (w : World) : (Instr.index 94 (.agg #[.int .u8 (a : Nat), .int .u8 (b : Nat), .int .u8 (c : Nat), .int .u8 (d : Nat)]) (.int .i64 (t : Nat))).run Try.prog w = .ok (.int .u8 (sel4 a b c d t : Nat)) w := by
  rcases (show t = 0 ∨ t = 1 ∨ t = 2 ∨ t = 3 by omega) with rfl | rfl | rfl | rfl <;> kernel_rfl
theorem sel4_lt (a b c d t : Nat) (ha : a < 256) (hb : b < 256) (hc : c < 256) (hd : d < 256) : sel4 a b c d t < 256 := by
  unfold sel4; split; exact ha; split; exact hb; split; exact hc; exact hd
theorem row4 (a b c d : Nat) : (#[Value.int .u8 (a : Nat), .int .u8 (b : Nat), .int .u8 (c : Nat), .int .u8 (d : Nat)] : Array Value).all (·.oneCell') = true := by simp [Value.oneCell']
theorem size61 (a b c d : Value) : (Try.prog.info? 94).map (·.size) = some (#[a, b, c, d] : Array Value).size := by
  show _ = some 4
  kernel_rfl
structure ExpSt (w wr : World) (gc : Nat) (G : Nat → Nat) : Prop where
  ci : CiAt wr gc G
  but : But gc w wr
  lt : gc < w.heap.size
theorem ExpSt.drew {w wr : World} {gc : Nat} {G : Nat → Nat} (s : ExpSt w wr gc G) : ExpSt w wr.drew gc G := ⟨s.ci, s.but.drew, s.lt⟩
theorem ExpSt.set {w wr : World} {gc : Nat} {G : Nat → Nat} (s : ExpSt w wr gc G) (j v : Nat) (hj : j < 752) : ExpSt w (wr.setCell ⟨gc, 1 + j, none⟩ (.int .u8 (v : Nat))) gc (upd G j v) := ⟨s.ci.set j v hj, s.but.set _ _, s.lt⟩
theorem ExpSt.same {w wr : World} {gc : Nat} {G G' : Nat → Nat} (s : ExpSt w wr gc G) (h : ∀ j, j < 752 → G j = G' j) : ExpSt w wr gc G' := ⟨s.ci.same h, s.but, s.lt⟩
/-- A word of its own is made, and written. -/
theorem ExpSt.word {w wr : World} {gc : Nat} {G : Nat → Nat} (s : ExpSt w wr gc G) (R : Array Value) : ExpSt w ((wr.alloc (.cells zb4 94)).setRow wr.heap.size R) gc G := by
  have hl := s.ci.lt
  have b : Below wr.heap.size wr ((wr.alloc (.cells zb4 94)).setRow wr.heap.size R) := below_setRow ((Below.refl wr.heap.size wr).alloc (Nat.le_refl _) _) (Nat.le_refl _) _
  exact ⟨s.ci.onB b hl, s.but.trans (But.of b), s.lt⟩
theorem ExpSt.row {w wr : World} {gc g : Nat} {G : Nat → Nat} (s : ExpSt w wr gc G) (hg : gc < g) (h2 : w.heap.size ≤ g) (R : Array Value) : ExpSt w (wr.setRow g R) gc G := by
  refine ⟨(setRow_other _ _ _ _ (by omega)).trans s.ci, ?_, s.lt⟩
  have hb := s.but
  exact ⟨hb.os, hb.tape, hb.output, by simp [World.setRow]; exact hb.size, fun i hi hne => (setRow_other _ _ _ _ (by omega)).trans (hb.block i hi hne)⟩

theorem ExpSt.sub {w wr : World} {gc m : Nat} {K F : Nat → Nat} (s : ExpSt w wr gc (expP K F m)) (hm : m ≤ 240) (hs : ∀ x, x < 256 → F (240 + x) = subN x) (x : Nat) (hx : x < 256) : wr.cell? ⟨gc, 241 + x, none⟩ = some (.int .u8 (subN x : Nat)) := by
  rw [show 241 + x = 1 + (240 + x) by omega, s.ci.cell (240 + x) (by omega)]
  unfold expP
  rw [if_neg (by omega), hs x hx]
theorem ExpSt.old {w wr : World} {gc m : Nat} {K F : Nat → Nat} (s : ExpSt w wr gc (expP K F m)) (u : Nat) (hu : u < m) (hm : m ≤ 240) : wr.cell? ⟨gc, 1 + u, none⟩ = some (.int .u8 (kbF K u : Nat)) := by
  rw [s.ci.cell u (by omega)]
  unfold expP
  rw [if_pos hu]
theorem tF_zero (K : Nat → Nat) (p : Nat) (x0 x1 x2 x3 : Nat) (hx : (x0 = wordF K (p + 7) 0 ∧ x1 = wordF K (p + 7) 1) ∧ (x2 = wordF K (p + 7) 2 ∧ x3 = wordF K (p + 7) 3)) (h : p % 8 = 0) :
    ∀ t, t < 4 → tF K p t = sel4 (subN x1 ^^^ powX ((p + 7) / 8)) (subN x2) (subN x3) (subN x0) t := by
  intro t ht
  unfold tF
  rw [if_pos h]
  obtain ⟨⟨rfl, rfl⟩, ⟨rfl, rfl⟩⟩ := hx
  rcases (show t = 0 ∨ t = 1 ∨ t = 2 ∨ t = 3 by omega) with rfl | rfl | rfl | rfl
  · rfl
  · exact Nat.xor_zero _
  · exact Nat.xor_zero _
  · exact Nat.xor_zero _
theorem tF_four (K : Nat → Nat) (p : Nat) (x0 x1 x2 x3 : Nat) (hx : (x0 = wordF K (p + 7) 0 ∧ x1 = wordF K (p + 7) 1) ∧ (x2 = wordF K (p + 7) 2 ∧ x3 = wordF K (p + 7) 3)) (h : p % 8 = 4) :
    ∀ t, t < 4 → tF K p t = sel4 (subN x0) (subN x1) (subN x2) (subN x3) t := by
  intro t ht
  unfold tF
  rw [if_neg (by omega), if_pos h]
  obtain ⟨⟨rfl, rfl⟩, ⟨rfl, rfl⟩⟩ := hx
  rcases (show t = 0 ∨ t = 1 ∨ t = 2 ∨ t = 3 by omega) with rfl | rfl | rfl | rfl <;> rfl
theorem tF_else (K : Nat → Nat) (p : Nat) (x0 x1 x2 x3 : Nat) (hx : (x0 = wordF K (p + 7) 0 ∧ x1 = wordF K (p + 7) 1) ∧ (x2 = wordF K (p + 7) 2 ∧ x3 = wordF K (p + 7) 3)) (h : ¬ p % 8 = 0) (h' : ¬ p % 8 = 4) :
    ∀ t, t < 4 → tF K p t = sel4 x0 x1 x2 x3 t := by
  intro t ht
  unfold tF
  rw [if_neg h, if_neg h']
  obtain ⟨⟨rfl, rfl⟩, ⟨rfl, rfl⟩⟩ := hx
  rcases (show t = 0 ∨ t = 1 ∨ t = 2 ∨ t = 3 by omega) with rfl | rfl | rfl | rfl <;> rfl
theorem ExpSt.put {w wx : World} {gc m : Nat} {K F : Nat → Nat} (s : ExpSt w wx gc (expP K F m)) (hm : m < 240) (v : Nat) (hv : v = kbF K m) : ExpSt w ((wx.setCell ⟨gc, 1 + m, none⟩ (.int .u8 (v : Nat))).drew) gc (expP K F (m + 1)) :=
  ((s.set m v (by omega)).same fun j _ => expP_next K F m v hv j).drew

set_option maxRecDepth 10000 in
set_option maxHeartbeats 4000000 in
theorem expand_any (gc : Nat) (F : Nat → Nat) (A : Option Addr) (c : Nat) (l : List UInt8) (w : World) (h : CiAt w gc F) (hs : ∀ x, x < 256 → F (240 + x) = subN x) (hl : IsBB w gc A 32 c l) :
    Calls Try.prog 57 #[.pointer (some ⟨gc, 0, none⟩), .slice A 32 c] w fun e w' => e = .returned (.tuple #[]) ∧ CiAt w' gc (expP (fnOf l) F 240) ∧ But gc w w' := by
  have zv := zero61
  have hlen := hl.len
  obtain ⟨ad, rfl, hcell⟩ := hl.lies (by omega)
  have hgl := h.lt
  have hsrc : Hid (∀ (j : Nat) (v : Value), (l.map bv)[j]? = some v → w.cell? (ad.add j) = some v) := by
    intro j v hv
    have hj : j < l.length := by have := (List.getElem?_eq_some_iff.1 hv).1; simpa using this
    rw [map_bv_getElem? l j hj] at hv
    cases hv
    exact hcell j hj
  have HCp := hid (ci_copied F l hlen)
  have HL := hid hlen
  have S0 : Hid (ExpSt w (w.setRow gc (ciL (expP (fnOf l) F 32)).toArray) gc (expP (fnOf l) F 32)) := by
    refine ⟨setRow_heap _ _ _ _ _ _ h, ⟨rfl, rfl, rfl, by simp [World.setRow], fun i hi hne => setRow_other _ _ _ _ (by omega)⟩, hgl⟩
  have H := hid h
  have Hs := hid hs
  have hK : ∀ j, fnOf l j < 256 := fnOf_lt l
  clear h hs hl hcell
  go_enter Try.func57, Try.ntmps57
  go_wp2_with (refine wpList_copy_own rfl (.tmp 12) (.tmp 13) 29 29 rfl 5 Try.underlying29 Try.size5 gc 1 240 240 ad 32 c rfl rfl (ciL F).toArray 82 H.out (l.map bv) (by rw [List.length_map, HL.out]; rfl) hsrc.out (by rw [List.length_map, HL.out, List.size_toArray, ciL_len]; omega) (kb_one l) ?_; rw [HCp.out])
  generalize w.setRow gc (ciL (expP (fnOf l) F 32)).toArray = W0 at S0 ⊢
  obtain ⟨K, HKe⟩ : ∃ K, K = fnOf l := ⟨_, rfl⟩
  rw [← HKe] at S0 hK
  clear HCp H hsrc
  have hk32 : ∀ j, j < 32 → K j < 256 := fun j _ => hK j
  go_loopw [4, 5] (fun vp va wr => ∃ p : Nat, p ≤ 52 ∧ va = .int .i64 ((4 * p + 32 : Nat) : Int) ∧ vp = .int .u8 (powX ((p + 7) / 8) : Nat) ∧ Hid (ExpSt w wr gc (expP K F (4 * p + 32)))) (fun _ va _ => 240 - (intOf va).toNat)
  case atStart => exact ⟨0, Nat.zero_le _, rfl, rfl, S0⟩
  case round =>
    obtain ⟨p, hp, rfl, rfl, hst⟩ := hrel
    clear S0
    by_cases hlt : p < 52
    · have hlz : ((4 * p + 32 : Nat) : Int) < 240 := by omega
      have hrd : Hid (∀ t, t < 4 → wr.cell? ⟨gc, 1 + (4 * p + 28) + t, none⟩ = some (.int .u8 (wordF K (p + 7) t : Nat))) := by
        intro t ht
        rw [show 1 + (4 * p + 28) + t = 1 + (4 * p + 28 + t) by omega, hst.out.ci.cell (4 * p + 28 + t) (by omega)]
        unfold expP kbF
        rw [if_pos (by omega), show (4 * p + 28 + t) / 4 = p + 7 by omega, show (4 * p + 28 + t) % 4 = t by omega]
      have hx : ∀ t, t < 4 → wordF K (p + 7) t < 256 := fun t ht => wordF_lt K hk32 (p + 8) (p + 7) t (by omega) ht
      have Hkb := hid (fun t (ht : t < 4) => kb_next K p t ht)
      have Hpn := hid (powX_next p)
      have Hps := hid (powX_stay p)
      have hpl := powX_lt ((p + 7) / 8)
      have Htf := hid (fun t => show tF K p t = _ from rfl)
      have x0l := hx 0 (by omega)
      have x1l := hx 1 (by omega)
      have x2l := hx 2 (by omega)
      have x3l := hx 3 (by omega)
      have hr4 : wr.rangeAt gc (1 + (4 * p + 28)) [.int .u8 (wordF K (p + 7) 0 : Nat), .int .u8 (wordF K (p + 7) 1 : Nat), .int .u8 (wordF K (p + 7) 2 : Nat), .int .u8 (wordF K (p + 7) 3 : Nat)] := by
        intro j v hv
        have hj : j < 4 := by have := (List.getElem?_eq_some_iff.1 hv).1; simpa using this
        rw [hrd.out j hj]
        rcases (show j = 0 ∨ j = 1 ∨ j = 2 ∨ j = 3 by omega) with rfl | rfl | rfl | rfl <;> simpa using hv
      have e0 : Hid (wordF K (p + 7) 0 = wordF K (p + 7) 0) := rfl
      obtain ⟨x0, h0⟩ : ∃ x, x = wordF K (p + 7) 0 := ⟨_, rfl⟩
      obtain ⟨x1, h1⟩ : ∃ x, x = wordF K (p + 7) 1 := ⟨_, rfl⟩
      obtain ⟨x2, h2⟩ : ∃ x, x = wordF K (p + 7) 2 := ⟨_, rfl⟩
      obtain ⟨x3, h3⟩ : ∃ x, x = wordF K (p + 7) 3 := ⟨_, rfl⟩
      rw [← h0] at x0l hr4
      rw [← h1] at x1l hr4
      rw [← h2] at x2l hr4
      rw [← h3] at x3l hr4
      have HX := hid (And.intro (And.intro h0 h1) (And.intro h2 h3))
      obtain ⟨pw, hpw⟩ : ∃ x, x = powX ((p + 7) / 8) := ⟨_, rfl⟩
      rw [← hpw] at hpl ⊢
      have HPw := hid hpw
      obtain ⟨a, ha⟩ : ∃ a, a = 4 * p + 32 := ⟨_, rfl⟩
      obtain ⟨q, hq⟩ : ∃ q, q = 4 * p := ⟨_, rfl⟩
      obtain ⟨b, hb⟩ : ∃ b, b = 4 * p + 28 := ⟨_, rfl⟩
      rw [← ha] at hlz hst ⊢
      rw [← hb] at hr4
      have Hab := hid (And.intro ha (And.intro hq hb))
      have hab4 : (a : Int) - 4 = (b : Int) := by omega
      have hsl := slice32r gc b (by omega) (b : Int) rfl
      have hat : ∀ n c w, 4 ≤ n → (Instr.arrayAt 94 (.slice (some ⟨gc, 1 + b, none⟩) n c)).run Try.prog w = .ok (.pointer (some ⟨gc, 1 + b, none⟩)) w := fun n c w h => run_arrayAt w 94 _ 4 _ n c Try.underlying94 h
      have h4b : 4 ≤ 240 - b := by omega
      have Hr4 := hid hr4
      have Hw0 := hid (heap_alloc_new wr (.cells zb4 94))
      have SW := hid (hst.out.word #[.int .u8 (x0 : Nat), .int .u8 (x1 : Nat), .int .u8 (x2 : Nat), .int .u8 (x3 : Nat)])
      have HW1 := hid (setRow_heap (wr.alloc (.cells zb4 94)) wr.heap.size _ #[.int .u8 (x0 : Nat), .int .u8 (x1 : Nat), .int .u8 (x2 : Nat), .int .u8 (x3 : Nat)] 94 (0, 0) (heap_alloc_new wr (.cells zb4 94)))
      have hgw : gc < wr.heap.size := hst.out.ci.lt
      have hww : w.heap.size ≤ wr.heap.size := hst.out.but.size
      clear h0 h1 h2 h3 hpw ha hq hb hrd hx hr4 hst e0
      rcases (show p % 8 = 0 ∨ p % 8 = 4 ∨ (¬ p % 8 = 0 ∧ ¬ p % 8 = 4) by omega) with h8 | h8 | ⟨h8, h8'⟩
      · have hrem : (a : Int) % 32 = 0 := by have := Hab.out.1; omega
        go_upto_region 8 with (first
          | (refine wpList_load_mid rfl 94 (.tmp 25) rfl gc (1 + b) rfl [.int .u8 (x0 : Nat), .int .u8 (x1 : Nat), .int .u8 (x2 : Nat), .int .u8 (x3 : Nat)] _ Hr4.out Try.underlying94 rfl (by kernel_rfl) ?_)
          | (refine wpList_store_row (o := ⟨none, .store 94 (.tmp 6) (.tmp 26), _, _, _, _⟩) rfl 94 (.tmp 6) (.tmp 26) rfl wr.heap.size #[.int .u8 (x0 : Nat), .int .u8 (x1 : Nat), .int .u8 (x2 : Nat), .int .u8 (x3 : Nat)] rfl rfl 94 zb4 Hw0.out (size61 _ _ _ _) rfl (row4 _ _ _ _) ?_))
        generalize ((wr.alloc (.cells zb4 94)).setRow wr.heap.size #[.int .u8 (x0 : Nat), .int .u8 (x1 : Nat), .int .u8 (x2 : Nat), .int .u8 (x3 : Nat)]) = W1 at SW HW1 ⊢
        generalize wr.heap.size = gw at HW1 hgw hww ⊢
        clear Hw0 Hr4 hat hsl
        have HT := hid (tF_zero K p x0 x1 x2 x3 HX.out h8)
        have ham : a ≤ 240 := by omega
        have c0 : W1.cell? ⟨gw, 0, none⟩ = some (.int .u8 (x0 : Nat)) := (row_cell HW1.out 0).trans rfl
        have d0 := SW.out.sub ham Hs.out x0 x0l
        have sl0 := sub_lt x0 x0l
        have ix0 : (x0 : Int) < 256 := by omega
        have c1 : W1.cell? ⟨gw, 1, none⟩ = some (.int .u8 (x1 : Nat)) := (row_cell HW1.out 1).trans rfl
        have d1 := SW.out.sub ham Hs.out x1 x1l
        have sl1 := sub_lt x1 x1l
        have ix1 : (x1 : Int) < 256 := by omega
        have c2 : W1.cell? ⟨gw, 2, none⟩ = some (.int .u8 (x2 : Nat)) := (row_cell HW1.out 2).trans rfl
        have d2 := SW.out.sub ham Hs.out x2 x2l
        have sl2 := sub_lt x2 x2l
        have ix2 : (x2 : Int) < 256 := by omega
        have c3 : W1.cell? ⟨gw, 3, none⟩ = some (.int .u8 (x3 : Nat)) := (row_cell HW1.out 3).trans rfl
        have d3 := SW.out.sub ham Hs.out x3 x3l
        have sl3 := sub_lt x3 x3l
        have ix3 : (x3 : Int) < 256 := by omega
        generalize subN x0 = s0 at d0 sl0 HT
        generalize subN x1 = s1 at d1 sl1 HT
        generalize subN x2 = s2 at d2 sl2 HT
        generalize subN x3 = s3 at d3 sl3 HT
        have HPw2 : Hid (pw = powX ((p + 7) / 8)) := HPw
        rw [← HPw.out] at HT
        have qy := u8_xor_nat _ _ sl1 hpl
        have sl1b := xor8 sl1 hpl
        generalize s1 ^^^ pw = y at qy sl1b HT
        go_still_tail 30, (by kernel_rfl)
        change wpList _ _ _ _ _ W1.drew
        have HW1d : Hid (W1.drew.heap[gw]? = some (.cells #[.int .u8 (x0 : Nat), .int .u8 (x1 : Nat), .int .u8 (x2 : Nat), .int .u8 (x3 : Nat)] 94 (0, 0))) := HW1
        have SW2 := hid (SW.out.drew.row hgw hww #[.int .u8 (y : Nat), .int .u8 (s2 : Nat), .int .u8 (s3 : Nat), .int .u8 (s0 : Nat)])
        have HW2 := hid (setRow_heap W1.drew gw _ #[.int .u8 (y : Nat), .int .u8 (s2 : Nat), .int .u8 (s3 : Nat), .int .u8 (s0 : Nat)] 94 (0, 0) HW1d.out)
        clear c0 d0 c1 d1 c2 d2 c3 d3 HW1 SW
        go_wp2_with (first
          | (go_at_call 66; with_reducible refine (double_any pw hpl _).mono ?_; rintro e w' ⟨rfl, rfl⟩)
          | (refine wpList_load_row rfl 94 (.tmp 6) rfl gw rfl 94 #[.int .u8 (y : Nat), .int .u8 (s2 : Nat), .int .u8 (s3 : Nat), .int .u8 (s0 : Nat)] (0, 0) _ HW2.out Try.underlying94 rfl (size61 _ _ _ _) ?_)
          | (refine wpList_store_row (o := ⟨none, .store 94 (.tmp 6) (.tmp 61), _, _, _, _⟩) rfl 94 (.tmp 6) (.tmp 61) rfl gw #[.int .u8 (y : Nat), .int .u8 (s2 : Nat), .int .u8 (s3 : Nat), .int .u8 (s0 : Nat)] rfl rfl 94 #[.int .u8 (x0 : Nat), .int .u8 (x1 : Nat), .int .u8 (x2 : Nat), .int .u8 (x3 : Nat)] HW1d.out (size61 _ _ _ _) rfl (row4 _ _ _ _) ?_; generalize W1.drew.setRow gw #[.int .u8 (y : Nat), .int .u8 (s2 : Nat), .int .u8 (s3 : Nat), .int .u8 (s0 : Nat)] = W2 at SW2 HW2 ⊢; clear HW1d))
        go_loopw [96] (fun vi wx => ∃ t : Nat, t ≤ 4 ∧ vi = .int .i64 t ∧ Hid (ExpSt w wx gc (expP K F (a + t)))) (fun vi _ => 4 - (intOf vi).toNat)
        case atStart => exact ⟨0, Nat.zero_le _, rfl, SW2⟩
        case round =>
          obtain ⟨t, ht, rfl, hsx⟩ := hrel
          clear SW2 HW2
          by_cases hlt2 : t < 4
          · have hl4 : (t : Int) < 4 := by omega
            have hix := ix61 y s2 s3 s0 t hlt2
            have hkn := Hkb.out t hlt2
            rw [HT.out t hlt2] at hkn
            have lz := sel4_lt y s2 s3 s0 t sl1b sl2 sl3 sl0
            generalize sel4 y s2 s3 s0 t = z at hix hkn lz
            obtain ⟨u, hu⟩ : ∃ u, u = q + t := ⟨_, rfl⟩
            obtain ⟨v, hv⟩ : ∃ v, v = a + t := ⟨_, rfl⟩
            have hua : u < a + t := by have := Hab.out; omega
            have hva : a + t < 240 := by have := Hab.out; omega
            have c1 := hsx.out.old u hua (by omega)
            have c2 := hsx.out.ci.cell v (by omega)
            have f2 := hsx.out.ci.free (1 + v)
            rw [show 4 * p + 32 + t = v by have := Hab.out; omega, show 4 * p + t = u by have := Hab.out; omega] at hkn
            have lk := kbF_lt K hk32 u
            have qx := u8_xor_nat _ _ lk lz
            have SN : Hid (ExpSt w ((wr.setCell ⟨gc, 1 + v, none⟩ (.int .u8 ((kbF K u ^^^ z : Nat) : Int))).drew) gc (expP K F (a + (t + 1)))) := by
              have e := hsx.out.put hva (kbF K u ^^^ z) (by rw [← hv, hkn])
              rw [← hv] at e
              exact hid (by rw [show a + (t + 1) = v + 1 by omega]; exact e)
            have lr := xor8 lk lz
            generalize expP K F (a + t) v = o2 at c2
            generalize kbF K u ^^^ z = r at qx SN lr
            generalize kbF K u = k at c1 lk qx
            have iw1 : IntKind.i64.wrap ((a : Int) + (t : Int)) = (v : Int) := by rw [IntWalk.i64_in _ (by omega)]; omega
            have iw2 : IntKind.i64.wrap ((a : Int) - 32) = (q : Int) := by have := Hab.out; rw [IntWalk.i64_in _ (by omega)]; omega
            have iw3 : IntKind.i64.wrap ((q : Int) + (t : Int)) = (u : Int) := by rw [IntWalk.i64_in _ (by omega)]; omega
            have il1 : (u : Int) < 240 := by omega
            have il2 : (v : Int) < 240 := by omega
            clear hkn hu hv hua hva
            go_wp2_with fail
            go_still_tail 18, (by kernel_rfl)
            change wpList _ _ _ _ _ wr.drew
            go_wp2_with fail
            go_roundw
            case rel => exact ⟨t + 1, by omega, by go_num, SN⟩
            case measure => simp [intOf]; omega
          · obtain rfl : t = 4 := by omega
            go_wp2_with fail
            go_roundw
            case rel => exact ⟨p + 1, by omega, by have := Hab.out.1; congr 1; omega, by rw [Hpn.out h8, ← HPw.out], by have e := hsx.out; rw [show a + 4 = 4 * (p + 1) + 32 by have := Hab.out.1; omega] at e; exact hid e⟩
            case measure => have := Hab.out.1; simp [intOf]; omega
      · have hrem : (a : Int) % 32 = 16 := by have := Hab.out.1; omega
        go_upto_region 11 with (first
          | (refine wpList_load_mid rfl 94 (.tmp 25) rfl gc (1 + b) rfl [.int .u8 (x0 : Nat), .int .u8 (x1 : Nat), .int .u8 (x2 : Nat), .int .u8 (x3 : Nat)] _ Hr4.out Try.underlying94 rfl (by kernel_rfl) ?_)
          | (refine wpList_store_row (o := ⟨none, .store 94 (.tmp 6) (.tmp 26), _, _, _, _⟩) rfl 94 (.tmp 6) (.tmp 26) rfl wr.heap.size #[.int .u8 (x0 : Nat), .int .u8 (x1 : Nat), .int .u8 (x2 : Nat), .int .u8 (x3 : Nat)] rfl rfl 94 zb4 Hw0.out (size61 _ _ _ _) rfl (row4 _ _ _ _) ?_))
        generalize ((wr.alloc (.cells zb4 94)).setRow wr.heap.size #[.int .u8 (x0 : Nat), .int .u8 (x1 : Nat), .int .u8 (x2 : Nat), .int .u8 (x3 : Nat)]) = W1 at SW HW1 ⊢
        generalize wr.heap.size = gw at HW1 hgw hww ⊢
        clear Hw0 Hr4 hat hsl
        have HT := hid (tF_four K p x0 x1 x2 x3 HX.out h8)
        have ham : a ≤ 240 := by omega
        have c0 : W1.cell? ⟨gw, 0, none⟩ = some (.int .u8 (x0 : Nat)) := (row_cell HW1.out 0).trans rfl
        have d0 := SW.out.sub ham Hs.out x0 x0l
        have sl0 := sub_lt x0 x0l
        have ix0 : (x0 : Int) < 256 := by omega
        have c1 : W1.cell? ⟨gw, 1, none⟩ = some (.int .u8 (x1 : Nat)) := (row_cell HW1.out 1).trans rfl
        have d1 := SW.out.sub ham Hs.out x1 x1l
        have sl1 := sub_lt x1 x1l
        have ix1 : (x1 : Int) < 256 := by omega
        have c2 : W1.cell? ⟨gw, 2, none⟩ = some (.int .u8 (x2 : Nat)) := (row_cell HW1.out 2).trans rfl
        have d2 := SW.out.sub ham Hs.out x2 x2l
        have sl2 := sub_lt x2 x2l
        have ix2 : (x2 : Int) < 256 := by omega
        have c3 : W1.cell? ⟨gw, 3, none⟩ = some (.int .u8 (x3 : Nat)) := (row_cell HW1.out 3).trans rfl
        have d3 := SW.out.sub ham Hs.out x3 x3l
        have sl3 := sub_lt x3 x3l
        have ix3 : (x3 : Int) < 256 := by omega
        generalize subN x0 = s0 at d0 sl0 HT
        generalize subN x1 = s1 at d1 sl1 HT
        generalize subN x2 = s2 at d2 sl2 HT
        generalize subN x3 = s3 at d3 sl3 HT
        go_still_tail 28, (by kernel_rfl)
        change wpList _ _ _ _ _ W1.drew
        have HW1d : Hid (W1.drew.heap[gw]? = some (.cells #[.int .u8 (x0 : Nat), .int .u8 (x1 : Nat), .int .u8 (x2 : Nat), .int .u8 (x3 : Nat)] 94 (0, 0))) := HW1
        have SW2 := hid (SW.out.drew.row hgw hww #[.int .u8 (s0 : Nat), .int .u8 (s1 : Nat), .int .u8 (s2 : Nat), .int .u8 (s3 : Nat)])
        have HW2 := hid (setRow_heap W1.drew gw _ #[.int .u8 (s0 : Nat), .int .u8 (s1 : Nat), .int .u8 (s2 : Nat), .int .u8 (s3 : Nat)] 94 (0, 0) HW1d.out)
        clear c0 d0 c1 d1 c2 d2 c3 d3 HW1 SW
        go_wp2_with (first
          | (go_at_call 66; with_reducible refine (double_any pw hpl _).mono ?_; rintro e w' ⟨rfl, rfl⟩)
          | (refine wpList_load_row rfl 94 (.tmp 6) rfl gw rfl 94 #[.int .u8 (s0 : Nat), .int .u8 (s1 : Nat), .int .u8 (s2 : Nat), .int .u8 (s3 : Nat)] (0, 0) _ HW2.out Try.underlying94 rfl (size61 _ _ _ _) ?_)
          | (refine wpList_store_row (o := ⟨none, .store 94 (.tmp 6) (.tmp 94), _, _, _, _⟩) rfl 94 (.tmp 6) (.tmp 94) rfl gw #[.int .u8 (s0 : Nat), .int .u8 (s1 : Nat), .int .u8 (s2 : Nat), .int .u8 (s3 : Nat)] rfl rfl 94 #[.int .u8 (x0 : Nat), .int .u8 (x1 : Nat), .int .u8 (x2 : Nat), .int .u8 (x3 : Nat)] HW1d.out (size61 _ _ _ _) rfl (row4 _ _ _ _) ?_; generalize W1.drew.setRow gw #[.int .u8 (s0 : Nat), .int .u8 (s1 : Nat), .int .u8 (s2 : Nat), .int .u8 (s3 : Nat)] = W2 at SW2 HW2 ⊢; clear HW1d))
        go_loopw [96] (fun vi wx => ∃ t : Nat, t ≤ 4 ∧ vi = .int .i64 t ∧ Hid (ExpSt w wx gc (expP K F (a + t)))) (fun vi _ => 4 - (intOf vi).toNat)
        case atStart => exact ⟨0, Nat.zero_le _, rfl, SW2⟩
        case round =>
          obtain ⟨t, ht, rfl, hsx⟩ := hrel
          clear SW2 HW2
          by_cases hlt2 : t < 4
          · have hl4 : (t : Int) < 4 := by omega
            have hix := ix61 s0 s1 s2 s3 t hlt2
            have hkn := Hkb.out t hlt2
            rw [HT.out t hlt2] at hkn
            have lz := sel4_lt s0 s1 s2 s3 t sl0 sl1 sl2 sl3
            generalize sel4 s0 s1 s2 s3 t = z at hix hkn lz
            obtain ⟨u, hu⟩ : ∃ u, u = q + t := ⟨_, rfl⟩
            obtain ⟨v, hv⟩ : ∃ v, v = a + t := ⟨_, rfl⟩
            have hua : u < a + t := by have := Hab.out; omega
            have hva : a + t < 240 := by have := Hab.out; omega
            have c1 := hsx.out.old u hua (by omega)
            have c2 := hsx.out.ci.cell v (by omega)
            have f2 := hsx.out.ci.free (1 + v)
            rw [show 4 * p + 32 + t = v by have := Hab.out; omega, show 4 * p + t = u by have := Hab.out; omega] at hkn
            have lk := kbF_lt K hk32 u
            have qx := u8_xor_nat _ _ lk lz
            have SN : Hid (ExpSt w ((wr.setCell ⟨gc, 1 + v, none⟩ (.int .u8 ((kbF K u ^^^ z : Nat) : Int))).drew) gc (expP K F (a + (t + 1)))) := by
              have e := hsx.out.put hva (kbF K u ^^^ z) (by rw [← hv, hkn])
              rw [← hv] at e
              exact hid (by rw [show a + (t + 1) = v + 1 by omega]; exact e)
            have lr := xor8 lk lz
            generalize expP K F (a + t) v = o2 at c2
            generalize kbF K u ^^^ z = r at qx SN lr
            generalize kbF K u = k at c1 lk qx
            have iw1 : IntKind.i64.wrap ((a : Int) + (t : Int)) = (v : Int) := by rw [IntWalk.i64_in _ (by omega)]; omega
            have iw2 : IntKind.i64.wrap ((a : Int) - 32) = (q : Int) := by have := Hab.out; rw [IntWalk.i64_in _ (by omega)]; omega
            have iw3 : IntKind.i64.wrap ((q : Int) + (t : Int)) = (u : Int) := by rw [IntWalk.i64_in _ (by omega)]; omega
            have il1 : (u : Int) < 240 := by omega
            have il2 : (v : Int) < 240 := by omega
            clear hkn hu hv hua hva
            go_wp2_with fail
            go_still_tail 18, (by kernel_rfl)
            change wpList _ _ _ _ _ wr.drew
            go_wp2_with fail
            go_roundw
            case rel => exact ⟨t + 1, by omega, by go_num, SN⟩
            case measure => simp [intOf]; omega
          · obtain rfl : t = 4 := by omega
            go_wp2_with fail
            go_roundw
            case rel => exact ⟨p + 1, by omega, by have := Hab.out.1; congr 1; omega, by rw [Hps.out (by omega), ← HPw.out], by have e := hsx.out; rw [show a + 4 = 4 * (p + 1) + 32 by have := Hab.out.1; omega] at e; exact hid e⟩
            case measure => have := Hab.out.1; simp [intOf]; omega
      · have hrem : ¬ (a : Int) % 32 = 0 := by have := Hab.out.1; omega
        have hrem2 : ¬ (a : Int) % 32 = 16 := by have := Hab.out.1; omega
        go_upto_region 12 with (first
          | (refine wpList_load_mid rfl 94 (.tmp 25) rfl gc (1 + b) rfl [.int .u8 (x0 : Nat), .int .u8 (x1 : Nat), .int .u8 (x2 : Nat), .int .u8 (x3 : Nat)] _ Hr4.out Try.underlying94 rfl (by kernel_rfl) ?_)
          | (refine wpList_store_row (o := ⟨none, .store 94 (.tmp 6) (.tmp 26), _, _, _, _⟩) rfl 94 (.tmp 6) (.tmp 26) rfl wr.heap.size #[.int .u8 (x0 : Nat), .int .u8 (x1 : Nat), .int .u8 (x2 : Nat), .int .u8 (x3 : Nat)] rfl rfl 94 zb4 Hw0.out (size61 _ _ _ _) rfl (row4 _ _ _ _) ?_))
        generalize ((wr.alloc (.cells zb4 94)).setRow wr.heap.size #[.int .u8 (x0 : Nat), .int .u8 (x1 : Nat), .int .u8 (x2 : Nat), .int .u8 (x3 : Nat)]) = W1 at SW HW1 ⊢
        generalize wr.heap.size = gw at HW1 hgw hww ⊢
        clear Hw0 Hr4 hat hsl
        have HT := hid (tF_else K p x0 x1 x2 x3 HX.out h8 h8')
        have SW2 := SW
        have HW2 := HW1
        clear SW HW1
        go_wp2_with (first
          | (go_at_call 66; with_reducible refine (double_any pw hpl _).mono ?_; rintro e w' ⟨rfl, rfl⟩)
          | (refine wpList_load_row rfl 94 (.tmp 6) rfl gw rfl 94 #[.int .u8 (x0 : Nat), .int .u8 (x1 : Nat), .int .u8 (x2 : Nat), .int .u8 (x3 : Nat)] (0, 0) _ HW2.out Try.underlying94 rfl (size61 _ _ _ _) ?_))
        go_loopw [96] (fun vi wx => ∃ t : Nat, t ≤ 4 ∧ vi = .int .i64 t ∧ Hid (ExpSt w wx gc (expP K F (a + t)))) (fun vi _ => 4 - (intOf vi).toNat)
        case atStart => exact ⟨0, Nat.zero_le _, rfl, SW2⟩
        case round =>
          obtain ⟨t, ht, rfl, hsx⟩ := hrel
          clear SW2 HW2
          by_cases hlt2 : t < 4
          · have hl4 : (t : Int) < 4 := by omega
            have hix := ix61 x0 x1 x2 x3 t hlt2
            have hkn := Hkb.out t hlt2
            rw [HT.out t hlt2] at hkn
            have lz := sel4_lt x0 x1 x2 x3 t x0l x1l x2l x3l
            generalize sel4 x0 x1 x2 x3 t = z at hix hkn lz
            obtain ⟨u, hu⟩ : ∃ u, u = q + t := ⟨_, rfl⟩
            obtain ⟨v, hv⟩ : ∃ v, v = a + t := ⟨_, rfl⟩
            have hua : u < a + t := by have := Hab.out; omega
            have hva : a + t < 240 := by have := Hab.out; omega
            have c1 := hsx.out.old u hua (by omega)
            have c2 := hsx.out.ci.cell v (by omega)
            have f2 := hsx.out.ci.free (1 + v)
            rw [show 4 * p + 32 + t = v by have := Hab.out; omega, show 4 * p + t = u by have := Hab.out; omega] at hkn
            have lk := kbF_lt K hk32 u
            have qx := u8_xor_nat _ _ lk lz
            have SN : Hid (ExpSt w ((wr.setCell ⟨gc, 1 + v, none⟩ (.int .u8 ((kbF K u ^^^ z : Nat) : Int))).drew) gc (expP K F (a + (t + 1)))) := by
              have e := hsx.out.put hva (kbF K u ^^^ z) (by rw [← hv, hkn])
              rw [← hv] at e
              exact hid (by rw [show a + (t + 1) = v + 1 by omega]; exact e)
            have lr := xor8 lk lz
            generalize expP K F (a + t) v = o2 at c2
            generalize kbF K u ^^^ z = r at qx SN lr
            generalize kbF K u = k at c1 lk qx
            have iw1 : IntKind.i64.wrap ((a : Int) + (t : Int)) = (v : Int) := by rw [IntWalk.i64_in _ (by omega)]; omega
            have iw2 : IntKind.i64.wrap ((a : Int) - 32) = (q : Int) := by have := Hab.out; rw [IntWalk.i64_in _ (by omega)]; omega
            have iw3 : IntKind.i64.wrap ((q : Int) + (t : Int)) = (u : Int) := by rw [IntWalk.i64_in _ (by omega)]; omega
            have il1 : (u : Int) < 240 := by omega
            have il2 : (v : Int) < 240 := by omega
            clear hkn hu hv hua hva
            go_wp2_with fail
            go_still_tail 18, (by kernel_rfl)
            change wpList _ _ _ _ _ wr.drew
            go_wp2_with fail
            go_roundw
            case rel => exact ⟨t + 1, by omega, by go_num, SN⟩
            case measure => simp [intOf]; omega
          · obtain rfl : t = 4 := by omega
            go_wp2_with fail
            go_roundw
            case rel => exact ⟨p + 1, by omega, by have := Hab.out.1; congr 1; omega, by rw [Hps.out (by omega), ← HPw.out], by have e := hsx.out; rw [show a + 4 = 4 * (p + 1) + 32 by have := Hab.out.1; omega] at e; exact hid e⟩
            case measure => have := Hab.out.1; simp [intOf]; omega
    · obtain rfl : p = 52 := by omega
      have hci : Hid (CiAt wr gc (expP K F 240)) := hst.out.ci
      have hbut := hid hst.out.but
      clear hst
      go_wp2_with fail
      refine bodyPost_end (results_none rfl _ _ _) rfl ⟨rfl, HKe ▸ hci.out, hbut.out⟩
end Go.Proofs.Ytpeepohiajmhcaa.c
/-
  The contract of New: a cipher of 32 bytes; none of other lengths.
-/
namespace Go.Proofs.Ytpeepohiajmhcaa.c
open Go.RowKit

/-- The tables' first n entries. -/
def tabF (n : Nat) (j : Nat) : Nat := if j < 240 then 0 else if j < 496 then (if j - 240 < n then subN (j - 240) else 0) else (if backN (j - 496) < n then backN (j - 496) else 0)
theorem tabF_next (n : Nat) (hn : n < 256) (j : Nat) (hj : j < 752) : upd (upd (tabF n) (240 + n) (subN n)) (496 + subN n) n j = tabF (n + 1) j := by
  have hs := sub_lt n hn
  unfold upd tabF
  by_cases e : j = 496 + subN n
  · subst e
    rw [if_pos rfl, if_neg (by omega), if_neg (by omega), show 496 + subN n - 496 = subN n by omega, back_sub n hn, if_pos (by omega)]
  · rw [if_neg e]
    by_cases e2 : j = 240 + n
    · subst e2
      rw [if_pos rfl, if_neg (by omega), if_pos (by omega), show 240 + n - 240 = n by omega, if_pos (by omega)]
    · rw [if_neg e2]
      by_cases h1 : j < 240
      · rw [if_pos h1, if_pos h1]
      · rw [if_neg h1, if_neg h1]
        by_cases h2 : j < 496
        · rw [if_pos h2, if_pos h2]
          by_cases h3 : j - 240 < n
          · rw [if_pos h3, if_pos (by omega)]
          · rw [if_neg h3, if_neg (by omega)]
        · rw [if_neg h2, if_neg h2]
          have hb : backN (j - 496) ≠ n := by
            intro hb
            have := sub_back (j - 496) (by omega)
            rw [hb] at this
            omega
          by_cases h3 : backN (j - 496) < n
          · rw [if_pos h3, if_pos (by omega)]
          · rw [if_neg h3, if_neg (by omega)]
theorem tabF_end (K : Nat → Nat) (j : Nat) (hj : j < 752) : expP K (tabF 256) 240 j = ciF K j := by
  unfold expP tabF ciF
  by_cases h1 : j < 240
  · rw [if_pos h1, if_pos h1]
  · rw [if_neg h1, if_neg h1, if_neg h1]
    by_cases h2 : j < 496
    · rw [if_pos h2, if_pos h2, if_pos (by omega)]
    · rw [if_neg h2, if_neg h2, if_pos (back_lt _ (by omega))]
set_option maxRecDepth 10000 in
set_option maxHeartbeats 2000000 in
theorem New_bad (A : Option Addr) (n c : Nat) (w : World) (hn : n ≠ 32) : Calls Try.prog 45 #[.slice A n c] w fun e w' => e = .returned (.tuple #[.pointer none, .int .i64 2]) ∧ w = w' := by
  have hz : ¬ ((n : Int) = 32) := by omega
  go_enter Try.func45, Try.ntmps45
  go_wp2_with fail
  go_ret2
  exact ⟨rfl, rfl⟩
theorem built35 : (Try.prog.built 82 [(0, Value.bool true)]).getD #[] = (ciL (tabF 0)).toArray := by kernel_rfl
set_option maxRecDepth 10000 in
set_option maxHeartbeats 2000000 in
theorem New_any (A : Option Addr) (c : Nat) (l : List UInt8) (w : World) (hl : IsBB w w.heap.size A 32 c l) :
    Calls Try.prog 45 #[.slice A 32 c] w fun e w' => ∃ g, e = .returned (.tuple #[.pointer (some ⟨g, 0, none⟩), .int .i64 0]) ∧ Ci w' g (fnOf l) ∧ Below w.heap.size w w' ∧ w.heap.size ≤ g := by
  have HL := hid hl
  have Hc0 : Hid (CiAt (w.alloc (.cells (ciL (tabF 0)).toArray 82)) w.heap.size (tabF 0)) := heap_alloc_new w _
  have HB0 : Hid (But w.heap.size w (w.alloc (.cells (ciL (tabF 0)).toArray 82))) := But.of ((Below.refl w.heap.size w).alloc (Nat.le_refl _) _)
  obtain ⟨Z, hZ⟩ : ∃ Z, Z = (ciL (tabF 0)).toArray := ⟨_, rfl⟩
  rw [← hZ] at Hc0 HB0
  have HZ := hid hZ
  clear hl hZ
  go_enter Try.func45, Try.ntmps45
  go_wp2_with (first
    | (refine wpList_build rfl 82 _ rfl (by kernel_rfl) ?_; go_loud (generalize hq : (Program.built Try.prog 82 _).getD #[] = Zq; have hZq : Z = Zq := HZ.out.trans (show (ciL (tabF 0)).toArray = Zq by rw [← hq]; kernel_rfl); subst hZq; clear hq)))
  generalize w.alloc (.cells Z 82) = W0 at Hc0 HB0 ⊢
  obtain ⟨gc, hgc⟩ : ∃ gc, gc = w.heap.size := ⟨_, rfl⟩
  rw [← hgc] at Hc0 HB0 ⊢
  have Hgc := hid hgc
  clear hgc
  go_loopw [5, 6, 12] (fun _ _ vi wr => ∃ t : Nat, t ≤ 256 ∧ vi = .int .i64 t ∧ Hid (CiAt wr gc (tabF t)) ∧ Hid (But gc w wr)) (fun _ _ vi _ => 256 - (intOf vi).toNat)
  case atStart => exact ⟨0, Nat.zero_le _, rfl, Hc0, HB0⟩
  case round =>
    obtain ⟨t, ht, rfl, hci, hbu⟩ := hrel
    clear Hc0 HB0
    by_cases hlt : t < 256
    · have hlz : (t : Int) < 256 := by omega
      have RS := hid (fun w => sub_any t hlt w)
      have hsl := sub_lt t hlt
      have Hnx := hid (tabF_next t hlt)
      generalize subN t = z at RS hsl Hnx
      have hz256 : (z : Int) < 256 := by omega
      go_wp2_with (go_at_call 56; refine (RS.out _).mono ?_; rintro e w' ⟨rfl, m, rfl⟩; have hc2 := hid (hci.out.drewN m); have hb2 := hid (hbu.out.drewN m); generalize wr.drewN m = W1 at hc2 hb2 ⊢; have c1 := hc2.out.cell (240 + t) (by omega); have f1 := hc2.out.free (1 + (240 + t)); have e241 : 1 + (240 + t) = 241 + t := (by omega); rw [e241] at c1 f1; have hc3 := hid (hc2.out.set (240 + t) z (by omega)); have hb3 := hid (hb2.out.set (1 + (240 + t)) (.int .u8 (z : Nat))); rw [e241] at hc3 hb3; have c2 := hc3.out.cell (496 + z) (by omega); have f2 := hc3.out.free (1 + (496 + z)); have e497 : 1 + (496 + z) = 497 + z := (by omega); rw [e497] at c2 f2; have hc4 := hid ((hc3.out.set (496 + z) t (by omega)).same Hnx.out); have hb4 := hid (hb3.out.set (1 + (496 + z)) (.int .u8 (t : Nat))); rw [e497] at hc4 hb4; clear e241 e497)
      go_roundw
      case rel => exact ⟨t + 1, by omega, by go_num, hc4, hb4⟩
      case measure => simp [intOf]; omega
    · obtain rfl : t = 256 := by omega
      have hlg : gc ≤ w.heap.size := by rw [Hgc.out]; exact Nat.le_refl _
      have hbel : Below w.heap.size w wr := hbu.out.below (Below.refl _ w) (by rw [Hgc.out]; exact Nat.le_refl _) (Nat.le_refl _)
      have hkey := HL.out.below hbel
      rw [← Hgc.out] at hkey
      have hsub : ∀ x, x < 256 → tabF 256 (240 + x) = subN x := by
        intro x hx
        unfold tabF
        rw [if_neg (by omega), if_pos (by omega), show 240 + x - 240 = x by omega, if_pos hx]
      have HX := hid (expand_any gc (tabF 256) A c l wr hci.out hsub hkey)
      have Hbel := hid hbel
      have Hk := hid hkey
      clear hbel hkey hsub hlg
      go_wp2_with (go_at_call 57; refine HX.out.mono ?_; rintro e w' ⟨rfl, hc5, hb5⟩; have hc6 := hid hc5; have hb6 := hid hb5; clear hc5 hb5)
      go_ret2
      refine ⟨gc, rfl, hc6.out.same (tabF_end _), hb6.out.below Hbel.out ?_ Hbel.out.size, ?_⟩
      · rw [Hgc.out]; exact Nat.le_refl _
      · rw [Hgc.out]; exact Nat.le_refl _
end Go.Proofs.Ytpeepohiajmhcaa.c
/-
  The stream of a cipher and a nonce as plain functions: its bytes, its parts; a text turned by it, whole and in parts, and back.
-/
namespace Go.Proofs.Ytpeepohiajmhcaa.c

/-- i as eight bytes, the highest first. -/
def be8L (i : Nat) : List UInt8 := (List.range 8).map (fun j => UInt8.ofNat (i / 2 ^ (8 * (7 - j)) % 256))
theorem be8L_len (i : Nat) : (be8L i).length = 8 := by simp [be8L]
/-- The first n bytes of i, the highest first. -/
def be8P (i n : Nat) : List UInt8 := (List.range n).map (fun j => UInt8.ofNat (i / 2 ^ (8 * (7 - j)) % 256))
theorem be8P_len (i n : Nat) : (be8P i n).length = n := by simp [be8P]
theorem be8P_next (i n : Nat) : be8P i n ++ [UInt8.ofNat (i / 2 ^ (8 * (7 - n)) % 256)] = be8P i (n + 1) := by simp [be8P, List.range_succ]
theorem be8P_end (i : Nat) : be8P i 8 = be8L i := rfl
/-- Block i of the stream. -/
def blkS (K : Nat → Nat) (non : List UInt8) (i : Nat) : List UInt8 := encL K (non ++ be8L i)
theorem blkS_len (K : Nat → Nat) (non : List UInt8) (i : Nat) : (blkS K non i).length = 16 := outL_len _
/-- The stream's byte at place p. -/
def stB (K : Nat → Nat) (non : List UInt8) (p : Nat) : UInt8 := (blkS K non (p / 16)).getD (p % 16) 0
theorem stB_get (K : Nat → Nat) (non : List UInt8) (p : Nat) : stB K non p = (blkS K non (p / 16))[p % 16]'(by rw [blkS_len]; omega) := by
  unfold stB
  rw [List.getD_eq_getElem?_getD, List.getElem?_eq_getElem (by rw [blkS_len]; omega)]
  rfl
/-- n bytes of the stream from place a on. -/
def stL (K : Nat → Nat) (non : List UInt8) (a n : Nat) : List UInt8 := (List.range n).map (fun j => stB K non (a + j))
theorem stL_len (K : Nat → Nat) (non : List UInt8) (a n : Nat) : (stL K non a n).length = n := by simp [stL]
theorem stL_get (K : Nat → Nat) (non : List UInt8) (a n j : Nat) (h : j < (stL K non a n).length) : (stL K non a n)[j] = stB K non (a + j) := by simp [stL]
theorem stL_next (K : Nat → Nat) (non : List UInt8) (a n : Nat) : stL K non a n ++ [stB K non (a + n)] = stL K non a (n + 1) := by simp [stL, List.range_succ]
theorem stL_drop (K : Nat → Nat) (non : List UInt8) (a n k : Nat) (h : k ≤ n) : (stL K non a n).drop k = stL K non (a + k) (n - k) := by
  apply List.ext_getElem
  · rw [List.length_drop, stL_len, stL_len]
  · intro i h1 h2
    rw [List.getElem_drop, stL_get, stL_get, Nat.add_assoc]
theorem stL_take (K : Nat → Nat) (non : List UInt8) (a n k : Nat) (h : k ≤ n) : (stL K non a n).take k = stL K non a k := by
  apply List.ext_getElem
  · rw [List.length_take, stL_len, stL_len]; omega
  · intro i h1 h2
    rw [List.getElem_take, stL_get, stL_get]
/-- b turned at place a. -/
def turnL (K : Nat → Nat) (non : List UInt8) (a : Nat) (b : List UInt8) : List UInt8 := List.zipWith (· ^^^ ·) b (stL K non a b.length)
theorem turnL_len (K : Nat → Nat) (non : List UInt8) (a : Nat) (b : List UInt8) : (turnL K non a b).length = b.length := by
  unfold turnL; rw [List.length_zipWith, stL_len]; omega
theorem turnL_get (K : Nat → Nat) (non : List UInt8) (a : Nat) (b : List UInt8) (j : Nat) (h : j < (turnL K non a b).length) : (turnL K non a b)[j] = (b[j]'(by rw [turnL_len] at h; exact h)) ^^^ stB K non (a + j) := by
  have e : (List.zipWith (· ^^^ ·) b (stL K non a b.length))[j]'h = (b[j]'(by rw [turnL_len] at h; exact h)) ^^^ (stL K non a b.length)[j]'(by rw [stL_len]; rw [turnL_len] at h; exact h) := List.getElem_zipWith
  rw [stL_get] at e
  exact e
theorem turnL_take (K : Nat → Nat) (non : List UInt8) (a k : Nat) (b : List UInt8) : turnL K non a (b.take k) = (turnL K non a b).take k := by
  apply List.ext_getElem
  · rw [turnL_len, List.length_take, List.length_take, turnL_len]
  · intro i h1 h2
    rw [turnL_get, List.getElem_take, List.getElem_take, turnL_get]
theorem turnL_drop (K : Nat → Nat) (non : List UInt8) (a k : Nat) (b : List UInt8) : turnL K non (a + k) (b.drop k) = (turnL K non a b).drop k := by
  apply List.ext_getElem
  · rw [turnL_len, List.length_drop, List.length_drop, turnL_len]
  · intro i h1 h2
    rw [turnL_get, List.getElem_drop, List.getElem_drop, turnL_get, Nat.add_assoc]
/-- In parts, each at its place, is the whole. -/
theorem turnL_parts (K : Nat → Nat) (non : List UInt8) (a k : Nat) (b : List UInt8) : turnL K non a (b.take k) ++ turnL K non (a + k) (b.drop k) = turnL K non a b := by
  rw [turnL_take, turnL_drop, List.take_append_drop]
/-- Turned twice is what it was. -/
theorem turnL_turnL (K : Nat → Nat) (non : List UInt8) (a : Nat) (b : List UInt8) : turnL K non a (turnL K non a b) = b := by
  apply List.ext_getElem
  · rw [turnL_len, turnL_len]
  · intro i h1 h2
    rw [turnL_get, turnL_get, UInt8.xor_assoc, UInt8.xor_self, UInt8.xor_zero]
/-- The first k bytes turned. -/
def turnP (K : Nat → Nat) (non : List UInt8) (a : Nat) (b : List UInt8) (k : Nat) : List UInt8 := turnL K non a (b.take k)
theorem turnP_next (K : Nat → Nat) (non : List UInt8) (a : Nat) (b : List UInt8) (k : Nat) (h : k < b.length) : turnP K non a b k ++ [b[k] ^^^ stB K non (a + k)] = turnP K non a b (k + 1) := by
  unfold turnP
  rw [turnL_take, turnL_take]
  have hl := turnL_len K non a b
  rw [List.take_succ_eq_append_getElem (by omega), turnL_get]
theorem turnP_end (K : Nat → Nat) (non : List UInt8) (a : Nat) (b : List UInt8) : turnP K non a b b.length = turnL K non a b := by
  unfold turnP; rw [List.take_of_length_le (Nat.le_refl _)]
end Go.Proofs.Ytpeepohiajmhcaa.c
/-
  The contract of blockOf: a block of the stream.
-/
namespace Go.Proofs.Ytpeepohiajmhcaa.c
open Go.RowKit

/-- The nonce, and the first t bytes of the number; noughts behind. -/
def nbP (non : List UInt8) (i t : Nat) : List UInt8 := non ++ be8P i t ++ List.replicate (8 - t) 0
theorem nbP_len (non : List UInt8) (i t : Nat) (h : non.length = 8) (ht : t ≤ 8) : (nbP non i t).length = 16 := by
  unfold nbP; rw [List.length_append, List.length_append, h, be8P_len, List.length_replicate]; omega
theorem nbP_zero (non : List UInt8) (i : Nat) : nbP non i 0 = non ++ List.replicate 8 0 := by simp [nbP, be8P]
theorem nbP_all (non : List UInt8) (i : Nat) : nbP non i 8 = non ++ be8L i := by simp [nbP, be8P_end]
theorem nbP_next (non : List UInt8) (i t : Nat) (h : non.length = 8) (ht : t < 8) : (nbP non i t).set (8 + t) (UInt8.ofNat (i / 2 ^ (8 * (7 - t)) % 256)) = nbP non i (t + 1) := by
  have e : 8 - t = (8 - (t + 1)) + 1 := by omega
  have hp : (non ++ be8P i t).length = 8 + t := by rw [List.length_append, h, be8P_len]
  unfold nbP
  rw [← be8P_next, e, List.replicate_succ, List.set_append_right _ _ (by omega), hp, show 8 + t - (8 + t) = 0 by omega, List.set_cons_zero]
  simp
/-- Block g holds these bytes (an array of sixteen). -/
def ArAt (w : World) (g : Nat) (l : List UInt8) : Prop := w.heap[g]? = some (.cells (l.map bv).toArray 102 (0, 0))
theorem ArAt.lt {w : World} {g : Nat} {l : List UInt8} (h : ArAt w g l) : g < w.heap.size := lt_of_heap h
theorem ArAt.isBB {w : World} {g : Nat} {l : List UInt8} (h : ArAt w g l) (hl : l.length = 16) : IsBB w w.heap.size (some ⟨g, 0, none⟩) 16 16 l := by
  refine ⟨⟨hl, by omega, by unfold maxLen; omega, by omega, fun _ => ⟨_, rfl, fun j hj => ?_⟩⟩, fun _ ad e => by cases e; exact h.lt⟩
  rw [ad_add, Nat.zero_add, row_cell h j, List.getElem?_toArray, map_bv_getElem? l j hj]
theorem ArAt.cell {w : World} {g : Nat} {l : List UInt8} (h : ArAt w g l) (j : Nat) (hj : j < l.length) : w.cell? ⟨g, j, none⟩ = some (.int .u8 (l[j].toNat : Int)) := by
  rw [row_cell h j, List.getElem?_toArray, map_bv_getElem? l j hj]
theorem ArAt.free {w : World} {g : Nat} {l : List UInt8} (h : ArAt w g l) (j : Nat) : w.frozen? ⟨g, j, none⟩ = false := row_free h j
theorem ArAt.set {w : World} {g : Nat} {l : List UInt8} (h : ArAt w g l) (j v : Nat) (hv : v < 256) : ArAt (w.setCell ⟨g, j, none⟩ (.int .u8 (v : Nat))) g (l.set j (UInt8.ofNat v)) := by
  unfold ArAt
  rw [row_set h j, set_toArray, List.map_set, show bv (UInt8.ofNat v) = Value.int .u8 (v : Nat) by unfold bv; simp; omega]
theorem zero52 (w : World) : (zeroValue 102).run Try.prog w = .ok (.agg zb16) w := by kernel_rfl
theorem zb16_list : zb16 = (List.replicate 16 (Value.int .u8 0)).toArray := by kernel_rfl
/-- What blockOf works on. -/
structure BkSt (w wr : World) (l : List UInt8) : Prop where
  ar : ArAt wr w.heap.size l
  bel : Below w.heap.size w wr
theorem BkSt.set {w wr : World} {l : List UInt8} (h : BkSt w wr l) (j v : Nat) (hv : v < 256) : BkSt w (wr.setCell ⟨w.heap.size, j, none⟩ (.int .u8 (v : Nat))) (l.set j (UInt8.ofNat v)) :=
  ⟨h.ar.set j v hv, ((But.refl w.heap.size wr).set j _).below h.bel (Nat.le_refl _) h.bel.size⟩
set_option maxRecDepth 10000 in
set_option maxHeartbeats 1000000 in
theorem blockOf_any (gc : Nat) (K : Nat → Nat) (A : Option Addr) (c : Nat) (non : List UInt8) (i : Nat) (w : World) (hc : Ci w gc K) (hk : ∀ j, j < 32 → K j < 256) (hn : IsBB w w.heap.size A 8 c non) (hi : i < 18446744073709551616) :
    Calls Try.prog 69 #[.pointer (some ⟨gc, 0, none⟩), .slice A 8 c, .int .u64 i] w fun e w' => ∃ g, e = .returned (.slice (some ⟨g, 0, none⟩) 16 16) ∧ IsBB w' w'.heap.size (some ⟨g, 0, none⟩) 16 16 (blkS K non i) ∧ Below w.heap.size w w' ∧ w.heap.size ≤ g := by
  have zv := zero52
  have hlen := hn.len
  have r0 : (w.alloc (.cells zb16 102)).heap[w.heap.size]? = some (.cells (List.replicate 16 (Value.int .u8 0)).toArray 102 (0, 0)) := by rw [← zb16_list]; exact heap_alloc_new w _
  have b0 : Below w.heap.size w (w.alloc (.cells zb16 102)) := (Below.refl w.heap.size w).alloc (Nat.le_refl _) _
  have Hr0 := hid r0
  have Hb0 := hid b0
  have Hn : Hid ((non.map bv).length = Nat.min 8 16) := by show _ = 8; rw [List.length_map, hlen]
  have Hf : Hid (0 + (non.map bv).length ≤ (List.replicate 16 (Value.int .u8 0)).length) := by show _ ≤ _; rw [List.length_map, hlen]; simp
  have Hp : Hid (0 < (non.map bv).length → (some (⟨w.heap.size, 0, none⟩ : Addr) = some (⟨w.heap.size, 0, none⟩ : Addr)) ∧ ∃ ad, A = some ad ∧ ∀ j v, (non.map bv)[j]? = some v → (w.alloc (.cells zb16 102)).cell? (ad.add j) = some v) := fun hp => ⟨rfl, hn.src b0 hp⟩
  have HC := hid hc
  have HL := hid hlen
  clear r0 b0 hc hn hlen
  go_enter Try.func69, Try.ntmps69
  go_wp2_with (refine wpList_copy_splice rfl (.tmp 11) (.tmp 12) 29 29 rfl 5 Try.underlying29 Try.size5 (some ⟨w.heap.size, 0, none⟩) A 16 16 8 c rfl rfl w.heap.size 0 (List.replicate 16 (.int .u8 0)) 102 Hr0.out (non.map bv) Hn.out Hp.out Hf.out (bv_one _) w.heap.size w Hb0.out (Nat.le_refl _) ?_; intro W3 hk3 hb3)
  have S0 : Hid (BkSt w W3 (nbP non i 0)) := by
    refine ⟨?_, hb3⟩
    unfold ArAt
    have e := hk3.out
    have e2 := splice_zero (non.map bv) 8 8 (Value.int .u8 0) (by rw [List.length_map, HL.out])
    rw [show 8 + 8 = 16 from rfl] at e2
    rw [e2] at e
    rw [nbP_zero, List.map_append, List.map_replicate]
    exact e
  clear hk3 hb3 Hr0 Hb0 Hn Hf Hp
  go_loopw [8] (fun vj wr => ∃ t : Nat, t ≤ 8 ∧ vj = .int .i64 ((8 + t : Nat) : Int) ∧ Hid (BkSt w wr (nbP non i t))) (fun vj _ => 16 - (intOf vj).toNat)
  case atStart => exact ⟨0, Nat.zero_le _, rfl, S0⟩
  case round =>
    obtain ⟨t, ht, rfl, hs⟩ := hrel
    clear S0
    by_cases hlt : t < 8
    · have hlz : ((8 + t : Nat) : Int) < 16 := by omega
      have hz : ((i : Int) / 2 ^ (8 * (15 - (8 + t))) % 256) = ((i / 2 ^ (8 * (7 - t)) % 256 : Nat) : Int) := by
        rw [show 15 - (8 + t) = 7 - t by omega]
        push_cast
        rfl
      have hzl : i / 2 ^ (8 * (7 - t)) % 256 < 256 := Nat.mod_lt _ (by decide)
      have HN := hid (nbP_next non i t HL.out hlt)
      obtain ⟨y, c1⟩ : ∃ y : Int, wr.cell? ⟨w.heap.size, 8 + t, none⟩ = some (.int .u8 y) := ⟨_, hs.out.ar.cell (8 + t) (by rw [nbP_len _ _ _ HL.out (by omega)]; omega)⟩
      have f1 := hs.out.ar.free (8 + t)
      have HS := hid (hs.out.set (8 + t) (i / 2 ^ (8 * (7 - t)) % 256) hzl)
      rw [HN.out] at HS
      generalize i / 2 ^ (8 * (7 - t)) % 256 = z at hz hzl HS
      clear HN
      go_wp2_with fail
      go_roundw
      case rel => exact ⟨t + 1, by omega, by go_num, HS⟩
      case measure => simp [intOf]; omega
    · obtain rfl : t = 8 := by omega
      rw [show ((8 + 8 : Nat) : Int) = 16 from rfl]
      have hl := hs.out.ar.isBB (nbP_len non i 8 HL.out (Nat.le_refl _))
      rw [nbP_all] at hl
      have hb := hs.out.bel
      have hc := HC.out.onB hb HC.out.lt
      have HE := hid (encrypt_any gc K _ 16 _ wr hc hk hl)
      have HB := hid hb
      clear hs hl hb hc HC
      go_wp2_with (go_at_call 75; refine HE.out.mono ?_; rintro e W4 ⟨g4, rfl, hI4, hB4, hg4⟩)
      go_ret
      exact ⟨g4, rfl, hI4, bel_trans HB.out hB4, Nat.le_trans HB.out.size hg4⟩
end Go.Proofs.Ytpeepohiajmhcaa.c
/-
  The closure that tells the stream's byte at a place; what refuses.
-/
namespace Go.Proofs.Ytpeepohiajmhcaa.c
open Go.RowKit

/-- All but the closure's own two cells stays. -/
structure But2 (h : Nat) (w w' : World) : Prop where
  os : w'.os = w.os
  tape : w'.tape = w.tape
  output : w'.output = w.output
  size : w.heap.size ≤ w'.heap.size
  block : ∀ i, i < w.heap.size → i ≠ h + 2 → i ≠ h + 3 → w'.heap[i]? = w.heap[i]?
theorem But2.refl (h : Nat) (w : World) : But2 h w w := ⟨rfl, rfl, rfl, Nat.le_refl _, fun _ _ _ _ => rfl⟩
theorem But2.below {h : Nat} {w0 w w' : World} (b : But2 h w w') (hb : Below h w0 w) (hs : h ≤ w.heap.size) : Below h w0 w' :=
  ⟨b.os.trans hb.os, b.tape.trans hb.tape, b.output.trans hb.output, Nat.le_trans hb.size b.size, fun i hi => (b.block i (by omega) (by omega) (by omega)).trans (hb.block i hi)⟩
theorem But2.put {h : Nat} {w W : World} (b : Below w.heap.size w W) (u v : Value) : But2 h w ((W.setCell ⟨h + 2, 0, none⟩ u).setCell ⟨h + 3, 0, none⟩ v) :=
  ⟨b.os, b.tape, b.output, by rw [World.size_setCell, World.size_setCell]; exact b.size, fun i hi h2 h3 => by rw [heap_setCell_other _ _ _ _ h3, heap_setCell_other _ _ _ _ h2]; exact b.block i hi⟩
/-- What the closure leads to. -/
structure StAt (wr : World) (h gc : Nat) (A : Option Addr) (c : Nat) (non : List UInt8) (K : Nat → Nat) (v : Value) (i : Nat) : Prop where
  ci : Ci wr gc K
  cp : wr.cell? ⟨h, 0, none⟩ = some (.pointer (some ⟨gc, 0, none⟩))
  no : IsBB wr h A 8 c non
  np : wr.cell? ⟨h + 1, 0, none⟩ = some (.slice A 8 c)
  r2 : wr.heap[h + 2]? = some (.cells #[v] 29 (0, 0))
  r3 : wr.heap[h + 3]? = some (.cells #[.int .u64 i] 87 (0, 0))
  bk : v = .slice none 0 0 ∨ ∃ g, v = .slice (some ⟨g, 0, none⟩) 16 16 ∧ h + 5 ≤ g ∧ IsBB wr wr.heap.size (some ⟨g, 0, none⟩) 16 16 (blkS K non i)
  lt : gc < h
theorem StAt.put {wr W : World} {h gc g i i' : Nat} {A : Option Addr} {c : Nat} {non : List UInt8} {K : Nat → Nat} {v : Value} (s : StAt wr h gc A c non K v i) (b : Below wr.heap.size wr W) (hg : wr.heap.size ≤ g) (h5 : h + 5 ≤ wr.heap.size)
    (hB : IsBB W W.heap.size (some ⟨g, 0, none⟩) 16 16 (blkS K non i')) : StAt ((W.setCell ⟨h + 2, 0, none⟩ (.slice (some ⟨g, 0, none⟩) 16 16)).setCell ⟨h + 3, 0, none⟩ (.int .u64 i')) h gc A c non K (.slice (some ⟨g, 0, none⟩) 16 16) i' := by
  have bu := But2.put (h := h) b (.slice (some ⟨g, 0, none⟩) 16 16) (.int .u64 i')
  have hl := s.lt
  have e0 : ∀ q, q < h + 2 → ((W.setCell ⟨h + 2, 0, none⟩ (.slice (some ⟨g, 0, none⟩) 16 16)).setCell ⟨h + 3, 0, none⟩ (.int .u64 i')).heap[q]? = wr.heap[q]? := fun q hq => bu.block q (by omega) (by omega) (by omega)
  have ec : ∀ (ad : Addr), ad.block < h + 2 → ((W.setCell ⟨h + 2, 0, none⟩ (.slice (some ⟨g, 0, none⟩) 16 16)).setCell ⟨h + 3, 0, none⟩ (.int .u64 i')).cell? ad = wr.cell? ad := fun ad hq => by
    unfold World.cell?
    rw [e0 _ hq]
  refine ⟨(e0 gc (by omega)).trans s.ci, (ec _ (by show h < h + 2; omega)).trans s.cp, ⟨s.no.toIsB.to fun ad e j => ?_, s.no.low⟩, (ec _ (by show h + 1 < h + 2; omega)).trans s.np, ?_, ?_, .inr ⟨g, rfl, by omega, ?_⟩, hl⟩
  · have := s.no.low (by rw [s.no.len]; omega) ad e
    exact ec _ (by rw [block_of_add]; omega)
  · rw [heap_setCell_other _ _ _ _ (by show h + 2 ≠ h + 3; omega)]
    have e : W.heap[h + 2]? = some (.cells #[v] 29 (0, 0)) := (b.block _ (by omega)).trans s.r2
    rw [row_set e 0]
    rfl
  · have e : (W.setCell ⟨h + 2, 0, none⟩ (.slice (some ⟨g, 0, none⟩) 16 16)).heap[h + 3]? = some (.cells #[.int .u64 i] 87 (0, 0)) := by
      rw [heap_setCell_other _ _ _ _ (by show h + 3 ≠ h + 2; omega)]
      exact (b.block _ (by omega)).trans s.r3
    rw [row_set e 0]
    rfl
  · refine ⟨hB.toIsB.to fun ad e j => ?_, fun hp ad e => ?_⟩
    · cases e
      rw [ad_add]
      unfold World.cell?
      rw [heap_setCell_other _ _ _ _ (by show g ≠ h + 3; omega), heap_setCell_other _ _ _ _ (by show g ≠ h + 2; omega)]
    · rw [World.size_setCell, World.size_setCell]
      exact hB.low hp ad e
theorem blk_cell {w : World} {g i : Nat} {non : List UInt8} {K : Nat → Nat} (h : IsBB w w.heap.size (some ⟨g, 0, none⟩) 16 16 (blkS K non i)) (p m : Nat) (hp : p / 16 = i) (hm : p % 16 = m) : w.cell? ⟨g, m, none⟩ = some (.int .u8 ((stB K non p).toNat : Int)) := by
  subst hp
  subst hm
  obtain ⟨ad, e, hc⟩ := h.lies (by rw [blkS_len]; omega)
  cases e
  have := hc (p % 16) (by rw [blkS_len]; omega)
  rw [ad_add, Nat.zero_add] at this
  rw [this, stB_get]
theorem nil_nil (w : World) : (binOp BinOp.eql 29 (.slice none 0 0) (.slice none 0 0)).run Try.prog w = .ok (.bool true) w := by kernel_rfl
theorem some_nil (a : Addr) (n c : Nat) (w : World) : (binOp BinOp.eql 29 (.slice (some a) n c) (.slice none 0 0)).run Try.prog w = .ok (.bool false) w := by kernel_rfl
set_option maxRecDepth 10000 in
set_option maxHeartbeats 1000000 in
theorem clo_any (h gc : Nat) (A : Option Addr) (c : Nat) (non : List UInt8) (K : Nat → Nat) (v : Value) (i p : Nat) (wr : World) (hs : StAt wr h gc A c non K v i) (hk : ∀ j, j < 32 → K j < 256) (h5 : h + 5 ≤ wr.heap.size) (hp : p ≤ 9223372036854775807) :
    Calls Try.prog 68 #[.int .u64 p, .pointer (some ⟨h + 2, 0, none⟩), .pointer (some ⟨h + 3, 0, none⟩), .pointer (some ⟨h, 0, none⟩), .pointer (some ⟨h + 1, 0, none⟩)] wr
      fun e w' => e = .returned (.int .u8 ((stB K non p).toNat : Int)) ∧ (∃ v' i', StAt w' h gc A c non K v' i') ∧ But2 h wr w' := by
  obtain ⟨q, hq⟩ : ∃ q, q = p / 16 := ⟨_, rfl⟩
  obtain ⟨m, hm⟩ : ∃ m, m = p % 16 := ⟨_, rfl⟩
  have hq1 : (p : Int) / 16 = (q : Int) := by omega
  have hm1 : (p : Int) % 16 = (m : Int) := by omega
  have hm16 : (m : Int) < 16 := by omega
  have hq64 : q < 18446744073709551616 := by omega
  have en := nil_nil
  have es := some_nil
  have ch := hs.cp
  have cn := hs.np
  have c2 : wr.cell? ⟨h + 2, 0, none⟩ = some v := by rw [row_cell hs.r2 0]; rfl
  have c3 : wr.cell? ⟨h + 3, 0, none⟩ = some (.int .u64 i) := by rw [row_cell hs.r3 0]; rfl
  have f2 := row_free hs.r2 0
  have f3 := row_free hs.r3 0
  have hno : IsBB wr wr.heap.size A 8 c non := ⟨hs.no.toIsB, fun hp ad e => by have := hs.no.low hp ad e; omega⟩
  have HB := hid (blockOf_any gc K A c non q wr hs.ci hk hno hq64)
  have Hq := hid hq
  have Hm := hid hm
  have HS := hid hs
  clear hno hq hm
  by_cases hsame : v ≠ .slice none 0 0 ∧ i = q
  · obtain ⟨hv, rfl⟩ := hsame
    rcases hs.bk with e | ⟨g, rfl, hg, hI⟩
    · exact absurd e hv
    · have cb := blk_cell hI p m Hq.out.symm Hm.out.symm
      clear hs hI hv
      go_enter Try.func68, Try.ntmps68
      go_wp2_with fail
      go_ret
      exact ⟨rfl, ⟨_, _, HS.out⟩, But2.refl h wr⟩
  · have fin : ∀ (g : Nat) (W : World), Below wr.heap.size wr W → wr.heap.size ≤ g → IsBB W W.heap.size (some ⟨g, 0, none⟩) 16 16 (blkS K non q) → Hid (((∃ v' i', StAt ((W.setCell ⟨h + 2, 0, none⟩ (.slice (some ⟨g, 0, none⟩) 16 16)).setCell ⟨h + 3, 0, none⟩ (.int .u64 q)) h gc A c non K v' i') ∧ But2 h wr ((W.setCell ⟨h + 2, 0, none⟩ (.slice (some ⟨g, 0, none⟩) 16 16)).setCell ⟨h + 3, 0, none⟩ (.int .u64 q))) ∧
        ((W.setCell ⟨h + 2, 0, none⟩ (.slice (some ⟨g, 0, none⟩) 16 16)).setCell ⟨h + 3, 0, none⟩ (.int .u64 q)).cell? ⟨h + 2, 0, none⟩ = some (.slice (some ⟨g, 0, none⟩) 16 16) ∧
        ((W.setCell ⟨h + 2, 0, none⟩ (.slice (some ⟨g, 0, none⟩) 16 16)).setCell ⟨h + 3, 0, none⟩ (.int .u64 q)).cell? ⟨g, m, none⟩ = some (.int .u8 ((stB K non p).toNat : Int)) ∧
        W.cell? ⟨h + 2, 0, none⟩ = some v ∧ (W.setCell ⟨h + 2, 0, none⟩ (.slice (some ⟨g, 0, none⟩) 16 16)).cell? ⟨h + 3, 0, none⟩ = some (.int .u64 i) ∧ W.frozen? ⟨h + 2, 0, none⟩ = false ∧ (W.setCell ⟨h + 2, 0, none⟩ (.slice (some ⟨g, 0, none⟩) 16 16)).frozen? ⟨h + 3, 0, none⟩ = false) := by
      intro g W hb hg hI
      have s1 := HS.out.put hb hg h5 hI
      have e2 : W.heap[h + 2]? = some (.cells #[v] 29 (0, 0)) := (hb.block _ (by omega)).trans HS.out.r2
      have e3 : (W.setCell ⟨h + 2, 0, none⟩ (.slice (some ⟨g, 0, none⟩) 16 16)).heap[h + 3]? = some (.cells #[.int .u64 i] 87 (0, 0)) := by
        rw [heap_setCell_other _ _ _ _ (by show h + 3 ≠ h + 2; omega)]
        exact (hb.block _ (by omega)).trans HS.out.r3
      refine ⟨⟨⟨_, _, s1⟩, But2.put hb _ _⟩, by rw [row_cell s1.r2 0]; rfl, ?_, by rw [row_cell e2 0]; rfl, by rw [row_cell e3 0]; rfl, row_free e2 0, row_free e3 0⟩
      rcases s1.bk with e | ⟨g', e, _, hI'⟩
      · cases e
      · cases e
        exact blk_cell hI' p m Hq.out.symm Hm.out.symm
    have Hfin := hid fin
    clear fin
    by_cases hv : v = .slice none 0 0
    · subst hv
      clear hs hsame
      go_enter Try.func68, Try.ntmps68
      go_upto_region 4 with (go_at_call 69; refine HB.out.mono ?_; rintro e W4 ⟨g4, rfl, hI4, hB4, hg4⟩; obtain ⟨hS5, d1, d2, d3, d4, d5, d6⟩ := Hfin.out g4 W4 hB4 hg4 hI4; have HS5 := hid hS5; clear hS5 hI4 hB4 Hfin HB)
      clear d3 d4 d5 d6 ch cn c2 c3 f2 f3
      generalize ((W4.setCell ⟨h + 2, 0, none⟩ (.slice (some ⟨g4, 0, none⟩) 16 16)).setCell ⟨h + 3, 0, none⟩ (.int .u64 q)) = W5 at HS5 d1 d2 ⊢
      go_wp2_with fail
      go_ret
      exact ⟨rfl, HS5.out.1, HS5.out.2⟩
    · have hne : ¬ ((q : Int) = (i : Int)) := fun e => hsame ⟨hv, by omega⟩
      rcases hs.bk with e | ⟨g, rfl, hg, hI⟩
      · exact absurd e hv
      clear hs hsame hI hv
      go_enter Try.func68, Try.ntmps68
      go_upto_region 4 with (go_at_call 69; refine HB.out.mono ?_; rintro e W4 ⟨g4, rfl, hI4, hB4, hg4⟩; obtain ⟨hS5, d1, d2, d3, d4, d5, d6⟩ := Hfin.out g4 W4 hB4 hg4 hI4; have HS5 := hid hS5; clear hS5 hI4 hB4 Hfin HB)
      clear d3 d4 d5 d6 ch cn c2 c3 f2 f3
      generalize ((W4.setCell ⟨h + 2, 0, none⟩ (.slice (some ⟨g4, 0, none⟩) 16 16)).setCell ⟨h + 3, 0, none⟩ (.int .u64 q)) = W5 at HS5 d1 d2 ⊢
      go_wp2_with fail
      go_ret
      exact ⟨rfl, HS5.out.1, HS5.out.2⟩
end Go.Proofs.Ytpeepohiajmhcaa.c
/-
  What refuses a part of a stream; who makes the closure.
-/
namespace Go.Proofs.Ytpeepohiajmhcaa.c
open Go.RowKit

/-- What may be asked. -/
def May (m : Nat) (a n : Int) : Prop := m = 8 ∧ 0 ≤ a ∧ a ≤ 1099511627776 ∧ 0 ≤ n ∧ n ≤ 4194304
set_option maxRecDepth 10000 in
set_option maxHeartbeats 1000000 in
theorem mayNot_any (gc : Nat) (K : Nat → Nat) (A : Option Addr) (m c : Nat) (a n : Int) (w : World) (hc : Ci w gc K) (h : ¬ May m a n) :
    Calls Try.prog 58 #[.pointer (some ⟨gc, 0, none⟩), .slice A m c, .int .i64 a, .int .i64 n] w fun e w' => e = .returned (.int .i64 2) ∧ w = w' := by
  have H := hid hc
  have Hm := hid h
  clear hc h
  by_cases h1 : m = 8
  · subst h1
    by_cases h2 : a < 0
    · clear Hm
      go_enter Try.func58, Try.ntmps58
      go_wp2_with (go_at_call 67; refine (made_any gc w _ H.out).mono ?_; rintro e w' ⟨rfl, rfl⟩)
      go_ret
      exact ⟨rfl, rfl⟩
    · by_cases h3 : (1099511627776 : Int) < a
      · clear Hm
        go_enter Try.func58, Try.ntmps58
        go_wp2_with (go_at_call 67; refine (made_any gc w _ H.out).mono ?_; rintro e w' ⟨rfl, rfl⟩)
        go_ret
        exact ⟨rfl, rfl⟩
      · by_cases h4 : n < 0
        · clear Hm
          go_enter Try.func58, Try.ntmps58
          go_wp2_with (go_at_call 67; refine (made_any gc w _ H.out).mono ?_; rintro e w' ⟨rfl, rfl⟩)
          go_ret
          exact ⟨rfl, rfl⟩
        · have h5 : (4194304 : Int) < n := by
            have := Hm.out
            unfold May at this
            omega
          clear Hm
          go_enter Try.func58, Try.ntmps58
          go_wp2_with (go_at_call 67; refine (made_any gc w _ H.out).mono ?_; rintro e w' ⟨rfl, rfl⟩)
          go_ret
          exact ⟨rfl, rfl⟩
  · have hz : ¬ ((m : Int) = 8) := by omega
    clear Hm
    go_enter Try.func58, Try.ntmps58
    go_wp2_with (go_at_call 67; refine (made_any gc w _ H.out).mono ?_; rintro e w' ⟨rfl, rfl⟩)
    go_ret
    exact ⟨rfl, rfl⟩
set_option maxRecDepth 10000 in
set_option maxHeartbeats 1000000 in
theorem may_any (gc : Nat) (K : Nat → Nat) (A : Option Addr) (m c : Nat) (a n : Int) (w : World) (hc : Ci w gc K) (h : May m a n) :
    Calls Try.prog 58 #[.pointer (some ⟨gc, 0, none⟩), .slice A m c, .int .i64 a, .int .i64 n] w fun e w' => e = .returned (.int .i64 0) ∧ w = w' := by
  have H := hid hc
  obtain ⟨rfl, h2, h3, h4, h5⟩ := h
  have e2 : ¬ a < 0 := by omega
  have e3 : ¬ (1099511627776 : Int) < a := by omega
  have e4 : ¬ n < 0 := by omega
  have e5 : ¬ (4194304 : Int) < n := by omega
  clear hc h2 h3 h4 h5
  go_enter Try.func58, Try.ntmps58
  go_wp2_with (go_at_call 67; refine (made_any gc w _ H.out).mono ?_; rintro e w' ⟨rfl, rfl⟩)
  go_ret
  exact ⟨rfl, rfl⟩
set_option maxRecDepth 10000 in
set_option maxHeartbeats 1000000 in
theorem mayNil_any (A : Option Addr) (m c : Nat) (a n : Int) (w : World) :
    Calls Try.prog 58 #[.pointer none, .slice A m c, .int .i64 a, .int .i64 n] w fun e w' => e = .returned (.int .i64 1) ∧ w = w' := by
  go_enter Try.func58, Try.ntmps58
  go_wp2_with (go_at_call 67; refine (made_nil w).mono ?_; rintro e w' ⟨rfl, rfl⟩)
  go_ret
  exact ⟨rfl, rfl⟩
set_option maxRecDepth 10000 in
set_option maxHeartbeats 1000000 in
theorem mayNone_any (g : Nat) (A : Option Addr) (m c : Nat) (a n : Int) (w : World) (cc : w.cell? ⟨g, 0, none⟩ = some (.bool false)) :
    Calls Try.prog 58 #[.pointer (some ⟨g, 0, none⟩), .slice A m c, .int .i64 a, .int .i64 n] w fun e w' => e = .returned (.int .i64 1) ∧ w = w' := by
  go_enter Try.func58, Try.ntmps58
  go_wp2_with (go_at_call 67; refine (made_not g w cc).mono ?_; rintro e w' ⟨rfl, rfl⟩)
  go_ret
  exact ⟨rfl, rfl⟩
theorem StAt.below {wr W : World} {h gc : Nat} {A : Option Addr} {c : Nat} {non : List UInt8} {K : Nat → Nat} {v : Value} {i : Nat} (s : StAt wr h gc A c non K v i) (b : Below wr.heap.size wr W) : StAt W h gc A c non K v i := by
  have l2 := lt_of_heap s.r2
  have l3 := lt_of_heap s.r3
  have hl := s.lt
  refine ⟨(b.block gc (by omega)).trans s.ci, (b.cell (p := ⟨h, 0, none⟩) (by show h < _; omega)).trans s.cp, ⟨s.no.toIsB.to fun ad e j => ?_, s.no.low⟩, (b.cell (p := ⟨h + 1, 0, none⟩) (by show h + 1 < _; omega)).trans s.np, (b.block _ (by omega)).trans s.r2, (b.block _ (by omega)).trans s.r3, ?_, hl⟩
  · have := s.no.low (by rw [s.no.len]; omega) ad e
    exact b.cell (by rw [block_of_add]; omega)
  · rcases s.bk with e | ⟨g, e, hg, hI⟩
    · exact .inl e
    · exact .inr ⟨g, e, hg, hI.on b⟩
theorem StAt.but {wr W : World} {h gc : Nat} {A : Option Addr} {c : Nat} {non : List UInt8} {K : Nat → Nat} {v : Value} {i : Nat} (s : StAt wr h gc A c non K v i) (b : But (h + 4) wr W) : StAt W h gc A c non K v i := by
  have l2 := lt_of_heap s.r2
  have l3 := lt_of_heap s.r3
  have hl := s.lt
  have ec : ∀ ad : Addr, ad.block < wr.heap.size → ad.block ≠ h + 4 → W.cell? ad = wr.cell? ad := fun ad h1 h2 => by
    unfold World.cell?
    rw [b.block _ h1 h2]
  refine ⟨(b.block gc (by omega) (by omega)).trans s.ci, (ec ⟨h, 0, none⟩ (by show h < _; omega) (by show h ≠ _; omega)).trans s.cp, ⟨s.no.toIsB.to fun ad e j => ?_, s.no.low⟩, (ec ⟨h + 1, 0, none⟩ (by show h + 1 < _; omega) (by show h + 1 ≠ _; omega)).trans s.np, (b.block _ (by omega) (by omega)).trans s.r2, (b.block _ (by omega) (by omega)).trans s.r3, ?_, hl⟩
  · have := s.no.low (by rw [s.no.len]; omega) ad e
    exact ec _ (by rw [block_of_add]; omega) (by rw [block_of_add]; omega)
  · rcases s.bk with e | ⟨g, e, hg, hI⟩
    · exact .inl e
    · have hlt := hI.low (by rw [blkS_len]; omega) _ rfl
      refine .inr ⟨g, e, hg, hI.toIsB.to fun ad e j => ?_, fun hp ad e => Nat.lt_of_lt_of_le (hI.low hp ad e) b.size⟩
      cases e
      exact ec _ (by rw [block_of_add]; exact hlt) (by rw [block_of_add]; show g ≠ h + 4; omega)
/-- The closure. -/
def cloV (h : Nat) : Value := .func (.func 68) #[] #[.pointer (some ⟨h + 2, 0, none⟩), .pointer (some ⟨h + 3, 0, none⟩), .pointer (some ⟨h, 0, none⟩), .pointer (some ⟨h + 1, 0, none⟩)]
theorem four_allocs (w : World) (a b c d : Obj) : ((((w.alloc a).alloc b).alloc c).alloc d).heap[w.heap.size]? = some a ∧ ((((w.alloc a).alloc b).alloc c).alloc d).heap[w.heap.size + 1]? = some b ∧ ((((w.alloc a).alloc b).alloc c).alloc d).heap[w.heap.size + 2]? = some c ∧
    ((((w.alloc a).alloc b).alloc c).alloc d).heap[w.heap.size + 3]? = some d ∧ Below w.heap.size w ((((w.alloc a).alloc b).alloc c).alloc d) ∧ ((((w.alloc a).alloc b).alloc c).alloc d).heap.size = w.heap.size + 4 := by
  have s1 : (w.alloc a).heap.size = w.heap.size + 1 := by simp
  have s2 : ((w.alloc a).alloc b).heap.size = w.heap.size + 2 := by simp
  have s3 : (((w.alloc a).alloc b).alloc c).heap.size = w.heap.size + 3 := by simp
  refine ⟨?_, ?_, ?_, ?_, ?_, by simp⟩
  · rw [heap_alloc_old _ _ (by omega), heap_alloc_old _ _ (by omega), heap_alloc_old _ _ (by omega), heap_alloc_new]
  · rw [heap_alloc_old _ _ (by omega), heap_alloc_old _ _ (by omega), ← s1, heap_alloc_new]
  · rw [heap_alloc_old _ _ (by omega), ← s2, heap_alloc_new]
  · rw [← s3, heap_alloc_new]
  · have b1 := (Below.refl w.heap.size w).alloc (Nat.le_refl _) a
    have b2 := b1.alloc b1.size b
    have b3 := b2.alloc b2.size c
    exact b3.alloc b3.size d
set_option maxRecDepth 10000 in
set_option maxHeartbeats 1000000 in
theorem streamOf_any (gc : Nat) (K : Nat → Nat) (A : Option Addr) (c : Nat) (non : List UInt8) (w : World) (hc : Ci w gc K) (hn : IsBB w w.heap.size A 8 c non) :
    Calls Try.prog 59 #[.pointer (some ⟨gc, 0, none⟩), .slice A 8 c] w fun e w' => e = .returned (cloV w.heap.size) ∧ StAt w' w.heap.size gc A c non K (.slice none 0 0) 0 ∧ Below w.heap.size w w' ∧ w'.heap.size = w.heap.size + 4 := by
  have HC := hid hc
  have HN := hid hn
  clear hc hn
  go_enter Try.func59, Try.ntmps59
  go_wp2_with fail
  go_ret
  obtain ⟨r0, r1, r2, r3, hb, hs⟩ := four_allocs w (.cells #[.pointer (some ⟨gc, 0, none⟩)] 66) (.cells #[.slice A 8 c] 29) (.cells #[.slice none 0 0] 29) (.cells #[.int .u64 0] 87)
  have hlt := HC.out.lt
  exact ⟨rfl, ⟨HC.out.onB hb hlt, by rw [row_cell r0 0]; rfl, HN.out.below hb, by rw [row_cell r1 0]; rfl, r2, r3, .inl rfl, hlt⟩, hb, hs⟩
end Go.Proofs.Ytpeepohiajmhcaa.c
/-
  The contracts of Stream.
-/
namespace Go.Proofs.Ytpeepohiajmhcaa.c
open Go.RowKit

set_option maxRecDepth 10000 in
set_option maxHeartbeats 1000000 in
theorem Stream_bad (gc : Nat) (K : Nat → Nat) (A : Option Addr) (m c : Nat) (a n : Int) (w : World) (hc : Ci w gc K) (h : ¬ May m a n) :
    Calls Try.prog 46 #[.pointer (some ⟨gc, 0, none⟩), .slice A m c, .int .i64 a, .int .i64 n] w fun e w' => e = .returned (.tuple #[.slice none 0 0, .int .i64 2]) ∧ w = w' := by
  have H := hid (mayNot_any gc K A m c a n w hc h)
  clear hc h
  go_enter Try.func46, Try.ntmps46
  go_wp2_with (go_at_call 58; refine H.out.mono ?_; rintro e w' ⟨rfl, rfl⟩)
  go_ret2
  exact ⟨rfl, rfl⟩
set_option maxRecDepth 10000 in
set_option maxHeartbeats 1000000 in
theorem Stream_nil (A : Option Addr) (m c : Nat) (a n : Int) (w : World) :
    Calls Try.prog 46 #[.pointer none, .slice A m c, .int .i64 a, .int .i64 n] w fun e w' => e = .returned (.tuple #[.slice none 0 0, .int .i64 1]) ∧ w = w' := by
  have H := hid (mayNil_any A m c a n w)
  go_enter Try.func46, Try.ntmps46
  go_wp2_with (go_at_call 58; refine H.out.mono ?_; rintro e w' ⟨rfl, rfl⟩)
  go_ret2
  exact ⟨rfl, rfl⟩
set_option maxRecDepth 10000 in
set_option maxHeartbeats 1000000 in
theorem Stream_none (g : Nat) (A : Option Addr) (m c : Nat) (a n : Int) (w : World) (cc : w.cell? ⟨g, 0, none⟩ = some (.bool false)) :
    Calls Try.prog 46 #[.pointer (some ⟨g, 0, none⟩), .slice A m c, .int .i64 a, .int .i64 n] w fun e w' => e = .returned (.tuple #[.slice none 0 0, .int .i64 1]) ∧ w = w' := by
  have H := hid (mayNone_any g A m c a n w cc)
  clear cc
  go_enter Try.func46, Try.ntmps46
  go_wp2_with (go_at_call 58; refine H.out.mono ?_; rintro e w' ⟨rfl, rfl⟩)
  go_ret2
  exact ⟨rfl, rfl⟩
/-- Block g holds these bytes (a list of bytes of its own, all of its room). -/
def LsAt (w : World) (g : Nat) (l : List UInt8) : Prop := w.heap[g]? = some (.cells (l.map bv).toArray 5 (0, 0))
theorem LsAt.lt {w : World} {g : Nat} {l : List UInt8} (h : LsAt w g l) : g < w.heap.size := lt_of_heap h
theorem LsAt.cell {w : World} {g : Nat} {l : List UInt8} (h : LsAt w g l) (j : Nat) (hj : j < l.length) : w.cell? ⟨g, j, none⟩ = some (.int .u8 (l[j].toNat : Int)) := by
  rw [row_cell h j, List.getElem?_toArray, map_bv_getElem? l j hj]
theorem LsAt.free {w : World} {g : Nat} {l : List UInt8} (h : LsAt w g l) (j : Nat) : w.frozen? ⟨g, j, none⟩ = false := row_free h j
theorem LsAt.set {w : World} {g : Nat} {l : List UInt8} (h : LsAt w g l) (j : Nat) (b : UInt8) : LsAt (w.setCell ⟨g, j, none⟩ (.int .u8 (b.toNat : Int))) g (l.set j b) := by
  unfold LsAt
  rw [row_set h j, set_toArray, List.map_set]; rfl
/-- The first k bytes of the stream, and noughts. -/
def stP (K : Nat → Nat) (non : List UInt8) (a n k : Nat) : List UInt8 := stL K non a k ++ List.replicate (n - k) 0
theorem stP_len (K : Nat → Nat) (non : List UInt8) (a n k : Nat) (h : k ≤ n) : (stP K non a n k).length = n := by
  unfold stP; rw [List.length_append, stL_len, List.length_replicate]; omega
theorem stP_zero (K : Nat → Nat) (non : List UInt8) (a n : Nat) : stP K non a n 0 = List.replicate n 0 := by simp [stP, stL]
theorem stP_all (K : Nat → Nat) (non : List UInt8) (a n : Nat) : stP K non a n n = stL K non a n := by simp [stP]
theorem stP_next (K : Nat → Nat) (non : List UInt8) (a n k : Nat) (h : k < n) : (stP K non a n k).set k (stB K non (a + k)) = stP K non a n (k + 1) := by
  have e : n - k = (n - (k + 1)) + 1 := by omega
  unfold stP
  rw [← stL_next, e, List.replicate_succ, List.set_append_right _ _ (by rw [stL_len]; exact Nat.le_refl _), stL_len, Nat.sub_self, List.set_cons_zero]
  simp
/-- What Stream's loop keeps. -/
structure SmSt (w wr : World) (gc : Nat) (A : Option Addr) (c : Nat) (non : List UInt8) (K : Nat → Nat) (X : List UInt8) : Prop where
  st : ∃ v i, StAt wr w.heap.size gc A c non K v i
  ls : LsAt wr (w.heap.size + 4) X
  bel : Below w.heap.size w wr
theorem SmSt.set {w wr : World} {gc : Nat} {A : Option Addr} {c : Nat} {non : List UInt8} {K : Nat → Nat} {X : List UInt8} (s : SmSt w wr gc A c non K X) (j : Nat) (b : UInt8) :
    SmSt w (wr.setCell ⟨w.heap.size + 4, j, none⟩ (.int .u8 (b.toNat : Int))) gc A c non K (X.set j b) := by
  have bu := (But.refl (w.heap.size + 4) wr).set j (.int .u8 (b.toNat : Int))
  obtain ⟨v, i, hs⟩ := s.st
  exact ⟨⟨v, i, hs.but bu⟩, s.ls.set j b, bu.below s.bel (by omega) s.bel.size⟩
theorem SmSt.clo {w wr W : World} {gc : Nat} {A : Option Addr} {c : Nat} {non : List UInt8} {K : Nat → Nat} {X : List UInt8} (s : SmSt w wr gc A c non K X) (h : ∃ v i, StAt W w.heap.size gc A c non K v i) (b : But2 w.heap.size wr W) : SmSt w W gc A c non K X :=
  ⟨h, (b.block _ s.ls.lt (by omega) (by omega)).trans s.ls, b.below s.bel s.bel.size⟩
set_option maxRecDepth 10000 in
set_option maxHeartbeats 2000000 in
theorem Stream_any (gc : Nat) (K : Nat → Nat) (A : Option Addr) (c : Nat) (non : List UInt8) (a n : Nat) (w : World) (hc : Ci w gc K) (hk : ∀ j, j < 32 → K j < 256) (hn : IsBB w w.heap.size A 8 c non) (ha : a ≤ 1099511627776) (hn2 : n ≤ 4194304) :
    Calls Try.prog 46 #[.pointer (some ⟨gc, 0, none⟩), .slice A 8 c, .int .i64 a, .int .i64 n] w fun e w' => ∃ g, e = .returned (.tuple #[.slice (some ⟨g, 0, none⟩) n n, .int .i64 0]) ∧ New w w' g n n (stL K non a n) := by
  obtain ⟨i0, hi, hz0, hz1, hz2⟩ := info_parts Try.info5
  have HM := hid (may_any gc K A 8 c a n w hc ⟨rfl, by omega, by omega, by omega, by omega⟩)
  have HO := hid (streamOf_any gc K A c non w hc hn)
  clear hc hn
  go_enter Try.func46, Try.ntmps46
  go_wp2_with (first
    | (go_at_call 58; refine HM.out.mono ?_; rintro e w' ⟨rfl, rfl⟩)
    | (go_at_call 59; refine HO.out.mono ?_; rintro e W1 ⟨rfl, hS1, hB1, hz⟩; have HS1 := hid hS1; have HB1 := hid hB1; have Hz := hid hz; clear hS1 hB1 hz HO HM)
    | (at_make; (refine wpList_make_full _ rfl _ _ 29 rfl w.heap.size 5 i0 (.int .u8 0) 1 Try.underlying29 hi hz0 hz1 _ _ _ _ n rfl rfl (by omega) (by omega) (by rw [hz2]; omega) (by unfold maxLen; omega) (by have := Hz.out; omega) ?_); intro W2 hown2 hgrow2; have Hrow := hid (own_row hown2); have Hg2 := hid hgrow2; clear hown2 hgrow2))
  rw [Hz.out] at Hrow ⊢
  have hb2 : Below W1.heap.size W1 W2 := (Below.refl W1.heap.size W1).grown Hg2.out (Nat.le_refl _) (by simp)
  have S0 : Hid (SmSt w W2 gc A c non K (stP K non a n 0)) := by
    refine ⟨⟨_, _, HS1.out.below hb2⟩, ?_, bel_trans HB1.out hb2⟩
    have e := Hrow.out
    rw [made_cells] at e
    unfold LsAt
    rw [stP_zero, List.map_replicate]
    exact e
  clear Hrow hb2 Hg2 Hz HS1 HB1
  unfold cloV
  go_loopw [13, 29] (fun _ vj wr => ∃ k : Nat, k ≤ n ∧ vj = .int .i64 k ∧ Hid (SmSt w wr gc A c non K (stP K non a n k))) (fun _ vj _ => n - (intOf vj).toNat)
  case atStart => exact ⟨0, Nat.zero_le _, rfl, S0⟩
  case round =>
    obtain ⟨k, hkn, rfl, hs⟩ := hrel
    clear S0
    by_cases hlt : k < n
    · have hlz : (k : Int) < (n : Int) := by omega
      have HN := hid (stP_next K non a n k hlt)
      have HL := hid (stP_len K non a n k hkn)
      have h5 : w.heap.size + 5 ≤ wr.heap.size := by have := hs.out.ls.lt; omega
      obtain ⟨v, i, hst⟩ := hs.out.st
      have HC := hid (clo_any _ gc A c non K v i (a + k) wr hst hk h5 (by omega))
      rw [Int.natCast_add] at HC
      have HS := hid hs.out
      clear hst h5 hs
      generalize stB K non (a + k) = x at HC HN
      go_wp2_with (go_at_call 68; refine HC.out.mono ?_; rintro e W3 ⟨rfl, hst3, hbu3⟩; have HS3 := hid (HS.out.clo hst3 hbu3); obtain ⟨y, c1⟩ : ∃ y : Int, W3.cell? ⟨w.heap.size + 4, k, none⟩ = some (.int .u8 y) := ⟨_, HS3.out.ls.cell k (by rw [HL.out]; exact hlt)⟩; have f1 := HS3.out.ls.free k; have HS4 := hid (HS3.out.set k x); rw [HN.out] at HS4; clear hst3 hbu3 HC)
      go_roundw
      case rel => exact ⟨k + 1, by omega, by go_num, HS4⟩
      case measure => simp [intOf]; omega
    · obtain rfl : k = n := by omega
      go_wp2_with fail
      go_ret2
      have e := hs.out.ls
      unfold LsAt at e
      rw [stP_all] at e
      refine ⟨_, rfl, ?_⟩
      have r := row_own e (w := w) (by omega) (by rw [stL_len]; omega) hs.out.bel
      rw [stL_len] at r
      exact r
end Go.Proofs.Ytpeepohiajmhcaa.c
/-
  The contracts of Turn.
-/
namespace Go.Proofs.Ytpeepohiajmhcaa.c
open Go.RowKit

set_option maxRecDepth 10000 in
set_option maxHeartbeats 1000000 in
theorem Turn_bad (gc : Nat) (K : Nat → Nat) (A B : Option Addr) (m c n d : Nat) (a : Int) (w : World) (hc : Ci w gc K) (h : ¬ May m a n) :
    Calls Try.prog 51 #[.pointer (some ⟨gc, 0, none⟩), .slice A m c, .int .i64 a, .slice B n d] w fun e w' => e = .returned (.tuple #[.slice none 0 0, .int .i64 2]) ∧ w = w' := by
  have H := hid (Stream_bad gc K A m c a n w hc h)
  clear hc h
  go_enter Try.func51, Try.ntmps51
  go_wp2_with (go_at_call 46; refine H.out.mono ?_; rintro e w' ⟨rfl, rfl⟩)
  go_ret2
  exact ⟨rfl, rfl⟩
set_option maxRecDepth 10000 in
set_option maxHeartbeats 1000000 in
theorem Turn_none (g : Nat) (A B : Option Addr) (m c n d : Nat) (a : Int) (w : World) (cc : w.cell? ⟨g, 0, none⟩ = some (.bool false)) :
    Calls Try.prog 51 #[.pointer (some ⟨g, 0, none⟩), .slice A m c, .int .i64 a, .slice B n d] w fun e w' => e = .returned (.tuple #[.slice none 0 0, .int .i64 1]) ∧ w = w' := by
  have H := hid (Stream_none g A m c a n w cc)
  clear cc
  go_enter Try.func51, Try.ntmps51
  go_wp2_with (go_at_call 46; refine H.out.mono ?_; rintro e w' ⟨rfl, rfl⟩)
  go_ret2
  exact ⟨rfl, rfl⟩
/-- The first k bytes turned, the stream behind. -/
def tuP (K : Nat → Nat) (non : List UInt8) (a : Nat) (l : List UInt8) (k : Nat) : List UInt8 := (turnL K non a l).take k ++ (stL K non a l.length).drop k
theorem tuP_len (K : Nat → Nat) (non : List UInt8) (a : Nat) (l : List UInt8) (k : Nat) (h : k ≤ l.length) : (tuP K non a l k).length = l.length := by
  unfold tuP; rw [List.length_append, List.length_take, List.length_drop, turnL_len, stL_len]; omega
theorem tuP_zero (K : Nat → Nat) (non : List UInt8) (a : Nat) (l : List UInt8) : tuP K non a l 0 = stL K non a l.length := by simp [tuP]
theorem tuP_all (K : Nat → Nat) (non : List UInt8) (a : Nat) (l : List UInt8) : tuP K non a l l.length = turnL K non a l := by
  unfold tuP
  rw [List.take_of_length_le (by rw [turnL_len]; exact Nat.le_refl _), List.drop_eq_nil_of_le (by rw [stL_len]; exact Nat.le_refl _), List.append_nil]
theorem tuP_get (K : Nat → Nat) (non : List UInt8) (a : Nat) (l : List UInt8) (k : Nat) (h : k < l.length) : (tuP K non a l k)[k]'(by rw [tuP_len _ _ _ _ _ (Nat.le_of_lt h)]; exact h) = stB K non (a + k) := by
  have hl : ((turnL K non a l).take k).length = k := by rw [List.length_take, turnL_len]; omega
  unfold tuP
  rw [List.getElem_append_right (by omega), List.getElem_drop, stL_get]
  congr 2
  omega
theorem tuP_next (K : Nat → Nat) (non : List UInt8) (a : Nat) (l : List UInt8) (k : Nat) (h : k < l.length) : (tuP K non a l k).set k (stB K non (a + k) ^^^ l[k]) = tuP K non a l (k + 1) := by
  have hl : ((turnL K non a l).take k).length = k := by rw [List.length_take, turnL_len]; omega
  have hd : (stL K non a l.length).drop k = (stL K non a l.length)[k]'(by rw [stL_len]; exact h) :: (stL K non a l.length).drop (k + 1) := List.drop_eq_getElem_cons _
  have ht : (turnL K non a l).take (k + 1) = (turnL K non a l).take k ++ [(turnL K non a l)[k]'(by rw [turnL_len]; exact h)] := List.take_succ_eq_append_getElem _
  unfold tuP
  rw [List.set_append_right _ _ (by omega), hl, Nat.sub_self, hd, List.set_cons_zero, ht, turnL_get, UInt8.xor_comm]
  simp
/-- What Turn's loop keeps. -/
structure TnSt (w wr : World) (g : Nat) (X : List UInt8) : Prop where
  ls : LsAt wr g X
  bel : Below w.heap.size w wr
  ge : w.heap.size ≤ g
theorem TnSt.set {w wr : World} {g : Nat} {X : List UInt8} (s : TnSt w wr g X) (j : Nat) (b : UInt8) : TnSt w (wr.setCell ⟨g, j, none⟩ (.int .u8 (b.toNat : Int))) g (X.set j b) :=
  ⟨s.ls.set j b, ((But.refl g wr).set j _).below s.bel s.ge s.bel.size, s.ge⟩
theorem u8_xor_u (x y : UInt8) : bits .xor .u8 (x.toNat : Int) (y.toNat : Int) = ((x ^^^ y).toNat : Int) := by
  rw [u8_xor_nat _ _ x.toNat_lt y.toNat_lt, UInt8.toNat_xor]
set_option maxRecDepth 10000 in
set_option maxHeartbeats 2000000 in
theorem Turn_any (gc : Nat) (K : Nat → Nat) (A B : Option Addr) (c d : Nat) (non l : List UInt8) (a n : Nat) (w : World) (hc : Ci w gc K) (hk : ∀ j, j < 32 → K j < 256) (hn : IsBB w w.heap.size A 8 c non) (hb : IsBB w w.heap.size B n d l) (ha : a ≤ 1099511627776) (hn2 : n ≤ 4194304) :
    Calls Try.prog 51 #[.pointer (some ⟨gc, 0, none⟩), .slice A 8 c, .int .i64 a, .slice B n d] w fun e w' => ∃ g, e = .returned (.tuple #[.slice (some ⟨g, 0, none⟩) n n, .int .i64 0]) ∧ New w w' g n n (turnL K non a l) := by
  have HM := hid (Stream_any gc K A c non a n w hc hk hn ha hn2)
  have HB := hid hb
  have HL := hid hb.len
  have hcap := hb.cap
  have hmax := hb.max
  unfold maxLen at hmax
  clear hc hn hb
  go_enter Try.func51, Try.ntmps51
  go_wp2_with (go_at_call 46; refine HM.out.mono ?_; rintro e W1 ⟨g, rfl, hN⟩; have HN := hid hN; clear hN HM)
  have S0 : Hid (TnSt w W1 g (tuP K non a l 0)) := by
    rw [tuP_zero, HL.out]
    refine ⟨?_, HN.out.bel, HN.out.row.1⟩
    exact own_row HN.out.own
  clear HN
  go_loopw [12, 13, 28] (fun _ _ vj wr => ∃ k : Nat, k ≤ n ∧ vj = .int .i64 k ∧ Hid (TnSt w wr g (tuP K non a l k))) (fun _ _ vj _ => n - (intOf vj).toNat)
  case atStart => exact ⟨0, Nat.zero_le _, rfl, S0⟩
  case round =>
    obtain ⟨k, hkn, rfl, hs⟩ := hrel
    clear S0
    by_cases hlt : k < n
    · have hlz : (k : Int) < (n : Int) := by omega
      have hkl : k < l.length := by rw [HL.out]; exact hlt
      have HX := hid (tuP_next K non a l k hkl)
      have c1 := hs.out.ls.cell k (by rw [tuP_len _ _ _ _ _ (Nat.le_of_lt hkl)]; exact hkl)
      rw [tuP_get K non a l k hkl] at c1
      have f1 := hs.out.ls.free k
      obtain ⟨bd, rfl, hbc⟩ := (HB.out.below hs.out.bel).lies (by omega)
      have c2 := hbc k hkl
      have hx := u8_xor_u (stB K non (a + k)) l[k]
      have HS := hid (hs.out.set k (stB K non (a + k) ^^^ l[k]))
      rw [HX.out] at HS
      clear hbc hs HX
      generalize stB K non (a + k) ^^^ l[k] = z at hx HS
      generalize stB K non (a + k) = x at c1 hx
      generalize l[k] = y at c2 hx
      go_wp2_with fail
      go_roundw
      case rel => exact ⟨k + 1, by omega, by go_num, HS⟩
      case measure => simp [intOf]; omega
    · obtain rfl : k = n := by omega
      go_wp2_with fail
      go_ret2
      have e := hs.out.ls
      unfold LsAt at e
      rw [← HL.out, tuP_all] at e
      refine ⟨_, rfl, ?_⟩
      have r := row_own e hs.out.ge (by rw [turnL_len, HL.out]; omega) hs.out.bel
      rw [turnL_len, HL.out] at r
      exact r
end Go.Proofs.Ytpeepohiajmhcaa.c
