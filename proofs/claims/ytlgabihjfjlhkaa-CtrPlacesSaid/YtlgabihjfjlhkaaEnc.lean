/-
  The contracts of Encrypt and Decrypt, for a cipher in memory and a block of sixteen bytes anywhere.
-/
import Derived.Test.YtlgabihjfjlhkaaTurn
import Derived.Test.YtlgabihjfjlhkaaUnmix
import Derived.Test.YtlgabihjfjlhkaaCi
import Derived.Deep.MidRow
namespace Go.Proofs.Ytlgabihjfjlhkaa
open Go.RowKit

/-- A list of sixteen bytes as a function of places; and back. -/
def fnOf (l : List UInt8) : Blk16 := fun j => (l.getD j 0).toNat
def outL (f : Blk16) : List UInt8 := (List.range 16).map (fun j => UInt8.ofNat (f j))
theorem fnOf_lt (l : List UInt8) (j : Nat) : fnOf l j < 256 := UInt8.toNat_lt _
theorem fnOf_low (l : List UInt8) : Low (fnOf l) := fun j _ => fnOf_lt l j
theorem outL_len (f : Blk16) : (outL f).length = 16 := by simp [outL]
theorem outL_get (f : Blk16) (j : Nat) (h : j < (outL f).length) : (outL f)[j] = UInt8.ofNat (f j) := by simp [outL]
theorem fnOf_out {f : Blk16} (h : Low f) : Same (fnOf (outL f)) f := fun j hj => by
  have h1 := h j hj
  unfold fnOf
  rw [List.getD_eq_getElem?_getD, List.getElem?_eq_getElem (by rw [outL_len]; exact hj), outL_get]
  simp
  omega
theorem out_fnOf (l : List UInt8) (h : l.length = 16) : outL (fnOf l) = l := by
  apply List.ext_getElem
  · rw [outL_len, h]
  · intro i h1 h2
    rw [outL_get]
    unfold fnOf
    rw [List.getD_eq_getElem?_getD, List.getElem?_eq_getElem h2]
    simp
theorem outL_same {f g : Blk16} (h : Same f g) : outL f = outL g := by
  unfold outL
  exact List.map_congr_left fun j hj => by rw [h j (List.mem_range.1 hj)]
theorem blkL_fnOf (l : List UInt8) (h : l.length = 16) (j : Nat) (v : Value) (hv : (blkL (fnOf l))[j]? = some v) : ∃ h2 : j < l.length, v = .int .u8 (l[j].toNat : Int) := by
  have hj : j < 16 := by have := (List.getElem?_eq_some_iff.1 hv).1; rw [blkL_len] at this; exact this
  rw [blkL_get _ j hj] at hv
  refine ⟨by omega, ?_⟩
  cases hv
  unfold nv fnOf
  rw [List.getD_eq_getElem?_getD, List.getElem?_eq_getElem (by omega)]
  rfl
/-- An array is read, whole, wherever it lies. -/
theorem wpList_load_any {P : Program} {ops : Array Oper} {rest : List Oper} {op : Oper} {a : Act} {w : World} {Q : Exit → Act → World → Prop} (hgd : op.guard = none) (ty : TypeId) (x : Operand) (ho : op.op = .load ty x)
    (ad : Addr) (hx : a.eval x = .pointer (some ad)) (cs : List Value) (d : TypeDesc) (hc : ∀ j v, cs[j]? = some v → w.cell? (ad.add j) = some v)
    (hu : P.underlying ty = some d) (hd : d.isRow = true) (hi : (P.info? ty).map (·.size) = some cs.length)
    (h : wpList P ops Q rest (a.put op.dst (.agg cs.toArray)) w) : wpList P ops Q (op :: rest) a w := by
  refine wpList_plain hgd fun K hK => ?_
  have hl : (loadCells ad cs.length).run P w = .ok cs.toArray w := run_loadCells_list (P := P) w ad cs hc
  have hrun : (loadVar ty ad).run P w = .ok (.agg cs.toArray) w := by
    cases hq : P.info? ty with
    | none => simp [hq] at hi
    | some i =>
      have hs : i.size = cs.length := by simpa [hq] using hi
      have hagg : (isAgg ty).run P w = .ok true w := by
        unfold isAgg
        rw [Sem.run_bind, run_underlying hu w]
        cases d <;> simp_all
      simp [loadVar, Sem.run_bind, hagg, sizeOf, typeInfo, hq, hs, hl]
  unfold Oper.wp execOp
  simp only [ho, hx, Instr.loadAt, Instr.sureAddr, Sem.run_bind, Sem.run_pure, Result.andThen_ok, hrun]
  exact hK _ _ h
/-- What a call of Encrypt or Decrypt works on: the block, the cipher, the closure's number. -/
structure EncSt (w wr : World) (gc : Nat) (K : Nat → Nat) (g : Nat) (gk : Nat) (s : Int) (f : Blk16) : Prop where
  blk : BlkAt wr g f
  ci : Ci wr gc K
  cl : wr.cell? ⟨gk, 0, none⟩ = some (.int .i64 s)
  bel : Below w.heap.size w wr
  ge : w.heap.size ≤ g
  gc : gc < w.heap.size
  gk : gk ≠ g
theorem EncSt.step {w wr w' : World} {gc : Nat} {K : Nat → Nat} {g gk : Nat} {s : Int} {f f' : Blk16} (e : EncSt w wr gc K g gk s f) (hb : BlkAt w' g f') (hu : But g wr w') : EncSt w w' gc K g gk s f' :=
  ⟨hb, e.ci.on hu (by have := e.gc; have := e.ge; omega), hu.cell e.cl e.gk, hu.below e.bel e.ge e.bel.size, e.ge, e.gc, e.gk⟩
theorem EncSt.same {w wr : World} {gc : Nat} {K : Nat → Nat} {g gk : Nat} {s : Int} {f f' : Blk16} (e : EncSt w wr gc K g gk s f) (h : Same f f') : EncSt w wr gc K g gk s f' :=
  ⟨e.blk.same h, e.ci, e.cl, e.bel, e.ge, e.gc, e.gk⟩
theorem EncSt.ne {w wr : World} {gc : Nat} {K : Nat → Nat} {g gk : Nat} {s : Int} {f : Blk16} (e : EncSt w wr gc K g gk s f) : gc ≠ g := by have := e.gc; have := e.ge; omega
theorem EncSt.isBB {w wr : World} {gc : Nat} {K : Nat → Nat} {g gk : Nat} {s : Int} {f : Blk16} (e : EncSt w wr gc K g gk s f) (hf : Low f) : IsBB wr wr.heap.size (some ⟨g, 0, none⟩) 16 16 (outL f) := by
  refine ⟨⟨outL_len f, by omega, by unfold maxLen; omega, by omega, fun _ => ⟨_, rfl, fun j hj => ?_⟩⟩, fun _ ad h => by cases h; exact e.blk.lt⟩
  rw [ad_add, Nat.zero_add, e.blk.cell j (by rw [outL_len] at hj; exact hj), outL_get]
  have := hf j (by rw [outL_len] at hj; exact hj)
  congr 2
  simp
  omega
/-- 'add', 'replace', 'mix', 'unmix' of such a state. -/
theorem EncSt.add {w wr : World} {gc : Nat} {K : Nat → Nat} {g gk : Nat} {s : Int} {f : Blk16} (e : EncSt w wr gc K g gk s f) (hf : Low f) (hk : ∀ j, j < 32 → K j < 256) (r : Nat) (hr : r ≤ 14) :
    Calls Try.prog 23 #[.pointer (some ⟨g, 0, none⟩), .pointer (some ⟨gc, 1 + 16 * r, none⟩)] wr fun e w' => e = .returned (.tuple #[]) ∧ EncSt w w' gc K g gk s (addF f (keyF K r)) :=
  (add_any g f (keyF K r) _ wr e.blk hf (e.ci.key r hr) (Low.key K hk r) e.ne).mono fun _ _ h => ⟨h.1, e.step h.2.1 h.2.2⟩
theorem EncSt.rep {w wr : World} {gc : Nat} {K : Nat → Nat} {g gk : Nat} {f : Blk16} (e : EncSt w wr gc K g gk 1 f) (hf : Low f) :
    Calls Try.prog 25 #[.pointer (some ⟨g, 0, none⟩), .pointer (some ⟨gc, 241, none⟩), .func (.func 38) #[] #[.pointer (some ⟨gk, 0, none⟩)]] wr fun e w' => e = .returned (.tuple #[]) ∧ EncSt w w' gc K g gk 1 (rowsF (subsF f)) :=
  (replace_any g f subN (fun j => (j + 4 * (j % 4)) % 16) ⟨gc, 241, none⟩ gk 1 wr e.blk hf e.ci.sub sub_lt (fun j hj => by omega) e.ne e.cl e.gk (fun j hj W hc => left_place j hj _ W hc)).mono fun _ _ h => ⟨h.1, e.step h.2.1 h.2.2⟩
theorem EncSt.unrep {w wr : World} {gc : Nat} {K : Nat → Nat} {g gk : Nat} {f : Blk16} (e : EncSt w wr gc K g gk (-1) f) (hf : Low f) :
    Calls Try.prog 25 #[.pointer (some ⟨g, 0, none⟩), .pointer (some ⟨gc, 497, none⟩), .func (.func 38) #[] #[.pointer (some ⟨gk, 0, none⟩)]] wr fun e w' => e = .returned (.tuple #[]) ∧ EncSt w w' gc K g gk (-1) (backsF (unrowsF f)) :=
  (replace_any g f backN (fun j => (j + 12 * (j % 4)) % 16) ⟨gc, 497, none⟩ gk (-1) wr e.blk hf e.ci.back back_lt (fun j hj => by omega) e.ne e.cl e.gk (fun j hj W hc => right_place j hj _ W hc)).mono fun _ _ h => ⟨h.1, e.step h.2.1 h.2.2⟩
theorem EncSt.mix {w wr : World} {gc : Nat} {K : Nat → Nat} {g gk : Nat} {s : Int} {f : Blk16} (e : EncSt w wr gc K g gk s f) (hf : Low f) :
    Calls Try.prog 26 #[.pointer (some ⟨g, 0, none⟩)] wr fun e w' => e = .returned (.tuple #[]) ∧ EncSt w w' gc K g gk s (mixF f) :=
  (mix_any g f wr e.blk hf).mono fun _ _ h => ⟨h.1, e.step h.2.1 h.2.2⟩
theorem enc_start (w : World) (gc : Nat) (K : Nat → Nat) (hc : Ci w gc K) (f : Blk16) (s : Int) :
    EncSt w (((w.alloc (.cells zb16 53)).setRow w.heap.size (blkL f).toArray).alloc (.cells #[.int .i64 s] 3)) gc K w.heap.size (w.heap.size + 1) s f := by
  have hg := hc.lt
  have b1 : Below w.heap.size w ((w.alloc (.cells zb16 53)).setRow w.heap.size (blkL f).toArray) := below_setRow ((Below.refl w.heap.size w).alloc (Nat.le_refl _) _) (Nat.le_refl _) _
  have z1 : ((w.alloc (.cells zb16 53)).setRow w.heap.size (blkL f).toArray).heap.size = w.heap.size + 1 := by simp [World.setRow]
  have b2 := b1.alloc b1.size (.cells #[.int .i64 s] 3)
  have r1 : ((w.alloc (.cells zb16 53)).setRow w.heap.size (blkL f).toArray).heap[w.heap.size]? = some (.cells (blkL f).toArray 53 (0, 0)) := setRow_heap _ _ _ _ _ _ (heap_alloc_new w _)
  refine ⟨?_, hc.onB b2 hg, ?_, b2, Nat.le_refl _, hg, by omega⟩
  · unfold BlkAt
    rw [heap_alloc_old _ _ (by omega)]
    exact r1
  · have := heap_alloc_new ((w.alloc (.cells zb16 53)).setRow w.heap.size (blkL f).toArray) (.cells #[.int .i64 s] 3)
    rw [z1] at this
    exact row_cell this 0

theorem refused_ok (g : Nat) (w : World) (K : Nat → Nat) (h : Ci w g K) (A : Option Addr) (c : Nat) : Calls Try.prog 21 #[.pointer (some ⟨g, 0, none⟩), .slice A 16 c] w fun e w' => e = .returned (.int .i64 0) ∧ w = w' :=
  (refused_any g w (ciF K) h A 16 c).mono fun _ _ h => ⟨h.1, h.2⟩
theorem key_at (g r : Nat) (x : Int) (hr : r ≤ 14) (hx : x = (r : Int)) (w : World) : Calls Try.prog 24 #[.pointer (some ⟨g, 0, none⟩), .int .i64 x] w fun e w' => e = .returned (.pointer (some ⟨g, 1 + 16 * r, none⟩)) ∧ w = w' := by
  subst hx; exact key_any g r hr w
/-- What Encrypt and Decrypt answer of a list of bytes. -/
def encL (K : Nat → Nat) (l : List UInt8) : List UInt8 := outL (encF (keyF K) (fnOf l))
def decL (K : Nat → Nat) (l : List UInt8) : List UInt8 := outL (decF (keyF K) (fnOf l))
set_option maxRecDepth 10000 in
set_option maxHeartbeats 1000000 in
theorem encrypt_any (gc : Nat) (K : Nat → Nat) (A : Option Addr) (c : Nat) (l : List UInt8) (w : World) (hc : Ci w gc K) (hk : ∀ j, j < 32 → K j < 256) (hl : IsBB w w.heap.size A 16 c l) :
    Calls Try.prog 9 #[.pointer (some ⟨gc, 0, none⟩), .slice A 16 c] w fun e w' => ∃ g, e = .returned (.tuple #[.slice (some ⟨g, 0, none⟩) 16 16, .int .i64 0]) ∧ IsBB w' w'.heap.size (some ⟨g, 0, none⟩) 16 16 (encL K l) ∧ Below w.heap.size w w' ∧ w.heap.size ≤ g := by
  have zv := zero48
  have hat : ∀ w, (Instr.arrayAt 53 (.slice A 16 c)).run Try.prog w = .ok (.pointer A) w := fun w => run_arrayAt w 53 _ 16 _ 16 c Try.underlying53 (Nat.le_refl _)
  have hlen := hl.len
  obtain ⟨ad, rfl, hcell⟩ := hl.lies (by omega)
  have hrd : Hid (∀ j v, (blkL (fnOf l))[j]? = some v → w.cell? (ad.add j) = some v) := by
    intro j v hv
    obtain ⟨h2, rfl⟩ := blkL_fnOf l hlen j v hv
    exact hcell j h2
  have hsz48 : (Try.prog.info? 53).map (·.size) = some (blkL (fnOf l)).length := by rw [blkL_len]; kernel_rfl
  have Hr0 := hid (heap_alloc_new w (.cells zb16 53))
  have HS := hid (enc_start w gc K hc (fnOf l) 1)
  have hkl : ∀ r, Low (keyF K r) := Low.key K hk
  have hf := fnOf_low l
  have HC := hid hc
  have hz1 : ((w.alloc (.cells zb16 53)).setRow w.heap.size (blkL (fnOf l)).toArray).heap.size = w.heap.size + 1 := by simp [World.setRow]
  have Hz1 := hid hz1
  have HA : Hid (encL K l = outL (encF (keyF K) (fnOf l))) := rfl
  clear hc hcell hl hz1 hlen
  obtain ⟨f0, hf0⟩ : ∃ f0, f0 = fnOf l := ⟨_, rfl⟩
  rw [← hf0] at hf hrd hsz48 HS Hz1 HA
  clear hf0
  go_enter Try.func9, Try.ntmps9
  go_wp2_with (first
    | (go_at_call 21; refine (refused_ok gc w K HC.out (some ad) c).mono ?_; rintro e w' ⟨rfl, rfl⟩)
    | (go_at_call 22; with_reducible refine (turned_any 1 _).mono ?_; rintro e w' ⟨rfl, rfl⟩; rw [Hz1.out]; generalize (((w.alloc (.cells zb16 53)).setRow w.heap.size (blkL f0).toArray).alloc (.cells #[.int .i64 1] 3)) = W1 at HS ⊢)
    | (refine wpList_load_any rfl 53 (.tmp 17) rfl ad rfl (blkL f0) _ hrd.out Try.underlying53 rfl hsz48 ?_)
    | (refine wpList_store_row (o := ⟨none, .store 53 (.tmp 7) (.tmp 18), _, _, _, _⟩) rfl 53 (.tmp 7) (.tmp 18) rfl w.heap.size (blkL f0).toArray rfl rfl 53 zb16 Hr0.out (size48 _ (blkL_len _)) (zb16_size _ (blkL_len _)) (blkL_one _) ?_)
    | (go_at_call 24; refine (key_at gc 0 _ (by omega) (by rfl) _).mono ?_; rintro e w' ⟨rfl, rfl⟩)
    | (go_at_call 23; refine (HS.out.add hf hk 0 (by omega)).mono ?_; rintro e W2 ⟨rfl, H2⟩; have HS2 := hid H2; clear H2 HS))
  have hf1 : Low (addF f0 (keyF K 0)) := hf.add (hkl 0)
  have HA2 : Hid (encL K l = outL (addF (rowsF (subsF (rndsF (keyF K) (addF f0 (keyF K 0)) 13))) (keyF K 14))) := HA.out
  clear HA Hr0 Hz1 hrd hsz48 HC
  obtain ⟨f1, he1⟩ : ∃ f1, f1 = addF f0 (keyF K 0) := ⟨_, rfl⟩
  rw [← he1] at hf1 HS2 HA2
  clear he1 hf hat
  go_loopw [9] (fun i wr => ∃ q : Nat, q ≤ 13 ∧ i = .int .i64 ((q + 1 : Nat) : Int) ∧ Hid (EncSt w wr gc K w.heap.size (w.heap.size + 1) 1 (rndsF (keyF K) f1 q))) (fun i _ => 14 - (intOf i).toNat)
  case atStart => exact ⟨0, Nat.zero_le _, rfl, HS2⟩
  case round =>
    obtain ⟨q, hq, rfl, hs⟩ := hrel
    clear HS2
    have hF := Low.rnds hf1 hkl q
    by_cases hlt : q < 13
    · have hlz : ((q + 1 : Nat) : Int) < 14 := by omega
      have HN : Hid (rndsF (keyF K) f1 (q + 1) = addF (mixF (rowsF (subsF (rndsF (keyF K) f1 q)))) (keyF K (q + 1))) := rfl
      generalize rndsF (keyF K) f1 q = F at hs hF HN
      go_wp2_with (first
        | (go_at_call 25; refine (hs.out.rep hF).mono ?_; rintro e W3 ⟨rfl, H3⟩; have HS3 := hid H3; clear H3)
        | (go_at_call 26; refine (HS3.out.mix hF.subs.rows).mono ?_; rintro e W4 ⟨rfl, H4⟩; have HS4 := hid H4; clear H4)
        | (go_at_call 24; refine (key_at gc (q + 1) _ (by omega) (by omega) _).mono ?_; rintro e w' ⟨rfl, rfl⟩)
        | (go_at_call 23; refine (HS4.out.add hF.subs.rows.mix hk (q + 1) (by omega)).mono ?_; rintro e W5 ⟨rfl, H5⟩; have HS5 := hid H5; clear H5))
      go_roundw
      case rel => exact ⟨q + 1, by omega, by go_num, by rw [HN.out]; exact HS5⟩
      case measure => simp [intOf]; omega
    · obtain rfl : q = 13 := by omega
      generalize rndsF (keyF K) f1 13 = F at hs hF HA2
      go_wp2_with (first
        | (go_at_call 25; refine (hs.out.rep hF).mono ?_; rintro e W3 ⟨rfl, H3⟩; have HS3 := hid H3; clear H3)
        | (go_at_call 24; refine (key_at gc 14 _ (by omega) (by rfl) _).mono ?_; rintro e w' ⟨rfl, rfl⟩)
        | (go_at_call 23; refine (HS3.out.add hF.subs.rows hk 14 (by omega)).mono ?_; rintro e W5 ⟨rfl, H5⟩; have HS5 := hid H5; clear H5))
      go_ret2
      have hb := HS5.out.isBB (hF.subs.rows.add (hkl 14))
      rw [← HA2.out] at hb
      exact ⟨w.heap.size, rfl, hb, HS5.out.bel, Nat.le_refl _⟩
end Go.Proofs.Ytlgabihjfjlhkaa
