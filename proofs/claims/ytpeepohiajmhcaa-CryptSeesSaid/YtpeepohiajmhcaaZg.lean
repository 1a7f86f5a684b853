/-
  Merged: DKey DMask DFirst DHash DUnder DMac DXor DBlock DPbk.
-/
import Derived.Test.YtpeepohiajmhcaaZe
import Derived.Test.YtpeepohiajmhcaaZa
import Derived.Test.YtpeepohiajmhcaaZf
import Derived.Test.YtpeepohiajmhcaaZk
import Derived.Laws.CopyOwn
import Derived.Laws.BitsAllLaws
import Derived.Outline
import Derived.Deep.RegionWith
import Derived.StillTailTactics
import Derived.OwnWalk
import Derived.Deep.Cut
/-
  HMAC and PBKDF2 as plain functions on lists of bytes.
-/
namespace Go.Proofs.Ytpeepohiajmhcaa.d

theorem sha_length (l : List UInt8) : (sha l).length = 32 := by simp [sha]
/-- A key of at most 64 bytes; a longer one's SHA-256. -/
def shortK (k : List UInt8) : List UInt8 := if 64 < k.length then sha k else k
theorem shortK_len (k : List UInt8) : (shortK k).length ≤ 64 := by
  unfold shortK
  split
  · rw [sha_length]; omega
  · omega
/-- The key, brought to 64 bytes. -/
def keyL (k : List UInt8) : List UInt8 := shortK k ++ List.replicate (64 - (shortK k).length) 0
theorem keyL_len (k : List UInt8) : (keyL k).length = 64 := by
  have := shortK_len k
  simp [keyL]; omega
def maskL (m : UInt8) (l : List UInt8) : List UInt8 := l.map (· ^^^ m)
theorem maskL_len (m : UInt8) (l : List UInt8) : (maskL m l).length = l.length := by simp [maskL]
/-- The HMAC of b under a key of 64 bytes. -/
def hmacK (K b : List UInt8) : List UInt8 := sha (maskL 92 K ++ sha (maskL 54 K ++ b))
theorem hmacK_len (K b : List UInt8) : (hmacK K b).length = 32 := sha_length _
def hmac (k b : List UInt8) : List UInt8 := hmacK (keyL k) b
def be4L (i : Nat) : List UInt8 := [UInt8.ofNat (i / 16777216), UInt8.ofNat (i / 65536), UInt8.ofNat (i / 256), UInt8.ofNat i]
def xorL (a b : List UInt8) : List UInt8 := List.zipWith (· ^^^ ·) a b
theorem xorL_len (a b : List UInt8) : (xorL a b).length = min a.length b.length := by simp [xorL]
/-- U(j + 1) of block i. -/
def uN (K s : List UInt8) (i : Nat) : Nat → List UInt8
  | 0 => hmacK K (s ++ be4L i)
  | j + 1 => hmacK K (uN K s i j)
theorem uN_len (K s : List UInt8) (i : Nat) : ∀ j, (uN K s i j).length = 32
  | 0 => hmacK_len _ _
  | _ + 1 => hmacK_len _ _
/-- U1 xor .. xor U(j + 1). -/
def xN (K s : List UInt8) (i : Nat) : Nat → List UInt8
  | 0 => uN K s i 0
  | j + 1 => xorL (xN K s i j) (uN K s i (j + 1))
theorem xN_len (K s : List UInt8) (i : Nat) : ∀ j, (xN K s i j).length = 32
  | 0 => uN_len _ _ _ 0
  | j + 1 => by
    show (xorL _ _).length = 32
    rw [xorL_len, xN_len K s i j, uN_len]
    rfl
def blockL (K s : List UInt8) (r i : Nat) : List UInt8 := xN K s i (r - 1)
theorem blockL_len (K s : List UInt8) (r i : Nat) : (blockL K s r i).length = 32 := xN_len _ _ _ _
/-- The first k blocks. -/
def blocksL (K s : List UInt8) (r : Nat) : Nat → List UInt8
  | 0 => []
  | k + 1 => blocksL K s r k ++ blockL K s r (k + 1)
theorem blocksL_len (K s : List UInt8) (r : Nat) : ∀ k, (blocksL K s r k).length = 32 * k
  | 0 => rfl
  | k + 1 => by
    show (blocksL K s r k ++ _).length = _
    rw [List.length_append, blocksL_len K s r k, blockL_len]; omega
/-- The first n bytes of the blocks. -/
def pbk (k s : List UInt8) (r n : Nat) : List UInt8 := (blocksL (keyL k) s r 32).take n
theorem pbk_len (k s : List UInt8) (r n : Nat) (h : n ≤ 1024) : (pbk k s r n).length = n := by
  unfold pbk
  rw [List.length_take, blocksL_len]; omega
theorem blocksL_take (K s : List UInt8) (r : Nat) (k : Nat) : ∀ d, (blocksL K s r (k + d)).take (32 * k) = blocksL K s r k
  | 0 => by rw [List.take_of_length_le]; · rfl
            · rw [Nat.add_zero, blocksL_len]; omega
  | d + 1 => by
    show (blocksL K s r (k + d) ++ _).take _ = _
    rw [List.take_append_of_le_length (by rw [blocksL_len]; omega)]
    exact blocksL_take K s r k d
theorem pbk_of (k s : List UInt8) (r n m : Nat) (h : n ≤ 32 * m) (hm : m ≤ 32) : (blocksL (keyL k) s r m).take n = pbk k s r n := by
  unfold pbk
  have e := blocksL_take (keyL k) s r m (32 - m)
  rw [show m + (32 - m) = 32 by omega] at e
  rw [← e, List.take_take]
  congr 1
  omega
theorem pbk_take (k s : List UInt8) (r n m : Nat) (h : m ≤ n) : (pbk k s r n).take m = pbk k s r m := by
  unfold pbk
  rw [List.take_take]
  congr 1
  omega
/-- A key's bytes and noughts behind it, as long as it is short; a long key's hash: the same key. -/
theorem keyL_noughts (k : List UInt8) (m : Nat) (h : k.length + m ≤ 64) : keyL (k ++ List.replicate m 0) = keyL k := by
  unfold keyL shortK
  rw [if_neg (by simp; omega), if_neg (by omega), List.append_assoc, List.replicate_append_replicate]
  congr 2
  simp; omega
theorem keyL_hash (k : List UInt8) (h : 64 < k.length) : keyL (sha k) = keyL k := by
  unfold keyL
  have e : shortK k = sha k := by unfold shortK; rw [if_pos h]
  have e2 : shortK (sha k) = sha k := by unfold shortK; rw [if_neg (by rw [sha_length]; omega)]
  rw [e, e2]
end Go.Proofs.Ytpeepohiajmhcaa.d
/-
  A key in memory; the contract of the closure that tells what is hashed first: the key, masked.
-/
namespace Go.Proofs.Ytpeepohiajmhcaa.d
open Go.RowKit

def zb64 : Array Value := Array.replicate 64 (.int .u8 0)
theorem zero46 (w : World) : (zeroValue 89).run Try.prog w = .ok (.agg zb64) w := by kernel_rfl
theorem zb64_list : zb64 = (List.replicate 64 (Value.int .u8 0)).toArray := by kernel_rfl
theorem size64 (L : List Value) (h : L.length = 64) : (Try.prog.info? 89).map (·.size) = some L.toArray.size := by
  rw [List.size_toArray, h]; kernel_rfl
theorem zb64_size (L : List Value) (h : L.length = 64) : zb64.size = L.toArray.size := by
  have e : L.toArray.size = 64 := by rw [List.size_toArray, h]
  exact Eq.trans (by kernel_rfl : zb64.size = 64) e.symm
theorem bv_allOne (l : List UInt8) : (l.map bv).toArray.all (·.oneCell') = true := by
  rw [List.all_toArray, List.all_eq_true]; exact bv_one l
/-- Block g holds these 64 bytes, as an array. -/
def KeyAt (w : World) (g : Nat) (K : List UInt8) : Prop := K.length = 64 ∧ w.heap[g]? = some (.cells (K.map bv).toArray 89 (0, 0))
theorem lt_of_heap {w : World} {g : Nat} {o : Obj} (d : w.heap[g]? = some o) : g < w.heap.size := by
  rcases Nat.lt_or_ge g w.heap.size with hlt | hge
  · exact hlt
  · rw [Array.getElem?_eq_none hge] at d; cases d
theorem KeyAt.lt {w : World} {g : Nat} {K : List UInt8} (d : KeyAt w g K) : g < w.heap.size := lt_of_heap d.2
theorem KeyAt.on {w w' : World} {g : Nat} {K : List UInt8} (d : KeyAt w g K) (h : Below w.heap.size w w') : KeyAt w' g K := ⟨d.1, (h.block g d.lt).trans d.2⟩
/-- The first k bytes masked. -/
def maskP (m : UInt8) (K : List UInt8) (k : Nat) : List UInt8 := maskL m (K.take k) ++ K.drop k
theorem maskP_len (m : UInt8) (K : List UInt8) (k : Nat) : (maskP m K k).length = K.length := by simp [maskP, maskL]; omega
theorem maskP_set (m : UInt8) (K : List UInt8) (k : Nat) (h : k < K.length) : (maskP m K k).set k (K[k] ^^^ m) = maskP m K (k + 1) := by
  have hl : (maskL m (K.take k)).length = k := by rw [maskL_len, List.length_take]; omega
  unfold maskP
  rw [List.set_append_right _ _ (by omega), hl, Nat.sub_self, List.drop_eq_getElem_cons h, List.set_cons_zero, List.take_succ_eq_append_getElem h]
  unfold maskL
  rw [List.map_append, List.append_assoc]
  rfl
theorem maskP_get (m : UInt8) (K : List UInt8) (k : Nat) (h : k < K.length) : (maskP m K k)[k]? = some K[k] := by
  have hl : (maskL m (K.take k)).length = k := by rw [maskL_len, List.length_take]; omega
  unfold maskP
  rw [List.getElem?_append_right (by omega), hl, Nat.sub_self, List.getElem?_drop, Nat.add_zero, List.getElem?_eq_getElem h]
theorem maskP_end (m : UInt8) (K : List UInt8) (h : K.length = 64) : maskP m K 64 = maskL m K := by
  unfold maskP
  rw [List.take_of_length_le (by omega), List.drop_of_length_le (by omega), List.append_nil]

structure MaskSt (m : UInt8) (K : List UInt8) (t : Nat) (w wr : World) : Prop where
  bel : Below w.heap.size w wr
  b0 : wr.heap[w.heap.size]? = some (.cells zb64 89 (0, 0))
  b1 : wr.heap[w.heap.size + 1]? = some (.cells ((maskP m K t).map bv).toArray 89 (0, 0))
theorem MaskSt.next {m : UInt8} {K : List UInt8} {t : Nat} {w wr : World} (s : MaskSt m K t w wr) (ht : t < K.length) : MaskSt m K (t + 1) w (wr.setCell ⟨w.heap.size + 1, t, none⟩ (bv (K[t] ^^^ m))) := by
  refine ⟨?_, ?_, ?_⟩
  · exact ⟨s.bel.os, s.bel.tape, s.bel.output, by rw [World.size_setCell]; exact s.bel.size, fun i hi => by rw [heap_setCell_other _ _ _ _ (by show i ≠ w.heap.size + 1; omega)]; exact s.bel.block i hi⟩
  · rw [heap_setCell_other _ _ _ _ (by show w.heap.size ≠ w.heap.size + 1; omega)]; exact s.b0
  · rw [row_set s.b1 t _, set_toArray, ← maskP_set m K t ht, List.map_set]

set_option maxRecDepth 10000 in
set_option maxHeartbeats 1000000 in
theorem mask_any (g : Nat) (K : List UInt8) (m : UInt8) (w : World) (h : KeyAt w g K) :
    Calls Try.prog 62 #[.int .u8 (m.toNat : Int), .pointer (some ⟨g, 0, none⟩)] w fun e w' => e = .returned (.agg ((maskL m K).map bv).toArray) ∧ Below w.heap.size w w' := by
  have zv := zero46
  have H := hid h
  have hlt := h.lt
  have hlen := hid h.1
  have hsz := size64 (K.map bv) (by simp [h.1])
  have r0 : ((w.alloc (.cells zb64 89)).alloc (.cells zb64 89)).heap[w.heap.size]? = some (.cells zb64 89 (0, 0)) := heap_alloc2_old w _ _
  have r1 : ((w.alloc (.cells zb64 89)).alloc (.cells zb64 89)).heap[w.heap.size + 1]? = some (.cells zb64 89 (0, 0)) := heap_alloc2_new w _ _
  have hg : (w.alloc (.cells zb64 89)).heap[g]? = some (.cells (K.map bv).toArray 89 (0, 0)) := by rw [heap_alloc_old _ _ hlt]; exact h.2
  clear h
  have Hg := hid hg
  have Hr0 := hid r0
  have Hr1 := hid r1
  have Hsz := hid hsz
  clear hg r0 r1 hsz
  go_enter Try.func62, Try.ntmps62
  go_wp2_with (first
    | (refine wpList_load_row rfl 89 (.tmp 1) rfl g rfl 89 (K.map bv).toArray (0, 0) _ Hg.out Try.underlying89 rfl Hsz.out ?_)
    | (refine wpList_store_row (o := ⟨none, .store 89 (.tmp 4) (.tmp 6), _, _, _, _⟩) rfl 89 (.tmp 4) (.tmp 6) rfl (w.heap.size + 1) (K.map bv).toArray rfl rfl 89 zb64 Hr1.out Hsz.out (zb64_size _ (by simp [hlen.out])) (bv_allOne K) ?_))
  have S0 : MaskSt m K 0 w (((w.alloc (.cells zb64 89)).alloc (.cells zb64 89)).setRow (w.heap.size + 1) (K.map bv).toArray) := by
    refine ⟨?_, ?_, ?_⟩
    · have q := (Below.refl w.heap.size w).alloc (Nat.le_refl _) (.cells zb64 89)
      exact below_setRow (q.alloc q.size _) (Nat.le_succ _) _
    · rw [setRow_other _ _ _ _ (by omega)]; exact Hr0.out
    · exact setRow_heap _ _ _ _ _ _ Hr1.out
  generalize (((w.alloc (.cells zb64 89)).alloc (.cells zb64 89)).setRow (w.heap.size + 1) (K.map bv).toArray) = W0 at S0 ⊢
  clear zv
  have hm : m.toNat < 256 := UInt8.toNat_lt m
  go_loopw [7] (fun i wr => ∃ t : Nat, t ≤ 64 ∧ i = .int .i64 t ∧ Hid (MaskSt m K t w wr)) (fun i _ => 64 - (intOf i).toNat)
  case atStart => exact ⟨0, Nat.zero_le _, rfl, S0⟩
  case round =>
    obtain ⟨t, ht, rfl, hs⟩ := hrel
    clear S0
    by_cases hlt2 : t < 64
    · have hlz : (t : Int) < 64 := by omega
      have htl : t < K.length := by rw [hlen.out]; exact hlt2
      have hc : wr.cell? ⟨w.heap.size + 1, t, none⟩ = some (.int .u8 (K[t].toNat : Nat)) := by
        rw [row_cell hs.out.b1 t, List.getElem?_toArray, List.getElem?_map, maskP_get m K t htl]; rfl
      have hf := row_free hs.out.b1 t
      have hn := hid (hs.out.next htl)
      have q := u8_xor_nat K[t].toNat m.toNat (UInt8.toNat_lt _) hm
      have hv : bv (K[t] ^^^ m) = .int .u8 ((K[t].toNat ^^^ m.toNat : Nat) : Int) := by simp [bv]
      rw [hv] at hn
      have hx : K[t].toNat ^^^ m.toNat < 256 := Nat.xor_lt_two_pow (n := 8) (UInt8.toNat_lt _) hm
      generalize K[t].toNat ^^^ m.toNat = y at q hx hn
      generalize K[t].toNat = x at q hc
      clear hv
      go_wp2_with fail
      go_roundw
      case rel => exact ⟨t + 1, by omega, by go_num, hn⟩
      case measure => simp [intOf]; omega
    · obtain rfl : t = 64 := by omega
      have hb1 := hs.out.b1
      rw [maskP_end m K hlen.out] at hb1
      have Hb1 := hid hb1
      have hs2 := size64 ((maskL m K).map bv) (by simp [maskL_len, hlen.out])
      have hs3 := zb64_size ((maskL m K).map bv) (by simp [maskL_len, hlen.out])
      have HS2 := hid hs2
      have HS3 := hid hs3
      clear hb1 hs2 hs3
      go_wp2_with (first
        | (refine wpList_load_row rfl 89 (.tmp 4) rfl (w.heap.size + 1) rfl 89 ((maskL m K).map bv).toArray (0, 0) _ Hb1.out Try.underlying89 rfl HS2.out ?_)
        | (refine wpList_store_row (o := ⟨none, .store 89 (.tmp 3) (.tmp 17), _, _, _, _⟩) rfl 89 (.tmp 3) (.tmp 17) rfl w.heap.size ((maskL m K).map bv).toArray rfl rfl 89 zb64 hs.out.b0 HS2.out HS3.out (bv_allOne _) ?_))
      refine bodyPost_ret (results_cell_row (by kernel_rfl : Try.f62.results = #[.cell 3 89]) _ _ w.heap.size 89 ((maskL m K).map bv).toArray (0, 0) _ rfl (setRow_heap _ _ _ _ _ _ hs.out.b0) Try.underlying89 rfl HS2.out) rfl ⟨rfl, ?_⟩
      exact below_setRow hs.out.bel (Nat.le_refl _) _
end Go.Proofs.Ytpeepohiajmhcaa.d
/-
  The contract of firstOf, which makes the closure that tells what is hashed first, and of that closure.
-/
namespace Go.Proofs.Ytpeepohiajmhcaa.d
open Go.RowKit

/-- The closure over block g. -/
def firstV (g : Nat) : Value := .func (.func 62) #[] #[.pointer (some ⟨g, 0, none⟩)]
theorem key_splice (l : List UInt8) : splice (List.replicate 64 (Value.int .u8 0)) 0 ((shortK l).map bv) = (keyL l).map bv := by
  have h := shortK_len l
  have e := splice_zero ((shortK l).map bv) (shortK l).length (64 - (shortK l).length) (Value.int .u8 0) (by simp)
  rw [show (shortK l).length + (64 - (shortK l).length) = 64 by omega] at e
  rw [e, keyL, List.map_append, List.map_replicate]
  rfl

theorem row_at {w : World} {g t : Nat} {L : List Value} {fr : Nat × Nat} (h : w.heap[g]? = some (.cells L.toArray t fr)) : ∀ (j : Nat) (v : Value), L[j]? = some v → w.cell? ((⟨g, 0, none⟩ : Addr).add j) = some v := by
  intro j v hv
  rw [Addr.add_lit, Nat.zero_add, cell_of_row w g j _ t fr h, List.getElem?_toArray, hv]
theorem first_copy {w W : World} (l x : List UInt8) (hx : x = shortK l) (hb : Below w.heap.size w W) : ∀ w', Hid (w'.heap[w.heap.size]? = some (.cells (splice (List.replicate 64 (Value.int .u8 0)) 0 (x.map bv)).toArray 89 (0, 0))) → Below w.heap.size w w' → KeyAt w' w.heap.size (keyL l) := by
  intro w' h1 _
  subst hx
  have e := h1.out
  rw [key_splice] at e
  exact ⟨keyL_len l, e⟩

set_option maxRecDepth 10000 in
set_option maxHeartbeats 1000000 in
theorem firstOf_any (A : Option Addr) (l : List UInt8) (n c : Nat) (w : World) (h : IsBB w w.heap.size A n c l) :
    Calls Try.prog 54 #[.slice A n c] w fun e w' => ∃ g, e = .returned (firstV g) ∧ KeyAt w' g (keyL l) ∧ Below w.heap.size w w' ∧ w.heap.size ≤ g := by
  have hlen := hid h.len
  have H := hid h
  have zv := zero46
  have hnm : (n : Int) ≤ 140737488355328 := by have := h.small; omega
  have r0 : (w.alloc (.cells zb64 89)).heap[w.heap.size]? = some (.cells (List.replicate 64 (Value.int .u8 0)).toArray 89 (0, 0)) := by rw [← zb64_list]; exact heap_alloc_new w _
  have b0 : Below w.heap.size w (w.alloc (.cells zb64 89)) := (Below.refl w.heap.size w).alloc (Nat.le_refl _) (.cells zb64 89)
  have hA := h.on b0
  have s0 : (w.alloc (.cells zb64 89)).heap.size = w.heap.size + 1 := by simp
  clear h
  by_cases hb : 64 < n
  · have hz : (64 : Int) < n := by omega
    have hx : sha l = shortK l := by unfold shortK; rw [if_pos (by rw [hlen.out]; exact hb)]
    have Hx := hid hx
    have Hr0 := hid r0
    have HA := hid hA
    have Hb0 := hid b0
    have Hs0 := hid s0
    clear r0 hA b0 s0 hx
    go_enter Try.func54, Try.ntmps54
    go_wp2_with fail
    change Calls _ _ _ (w.alloc (.cells zb64 89)) _
    generalize w.alloc (.cells zb64 89) = W0 at Hr0 HA Hb0 Hs0 ⊢
    refine (Of_any _ l _ _ _ HA.out).mono ?_
    rintro e W1 ⟨rfl, hb1⟩
    have Hb1 := hid hb1
    clear hb1 zv
    go_upto_region 4 with (refine wpList_store_row (o := ⟨none, .store 46 (.tmp 4) (.tmp 9), _, _, _, _⟩) rfl 46 (.tmp 4) (.tmp 9) rfl W1.heap.size ((sha l).map bv).toArray rfl rfl 46 z32 (heap_alloc_new W1 _) (size32 _ (map_len32 (sha_len l))) (z32_size _ (map_len32 (sha_len l))) (bv_all _) ?_)
    have r2 : ((W1.alloc (.cells z32 46)).setRow W1.heap.size ((sha l).map bv).toArray).heap[W1.heap.size]? = some (.cells ((sha l).map bv).toArray 46 (0, 0)) := setRow_heap _ _ _ _ _ _ (heap_alloc_new W1 _)
    have b1 : Below w.heap.size w W1 := Hb0.out.trans (Hb1.out.mono (by have := Hs0.out; omega))
    have b2 : Below w.heap.size w ((W1.alloc (.cells z32 46)).setRow W1.heap.size ((sha l).map bv).toArray) := below_setRow (b1.alloc b1.size _) b1.size _
    have r3 : ((W1.alloc (.cells z32 46)).setRow W1.heap.size ((sha l).map bv).toArray).heap[w.heap.size]? = some (.cells (List.replicate 64 (.int .u8 0)).toArray 89 (0, 0)) := by
      have e1 := Hb1.out.size
      have e2 := Hs0.out
      rw [setRow_other _ _ _ _ (by omega), heap_alloc_old _ _ (by omega), Hb1.out.block _ (by omega)]
      exact Hr0.out
    have Hr2 := hid r2
    have Hb2 := hid b2
    have Hr3 := hid r3
    have Hsh := hid (sha_len l)
    clear r2 b1 b2 r3
    change Code.wp _ _ _ _ ((W1.alloc (.cells z32 46)).setRow W1.heap.size ((sha l).map bv).toArray)
    generalize ((W1.alloc (.cells z32 46)).setRow W1.heap.size ((sha l).map bv).toArray) = W2 at Hr2 Hb2 Hr3 ⊢
    generalize W1.heap.size = g2 at Hr2 ⊢
    generalize sha l = x at Hx Hr2 Hsh ⊢
    have Hn : Hid ((x.map bv).length = Nat.min 32 64) := by show _ = _; rw [List.length_map, Hsh.out]; rfl
    have Hf : Hid (0 + (x.map bv).length ≤ (List.replicate 64 (Value.int .u8 0)).length) := by show _ ≤ _; rw [List.length_map, Hsh.out]; simp
    go_wp2_with (refine wpList_copy_splice rfl (.tmp 11) (.tmp 12) 29 29 rfl 5 Try.underlying29 Try.size5 (some ⟨w.heap.size, 0, none⟩) (some ⟨g2, 0, none⟩) 64 64 32 32 rfl rfl w.heap.size 0 (List.replicate 64 (.int .u8 0)) 89 Hr3.out (x.map bv) Hn.out (fun _ => ⟨rfl, _, rfl, row_at Hr2.out⟩) Hf.out (bv_one _) w.heap.size w Hb2.out (Nat.le_refl _) ?_; intro W3 hk3 hb3)
    go_ret
    exact ⟨w.heap.size, rfl, first_copy l x Hx.out Hb2.out W3 hk3 hb3, hb3, Nat.le_refl _⟩
  · have hz : (n : Int) ≤ 64 := by omega
    have hx : l = shortK l := by unfold shortK; rw [if_neg (by rw [hlen.out]; exact hb)]
    have Hx := hid hx
    have Hr0 := hid r0
    have HA := hid hA
    have Hb0 := hid b0
    have Hs0 := hid s0
    have Hn : Hid ((l.map bv).length = Nat.min n 64) := by show _ = min n 64; rw [List.length_map, hlen.out]; omega
    have Hf : Hid (0 + (l.map bv).length ≤ (List.replicate 64 (Value.int .u8 0)).length) := by show _ ≤ _; rw [List.length_map, hlen.out]; simp; omega
    have Hp : Hid (0 < (l.map bv).length → (some (⟨w.heap.size, 0, none⟩ : Addr) = some (⟨w.heap.size, 0, none⟩ : Addr)) ∧ ∃ ad, A = some ad ∧ ∀ j v, (l.map bv)[j]? = some v → (w.alloc (.cells zb64 89)).cell? (ad.add j) = some v) := fun hp => ⟨rfl, H.out.src b0 hp⟩
    clear r0 hA b0 s0 hx
    go_enter Try.func54, Try.ntmps54
    go_wp2_with (refine wpList_copy_splice rfl (.tmp 11) (.tmp 12) 29 29 rfl 5 Try.underlying29 Try.size5 (some ⟨w.heap.size, 0, none⟩) A 64 64 n c rfl rfl w.heap.size 0 (List.replicate 64 (.int .u8 0)) 89 Hr0.out (l.map bv) Hn.out Hp.out Hf.out (bv_one _) w.heap.size w Hb0.out (Nat.le_refl _) ?_; intro W3 hk3 hb3)
    go_ret
    exact ⟨w.heap.size, rfl, first_copy l l Hx.out Hb0.out W3 hk3 hb3, hb3, Nat.le_refl _⟩
end Go.Proofs.Ytpeepohiajmhcaa.d
/-
  The contract of hashed: the SHA-256 of a key and the parts behind it.
-/
namespace Go.Proofs.Ytpeepohiajmhcaa.d
open Go.RowKit

/-- From ad on stand slices, in blocks below B, that read as these lists. -/
def PartsIn (w : World) (B : Nat) (ad : Addr) (Ls : List (List UInt8)) : Prop :=
  ∀ k (h : k < Ls.length), ad.block < B ∧ ∃ Ai ni ci, w.cell? (ad.add k) = some (.slice Ai ni ci) ∧ IsBB w B Ai ni ci Ls[k]
theorem PartsIn.on {w w' : World} {ad : Addr} {Ls : List (List UInt8)} (h : PartsIn w w.heap.size ad Ls) (hb : Below w.heap.size w w') : PartsIn w' w'.heap.size ad Ls := by
  intro k hk
  obtain ⟨h1, Ai, ni, ci, h2, h3⟩ := h k hk
  exact ⟨Nat.lt_of_lt_of_le h1 hb.size, Ai, ni, ci, (hb.cell (p := ad.add k) (by rw [block_of_add]; exact h1)).trans h2, h3.on hb⟩
def catL (Ls : List (List UInt8)) (k : Nat) : List UInt8 := (Ls.take k).flatten
theorem catL_succ (Ls : List (List UInt8)) (k : Nat) (h : k < Ls.length) : catL Ls (k + 1) = catL Ls k ++ Ls[k] := by
  unfold catL
  rw [List.take_succ_eq_append_getElem h, List.flatten_append]
  simp
theorem catL_end (Ls : List (List UInt8)) : catL Ls Ls.length = Ls.flatten := by unfold catL; rw [List.take_length]
theorem catL_le (Ls : List (List UInt8)) (k : Nat) : (catL Ls k).length ≤ Ls.flatten.length := by
  have e : Ls.flatten = catL Ls k ++ (Ls.drop k).flatten := by
    unfold catL
    rw [← List.flatten_append, List.take_append_drop]
  rw [e, List.length_append]; omega
theorem arr_isB {w : World} {g t : Nat} {l : List UInt8} (h : w.heap[g]? = some (.cells (l.map bv).toArray t (0, 0))) (hl : l.length ≤ 1000) : IsB w (some ⟨g, 0, none⟩) l.length l.length l :=
  ⟨rfl, Nat.le_refl _, by unfold maxLen; omega, by omega, fun _ => ⟨_, rfl, fun j hj => row_at h j _ (map_bv_getElem? l j hj)⟩⟩
theorem arr_isBB {w : World} {g t : Nat} {l : List UInt8} (h : w.heap[g]? = some (.cells (l.map bv).toArray t (0, 0))) (hl : l.length ≤ 1000) : IsBB w w.heap.size (some ⟨g, 0, none⟩) l.length l.length l :=
  ⟨arr_isB h hl, fun _ ad e => by cases e; exact lt_of_heap h⟩

structure HashSt (w W wr : World) (g : Nat) (l : List UInt8) : Prop where
  dig : Dig wr g l
  low : w.heap.size + 2 ≤ g
  bel : Below w.heap.size w wr
  out : wr.heap[w.heap.size + 1]? = some (.cells z32 46 (0, 0))
theorem HashSt.next {w W wr w' : World} {g : Nat} {l l' : List UInt8} (s : HashSt w W wr g l) (hd : Dig w' g l') (hg : wr.grownBy w' (some g)) : HashSt w W w' g l' := by
  have h1 := s.low
  refine ⟨hd, s.low, s.bel.grown hg s.bel.size (fun k e => by cases e; omega), ?_⟩
  rw [hg.block _ (lt_of_heap s.out) (by intro e; have e2 : w.heap.size + 1 = g := Option.some.inj e; omega)]
  exact s.out

set_option maxRecDepth 10000 in
set_option maxHeartbeats 1000000 in
theorem hashed_any (K : List UInt8) (ad : Addr) (Ls : List (List UInt8)) (n c : Nat) (w : World) (hK : K.length = 64) (hn : Ls.length = n) (hm : n ≤ 1000) (h : PartsIn w w.heap.size ad Ls) (ht : Ls.flatten.length ≤ 800000000000000) :
    Calls Try.prog 73 #[.agg (K.map bv).toArray, .slice (some ad) n c] w fun e w' => e = .returned (.agg ((sha (K ++ Ls.flatten)).map bv).toArray) ∧ Below w.heap.size w w' := by
  have H := hid h
  have HK := hid hK
  have Hn := hid (And.intro hn ht)
  have hmz : (n : Int) ≤ 1000 := by omega
  clear h hK hn ht
  have r0 : ((w.alloc (.cells (K.map bv).toArray 89)).alloc (.cells z32 46)).heap[w.heap.size]? = some (.cells (K.map bv).toArray 89 (0, 0)) := heap_alloc2_old w _ _
  have r1 : ((w.alloc (.cells (K.map bv).toArray 89)).alloc (.cells z32 46)).heap[w.heap.size + 1]? = some (.cells z32 46 (0, 0)) := heap_alloc2_new w _ _
  have b0 : Below w.heap.size w ((w.alloc (.cells (K.map bv).toArray 89)).alloc (.cells z32 46)) := by
    have q := (Below.refl w.heap.size w).alloc (Nat.le_refl _) (.cells (K.map bv).toArray 89)
    exact q.alloc q.size _
  have s0 : ((w.alloc (.cells (K.map bv).toArray 89)).alloc (.cells z32 46)).heap.size = w.heap.size + 2 := by simp
  have Hr0 := hid r0
  have Hr1 := hid r1
  have Hb0 := hid b0
  have Hs0 := hid s0
  clear r0 r1 b0 s0
  go_enter Try.func73, Try.ntmps73
  go_upto_region 1 with (fail)
  change Code.wp _ _ _ _ ((w.alloc (.cells (K.map bv).toArray 89)).alloc (.cells z32 46))
  generalize ((w.alloc (.cells (K.map bv).toArray 89)).alloc (.cells z32 46)) = W0 at Hr0 Hr1 Hb0 Hs0 ⊢
  go_wp2_with fail
  refine (New_any _).mono ?_
  rintro e W1 ⟨g, rfl, hd, hb1, hg⟩
  have Hk : Hid (W1.heap[w.heap.size]? = some (.cells (K.map bv).toArray 89 (0, 0))) := (hb1.block _ (lt_of_heap Hr0.out)).trans Hr0.out
  have hS : HashSt w W0 W1 g [] := ⟨hd, by have := Hs0.out; omega, Hb0.out.trans (hb1.mono Hb0.out.size), (hb1.block _ (lt_of_heap Hr1.out)).trans Hr1.out⟩
  have HS := hid hS
  have HR : Hid (Rest W1 g W1.heap.size (some ⟨w.heap.size, 0, none⟩) 64 64 K) := by
    have q := arr_isBB Hk.out (by rw [HK.out]; omega)
    rw [HK.out] at q
    exact ⟨q.toIsB, fun hp ad e => ⟨by cases e; show w.heap.size ≠ g; have := hS.low; omega, q.low hp ad e⟩⟩
  clear hd hb1 hg hS
  go_wp2_with fail
  refine (Write_any g [] K _ _ _ _ HS.out.dig HR.out (by show 0 + 64 < _; omega)).mono ?_
  rintro e W2 ⟨rfl, hd2, hg2⟩
  have HS2 := hid (HS.out.next hd2 hg2)
  rw [List.nil_append] at HS2
  clear hd2 hg2 HS HR Hk
  go_wp2_with fail
  go_loopw [14] (fun i wr => ∃ k : Nat, k ≤ n ∧ i = .int .i64 k ∧ Hid (HashSt w W0 wr g (K ++ catL Ls k))) (fun i _ => n - (intOf i).toNat)
  case atStart => exact ⟨0, Nat.zero_le _, rfl, by show HashSt _ _ _ _ _; simpa [catL] using HS2.out⟩
  case round =>
    obtain ⟨k, hk, rfl, hs⟩ := hrel
    clear HS2
    by_cases hlt : k < n
    · have hlz : (k : Int) < n := by omega
      have hkl : k < Ls.length := by have := Hn.out.1; omega
      obtain ⟨h1, Ai, ni, ci, hc0, hI⟩ := H.out k hkl
      have hc : wr.cell? (ad.add k) = some (.slice Ai ni ci) := (hs.out.bel.cell (p := ad.add k) (by rw [block_of_add]; exact h1)).trans hc0
      have hI2 := hI.on hs.out.bel
      have HR : Hid (Rest wr g wr.heap.size Ai ni ci Ls[k]) := ⟨hI2.toIsB, fun hp a e => ⟨by have := hI.low hp a e; have := hs.out.low; omega, hI2.low hp a e⟩⟩
      have HL : Hid ((K ++ catL Ls k).length + ni < 1000000000000000) := by
        show _ < _
        have e1 := catL_le Ls k
        have e2 := Hn.out.2
        have e3 := hI.small
        rw [List.length_append, HK.out]; omega
      have Hx := hid (catL_succ Ls k hkl)
      clear h1 hc0 hI hI2
      go_wp2_with fail
      refine (Write_any g (K ++ catL Ls k) Ls[k] _ _ _ _ hs.out.dig HR.out HL.out).mono ?_
      rintro e W3 ⟨rfl, hd3, hg3⟩
      have HS3 := hid (hs.out.next hd3 hg3)
      rw [List.append_assoc, ← Hx.out] at HS3
      clear hd3 hg3 hc
      go_wp2_with fail
      go_roundw
      case rel => exact ⟨k + 1, by omega, by go_num, HS3⟩
      case measure => simp [intOf]; omega
    · obtain rfl : k = n := by omega
      have hcat : Hid (catL Ls k = Ls.flatten) := by show _ = _; rw [← Hn.out.1]; exact catL_end Ls
      rw [hcat.out] at hs
      have Hsl := hid (sha_len (K ++ Ls.flatten))
      have Hll : Hid (((K ++ Ls.flatten).length : Int) ≤ 900000000000000) := by show _ ≤ _; have := Hn.out.2; rw [List.length_append, HK.out]; omega
      obtain ⟨x, hx⟩ : ∃ x, x = K ++ Ls.flatten := ⟨_, rfl⟩
      rw [← hx] at hs Hsl Hll
      have Hx := hid hx
      clear hx
      go_wp2_with fail
      refine (Sum_any g x _ hs.out.dig Hll.out).mono ?_
      rintro e W4 ⟨rfl, hb4⟩
      have HR4 : Hid (W4.heap[w.heap.size + 1]? = some (.cells z32 46 (0, 0))) := (hb4.block _ (lt_of_heap hs.out.out)).trans hs.out.out
      have HB4 : Hid (Below w.heap.size w W4) := hs.out.bel.trans (hb4.mono hs.out.bel.size)
      clear hb4
      go_wp2_with (refine wpList_store_row (o := ⟨none, .store 46 (.tmp 4) (.tmp 23), _, _, _, _⟩) rfl 46 (.tmp 4) (.tmp 23) rfl (w.heap.size + 1) ((sha x).map bv).toArray rfl rfl 46 z32 HR4.out (size32 _ (map_len32 Hsl.out)) (z32_size _ (map_len32 Hsl.out)) (bv_all _) ?_)
      refine bodyPost_ret (results_cell_row (by kernel_rfl : Try.f73.results = #[.cell 4 46]) _ _ (w.heap.size + 1) 46 ((sha x).map bv).toArray (0, 0) _ rfl (setRow_heap _ _ _ _ _ _ HR4.out) Try.underlying46 rfl (size32 _ (map_len32 Hsl.out))) rfl ⟨by rw [Hx.out], ?_⟩
      exact below_setRow HB4.out (Nat.le_succ _) _
end Go.Proofs.Ytpeepohiajmhcaa.d
/-
  The contracts of under and Hmac.
-/
namespace Go.Proofs.Ytpeepohiajmhcaa.d
open Go.RowKit

theorem mask54 (g : Nat) (K : List UInt8) (w : World) (h : KeyAt w g K) :
    Calls Try.prog 62 #[.int .u8 54, .pointer (some ⟨g, 0, none⟩)] w fun e w' => e = .returned (.agg ((maskL 54 K).map bv).toArray) ∧ Below w.heap.size w w' := mask_any g K 54 w h
theorem mask92 (g : Nat) (K : List UInt8) (w : World) (h : KeyAt w g K) :
    Calls Try.prog 62 #[.int .u8 92, .pointer (some ⟨g, 0, none⟩)] w fun e w' => e = .returned (.agg ((maskL 92 K).map bv).toArray) ∧ Below w.heap.size w w' := mask_any g K 92 w h
/-- A slice of one slice, in a block of its own. -/
theorem parts_one {w : World} {g n c t : Nat} {A : Option Addr} {l : List UInt8} (hg : w.heap[g]? = some (.cells #[.slice A n c] t (0, 0))) (h : IsBB w w.heap.size A n c l) : PartsIn w w.heap.size ⟨g, 0, none⟩ [l] := by
  intro k hk
  obtain rfl : k = 0 := by simp at hk; omega
  exact ⟨lt_of_heap hg, A, n, c, by rw [Addr.add_lit, Nat.zero_add, cell_of_row w g 0 _ t (0, 0) hg]; rfl, h⟩
theorem store32 {w : World} {g : Nat} {l : List UInt8} {old : Array Value} (hg : w.heap[g]? = some (.cells old 46 (0, 0))) (ho : old.size = 32) (hl : l.length = 32) : (storeCells ⟨g, 0, none⟩ (l.map bv)).run Try.prog w = .ok () (w.setRow g (l.map bv).toArray) := by
  have e := run_storeCells_from (P := Try.prog) g 46 (l.map bv) 0 old w hg (by simp [hl, ho]) (bv_one l)
  simpa using e
theorem hashed_one (K : List UInt8) (ad : Addr) (x : List UInt8) (w : World) (hK : K.length = 64) (h : PartsIn w w.heap.size ad [x]) (ht : x.length ≤ 800000000000000) :
    Calls Try.prog 73 #[.agg (K.map bv).toArray, .slice (some ad) 1 1] w fun e w' => e = .returned (.agg ((sha (K ++ x)).map bv).toArray) ∧ Below w.heap.size w w' := by
  have e : [x].flatten = x := by simp
  have q := hashed_any K ad [x] 1 1 w hK rfl (by omega) h (by rw [e]; exact ht)
  rw [e] at q
  exact q
theorem after_draw {w w' : World} (h : Below w.drew.heap.size w.drew w') : Below w.heap.size w w' := ⟨h.os, h.tape, h.output, h.size, h.block⟩
theorem parts_a {W3 W4 : World} {A : Option Addr} {n c : Nat} {x : List UInt8} (hi : IsBB W3 W3.heap.size A n c x) (h : Below W3.heap.size W3 W4) : PartsIn (W4.alloc (.cells #[.slice A n c] 29)) (W4.alloc (.cells #[.slice A n c] 29)).heap.size ⟨W4.heap.size, 0, none⟩ [x] :=
  parts_one (heap_alloc_new W4 _) ((hi.on h).on ((Below.refl _ _).alloc (Nat.le_refl _) _))
theorem parts_b {W3 W4 : World} {A : Option Addr} {n c : Nat} {x : List UInt8} (hi : IsBB W3 W3.heap.size A n c x) (h : Below (W3.alloc (.cells #[.slice A n c] 29)).heap.size (W3.alloc (.cells #[.slice A n c] 29)) W4) : PartsIn W4 W4.heap.size ⟨W3.heap.size, 0, none⟩ [x] :=
  parts_one ((h.block _ (lt_of_heap (heap_alloc_new W3 _))).trans (heap_alloc_new W3 _)) ((hi.on ((Below.refl _ _).alloc (Nat.le_refl _) _)).on h)
theorem late_a {W3 W4 W5 : World} {o : Obj} (h : Below W3.heap.size W3 W4) (h5 : Below (W4.alloc o).heap.size (W4.alloc o) W5) : Below W3.heap.size W3 W5 := by
  have q := h.alloc h.size o
  exact q.trans (h5.mono q.size)
theorem late_b {W3 W4 W5 : World} {o : Obj} (h : Below (W3.alloc o).heap.size (W3.alloc o) W4) (h5 : Below W4.heap.size W4 W5) : Below W3.heap.size W3 W5 := by
  have q := (Below.refl W3.heap.size W3).alloc (Nat.le_refl _) o
  have q2 := q.trans (h.mono q.size)
  exact q2.trans (h5.mono q2.size)
theorem flat_one (l : List UInt8) : [l].flatten = l := by simp

set_option maxRecDepth 10000 in
set_option maxHeartbeats 1000000 in
theorem under_any (g : Nat) (K : List UInt8) (ad : Addr) (Ls : List (List UInt8)) (n c : Nat) (w : World) (hk : KeyAt w g K) (hn : Ls.length = n) (hm : n ≤ 1000) (h : PartsIn w w.heap.size ad Ls) (ht : Ls.flatten.length ≤ 700000000000000) :
    Calls Try.prog 63 #[firstV g, .slice (some ad) n c] w fun e w' => e = .returned (.agg ((hmacK K Ls.flatten).map bv).toArray) ∧ Below w.heap.size w w' := by
  have H := hid h
  have HK := hid hk
  have Hn := hid (And.intro hn (And.intro hm ht))
  clear h hk hn hm ht
  have r0 : (w.alloc (.cells z32 46)).heap[w.heap.size]? = some (.cells z32 46 (0, 0)) := heap_alloc_new w _
  have b0 : Below w.heap.size w (w.alloc (.cells z32 46)) := (Below.refl w.heap.size w).alloc (Nat.le_refl _) _
  have s0 : (w.alloc (.cells z32 46)).heap.size = w.heap.size + 1 := by simp
  have Hr0 := hid r0
  have Hb0 := hid b0
  have Hs0 := hid s0
  clear r0 b0 s0
  unfold firstV
  go_enter Try.func63, Try.ntmps63
  go_upto_region 1 with (fail)
  change Code.wp _ _ _ _ (w.alloc (.cells z32 46))
  generalize (w.alloc (.cells z32 46)) = W0 at Hr0 Hb0 Hs0 ⊢
  go_wp2_with fail
  refine (mask54 g K _ (HK.out.on (Hb0.out))).mono ?_
  rintro e W1 ⟨rfl, hb1⟩
  have q1 : Below w.heap.size w W1 := Hb0.out.trans (hb1.mono Hb0.out.size)
  have HP := hid (H.out.on q1)
  have Hl := hid (maskL_len 54 K)
  have HQ1 := hid q1
  have HS1 : Hid (w.heap.size + 1 ≤ W1.heap.size) := by show _ ≤ _; have := Hs0.out; have := hb1.size; omega
  have HR1 : Hid (W1.heap[w.heap.size]? = some (.cells z32 46 (0, 0))) := (hb1.block _ (lt_of_heap Hr0.out)).trans Hr0.out
  clear hb1 q1 Hr0 Hb0 Hs0
  go_wp2_with fail
  refine (hashed_any (maskL 54 K) ad Ls n c _ (by rw [Hl.out]; exact HK.out.1) Hn.out.1 Hn.out.2.1 HP.out (by have := Hn.out.2.2; omega)).mono ?_
  rintro e W2 ⟨rfl, hb2⟩
  have q2 : Below w.heap.size w W2 := HQ1.out.trans (hb2.mono HQ1.out.size)
  have HR2 : Hid (W2.heap[w.heap.size]? = some (.cells z32 46 (0, 0))) := (hb2.block _ (by have := HS1.out; omega)).trans HR1.out
  have HS2 : Hid (w.heap.size + 1 ≤ W2.heap.size) := Nat.le_trans HS1.out hb2.size
  have HQ2 := hid q2
  have Hx := hid (sha_len (maskL 54 K ++ Ls.flatten))
  obtain ⟨x, hx⟩ : ∃ x, x = sha (maskL 54 K ++ Ls.flatten) := ⟨_, rfl⟩
  rw [← hx] at Hx
  rw [← hx]
  have Hxx := hid hx
  clear hx hb2 q2 HQ1 HS1 HR1 HP Hl
  go_upto_region 2 with (refine wpList_store_row (o := ⟨none, .store 46 (.tmp 5) (.tmp 9), _, _, _, _⟩) rfl 46 (.tmp 5) (.tmp 9) rfl W2.heap.size (x.map bv).toArray rfl rfl 46 z32 (heap_alloc_new W2 _) (size32 _ (map_len32 Hx.out)) (z32_size _ (map_len32 Hx.out)) (bv_all _) ?_)
  have r3 : ((W2.alloc (.cells z32 46)).setRow W2.heap.size (x.map bv).toArray).heap[W2.heap.size]? = some (.cells (x.map bv).toArray 46 (0, 0)) := setRow_heap _ _ _ _ _ _ (heap_alloc_new W2 _)
  have q3 : Below w.heap.size w ((W2.alloc (.cells z32 46)).setRow W2.heap.size (x.map bv).toArray) := below_setRow (HQ2.out.alloc HQ2.out.size _) HQ2.out.size _
  have r4 : ((W2.alloc (.cells z32 46)).setRow W2.heap.size (x.map bv).toArray).heap[w.heap.size]? = some (.cells z32 46 (0, 0)) := by
    have e := HS2.out
    rw [setRow_other _ _ _ _ (by omega), heap_alloc_old _ _ (by omega)]; exact HR2.out
  change Code.wp _ _ _ _ ((W2.alloc (.cells z32 46)).setRow W2.heap.size (x.map bv).toArray)
  generalize ((W2.alloc (.cells z32 46)).setRow W2.heap.size (x.map bv).toArray) = W3 at r3 q3 r4 ⊢
  generalize W2.heap.size = g3 at r3 ⊢
  have HR3 := hid r3
  have HQ3 := hid q3
  have HR4 := hid r4
  have HI := hid (arr_isBB r3 (by rw [Hx.out]; omega))
  clear r3 q3 r4 HR2 HS2 HQ2
  have HK3 := hid (HK.out.on HQ3.out)
  have b4 : Below W3.heap.size W3 (W3.alloc (.cells #[.slice (some ⟨g3, 0, none⟩) 32 32] 29)) := (Below.refl _ _).alloc (Nat.le_refl _) _
  rw [Hx.out] at HI
  have HK4 := hid (HK3.out.on b4)
  clear b4
  have HL9 : Hid ((maskL 92 K).length = 64) := by show _ = _; rw [maskL_len]; exact HK.out.1
  have HF9 : Hid (x.length ≤ 800000000000000) := by show _ ≤ _; rw [Hx.out]; omega
  have HY := hid (sha_len (maskL 92 K ++ x))
  go_region_with (first
    | (go_at_call 62; refine (mask92 g K _ (by first | exact HK3.out | exact HK4.out)).mono ?_; rintro e W4 ⟨rfl, hb4⟩; have HW4 := hid (by first | exact after_draw hb4 | exact hb4); clear hb4)
    | (go_at_call 73; refine (hashed_one (maskL 92 K) _ x _ HL9.out (by first | exact parts_a HI.out HW4.out | exact parts_b HI.out HW4.out) HF9.out).mono ?_; rintro e W5 ⟨rfl, hb5⟩; have HW5 : Hid (Below W3.heap.size W3 W5) := (by first | exact late_a HW4.out hb5 | exact late_b HW4.out hb5); clear hb5 HW4; have HR5 : Hid (W5.heap[w.heap.size]? = some (.cells z32 46 (0, 0))) := ((HW5.out.block _ (lt_of_heap HR4.out)).trans HR4.out); have hst := store32 (l := sha (maskL 92 K ++ x)) HR5.out (by kernel_rfl) HY.out))
  all_goals
    clear hst
    go_wp2
    refine bodyPost_ret (results_cell_row (by kernel_rfl : Try.f63.results = #[.cell 4 46]) _ _ w.heap.size 46 ((sha (maskL 92 K ++ x)).map bv).toArray (0, 0) _ rfl (setRow_heap _ _ _ _ _ _ HR5.out) Try.underlying46 rfl (size32 _ (map_len32 HY.out))) rfl ⟨?_, ?_⟩
    · rw [Hxx.out]; rfl
    · exact below_setRow (HQ3.out.trans (HW5.out.mono HQ3.out.size)) (Nat.le_refl _) _
end Go.Proofs.Ytpeepohiajmhcaa.d
/-
  The contract of Hmac.
-/
namespace Go.Proofs.Ytpeepohiajmhcaa.d
open Go.RowKit

theorem under_one (g : Nat) (K : List UInt8) (ad : Addr) (x : List UInt8) (w : World) (hk : KeyAt w g K) (h : PartsIn w w.heap.size ad [x]) (ht : x.length ≤ 700000000000000) :
    Calls Try.prog 63 #[firstV g, .slice (some ad) 1 1] w fun e w' => e = .returned (.agg ((hmacK K x).map bv).toArray) ∧ Below w.heap.size w w' := by
  have e : [x].flatten = x := by simp
  have q := under_any g K ad [x] 1 1 w hk rfl (by omega) h (by rw [e]; exact ht)
  rw [e] at q
  exact q
theorem z32_len : z32.size = 32 := by kernel_rfl

end Go.Proofs.Ytpeepohiajmhcaa.d
/-
  Thirty-two bytes xor thirty-two others, in memory, byte by byte; four bytes of a number.
-/
namespace Go.Proofs.Ytpeepohiajmhcaa.d
open Go.RowKit

theorem ix30 (l : List UInt8) (k : Nat) (hk : k < 32) (v : Value) (hv : (l.map bv)[k]? = some v) (w : World) : (Instr.index 46 (.agg (l.map bv).toArray) (.int .i64 (k : Nat))).run Try.prog w = .ok v w := by
  have hs : (sizeOf 5).run Try.prog w = .ok 1 w := by kernel_rfl
  have hp := part5 (l.map bv).toArray (k * 1) v (by rw [Nat.mul_one, List.getElem?_toArray]; exact hv) w
  rw [Nat.mul_one] at hp
  simp [Instr.index, asIntOf, Sem.run_bind, run_underlying Try.underlying46, hs, hk, hp]
/-- The first k bytes xor'd. -/
def xorP (x u : List UInt8) (k : Nat) : List UInt8 := xorL (x.take k) (u.take k) ++ x.drop k
theorem xorP_zero (x u : List UInt8) : xorP x u 0 = x := by simp [xorP, xorL]
theorem xorP_len (x u : List UInt8) (k : Nat) (hx : x.length = 32) (hu : u.length = 32) (hk : k ≤ 32) : (xorP x u k).length = 32 := by
  unfold xorP
  rw [List.length_append, xorL_len, List.length_take, List.length_take, List.length_drop]; omega
theorem xorP_end (x u : List UInt8) (hx : x.length = 32) (hu : u.length = 32) : xorP x u 32 = xorL x u := by
  unfold xorP
  rw [List.take_of_length_le (by omega), List.take_of_length_le (by omega), List.drop_of_length_le (by omega), List.append_nil]
theorem xorL_take_len (x u : List UInt8) (k : Nat) (hx : x.length = 32) (hu : u.length = 32) (hk : k ≤ 32) : (xorL (x.take k) (u.take k)).length = k := by
  rw [xorL_len, List.length_take, List.length_take]; omega
theorem xorP_get (x u : List UInt8) (k : Nat) (hx : x.length = 32) (hu : u.length = 32) (hk : k < 32) : (xorP x u k)[k]? = some (x[k]'(by omega)) := by
  have hl := xorL_take_len x u k hx hu (by omega)
  unfold xorP
  rw [List.getElem?_append_right (by omega), hl, Nat.sub_self, List.getElem?_drop, Nat.add_zero, List.getElem?_eq_getElem (by omega)]
theorem xorP_set (x u : List UInt8) (k : Nat) (hx : x.length = 32) (hu : u.length = 32) (hk : k < 32) : (xorP x u k).set k ((x[k]'(by omega)) ^^^ (u[k]'(by omega))) = xorP x u (k + 1) := by
  have hl := xorL_take_len x u k hx hu (by omega)
  unfold xorP
  rw [List.set_append_right _ _ (by omega), hl, Nat.sub_self, List.drop_eq_getElem_cons (by omega : k < x.length), List.set_cons_zero,
    List.take_succ_eq_append_getElem (by omega : k < x.length), List.take_succ_eq_append_getElem (by omega : k < u.length)]
  unfold xorL
  rw [List.zipWith_append (by simp; omega), List.append_assoc]
  rfl
theorem be4_cells (i : Nat) (hi : i < 4294967296) : (#[.int .u8 ((i : Int) / 16777216), .int .u8 ((i : Int) / 65536 % 256), .int .u8 ((i : Int) / 256 % 256), .int .u8 ((i : Int) % 256)] : Array Value) = ((be4L i).map bv).toArray := by
  have e : ∀ v : Nat, bv (UInt8.ofNat v) = .int .u8 ((v % 256 : Nat) : Int) := fun v => by simp [bv]
  simp only [be4L, List.map_cons, List.map_nil, e]
  have e1 : ((i / 16777216 % 256 : Nat) : Int) = (i : Int) / 16777216 := by omega
  have e2 : ((i / 65536 % 256 : Nat) : Int) = (i : Int) / 65536 % 256 := by omega
  have e3 : ((i / 256 % 256 : Nat) : Int) = (i : Int) / 256 % 256 := by omega
  have e4 : ((i % 256 : Nat) : Int) = (i : Int) % 256 := by omega
  rw [e1, e2, e3, e4]
/-- A slice of two slices, in a block of its own. -/
theorem parts_two {w : World} {g n c n' c' t : Nat} {A A' : Option Addr} {l l' : List UInt8} (hg : w.heap[g]? = some (.cells #[.slice A n c, .slice A' n' c'] t (0, 0))) (h : IsBB w w.heap.size A n c l) (h' : IsBB w w.heap.size A' n' c' l') : PartsIn w w.heap.size ⟨g, 0, none⟩ [l, l'] := by
  intro k hk
  rcases (show k = 0 ∨ k = 1 by simp at hk; omega) with rfl | rfl
  · exact ⟨lt_of_heap hg, A, n, c, by rw [Addr.add_lit, Nat.zero_add, cell_of_row w g 0 _ t (0, 0) hg]; rfl, h⟩
  · exact ⟨lt_of_heap hg, A', n', c', by rw [Addr.add_lit, Nat.zero_add, cell_of_row w g 1 _ t (0, 0) hg]; rfl, h'⟩
theorem under_two (g : Nat) (K : List UInt8) (ad : Addr) (x y : List UInt8) (w : World) (hk : KeyAt w g K) (h : PartsIn w w.heap.size ad [x, y]) (ht : (x ++ y).length ≤ 700000000000000) :
    Calls Try.prog 63 #[firstV g, .slice (some ad) 2 2] w fun e w' => e = .returned (.agg ((hmacK K (x ++ y)).map bv).toArray) ∧ Below w.heap.size w w' := by
  have e : [x, y].flatten = x ++ y := by simp
  have q := under_any g K ad [x, y] 2 2 w hk rfl (by omega) h (by rw [e]; exact ht)
  rw [e] at q
  exact q
structure BlkSt (w wr : World) (g9 g10 : Nat) (u x : List UInt8) : Prop where
  bel : Below w.heap.size w wr
  l9 : w.heap.size < g9
  l10 : w.heap.size < g10
  ne : g9 ≠ g10
  lu : u.length = 32
  lx : x.length = 32
  out : wr.heap[w.heap.size]? = some (.cells z32 46 (0, 0))
  r9 : wr.heap[g9]? = some (.cells (u.map bv).toArray 46 (0, 0))
  r10 : wr.heap[g10]? = some (.cells (x.map bv).toArray 46 (0, 0))
theorem BlkSt.on {w wr w' : World} {g9 g10 : Nat} {u x : List UInt8} (s : BlkSt w wr g9 g10 u x) (h : Below wr.heap.size wr w') : BlkSt w w' g9 g10 u x :=
  ⟨s.bel.trans (h.mono s.bel.size), s.l9, s.l10, s.ne, s.lu, s.lx, (h.block _ (lt_of_heap s.out)).trans s.out, (h.block _ (lt_of_heap s.r9)).trans s.r9, (h.block _ (lt_of_heap s.r10)).trans s.r10⟩
theorem BlkSt.set9 {w wr : World} {g9 g10 : Nat} {u x : List UInt8} (s : BlkSt w wr g9 g10 u x) (u' : List UInt8) (hu : u'.length = 32) : BlkSt w (wr.setRow g9 (u'.map bv).toArray) g9 g10 u' x := by
  have h1 := s.l9
  have h2 := s.ne
  refine ⟨below_setRow s.bel (Nat.le_of_lt h1) _, s.l9, s.l10, s.ne, hu, s.lx, ?_, ?_, ?_⟩
  · rw [setRow_other _ _ _ _ (by omega)]; exact s.out
  · exact setRow_heap _ _ _ _ _ _ s.r9
  · rw [setRow_other _ _ _ _ (by omega)]; exact s.r10
theorem BlkSt.set10 {w wr : World} {g9 g10 : Nat} {u x : List UInt8} (s : BlkSt w wr g9 g10 u x) (k : Nat) (b : UInt8) : BlkSt w (wr.setCell ⟨g10, k, none⟩ (bv b)) g9 g10 u (x.set k b) := by
  have h1 := s.l10
  have h2 := s.ne
  refine ⟨?_, s.l9, s.l10, s.ne, s.lu, by rw [List.length_set]; exact s.lx, ?_, ?_, ?_⟩
  · exact ⟨s.bel.os, s.bel.tape, s.bel.output, by rw [World.size_setCell]; exact s.bel.size, fun i hi => by rw [heap_setCell_other _ _ _ _ (by show i ≠ g10; omega)]; exact s.bel.block i hi⟩
  · rw [heap_setCell_other _ _ _ _ (by show w.heap.size ≠ g10; omega)]; exact s.out
  · rw [heap_setCell_other _ _ _ _ (by show g9 ≠ g10; omega)]; exact s.r9
  · rw [row_set s.r10 k _, set_toArray, List.map_set]
end Go.Proofs.Ytpeepohiajmhcaa.d
/-
  The contract of block.
-/
namespace Go.Proofs.Ytpeepohiajmhcaa.d
open Go.RowKit

set_option maxRecDepth 10000 in
set_option maxHeartbeats 2000000 in
theorem block_any (g : Nat) (K : List UInt8) (A : Option Addr) (s : List UInt8) (n c i r : Nat) (w : World) (hk : KeyAt w g K) (h : IsBB w w.heap.size A n c s) (hi : i < 4294967296) (hr : 1 ≤ r) (hr2 : r ≤ 1000) :
    Calls Try.prog 55 #[firstV g, .slice A n c, .int .u32 (i : Nat), .int .i64 (r : Nat)] w fun e w' => e = .returned (.agg ((blockL K s r i).map bv).toArray) ∧ Below w.heap.size w w' := by
  have Hl := hid (And.intro h.len h.small)
  have r0 : (w.alloc (.cells z32 46)).heap[w.heap.size]? = some (.cells z32 46 (0, 0)) := heap_alloc_new w _
  have b0 : Below w.heap.size w (w.alloc (.cells z32 46)) := (Below.refl w.heap.size w).alloc (Nat.le_refl _) _
  have s0 : (w.alloc (.cells z32 46)).heap.size = w.heap.size + 1 := by simp
  have Hr0 := hid r0
  have Hb0 := hid b0
  have Hs0 := hid s0
  have HA := hid (h.on b0)
  have HKw := hid hk
  have hiz : (i : Int) ≤ 4294967295 := by omega
  have hrz : (1 : Int) ≤ r := by omega
  have hrz2 : (r : Int) ≤ 1000 := by omega
  have Hir := hid (And.intro hi (And.intro hr hr2))
  clear r0 b0 s0 h hk hi hr hr2
  go_enter Try.func55, Try.ntmps55
  go_upto_region 1 with (fail)
  change Code.wp _ _ _ _ (w.alloc (.cells z32 46))
  generalize (w.alloc (.cells z32 46)) = W0 at Hr0 Hb0 Hs0 HA ⊢
  go_wp2_with fail
  rw [be4_cells i Hir.out.1]
  have b1 : Below W0.heap.size W0 (W0.alloc (.cells ((be4L i).map bv).toArray 5)) := (Below.refl _ _).alloc (Nat.le_refl _) _
  have s1 : (W0.alloc (.cells ((be4L i).map bv).toArray 5)).heap.size = W0.heap.size + 1 := by simp
  have h1 : IsBB (W0.alloc (.cells ((be4L i).map bv).toArray 5)) (W0.alloc (.cells ((be4L i).map bv).toArray 5)).heap.size (some ⟨W0.heap.size, 0, none⟩) 4 4 (be4L i) := arr_isBB (l := be4L i) (heap_alloc_new W0 _) (by show 4 ≤ 1000; omega)
  have hA1 := HA.out.on b1
  obtain ⟨W1, hW1⟩ : ∃ W1, W1 = W0.alloc (.cells ((be4L i).map bv).toArray 5) := ⟨_, rfl⟩
  rw [← hW1] at b1 s1 h1 hA1
  rw [← hW1, ← s1]
  have b2 : Below W1.heap.size W1 (W1.alloc (.cells #[.slice A n c, .slice (some ⟨W0.heap.size, 0, none⟩) 4 4] 29)) := (Below.refl _ _).alloc (Nat.le_refl _) _
  have hP := parts_two (heap_alloc_new W1 _) (hA1.on b2) (h1.on b2)
  have q1 : Below w.heap.size w W1 := Hb0.out.trans (b1.mono Hb0.out.size)
  have q2 : Below w.heap.size w (W1.alloc (.cells #[.slice A n c, .slice (some ⟨W0.heap.size, 0, none⟩) 4 4] 29)) := q1.trans (b2.mono q1.size)
  have hR : (W1.alloc (.cells #[.slice A n c, .slice (some ⟨W0.heap.size, 0, none⟩) 4 4] 29)).heap[w.heap.size]? = some (.cells z32 46 (0, 0)) := by
    have e1 := Hs0.out
    rw [b2.block _ (by omega), b1.block _ (by omega)]; exact Hr0.out
  have HP := hid hP
  have HQ2 := hid q2
  have HR := hid hR
  clear hW1 b1 s1 h1 hA1 b2 hP q1 q2 hR HA Hr0 Hb0 Hs0
  generalize (W1.alloc (.cells #[.slice A n c, .slice (some ⟨W0.heap.size, 0, none⟩) 4 4] 29)) = W2 at HP HQ2 HR ⊢
  generalize W1.heap.size = g2 at HP ⊢
  refine (under_two g K _ s (be4L i) _ (HKw.out.on HQ2.out) HP.out (by have := Hl.out; rw [List.length_append]; show _ + 4 ≤ _; omega)).mono ?_
  rintro e W3 ⟨rfl, hb3⟩
  have q3 : Below w.heap.size w W3 := HQ2.out.trans (hb3.mono HQ2.out.size)
  have HR3 : Hid (W3.heap[w.heap.size]? = some (.cells z32 46 (0, 0))) := (hb3.block _ (lt_of_heap HR.out)).trans HR.out
  have hl3 : w.heap.size < W3.heap.size := lt_of_heap HR3.out
  have HQ3 := hid q3
  have HL3 := hid hl3
  have HU : Hid (uN K s i 0 = hmacK K (s ++ be4L i)) := by show _ = _; rfl
  have HY := hid (uN_len K s i 0)
  rw [← HU.out]
  obtain ⟨u, hu⟩ : ∃ u, u = uN K s i 0 := ⟨_, rfl⟩
  rw [← hu] at HY
  rw [← hu]
  have Hu := hid hu
  clear hu hb3 q3 hl3 HP HQ2 HR HU
  go_upto_region 2 with (refine wpList_store_row (o := ⟨none, .store 46 (.tmp 9) (.tmp 28), _, _, _, _⟩) rfl 46 (.tmp 9) (.tmp 28) rfl W3.heap.size (u.map bv).toArray rfl rfl 46 z32 (heap_alloc_new W3 _) (size32 _ (map_len32 HY.out)) (z32_size _ (map_len32 HY.out)) (bv_all _) ?_)
  change Code.wp _ _ _ _ ((W3.alloc (.cells z32 46)).setRow W3.heap.size (u.map bv).toArray)
  have r4 : ((W3.alloc (.cells z32 46)).setRow W3.heap.size (u.map bv).toArray).heap[W3.heap.size]? = some (.cells (u.map bv).toArray 46 (0, 0)) := setRow_heap _ _ _ _ _ _ (heap_alloc_new W3 _)
  have q4 : Below w.heap.size w ((W3.alloc (.cells z32 46)).setRow W3.heap.size (u.map bv).toArray) := below_setRow (HQ3.out.alloc HQ3.out.size _) HQ3.out.size _
  have o4 : ((W3.alloc (.cells z32 46)).setRow W3.heap.size (u.map bv).toArray).heap[w.heap.size]? = some (.cells z32 46 (0, 0)) := by
    have e := HL3.out
    rw [setRow_other _ _ _ _ (by omega), heap_alloc_old _ _ (by omega)]; exact HR3.out
  generalize ((W3.alloc (.cells z32 46)).setRow W3.heap.size (u.map bv).toArray) = W4 at r4 q4 o4 ⊢
  generalize W3.heap.size = g9 at r4 HL3 ⊢
  have HR4 := hid r4
  have HQ4 := hid q4
  have HO4 := hid o4
  clear r4 q4 o4 HQ3 HR3
  go_upto_region 3 with (first
    | (refine wpList_load_row rfl 46 (.tmp 9) rfl g9 rfl 46 (u.map bv).toArray (0, 0) _ HR4.out Try.underlying46 rfl (size32 _ (map_len32 HY.out)) ?_)
    | (refine wpList_store_row (o := ⟨none, .store 46 (.tmp 10) (.tmp 29), _, _, _, _⟩) rfl 46 (.tmp 10) (.tmp 29) rfl W4.heap.size (u.map bv).toArray rfl rfl 46 z32 (heap_alloc_new W4 _) (size32 _ (map_len32 HY.out)) (z32_size _ (map_len32 HY.out)) (bv_all _) ?_))
  have S : BlkSt w ((W4.alloc (.cells z32 46)).setRow W4.heap.size (u.map bv).toArray) g9 W4.heap.size u u := by
    have e9 := lt_of_heap HR4.out
    have e0 := lt_of_heap HO4.out
    refine ⟨below_setRow (HQ4.out.alloc HQ4.out.size _) HQ4.out.size _, HL3.out, by omega, by omega, HY.out, HY.out, ?_, ?_, setRow_heap _ _ _ _ _ _ (heap_alloc_new W4 _)⟩
    · rw [setRow_other _ _ _ _ (by omega), heap_alloc_old _ _ (by omega)]; exact HO4.out
    · rw [setRow_other _ _ _ _ (by omega), heap_alloc_old _ _ (by omega)]; exact HR4.out
  change Code.wp _ _ _ _ ((W4.alloc (.cells z32 46)).setRow W4.heap.size (u.map bv).toArray)
  generalize ((W4.alloc (.cells z32 46)).setRow W4.heap.size (u.map bv).toArray) = W5 at S ⊢
  generalize W4.heap.size = g10 at S ⊢
  have HS := hid S
  clear S HR4 HQ4 HO4 HL3
  go_wp2_with fail
  go_loopw [32] (fun iv wr => ∃ j : Nat, j ≤ r - 1 ∧ iv = .int .i64 j ∧ Hid (BlkSt w wr g9 g10 (uN K s i j) (xN K s i j))) (fun iv _ => r - (intOf iv).toNat)
  case atStart =>
    refine ⟨0, Nat.zero_le _, rfl, ?_⟩
    have e := HS.out
    rw [Hu.out] at e
    exact e
  case round =>
    obtain ⟨j, hj, rfl, hs⟩ := hrel
    clear HS Hu HY
    by_cases hlt : j < r - 1
    · have hlz : (j : Int) < (r : Int) - 1 := by have := Hir.out; omega
      have hU := hid (uN_len K s i j)
      have HU2 : Hid (uN K s i (j + 1) = hmacK K (uN K s i j)) := by show _ = _; rfl
      have HX2 : Hid (xN K s i (j + 1) = xorL (xN K s i j) (uN K s i (j + 1))) := by show _ = _; rfl
      obtain ⟨u, hu⟩ : ∃ u, u = uN K s i j := ⟨_, rfl⟩
      obtain ⟨x, hx⟩ : ∃ x, x = xN K s i j := ⟨_, rfl⟩
      obtain ⟨u2, hu2⟩ : ∃ u2, u2 = uN K s i (j + 1) := ⟨_, rfl⟩
      obtain ⟨x2, hx2⟩ : ∃ x2, x2 = xN K s i (j + 1) := ⟨_, rfl⟩
      rw [← hu, ← hx] at hs
      rw [← hu] at hU
      rw [← hu2, ← hu] at HU2
      rw [← hx2, ← hx, ← hu2] at HX2
      have Hux := hid (And.intro hu2 hx2)
      have b5 : Below wr.heap.size wr (wr.alloc (.cells #[.slice (some ⟨g9, 0, none⟩) 32 32] 29)) := (Below.refl _ _).alloc (Nat.le_refl _) _
      have hI := arr_isBB hs.out.r9 (by rw [hU.out]; omega)
      rw [hU.out] at hI
      have HP := hid (parts_one (heap_alloc_new wr _) (hI.on b5))
      have HS5 := hid (hs.out.on b5)
      clear hu hx hu2 hx2 b5 hI
      go_wp2_with fail
      change Calls _ _ _ (wr.alloc (.cells #[.slice (some ⟨g9, 0, none⟩) 32 32] 29)) _
      generalize (wr.alloc (.cells #[.slice (some ⟨g9, 0, none⟩) 32 32] 29)) = W6 at HP HS5 ⊢
      generalize wr.heap.size = g6 at HP ⊢
      refine (under_one g K _ u _ (HKw.out.on HS5.out.bel) HP.out (by rw [hU.out]; omega)).mono ?_
      rintro e W7 ⟨rfl, hb7⟩
      have HS7 := hid (HS5.out.on hb7)
      have HY2 := hid (hmacK_len K u)
      rw [← HU2.out]
      rw [← HU2.out] at HY2
      clear hb7 HS5 HP hs
      go_upto_region 6 with (refine wpList_store_row (o := ⟨none, .store 46 (.tmp 9) (.tmp 37), _, _, _, _⟩) rfl 46 (.tmp 9) (.tmp 37) rfl g9 (u2.map bv).toArray rfl rfl 46 (u.map bv).toArray HS7.out.r9 (size32 _ (map_len32 HY2.out)) (by simp [hU.out, HY2.out]) (bv_all _) ?_)
      have S8 := HS7.out.set9 u2 HY2.out
      change Code.wp _ _ _ _ (W7.setRow g9 (u2.map bv).toArray)
      generalize W7.setRow g9 (u2.map bv).toArray = W8 at S8 ⊢
      have HS8 := hid S8
      clear S8 HS7
      go_wp2_with (refine wpList_load_row rfl 46 (.tmp 9) rfl g9 rfl 46 (u2.map bv).toArray (0, 0) _ HS8.out.r9 Try.underlying46 rfl (size32 _ (map_len32 HY2.out)) ?_)
      obtain ⟨wo, rfl⟩ : ∃ wo : World, wo = wr := ⟨_, rfl⟩
      have HLx := hid HS8.out.lx
      go_loopw [39] (fun iv wr => ∃ k : Nat, k ≤ 32 ∧ iv = .int .i64 k ∧ Hid (BlkSt w wr g9 g10 u2 (xorP x u2 k))) (fun iv _ => 32 - (intOf iv).toNat)
      case atStart => exact ⟨0, Nat.zero_le _, rfl, by show BlkSt _ _ _ _ _ _; rw [xorP_zero]; exact HS8.out⟩
      case round =>
        obtain ⟨k, hk, rfl, hs⟩ := hrel
        clear HS8
        by_cases hlt2 : k < 32
        · have hkz : (k : Int) < 32 := by omega
          have hxk : k < x.length := by rw [HLx.out]; exact hlt2
          have huk : k < u2.length := by rw [HY2.out]; exact hlt2
          have hix := fun w => ix30 u2 k hlt2 _ (map_bv_getElem? u2 k huk) w
          have hc : wr.cell? ⟨g10, k, none⟩ = some (.int .u8 (x[k].toNat : Nat)) := by
            rw [row_cell hs.out.r10 k, List.getElem?_toArray, List.getElem?_map, xorP_get x u2 k HLx.out HY2.out hlt2]; rfl
          have hf := row_free hs.out.r10 k
          have hn := hs.out.set10 k (x[k] ^^^ u2[k])
          rw [xorP_set x u2 k HLx.out HY2.out hlt2] at hn
          have q := u8_xor_nat x[k].toNat u2[k].toNat (UInt8.toNat_lt _) (UInt8.toNat_lt _)
          have hv : bv (x[k] ^^^ u2[k]) = .int .u8 ((x[k].toNat ^^^ u2[k].toNat : Nat) : Int) := by simp [bv]
          rw [hv] at hn
          have hn2 := hid hn
          have hx2 : x[k].toNat ^^^ u2[k].toNat < 256 := Nat.xor_lt_two_pow (n := 8) (UInt8.toNat_lt _) (UInt8.toNat_lt _)
          generalize x[k].toNat ^^^ u2[k].toNat = y at q hx2 hn2
          generalize x[k].toNat = a at q hc
          generalize u2[k].toNat = b at q hix
          clear hv hn
          go_wp2_with fail
          go_roundw
          case rel => exact ⟨k + 1, by omega, by go_num, hn2⟩
          case measure => simp [intOf]; omega
        · obtain rfl : k = 32 := by omega
          have HSe : Hid (BlkSt w wr g9 g10 u2 x2) := by
            have e := hs.out
            rw [xorP_end x u2 HLx.out HY2.out, ← HX2.out] at e
            exact e
          go_wp2_with fail
          go_roundw
          case rel =>
            refine ⟨j + 1, by omega, by go_num, ?_⟩
            have e := HSe.out
            rw [Hux.out.1, Hux.out.2] at e
            exact e
          case measure => simp [intOf]; omega
    · obtain rfl : j = r - 1 := by omega
      have hlz : ((r - 1 : Nat) : Int) = (r : Int) - 1 := by have := Hir.out; omega
      have HB : Hid (blockL K s r i = xN K s i (r - 1)) := by show _ = _; rfl
      have HLx := hid hs.out.lx
      rw [← HB.out] at hs HLx
      clear HB
      obtain ⟨y, hy⟩ : ∃ y, y = blockL K s r i := ⟨_, rfl⟩
      rw [← hy] at hs HLx
      have Hy := hid hy
      clear hy
      go_wp2_with (first
        | (refine wpList_load_row rfl 46 (.tmp 10) rfl g10 rfl 46 (y.map bv).toArray (0, 0) _ hs.out.r10 Try.underlying46 rfl (size32 _ (map_len32 HLx.out)) ?_)
        | (refine wpList_store_row (o := ⟨none, .store 46 (.tmp 8) (.tmp 51), _, _, _, _⟩) rfl 46 (.tmp 8) (.tmp 51) rfl w.heap.size (y.map bv).toArray rfl rfl 46 z32 hs.out.out (size32 _ (map_len32 HLx.out)) (z32_size _ (map_len32 HLx.out)) (bv_all _) ?_))
      refine bodyPost_ret (results_cell_row (by kernel_rfl : Try.f55.results = #[.cell 8 46]) _ _ w.heap.size 46 (y.map bv).toArray (0, 0) _ rfl (setRow_heap _ _ _ _ _ _ hs.out.out) Try.underlying46 rfl (size32 _ (map_len32 HLx.out))) rfl ⟨by rw [Hy.out], ?_⟩
      exact below_setRow hs.out.bel (Nat.le_refl _) _
end Go.Proofs.Ytpeepohiajmhcaa.d
/-
  The contract of Pbkdf2.
-/
namespace Go.Proofs.Ytpeepohiajmhcaa.d
open Go.RowKit

set_option maxRecDepth 10000 in
set_option maxHeartbeats 1000000 in
theorem Pbkdf2_no (A B : Option Addr) (n c m d : Nat) (r N : Int) (w : World) (h : r < 1 ∨ 1000 < r ∨ N < 0 ∨ 1024 < N) :
    Calls Try.prog 44 #[.slice A n c, .slice B m d, .int .i64 r, .int .i64 N] w fun e w' => e = .returned (.tuple #[.slice none 0 0, .int .i64 2]) ∧ Below w.heap.size w w' := by
  by_cases h1 : r < 1
  · clear h
    go_enter Try.func44, Try.ntmps44
    go_wp2_with fail
    go_ret2
    exact ⟨rfl, Below.refl _ _⟩
  · by_cases h2 : 1000 < r
    · clear h
      have h1' : 1 ≤ r := by omega
      go_enter Try.func44, Try.ntmps44
      go_wp2_with fail
      go_ret2
      exact ⟨rfl, Below.refl _ _⟩
    · by_cases h3 : N < 0
      · clear h
        have h1' : 1 ≤ r := by omega
        have h2' : r ≤ 1000 := by omega
        go_enter Try.func44, Try.ntmps44
        go_wp2_with fail
        go_ret2
        exact ⟨rfl, Below.refl _ _⟩
      · have h4 : 1024 < N := by omega
        clear h
        have h1' : 1 ≤ r := by omega
        have h2' : r ≤ 1000 := by omega
        have h3' : 0 ≤ N := by omega
        go_enter Try.func44, Try.ntmps44
        go_wp2_with fail
        go_ret2
        exact ⟨rfl, Below.refl _ _⟩

/-- The bytes behind k blocks, then noughts. -/
def outP (K s : List UInt8) (r N k : Nat) : List UInt8 := (blocksL K s r k).take N ++ List.replicate (N - 32 * k) 0
theorem outP_zero (K s : List UInt8) (r N : Nat) : outP K s r N 0 = List.replicate N 0 := by simp [outP, blocksL]
theorem outP_len (K s : List UInt8) (r N k : Nat) : (outP K s r N k).length = N := by
  unfold outP
  rw [List.length_append, List.length_take, blocksL_len, List.length_replicate]; omega
theorem outP_end (l s : List UInt8) (r N k : Nat) (h : N ≤ 32 * k) (hk : k ≤ 32) : outP (keyL l) s r N k = pbk l s r N := by
  unfold outP
  rw [show N - 32 * k = 0 by omega, List.replicate_zero, List.append_nil, pbk_of l s r N k h hk]
theorem outP_splice (K s : List UInt8) (r N k m : Nat) (h : 32 * k < N) (hm : m = min 32 (N - 32 * k)) :
    splice ((outP K s r N k).map bv) (32 * k) (((blockL K s r (k + 1)).take m).map bv) = (outP K s r N (k + 1)).map bv := by
  have hb := blocksL_len K s r k
  have hl := blockL_len K s r (k + 1)
  have e0 : (blocksL K s r k).take N = blocksL K s r k := List.take_of_length_le (by omega)
  have e1 : (outP K s r N k).take (32 * k) = blocksL K s r k := by
    unfold outP
    rw [e0, List.take_append_of_le_length (by omega), List.take_of_length_le (by omega)]
  have e2 : (outP K s r N k).drop (32 * k + m) = List.replicate (N - 32 * k - m) 0 := by
    unfold outP
    rw [e0, List.drop_append, hb, List.drop_of_length_le (by omega), List.nil_append, show 32 * k + m - 32 * k = m by omega, List.drop_replicate]
  have e3 : (blockL K s r (k + 1)).take m = (blockL K s r (k + 1)).take (N - 32 * k) := by
    rcases Nat.le_total 32 (N - 32 * k) with q | q
    · rw [List.take_of_length_le (by omega), List.take_of_length_le (by omega)]
    · rw [show m = N - 32 * k by omega]
  have e4 : outP K s r N (k + 1) = blocksL K s r k ++ ((blockL K s r (k + 1)).take m ++ List.replicate (N - 32 * k - m) 0) := by
    unfold outP
    show ((blocksL K s r k ++ blockL K s r (k + 1)).take N) ++ _ = _
    rw [List.take_append, e0, hb, ← e3, List.append_assoc]
    congr 3
    omega
  unfold splice
  rw [e4, ← List.map_take, List.length_map, List.length_take, hl, show min m 32 = m by omega, ← List.map_drop, e1, e2, List.map_append, List.map_append]
theorem out_slice (g N k : Nat) (h : k < N) (hN : N ≤ 1024) (w : World) : (Instr.slice 29 (.slice (some ⟨g, 0, none⟩) N N) (some (.int .i64 (k : Nat))) none none).run Try.prog w = .ok (.slice (some ⟨g, k, none⟩) (N - k) (N - k)) w := by
  have hs : (sizeOf (Try.prog.elem 29)).run Try.prog w = .ok 1 w := by kernel_rfl
  rw [run_slice_l (ht := by kernel_rfl) (h0 := by omega) (h1 := by omega), hs]
  simp only [Result.andThen, sliced, Int.toNat_natCast, Nat.mul_one]
  rw [if_neg (by omega)]
  simp [Addr.add]
  omega

theorem below_draw {B : Nat} {a w : World} (h : Below B a w) : Below B a w.drew := ⟨h.os, h.tape, h.output, h.size, h.block⟩
structure PbSt (w wr : World) (g : Nat) (L : List Value) : Prop where
  bel : Below w.heap.size w wr
  row : wr.heap[g]? = some (.cells L.toArray 5 (0, 0))
theorem PbSt.on {w wr w' : World} {g : Nat} {L : List Value} (s : PbSt w wr g L) (h : Below wr.heap.size wr w') : PbSt w w' g L :=
  ⟨s.bel.trans (h.mono s.bel.size), (h.block _ (lt_of_heap s.row)).trans s.row⟩

set_option maxRecDepth 10000 in
set_option maxHeartbeats 2000000 in
theorem Pbkdf2_yes (A B : Option Addr) (l s : List UInt8) (n c m d r N : Nat) (w : World) (h : IsBB w w.heap.size A n c l) (hb : IsBB w w.heap.size B m d s) (hr : 1 ≤ r) (hr2 : r ≤ 1000) (hN : N ≤ 1024) :
    Calls Try.prog 44 #[.slice A n c, .slice B m d, .int .i64 (r : Nat), .int .i64 (N : Nat)] w fun e w' => ∃ g, e = .returned (.tuple #[.slice (some ⟨g, 0, none⟩) N N, .int .i64 0]) ∧ New w w' g N N (pbk l s r N) := by
  obtain ⟨i0, hi, hz0, hz1, hz2⟩ := info_parts Try.info5
  have H := hid h
  have HB := hid hb
  have hr' : 1 ≤ (r : Int) := by omega
  have hr2' : (r : Int) ≤ 1000 := by omega
  have hN' : (N : Int) ≤ 1024 := by omega
  have hN0 : 0 ≤ (N : Int) := by omega
  have HN := hid (And.intro hr (And.intro hr2 hN))
  clear h hb hr hr2 hN
  go_enter Try.func44, Try.ntmps44
  go_wp2_with fail
  refine (firstOf_any _ l _ _ _ H.out).mono ?_
  rintro e W1 ⟨gk, rfl, hk, hb1, _⟩
  have HK := hid hk
  have Hb1 := hid hb1
  clear hk hb1
  go_wp2_with (at_make; (refine wpList_make_full _ rfl _ _ 29 rfl w.heap.size 5 i0 (.int .u8 0) 1 Try.underlying29 hi hz0 hz1 _ _ _ _ N rfl rfl rfl rfl (by rw [hz2]; have := HN.out; omega) (by have := HN.out; unfold maxLen; omega) Hb1.out.size ?_); intro W2 hown hgrow)
  have S : PbSt W1 W2 W1.heap.size ((outP (keyL l) s r N 0).map bv) := by
    have q := own_row hown
    rw [made_cells] at q
    refine ⟨(Below.refl _ _).grown hgrow (Nat.le_refl _) (by simp), ?_⟩
    rw [outP_zero, List.map_replicate]; exact q
  have HS := hid S
  have HB1 := hid (HB.out.on Hb1.out)
  have Hg2 : Hid (w.heap.size ≤ W1.heap.size) := Hb1.out.size
  clear S hown hgrow
  obtain ⟨g, hg⟩ : ∃ g, g = W1.heap.size := ⟨_, rfl⟩
  rw [← hg]
  have Hge := hid hg
  have Hg : Hid (W1.heap.size ≤ g) := Nat.le_of_eq hg.symm
  have HS : Hid (PbSt W1 W2 g ((outP (keyL l) s r N 0).map bv)) := by rw [hg]; exact HS
  clear hg
  go_loopw [12, 13] (fun av iv wr => ∃ k a i : Nat, k ≤ 32 ∧ Hid (a = min (32 * k) N ∧ i = k + 1) ∧ av = .int .i64 a ∧ iv = .int .u32 i ∧ Hid (PbSt W1 wr g ((outP (keyL l) s r N k).map bv))) (fun _ iv _ => 34 - (intOf iv).toNat)
  case atStart => exact ⟨0, 0, 1, Nat.zero_le _, ⟨by omega, rfl⟩, rfl, rfl, HS.out⟩
  case round =>
    obtain ⟨k, a, i, hk, hai, rfl, rfl, hs⟩ := hrel
    clear HS
    by_cases hlt : a < N
    · have hak : a = 32 * k := by have := hai.out; omega
      have hkn : 32 * k < N := by omega
      have hi33 : i ≤ 33 := by have := hai.out; omega
      have hi0 : 1 ≤ i := by have := hai.out; omega
      have hiz : (i : Int) ≤ 33 := by omega
      have haz : (a : Int) < N := by omega
      have hk32 : k < 32 := by have := HN.out; omega
      have hI := hid (HB1.out.on hs.out.bel)
      have Hk := hid (And.intro hak (And.intro hkn (And.intro hi33 (And.intro hi0 hk32))))
      clear hak hkn hi33 hi0
      go_wp2_with fail
      refine (block_any gk (keyL l) B s m d i r _ (HK.out.on hs.out.bel) hI.out (by have := Hk.out; omega) HN.out.1 HN.out.2.1).mono ?_
      rintro e W3 ⟨rfl, hb3⟩
      have HS3 := hid (hs.out.on hb3)
      have HY := hid (blockL_len (keyL l) s r i)
      obtain ⟨y, hy⟩ : ∃ y, y = blockL (keyL l) s r i := ⟨_, rfl⟩
      rw [← hy] at HY
      rw [← hy]
      have Hy := hid hy
      clear hy hb3 hs hI
      go_upto_region 10 with (refine wpList_store_row (o := ⟨none, .store 46 (.tmp 14) (.tmp 42), _, _, _, _⟩) rfl 46 (.tmp 14) (.tmp 42) rfl W3.heap.size (y.map bv).toArray rfl rfl 46 z32 (heap_alloc_new W3 _) (size32 _ (map_len32 HY.out)) (z32_size _ (map_len32 HY.out)) (bv_all _) ?_)
      have b4 : Below W3.heap.size W3 ((W3.alloc (.cells z32 46)).setRow W3.heap.size (y.map bv).toArray) := below_setRow ((Below.refl _ _).alloc (Nat.le_refl _) _) (Nat.le_refl _) _
      have r4 : ((W3.alloc (.cells z32 46)).setRow W3.heap.size (y.map bv).toArray).heap[W3.heap.size]? = some (.cells (y.map bv).toArray 46 (0, 0)) := setRow_heap _ _ _ _ _ _ (heap_alloc_new W3 _)
      have HS4 := hid (HS3.out.on b4)
      change Code.wp _ _ _ _ ((W3.alloc (.cells z32 46)).setRow W3.heap.size (y.map bv).toArray)
      generalize ((W3.alloc (.cells z32 46)).setRow W3.heap.size (y.map bv).toArray) = W4 at r4 HS4 ⊢
      generalize W3.heap.size = g4 at r4 ⊢
      have HR4 := hid r4
      clear b4 r4 HS3
      have hsl := fun w => out_slice g N a hlt HN.out.2.2 w
      obtain ⟨mm, hmm⟩ : ∃ mm, mm = min 32 (N - a) := ⟨_, rfl⟩
      have hmz : (mm : Int) ≤ 32 := by omega
      obtain ⟨q, hq⟩ : ∃ q, q = N - a := ⟨_, rfl⟩
      rw [← hq] at hmm hsl
      have Hm := hid (And.intro hmm hq)
      have hqz : (q : Int) ≤ 1024 := by have := HN.out; omega
      obtain ⟨C, hC⟩ : ∃ C, C = (y.take mm).map bv := ⟨_, rfl⟩
      obtain ⟨L, hL⟩ : ∃ L, L = (outP (keyL l) s r N k).map bv := ⟨_, rfl⟩
      have hCl : C.length = Nat.min 32 q := by rw [hC, List.length_map, List.length_take, HY.out]; show min mm 32 = min 32 q; omega
      have hLl : L.length = N := by rw [hL, List.length_map, outP_len]
      have hC1 : ∀ v ∈ C, v.oneCell' = true := by rw [hC]; exact bv_one _
      have hCs : ∀ (j : Nat) (v : Value), C[j]? = some v → W4.cell? ((⟨g4, 0, none⟩ : Addr).add j) = some v := by
        intro j v hv
        refine row_at HR4.out j v ?_
        rw [hC, List.map_take] at hv
        have hj : j < mm := by
          have e := (List.getElem?_eq_some_iff.1 hv).1
          rw [List.length_take] at e; omega
        rw [List.getElem?_take_of_lt hj] at hv
        exact hv
      have hsp : splice L a C = (outP (keyL l) s r N (k + 1)).map bv := by
        have e1 := Hk.out.1
        have e2 := hai.out.2
        rw [hL, hC, Hy.out, e1, e2]
        exact outP_splice _ _ _ _ _ _ Hk.out.2.1 (by omega)
      have hfit : a + C.length ≤ L.length := by rw [hCl, hLl]; show a + min 32 q ≤ N; omega
      have hcm : C.length = mm := by rw [hCl]; show min 32 q = mm; omega
      rw [← hL] at HS4
      have HC := hid (And.intro hCl (And.intro hC1 (And.intro hCs (And.intro hfit hsp))))
      have Hcm := hid hcm
      clear hmm hq hC hL hCl hLl hC1 hCs hfit hcm hsp
      go_region_law (refine step_copy_splice rfl (.tmp 46) (.tmp 47) 29 29 rfl 5 Try.underlying29 Try.size5 (some ⟨g, a, none⟩) (some ⟨g4, 0, none⟩) q q 32 32 rfl rfl g a L 5 HS4.out.row C HC.out.1 (fun _ => ⟨rfl, _, rfl, HC.out.2.2.1⟩) HC.out.2.2.2.1 HC.out.2.1 W1.heap.size W1 (below_draw HS4.out.bel) Hg.out ?_; intro w5 hg5 hb5)
      all_goals
        rw [Hcm.out]
        have HS5 : Hid (PbSt W1 w5 g ((outP (keyL l) s r N (k + 1)).map bv)) := by
          have e := hg5.out
          rw [HC.out.2.2.2.2] at e
          exact ⟨hb5, e⟩
        clear hg5 hb5 hsl
        go_wp2
        go_roundw
        case rel => exact ⟨k + 1, a + mm, i + 1, by have := Hk.out; omega, ⟨by have := Hk.out; have := Hm.out; omega, by have := hai.out; omega⟩, by go_num, by go_num, HS5⟩
        case measure => simp [intOf]; have := Hk.out; omega
    · have haN : a = N := by have := hai.out; omega
      have hkN : N ≤ 32 * k := by have := hai.out; omega
      have Hk := hid (And.intro haN hkN)
      have haz : (N : Int) ≤ a := by omega
      clear haN hkN
      go_wp2
      go_ret2
      have e := hs.out.row
      rw [outP_end l s r N k Hk.out.2 hk] at e
      have hl := pbk_len l s r N HN.out.2.2
      have q := row_own (w := W1) e (by rw [Hge.out]; exact Nat.le_refl _) (by rw [hl]; have := HN.out; omega) hs.out.bel
      rw [hl] at q
      exact ⟨g, rfl, q.base Hb1.out⟩
end Go.Proofs.Ytpeepohiajmhcaa.d
