/-
  The contract of hashed: the SHA-256 of a key and the parts behind it.
-/
import Derived.Test.YtnifhgcdpgokhaaFirst
namespace Go.Proofs.Ytnifhgcdpgokhaa
open Go.RowKit

/-- From ad on stand slices, in blocks below B, that read as these lists. -/
def PartsIn (w : World) (B : Nat) (ad : Addr) (Ls : List (List UInt8)) : Prop :=
  ∀ k (h : k < Ls.length), ad.block < B ∧ ∃ Ai ni ci, w.cell? (ad.add k) = some (.slice Ai ni ci) ∧ IsBB w B Ai ni ci Ls[k]
theorem PartsIn.on {w w' : World} {ad : Addr} {Ls : List (List UInt8)} (h : PartsIn w w.heap.size ad Ls) (hb : Below w.heap.size w w') : PartsIn w' w'.heap.size ad Ls := by
  intro k hk
  obtain ⟨h1, Ai, ni, ci, h2, h3⟩ := h k hk
  exact ⟨Nat.lt_of_lt_of_le h1 hb.size, Ai, ni, ci, (hb.cell (p := ad.add k) (by rw [block_of_add]; exact h1)).trans h2, h3.on hb⟩
def catL (Ls : List (List UInt8)) (k : Nat) : List UInt8 := (Ls.take k).flatten
theorem catL_succ (Ls : List (List UInt8)) (k : Nat) (h : k < Ls.length) : catL Ls (k + 1) = catL Ls k ++ Ls[k] := by
  unfold catL
  rw [List.take_succ_eq_append_getElem h, List.flatten_append]
  simp
theorem catL_end (Ls : List (List UInt8)) : catL Ls Ls.length = Ls.flatten := by unfold catL; rw [List.take_length]
theorem catL_le (Ls : List (List UInt8)) (k : Nat) : (catL Ls k).length ≤ Ls.flatten.length := by
  have e : Ls.flatten = catL Ls k ++ (Ls.drop k).flatten := by
    unfold catL
    rw [← List.flatten_append, List.take_append_drop]
  rw [e, List.length_append]; omega
theorem arr_isB {w : World} {g t : Nat} {l : List UInt8} (h : w.heap[g]? = some (.cells (l.map bv).toArray t (0, 0))) (hl : l.length ≤ 1000) : IsB w (some ⟨g, 0, none⟩) l.length l.length l :=
  ⟨rfl, Nat.le_refl _, by unfold maxLen; omega, by omega, fun _ => ⟨_, rfl, fun j hj => row_at h j _ (map_bv_getElem? l j hj)⟩⟩
theorem arr_isBB {w : World} {g t : Nat} {l : List UInt8} (h : w.heap[g]? = some (.cells (l.map bv).toArray t (0, 0))) (hl : l.length ≤ 1000) : IsBB w w.heap.size (some ⟨g, 0, none⟩) l.length l.length l :=
  ⟨arr_isB h hl, fun _ ad e => by cases e; exact lt_of_heap h⟩

structure HashSt (w W wr : World) (g : Nat) (l : List UInt8) : Prop where
  dig : Dig wr g l
  low : w.heap.size + 2 ≤ g
  bel : Below w.heap.size w wr
  out : wr.heap[w.heap.size + 1]? = some (.cells z32 30 (0, 0))
theorem HashSt.next {w W wr w' : World} {g : Nat} {l l' : List UInt8} (s : HashSt w W wr g l) (hd : Dig w' g l') (hg : wr.grownBy w' (some g)) : HashSt w W w' g l' := by
  have h1 := s.low
  refine ⟨hd, s.low, s.bel.grown hg s.bel.size (fun k e => by cases e; omega), ?_⟩
  rw [hg.block _ (lt_of_heap s.out) (by intro e; have e2 : w.heap.size + 1 = g := Option.some.inj e; omega)]
  exact s.out

set_option maxRecDepth 10000 in
set_option maxHeartbeats 1000000 in
theorem hashed_any (K : List UInt8) (ad : Addr) (Ls : List (List UInt8)) (n c : Nat) (w : World) (hK : K.length = 64) (hn : Ls.length = n) (hm : n ≤ 1000) (h : PartsIn w w.heap.size ad Ls) (ht : Ls.flatten.length ≤ 800000000000000) :
    Calls Try.prog 29 #[.agg (K.map bv).toArray, .slice (some ad) n c] w fun e w' => e = .returned (.agg ((sha (K ++ Ls.flatten)).map bv).toArray) ∧ Below w.heap.size w w' := by
  have H := hid h
  have HK := hid hK
  have Hn := hid (And.intro hn ht)
  have hmz : (n : Int) ≤ 1000 := by omega
  clear h hK hn ht
  have r0 : ((w.alloc (.cells (K.map bv).toArray 46)).alloc (.cells z32 30)).heap[w.heap.size]? = some (.cells (K.map bv).toArray 46 (0, 0)) := heap_alloc2_old w _ _
  have r1 : ((w.alloc (.cells (K.map bv).toArray 46)).alloc (.cells z32 30)).heap[w.heap.size + 1]? = some (.cells z32 30 (0, 0)) := heap_alloc2_new w _ _
  have b0 : Below w.heap.size w ((w.alloc (.cells (K.map bv).toArray 46)).alloc (.cells z32 30)) := by
    have q := (Below.refl w.heap.size w).alloc (Nat.le_refl _) (.cells (K.map bv).toArray 46)
    exact q.alloc q.size _
  have s0 : ((w.alloc (.cells (K.map bv).toArray 46)).alloc (.cells z32 30)).heap.size = w.heap.size + 2 := by simp
  have Hr0 := hid r0
  have Hr1 := hid r1
  have Hb0 := hid b0
  have Hs0 := hid s0
  clear r0 r1 b0 s0
  go_enter Try.func29, Try.ntmps29
  go_upto_region 1 with (fail)
  change Code.wp _ _ _ _ ((w.alloc (.cells (K.map bv).toArray 46)).alloc (.cells z32 30))
  generalize ((w.alloc (.cells (K.map bv).toArray 46)).alloc (.cells z32 30)) = W0 at Hr0 Hr1 Hb0 Hs0 ⊢
  go_wp2_with fail
  refine (New_any _).mono ?_
  rintro e W1 ⟨g, rfl, hd, hb1, hg⟩
  have Hk : Hid (W1.heap[w.heap.size]? = some (.cells (K.map bv).toArray 46 (0, 0))) := (hb1.block _ (lt_of_heap Hr0.out)).trans Hr0.out
  have hS : HashSt w W0 W1 g [] := ⟨hd, by have := Hs0.out; omega, Hb0.out.trans (hb1.mono Hb0.out.size), (hb1.block _ (lt_of_heap Hr1.out)).trans Hr1.out⟩
  have HS := hid hS
  have HR : Hid (Rest W1 g W1.heap.size (some ⟨w.heap.size, 0, none⟩) 64 64 K) := by
    have q := arr_isBB Hk.out (by rw [HK.out]; omega)
    rw [HK.out] at q
    exact ⟨q.toIsB, fun hp ad e => ⟨by cases e; show w.heap.size ≠ g; have := hS.low; omega, q.low hp ad e⟩⟩
  clear hd hb1 hg hS
  go_wp2_with fail
  refine (Write_any g [] K _ _ _ _ HS.out.dig HR.out (by show 0 + 64 < _; omega)).mono ?_
  rintro e W2 ⟨rfl, hd2, hg2⟩
  have HS2 := hid (HS.out.next hd2 hg2)
  rw [List.nil_append] at HS2
  clear hd2 hg2 HS HR Hk
  go_wp2_with fail
  go_loopw [14] (fun i wr => ∃ k : Nat, k ≤ n ∧ i = .int .i64 k ∧ Hid (HashSt w W0 wr g (K ++ catL Ls k))) (fun i _ => n - (intOf i).toNat)
  case atStart => exact ⟨0, Nat.zero_le _, rfl, by show HashSt _ _ _ _ _; simpa [catL] using HS2.out⟩
  case round =>
    obtain ⟨k, hk, rfl, hs⟩ := hrel
    clear HS2
    by_cases hlt : k < n
    · have hlz : (k : Int) < n := by omega
      have hkl : k < Ls.length := by have := Hn.out.1; omega
      obtain ⟨h1, Ai, ni, ci, hc0, hI⟩ := H.out k hkl
      have hc : wr.cell? (ad.add k) = some (.slice Ai ni ci) := (hs.out.bel.cell (p := ad.add k) (by rw [block_of_add]; exact h1)).trans hc0
      have hI2 := hI.on hs.out.bel
      have HR : Hid (Rest wr g wr.heap.size Ai ni ci Ls[k]) := ⟨hI2.toIsB, fun hp a e => ⟨by have := hI.low hp a e; have := hs.out.low; omega, hI2.low hp a e⟩⟩
      have HL : Hid ((K ++ catL Ls k).length + ni < 1000000000000000) := by
        show _ < _
        have e1 := catL_le Ls k
        have e2 := Hn.out.2
        have e3 := hI.small
        rw [List.length_append, HK.out]; omega
      have Hx := hid (catL_succ Ls k hkl)
      clear h1 hc0 hI hI2
      go_wp2_with fail
      refine (Write_any g (K ++ catL Ls k) Ls[k] _ _ _ _ hs.out.dig HR.out HL.out).mono ?_
      rintro e W3 ⟨rfl, hd3, hg3⟩
      have HS3 := hid (hs.out.next hd3 hg3)
      rw [List.append_assoc, ← Hx.out] at HS3
      clear hd3 hg3 hc
      go_wp2_with fail
      go_roundw
      case rel => exact ⟨k + 1, by omega, by go_num, HS3⟩
      case measure => simp [intOf]; omega
    · obtain rfl : k = n := by omega
      have hcat : Hid (catL Ls k = Ls.flatten) := by show _ = _; rw [← Hn.out.1]; exact catL_end Ls
      rw [hcat.out] at hs
      have Hsl := hid (sha_len (K ++ Ls.flatten))
      have Hll : Hid (((K ++ Ls.flatten).length : Int) ≤ 900000000000000) := by show _ ≤ _; have := Hn.out.2; rw [List.length_append, HK.out]; omega
      obtain ⟨x, hx⟩ : ∃ x, x = K ++ Ls.flatten := ⟨_, rfl⟩
      rw [← hx] at hs Hsl Hll
      have Hx := hid hx
      clear hx
      go_wp2_with fail
      refine (Sum_any g x _ hs.out.dig Hll.out).mono ?_
      rintro e W4 ⟨rfl, hb4⟩
      have HR4 : Hid (W4.heap[w.heap.size + 1]? = some (.cells z32 30 (0, 0))) := (hb4.block _ (lt_of_heap hs.out.out)).trans hs.out.out
      have HB4 : Hid (Below w.heap.size w W4) := hs.out.bel.trans (hb4.mono hs.out.bel.size)
      clear hb4
      go_wp2_with (refine wpList_store_row (o := ⟨none, .store 30 (.tmp 4) (.tmp 23), _, _, _, _⟩) rfl 30 (.tmp 4) (.tmp 23) rfl (w.heap.size + 1) ((sha x).map bv).toArray rfl rfl 30 z32 HR4.out (size32 _ (map_len32 Hsl.out)) (z32_size _ (map_len32 Hsl.out)) (bv_all _) ?_)
      refine bodyPost_ret (results_cell_row (by kernel_rfl : Try.f29.results = #[.cell 4 30]) _ _ (w.heap.size + 1) 30 ((sha x).map bv).toArray (0, 0) _ rfl (setRow_heap _ _ _ _ _ _ HR4.out) Try.underlying30 rfl (size32 _ (map_len32 Hsl.out))) rfl ⟨by rw [Hx.out], ?_⟩
      exact below_setRow HB4.out (Nat.le_succ _) _
end Go.Proofs.Ytnifhgcdpgokhaa
