/-
  The contract of the document's Hmac.
-/
import Derived.Test.YtnifhgcdpgokhaaApp
import Derived.Test.YtnifhgcdpgokhaaRefOf
import Derived.Test.YtnifhgcdpgokhaaHash
namespace Go.Proofs.Ytnifhgcdpgokhaa
open Go.RowKit

theorem own_below2 {w w' : World} {base n : Nat} {v : Value} {xs : List Value} (h : w.ownsRow base 5 1 v n xs) (hb : Below w.heap.size w w') : w'.ownsRow base 5 1 v n xs :=
  own_grown (row := none) h ⟨hb.os, hb.tape, hb.output, hb.size, fun k hk _ => hb.block k hk⟩ (fun k _ e => by cases e)
theorem own_addr {w : World} {base n c : Nat} {A : Option Addr} {xs : List Value} (h : w.ownsRow base 5 1 (.slice A n c) n xs) : ∀ ad, A = some ad → base ≤ ad.block ∧ ad.block < w.heap.size := fun ad e => by
  subst e; exact h.lt ad.block rfl
theorem keyL_of (l : List UInt8) (k : Nat) (h : (shortK l).length + k = 64) : shortK l ++ List.replicate k 0 = keyL l := by
  unfold keyL
  rw [show 64 - (shortK l).length = k by omega]
theorem mask_snoc (m : UInt8) (K : List UInt8) (k : Nat) (h : k < K.length) : maskL m (K.take k) ++ [K[k] ^^^ m] = maskL m (K.take (k + 1)) := by
  rw [List.take_succ_eq_append_getElem h]
  unfold maskL
  rw [List.map_append]
  rfl

set_option maxRecDepth 10000 in
set_option maxHeartbeats 4000000 in
theorem RefHmac_any (A B : Option Addr) (l b : List UInt8) (n c m d : Nat) (w : World) (h : IsBB w w.heap.size A n c l) (hb : IsBB w w.heap.size B m d b) (hn : n ≤ 100000000) (hm : m ≤ 100000000) :
    Calls Try.prog 13 #[.slice A n c, .slice B m d] w fun e w' => e = .returned (.agg ((hmac l b).map bv).toArray) ∧ Below w.heap.size w w' := by
  have Hl := hid (And.intro h.len (And.intro hn hm))
  have hnz : (n : Int) ≤ 100000000 := by omega
  have r0 : (w.alloc (.cells z32 30)).heap[w.heap.size]? = some (.cells z32 30 (0, 0)) := heap_alloc_new w _
  have b0 : Below w.heap.size w (w.alloc (.cells z32 30)) := (Below.refl w.heap.size w).alloc (Nat.le_refl _) _
  have Hr0 := hid r0
  have Hb0 := hid b0
  have HA := hid (h.on b0)
  have HB := hid (hb.on b0)
  clear r0 b0 h hb hn hm
  rcases Nat.lt_or_ge 64 n with hlong | hlong
  have hz : (64 : Int) < n := by omega
  go_enter Try.func13, Try.ntmps13
  go_upto_region 1 with (fail)
  change Code.wp _ _ _ _ (w.alloc (.cells z32 30))
  generalize (w.alloc (.cells z32 30)) = W0 at Hr0 Hb0 HA HB ⊢
  go_wp2_with fail
  refine (RefOf_any _ l _ _ _ HA.out (by have := Hl.out; omega)).mono ?_
  rintro e W1 ⟨rfl, hb1⟩
  have HY := hid (sha_len l)
  have Hs : Hid (sha l = shortK l) := by show _ = _; unfold shortK; rw [if_pos (by rw [Hl.out.1]; exact hlong)]
  have r2 : ((W1.alloc (.cells z32 30)).setRow W1.heap.size ((sha l).map bv).toArray).heap[W1.heap.size]? = some (.cells ((sha l).map bv).toArray 30 (0, 0)) := setRow_heap _ _ _ _ _ _ (heap_alloc_new W1 _)
  have b2 : Below W0.heap.size W0 ((W1.alloc (.cells z32 30)).setRow W1.heap.size ((sha l).map bv).toArray) := below_setRow (hb1.alloc hb1.size _) hb1.size _
  have Hr2 := hid r2
  have Hb2 := hid b2
  clear r2 b2 hb1
  go_upto_region 4 with (refine wpList_store_row (o := ⟨none, .store 30 (.tmp 6) (.tmp 15), _, _, _, _⟩) rfl 30 (.tmp 6) (.tmp 15) rfl W1.heap.size ((sha l).map bv).toArray rfl rfl 30 z32 (heap_alloc_new W1 _) (size32 _ (map_len32 HY.out)) (z32_size _ (map_len32 HY.out)) (bv_all _) ?_)
  change Code.wp _ _ _ _ ((W1.alloc (.cells z32 30)).setRow W1.heap.size ((sha l).map bv).toArray)
  generalize ((W1.alloc (.cells z32 30)).setRow W1.heap.size ((sha l).map bv).toArray) = W2 at Hr2 Hb2 ⊢
  generalize W1.heap.size = g2 at Hr2 ⊢
  have hI := arr_isB Hr2.out (by rw [HY.out]; omega)
  rw [HY.out] at hI
  go_upto_region 6 with (at_builtin; refine wpList_append_bytes rfl (.tmp 16) (.tmp 17) rfl W0.heap.size W0 (.slice none 0 0) 0 [] rfl (World.ownsRow_nil _ _ _ _) (some ⟨g2, 0, none⟩) 32 32 (sha l) rfl hI (by omega) Hb2.out (Nat.le_refl _) ?_; intro v3 W3 HO3 HB3 _)
  have HS3 : Hid (W3.ownsRow W0.heap.size 5 1 v3 (shortK l).length ((shortK l).map bv)) := by
    show World.ownsRow _ _ _ _ _ _ _
    have e := HO3.out
    rw [List.nil_append, Hs.out, Nat.zero_add] at e
    rw [← Hs.out, HY.out]
    rw [← Hs.out] at e
    exact e
  clear HO3 Hs HY hI Hr2 Hb2 hz hlong
  rotate_left
  have hz : (n : Int) ≤ 64 := by omega
  go_enter Try.func13, Try.ntmps13
  go_upto_region 1 with (fail)
  change Code.wp _ _ _ _ (w.alloc (.cells z32 30))
  generalize (w.alloc (.cells z32 30)) = W0 at Hr0 Hb0 HA HB ⊢
  go_upto_region 6 with (at_builtin; refine wpList_append_bytes rfl (.tmp 19) (.tmp 20) rfl W0.heap.size W0 (.slice none 0 0) 0 [] rfl (World.ownsRow_nil _ _ _ _) A n c l rfl HA.out.toIsB (by have := Hl.out; omega) (Below.refl _ _) (Nat.le_refl _) ?_; intro v3 W3 HO3 HB3 _)
  have Hs : Hid (l = shortK l) := by show _ = _; unfold shortK; rw [if_neg (by rw [Hl.out.1]; omega)]
  have HS3 : Hid (W3.ownsRow W0.heap.size 5 1 v3 (shortK l).length ((shortK l).map bv)) := by
    show World.ownsRow _ _ _ _ _ _ _
    have e := HO3.out
    rw [List.nil_append, Nat.zero_add] at e
    rw [← Hs.out, Hl.out.1]
    exact e
  clear HO3 Hs hz hlong
  rotate_left
  all_goals
    have hsh := shortK_len l
    obtain ⟨A3, c3, rfl, _⟩ := own_isBB HS3.out (by omega)
    go_loopw [5] (fun v wr => ∃ (A5 : Option Addr) (m5 c5 k : Nat), v = .slice A5 m5 c5 ∧ Hid (m5 = (shortK l).length + k ∧ m5 ≤ 64) ∧ Hid (wr.ownsRow W0.heap.size 5 1 (.slice A5 m5 c5) m5 ((shortK l ++ List.replicate k 0).map bv)) ∧ Hid (Below W0.heap.size W0 wr)) (fun v _ => 64 - lenV v)
    case atStart => exact ⟨A3, _, c3, 0, rfl, ⟨rfl, hsh⟩, by show World.ownsRow _ _ _ _ _ _ _; simpa using HS3.out, HB3.out⟩
    case round =>
      obtain ⟨A5, m5, c5, k, rfl, hm5, hO, hB⟩ := hrel
      have hmz : (m5 : Int) ≤ 64 := by have := hm5.out; omega
      clear HS3 HB3 hsh
      by_cases hlt : m5 < 64
      · have hlz : (m5 : Int) < 64 := by omega
        go_wp2_with (at_builtin; refine wpList_append_bytes rfl (.tmp 25) (.tmp 26) rfl W0.heap.size W0 (.slice A5 m5 c5) m5 (shortK l ++ List.replicate k 0) rfl (hO.out.alloc _) (some ⟨wr.heap.size, 0, none⟩) 1 1 [0] rfl (one_isB wr 0 0 rfl) (by omega) (hB.out.alloc hB.out.size _) (Nat.le_refl _) ?_; intro v6 W6 HO6 HB6 _)
        obtain ⟨A6, c6, rfl, _⟩ := own_isBB HO6.out (by omega)
        go_wp2
        go_roundw
        case rel => exact ⟨A6, m5 + 1, c6, k + 1, rfl, ⟨by have := hm5.out; omega, by omega⟩, (by show World.ownsRow _ _ _ _ _ _ _; rw [List.replicate_succ', ← List.append_assoc]; exact HO6.out), HB6⟩
        case measure => show 64 - (m5 + 1) < 64 - m5; omega
      · obtain rfl : m5 = 64 := by have := hm5.out; omega
        have HK : Hid (wr.ownsRow W0.heap.size 5 1 (.slice A5 64 c5) 64 ((keyL l).map bv)) := by
          show World.ownsRow _ _ _ _ _ _ _
          rw [← keyL_of l k hm5.out.1.symm]; exact hO.out
        clear hO hlt hmz
        go_wp2_with fail
        obtain ⟨wo, rfl⟩ : ∃ wo : World, wo = wr := ⟨_, rfl⟩
        have hI5 : IsBB wo wo.heap.size A5 64 c5 (keyL l) := by
          obtain ⟨A', c', e, hI⟩ := own_isBB HK.out (by omega)
          cases e
          exact hI
        obtain ⟨ad5, rfl, hc5⟩ := hI5.lies (by rw [hI5.len]; omega)
        have HI5 := hid hI5
        have Hc5 := hid hc5
        have HKl := hid (keyL_len l)
        obtain ⟨K, hKe⟩ : ∃ K, K = keyL l := ⟨_, rfl⟩
        have HKe := hid hKe
        rw [← hKe] at HKl Hc5 HI5
        clear hI5 hc5 HK hKe
        go_loopw [7, 8, 9] (fun vi vo iv wr => ∃ (Ai Ao : Option Addr) (ci co k : Nat), k ≤ 64 ∧ iv = .int .i64 k ∧ vi = .slice Ai k ci ∧ vo = .slice Ao k co ∧ Hid (wr.ownsRow wo.heap.size 5 1 (.slice Ai k ci) k ((maskL 54 (K.take k)).map bv)) ∧ Hid (wr.ownsRow wo.heap.size 5 1 (.slice Ao k co) k ((maskL 92 (K.take k)).map bv)) ∧ Hid (Apart2 (.slice Ai k ci) (.slice Ao k co)) ∧ Hid (Below wo.heap.size wo wr)) (fun _ _ iv _ => 64 - (intOf iv).toNat)
        case atStart => exact ⟨none, none, 0, 0, 0, Nat.zero_le _, rfl, rfl, rfl, World.ownsRow_nil _ _ _ _, World.ownsRow_nil _ _ _ _, apart2_nil _, Below.refl _ _⟩
        case round =>
          obtain ⟨Ai, Ao, ci, co, k2, hk2, rfl, rfl, rfl, hOi, hOo, hAp, hB2⟩ := hrel
          by_cases hlt2 : k2 < 64
          · have hlz : (k2 : Int) < 64 := by omega
            have hkl : k2 < K.length := by rw [HKl.out]; exact hlt2
            have hkz : k2 < 64 := hlt2
            have hc : wr.cell? (ad5.add k2) = some (.int .u8 (K[k2].toNat : Nat)) := (hB2.out.cell (p := ad5.add k2) (by rw [block_of_add]; exact HI5.out.low (by rw [HKl.out]; omega) _ rfl)).trans (Hc5.out k2 hkl)
            have q1 : bits BinOp.xor IntKind.u8 ((K[k2].toNat : Nat) : Int) 54 = ((K[k2].toNat ^^^ 54 : Nat) : Int) := u8_xor_nat K[k2].toNat 54 (UInt8.toNat_lt _) (by omega)
            have q2 : bits BinOp.xor IntKind.u8 ((K[k2].toNat : Nat) : Int) 92 = ((K[k2].toNat ^^^ 92 : Nat) : Int) := u8_xor_nat K[k2].toNat 92 (UInt8.toNat_lt _) (by omega)
            have e1 : Hid (((K[k2].toNat ^^^ 54 : Nat) : Int) = ((K[k2] ^^^ 54).toNat : Int)) := by show _ = _; simp
            have e2 : Hid (((K[k2].toNat ^^^ 92 : Nat) : Int) = ((K[k2] ^^^ 92).toNat : Int)) := by show _ = _; simp
            have m1 := hid (mask_snoc 54 K k2 hkl)
            have m2 := hid (mask_snoc 92 K k2 hkl)
            generalize K[k2] ^^^ 54 = b1 at e1 m1
            generalize K[k2] ^^^ 92 = b2 at e2 m2
            generalize K[k2].toNat ^^^ 54 = x1 at q1 e1
            generalize K[k2].toNat ^^^ 92 = x2 at q2 e2
            generalize K[k2].toNat = y at hc q1 q2
            have hx1 : (x1 : Int) ≤ 255 := by have := UInt8.toNat_lt b1; have := e1.out; omega
            have hx2 : (x2 : Int) ≤ 255 := by have := UInt8.toNat_lt b2; have := e2.out; omega
            go_upto_region 13 with (at_builtin; refine wpList_append_bytes rfl (.tmp 32) (.tmp 38) rfl wo.heap.size wo (.slice Ai k2 ci) k2 (maskL 54 (K.take k2)) rfl (hOi.out.alloc _) (some ⟨wr.heap.size, 0, none⟩) 1 1 [b1] rfl (one_isB wr b1 x1 e1.out) (by omega) (hB2.out.alloc hB2.out.size _) (Nat.le_refl _) ?_; intro v6 W6 HO6 HB6 HK6)
            have hc6 : W6.cell? (ad5.add k2) = some (.int .u8 (y : Nat)) := (HB6.out.cell (p := ad5.add k2) (by rw [block_of_add]; exact HI5.out.low (by rw [HKl.out]; omega) _ rfl)).trans ((hB2.out.cell (p := ad5.add k2) (by rw [block_of_add]; exact HI5.out.low (by rw [HKl.out]; omega) _ rfl)).symm.trans hc)
            obtain ⟨p1, p2⟩ := HK6.out _ _ _ _ (hOo.out.alloc _) hAp.out
            have P1 := hid p1
            have P2 := hid p2.swap
            rw [m1.out] at HO6
            obtain ⟨A6, c6, rfl, _⟩ := own_isBB HO6.out (by omega)
            clear p1 p2 hc q1 HK6 hOi hOo hAp hB2
            go_wp2_with (at_builtin; refine wpList_append_bytes rfl (.tmp 40) (.tmp 46) rfl wo.heap.size wo (.slice Ao k2 co) k2 (maskL 92 (K.take k2)) rfl (P1.out.alloc _) (some ⟨W6.heap.size, 0, none⟩) 1 1 [b2] rfl (one_isB W6 b2 x2 e2.out) (by omega) (HB6.out.alloc HB6.out.size _) (Nat.le_refl _) ?_; intro v7 W7 HO7 HB7 HK7)
            obtain ⟨p1, p2⟩ := HK7.out _ _ _ _ (HO6.out.alloc _) P2.out
            have R1 := hid p1
            have R2 := hid p2.swap
            rw [m2.out] at HO7
            obtain ⟨A7, c7, rfl, _⟩ := own_isBB HO7.out (by omega)
            clear p1 p2 HK7 hc6 q2
            go_wp2
            go_roundw
            case rel => exact ⟨A6, A7, c6, c7, k2 + 1, by omega, by go_num, rfl, rfl, R1, HO7, R2, HB7⟩
            case measure => simp [intOf]; omega
          · obtain rfl : k2 = 64 := by omega
            rw [List.take_of_length_le (by rw [HKl.out]; omega)] at hOi hOo
            rw [show ((64 : Nat) : Int) = 64 from rfl]
            have hQ : Below W0.heap.size W0 wr := hB.out.trans (hB2.out.mono hB.out.size)
            have hIb := hid (HB.out.on hQ)
            clear hQ hlt2
            go_upto_region 15 with (at_builtin; refine wpList_append_bytes rfl (.tmp 48) (.tmp 49) rfl wo.heap.size wo (.slice Ai 64 ci) 64 (maskL 54 K) rfl hOi.out B m d b rfl hIb.out.toIsB (by have := Hl.out; omega) hB2.out (Nat.le_refl _) ?_; intro v6 W6 HO6 HB6 HK6)
            obtain ⟨p1, _⟩ := HK6.out _ _ _ _ hOo.out hAp.out
            obtain ⟨A6, c6, rfl, I6⟩ := own_isBB HO6.out (by have := Hl.out; omega)
            have P1 := hid p1
            have HI6 := hid I6
            clear p1 I6 HK6 hOi hOo hAp hB2 hIb HO6
            go_wp2_with fail
            refine (RefOf_any _ (maskL 54 K ++ b) _ _ _ HI6.out (by have := Hl.out; omega)).mono ?_
            rintro e W7 ⟨rfl, hb7⟩
            have HY := hid (sha_len (maskL 54 K ++ b))
            obtain ⟨x, hx⟩ : ∃ x, x = sha (maskL 54 K ++ b) := ⟨_, rfl⟩
            rw [← hx] at HY
            rw [← hx]
            have Hx := hid hx
            have b8 : Below W7.heap.size W7 ((W7.alloc (.cells z32 30)).setRow W7.heap.size (x.map bv).toArray) := below_setRow ((Below.refl _ _).alloc (Nat.le_refl _) _) (Nat.le_refl _) _
            have r8 : ((W7.alloc (.cells z32 30)).setRow W7.heap.size (x.map bv).toArray).heap[W7.heap.size]? = some (.cells (x.map bv).toArray 30 (0, 0)) := setRow_heap _ _ _ _ _ _ (heap_alloc_new W7 _)
            have q7 : Below wo.heap.size wo W7 := HB6.out.trans (hb7.mono HB6.out.size)
            have HB8 := hid (q7.trans (b8.mono q7.size))
            have HO8 := hid (own_below2 (own_below2 P1.out hb7) b8)
            have HR8 := hid r8
            clear b8 r8 q7 hb7 hx P1 HB6 HI6
            go_upto_region 16 with (refine wpList_store_row (o := ⟨none, .store 30 (.tmp 10) (.tmp 52), _, _, _, _⟩) rfl 30 (.tmp 10) (.tmp 52) rfl W7.heap.size (x.map bv).toArray rfl rfl 30 z32 (heap_alloc_new W7 _) (size32 _ (map_len32 HY.out)) (z32_size _ (map_len32 HY.out)) (bv_all _) ?_)
            change Code.wp _ _ _ _ ((W7.alloc (.cells z32 30)).setRow W7.heap.size (x.map bv).toArray)
            generalize ((W7.alloc (.cells z32 30)).setRow W7.heap.size (x.map bv).toArray) = W8 at HB8 HO8 HR8 ⊢
            generalize W7.heap.size = g8 at HR8 ⊢
            have hI8 := arr_isB HR8.out (by rw [HY.out]; omega)
            rw [HY.out] at hI8
            have HI8 := hid hI8
            clear hI8
            go_upto_region 17 with (at_builtin; refine wpList_append_bytes rfl (.tmp 53) (.tmp 54) rfl wo.heap.size wo (.slice Ao 64 co) 64 (maskL 92 K) rfl HO8.out (some ⟨g8, 0, none⟩) 32 32 x rfl HI8.out (by omega) HB8.out (Nat.le_refl _) ?_; intro v9 W9 HO9 HB9 _)
            obtain ⟨A9, c9, rfl, I9⟩ := own_isBB HO9.out (by omega)
            have HI9 := hid I9
            clear I9 HO9 HI8 HO8 HR8
            go_wp2_with fail
            refine (RefOf_any _ (maskL 92 K ++ x) _ _ _ HI9.out (by omega)).mono ?_
            rintro e W10 ⟨rfl, hb10⟩
            have q9 : Below W0.heap.size W0 W10 := by
              have q := hB.out.trans (HB9.out.mono hB.out.size)
              exact q.trans (hb10.mono q.size)
            have HR10 : Hid (W10.heap[w.heap.size]? = some (.cells z32 30 (0, 0))) := (q9.block _ (lt_of_heap Hr0.out)).trans Hr0.out
            have HQ10 : Hid (Below w.heap.size w W10) := Hb0.out.trans (q9.mono Hb0.out.size)
            have HZ := hid (sha_len (maskL 92 K ++ x))
            clear q9 hb10
            go_wp2_with (refine wpList_store_row (o := ⟨none, .store 30 (.tmp 4) (.tmp 57), _, _, _, _⟩) rfl 30 (.tmp 4) (.tmp 57) rfl w.heap.size ((sha (maskL 92 K ++ x)).map bv).toArray rfl rfl 30 z32 HR10.out (size32 _ (map_len32 HZ.out)) (z32_size _ (map_len32 HZ.out)) (bv_all _) ?_)
            refine bodyPost_ret (results_cell_row (by kernel_rfl : Try.f13.results = #[.cell 4 30]) _ _ w.heap.size 30 ((sha (maskL 92 K ++ x)).map bv).toArray (0, 0) _ rfl (setRow_heap _ _ _ _ _ _ HR10.out) Try.underlying30 rfl (size32 _ (map_len32 HZ.out))) rfl ⟨?_, ?_⟩
            · rw [Hx.out, HKe.out]; rfl
            · exact below_setRow HQ10.out (Nat.le_refl _) _
end Go.Proofs.Ytnifhgcdpgokhaa
