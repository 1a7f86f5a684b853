/-
  The walk of the law CtrPlaces.
-/
import Derived.Test.YtlgabihjfjlhkaaAll
import Derived.Test.YtlgabihjfjlhkaaKey
import Derived.Test.YtlgabihjfjlhkaaArr
import Derived.Test.YtlgabihjfjlhkaaSame
import Derived.Test.YtlgabihjfjlhkaaPick
import Derived.Deep.RegionWith
import Derived.StillTailTactics
namespace Go.Proofs.Ytlgabihjfjlhkaa
open Go.RowKit

theorem slice_from {w : World} {A : Option Addr} {n c : Nat} {l : List UInt8} (h : IsBB w w.heap.size A n c l) (k : Nat) (hk : k ≤ n) :
    ∃ A', (∀ w' : World, (Instr.slice 26 (.slice A n c) (some (.int .i64 (k : Nat))) none none).run Try.prog w' = .ok (.slice A' (n - k) (c - k)) w') ∧ IsBB w w.heap.size A' (n - k) (c - k) (l.drop k) := by
  have hc := h.cap
  have hlen := h.len
  refine ⟨if c = k then A else A.map (·.add (k * 1)), fun w' => ?_, ⟨by rw [List.length_drop, hlen], by omega, by have := h.max; omega, by have := h.small; omega, fun hp => ?_⟩, fun hp ad' e => ?_⟩
  · have hs : (sizeOf (Try.prog.elem 26)).run Try.prog w' = .ok 1 w' := by kernel_rfl
    rw [run_slice_l (ht := by kernel_rfl) (h0 := by omega) (h1 := by omega), hs]
    simp [Result.andThen, sliced]
  · rw [List.length_drop, hlen] at hp
    obtain ⟨ad, e, hr⟩ := h.lies (by omega)
    subst e
    rw [if_neg (by omega)]
    refine ⟨_, rfl, fun j hj => ?_⟩
    rw [List.length_drop] at hj
    rw [Nat.mul_one, add_of_add, hr (k + j) (by omega), List.getElem_drop]
  · rw [List.length_drop, hlen] at hp
    obtain ⟨ad, e2, hr⟩ := h.lies (by omega)
    subst e2
    rw [if_neg (by omega)] at e
    cases e
    rw [block_of_add]
    exact h.low (by omega) ad rfl
/-- An operation whose guard lets it go. -/
theorem wpList_wanted {P : Program} {ops : Array Oper} {rest : List Oper} {o : Oper} {a : Act} {w : World} {Q : Exit → Act → World → Prop} (hw : Region.wanted o (yielded ops a.tmps) = true)
    (h : ∀ K : Act → World → Prop, (∀ a w, wpList P ops Q rest a w → K a w) → o.wp P a w K Q) : wpList P ops Q (o :: rest) a w :=
  wpList_step fun K hK => by rw [if_pos hw]; exact h K hK
theorem wpList_append_w {w : World} {ops : Array Oper} {rest : List Oper} {o : Oper} {a : Act} {Q : Exit → Act → World → Prop} (hw : Region.wanted o (yielded ops a.tmps) = true) (s x : Operand)
    (ho : o.op = .call { callee := .builtin .append, args := #[s, x], argTypes := #[26, 26] })
    (base : Nat) (w0 : World) (v : Value) (n : Nat) (l : List UInt8) (hs : a.eval s = v) (hown : w.ownsRow base 5 1 v n (l.map bv))
    (ad : Addr) (m c : Nat) (l2 : List UInt8) (hx : a.eval x = .slice (some ad) m c) (hB : IsB w (some ad) m c l2) (h48 : n + m ≤ 140737488355328) (hb : Below base w0 w) (hbase : base ≤ w0.heap.size)
    (h : ∀ v' w', Hid (w'.ownsRow base 5 1 v' (n + m) ((l ++ l2).map bv)) → Hid (Below base w0 w') → Hid (Keeps w w' v v') → wpList Try.prog ops Q rest (a.put o.dst v') w') : wpList Try.prog ops Q (o :: rest) a w := by
  have hc : ∀ j u, (l2.map bv)[j]? = some u → w.cell? (ad.add j) = some u := by
    intro j u hu
    have hj : j < l2.length := by have e := (List.getElem?_eq_some_iff.1 hu).1; simpa using e
    obtain ⟨ad', e, hc⟩ := hB.lies (by omega)
    cases e
    rw [map_bv_getElem? l2 j hj] at hu
    cases hu
    exact hc j hj
  obtain ⟨v', w', hr, h2, h3, h4⟩ := run_append_fresh (ty := o.type) hown ad m c (l2.map bv) (by rw [List.length_map, hB.len]) hc (bv_one l2) h48 (Nat.le_trans hbase hb.size)
  refine wpList_wanted hw fun K hK => ?_
  unfold Oper.wp execOp
  simp only [ho, resolve, invoke, builtin, Sem.run_bind, Sem.run_pure, Result.andThen_ok, List.map_toArray, List.map_cons, List.map_nil, hs, hx, hr]
  exact hK _ _ (h v' w' (by show World.ownsRow _ _ _ _ _ _ _; rw [List.map_append]; exact h2) (hb.grown h3 (Nat.le_trans hbase hb.size) (fun k hk => (hown.lt k hk).1)) h4)
set_option maxRecDepth 10000 in
set_option maxHeartbeats 4000000 in
theorem places_walk (k non : List UInt8) (hk : k.length = 32) (hn : non.length = 8) (B : Option Addr) (M d : Nat) (zB : List Int) (at' cut' : Int) (w : World) (hB : IsRow w B M d zB) :
    Calls Try.prog 5 #[.agg (k.map bv).toArray, .agg (non.map bv).toArray, .int .i64 at', .slice B M d, .int .i64 cut'] w fun e w' => e = .returned (.bool true) ∧ Below w.heap.size w w' := by
  obtain ⟨l, hl⟩ := isBB_cut hB 500 (by omega)
  have hcB := row_cap hB
  unfold maxLen at hcB
  obtain ⟨q, hq⟩ : ∃ q, q = min M 500 := ⟨_, rfl⟩
  have hq1 : (if (500 : Int) < (M : Int) then (500 : Int) else (M : Int)) = (q : Int) := by split <;> omega
  have hqd : (q : Int) ≤ (d : Int) := by omega
  have hq500 : (q : Int) ≤ 500 := by omega
  rw [← hq] at hl
  obtain ⟨W0, hW0⟩ : ∃ W, W = (w.alloc (.cells (k.map bv).toArray 39)).alloc (.cells (non.map bv).toArray 42) := ⟨_, rfl⟩
  have z1 : (w.alloc (.cells (k.map bv).toArray 39)).heap.size = w.heap.size + 1 := by simp
  have hB0 : Below w.heap.size w W0 := by
    rw [hW0]
    exact ((Below.refl w.heap.size w).alloc (Nat.le_refl _) _).alloc (by rw [z1]; omega) _
  have hg1 : W0.heap[w.heap.size]? = some (.cells (k.map bv).toArray 39 (0, 0)) := by
    rw [hW0, heap_alloc_old _ _ (by rw [z1]; omega)]
    exact heap_alloc_new w _
  have hg2 : W0.heap[w.heap.size + 1]? = some (.cells (non.map bv).toArray 42 (0, 0)) := by
    rw [hW0, ← z1]
    exact heap_alloc_new _ _
  have P0 := hid (arr_isBB hg1 32 hk (by omega))
  have X0 := hid (arr_isBB hg2 8 hn (by omega))
  have Y0 := hid (hl.on hB0)
  have B0 := hid hB0
  have Hll := hid hl.len
  obtain ⟨g1, hg1'⟩ : ∃ g, g = w.heap.size := ⟨_, rfl⟩
  obtain ⟨g2, hg2'⟩ : ∃ g, g = w.heap.size + 1 := ⟨_, rfl⟩
  rw [← hg1'] at P0
  rw [← hg2'] at X0
  have hkk : ∀ j, j < 32 → fnOf k j < 256 := fun j _ => fnOf_lt k j
  obtain ⟨K, hK⟩ : ∃ K, K = fnOf k := ⟨_, rfl⟩
  have CK := hid (fun W g (h : IsBB W W.heap.size (some ⟨g, 0, none⟩) 32 32 k) => (show Calls Try.prog 6 #[.slice (some ⟨g, 0, none⟩) 32 32] W fun e w' => ∃ gc, e = .returned (.tuple #[.pointer (some ⟨gc, 0, none⟩), .int .i64 0]) ∧ Ci w' gc K ∧ Below W.heap.size W w' ∧ W.heap.size ≤ gc by rw [hK]; exact New_any _ 32 k W h))
  rw [← hK] at hkk
  clear hK hB0 hg1 hg2 z1 hl hB hcB hq
  go_enter Try.func5, Try.ntmps5
  go_upto_region 2 with fail
  rw [← hW0, ← hg2', ← hg1']
  clear hW0 hg1' hg2'
  go_upto_region 3 with (go_at_call 16; refine (Pick_any at' 1099511626776 _ (by omega) (by omega)).mono ?_; rintro e w2 ⟨p, rfl, hp, rfl⟩)
  go_upto_region 4 with (go_at_call 16; refine (Pick_any cut' ((q : Int) + 1) _ (by omega) (by omega)).mono ?_; rintro e w3 ⟨s, rfl, hs, rfl⟩)
  have hsz : (s : Int) ≤ (q : Int) := by omega
  have hpz : (p : Int) ≤ 1099511626775 := by omega
  clear hs hp
  go_upto_region 7 with (go_at_call 6; refine (CK.out W0 g1 P0.out).mono ?_; rintro e W2 ⟨gc, rfl, hC2, hB2, _⟩; have C2 := hid hC2; have X2 := hid (X0.out.on hB2); have Y2 := hid (Y0.out.on hB2); have B2 := hid (bel_trans B0.out hB2); clear hC2 hB2 P0 X0 Y0 B0 CK)
  go_upto_region 8 with (go_at_call 10; refine (Turn_any gc K _ B 8 d non l p q W2 C2.out hkk X2.out Y2.out (by omega) (by omega)).mono ?_; rintro e W3 ⟨g3, rfl, hN⟩; have R3 := hid hN.isBB; have C3 := hid (C2.out.onB hN.bel C2.out.lt); have X3 := hid (X2.out.on hN.bel); have Y3 := hid (Y2.out.on hN.bel); have B3 := hid (bel_trans B2.out hN.bel); clear hN C2 X2 Y2 B2)
  have hd3 : Below W3.heap.size W3 W3.drew := (Below.refl _ _).drew
  have R4 := hid (R3.out.on hd3)
  have C4 := hid (C3.out.onB hd3 C3.out.lt)
  have X4 := hid (X3.out.on hd3)
  have Y4 := hid (Y3.out.on hd3)
  have B4 := hid (bel_trans B3.out hd3)
  have hsd : (s : Int) ≤ (d : Int) := by omega
  clear hd3
  go_wp2_with fail
  go_region_with (go_at_call 10; go_loud (refine (Turn_any gc K _ B 8 d non (l.take s) p s W3.drew C4.out hkk X4.out (take_isB Y4.out (by omega)) (by omega) (by omega)).mono ?_); rintro e W5 ⟨g5, rfl, hN⟩; have O5 := hid hN; clear hN C3 X3 Y3 B3 R3)
  have hd5 : Below W5.heap.size W5 W5.drew := (Below.refl _ _).drew
  have hb5 := bel_trans O5.out.bel hd5
  have R6 := hid (R4.out.on hb5)
  have C6 := hid (C4.out.onB hb5 C4.out.lt)
  have X6 := hid (X4.out.on hb5)
  have Y6 := hid (Y4.out.on hb5)
  have B6 := hid (bel_trans B4.out hb5)
  have O6 := hid (own_below O5.out.own hd5)
  have G5 := hid O5.out.row.1
  obtain ⟨t, ht⟩ : ∃ t : Nat, t = p + s := ⟨_, rfl⟩
  obtain ⟨r, hr⟩ : ∃ r : Nat, r = q - s := ⟨_, rfl⟩
  have htz : IntKind.i64.wrap ((p : Int) + (s : Int)) = (t : Int) := by rw [IntWalk.i64_in _ (by omega)]; omega
  have htz2 : (p : Int) + (s : Int) = (t : Int) := by omega
  have htz3 : IntKind.i64.wrap (t : Int) = (t : Int) := IntWalk.i64_in _ (by omega)
  obtain ⟨A7, heq, hI7⟩ := slice_from Y6.out s (by omega)
  rw [← hr] at heq hI7
  have I7 := hid hI7
  have Ht := hid ht
  have Hr := hid hr
  have hrz : (r : Int) ≤ 500 := by omega
  have htm : (t : Int) ≤ 1099511627776 := by omega
  have Bb5 := hid hb5
  clear hd5 hb5 hI7 O5 ht hr
  go_wp2_with fail
  go_simp
  go_region_with (go_at_call 10; (try rw [htz3]); go_loud (refine (Turn_any gc K _ A7 8 (d - s) non (l.drop s) t r W5.drew C6.out hkk X6.out I7.out (by omega) (by omega)).mono ?_); rintro e W7 ⟨g7, rfl, hN⟩; have O7 := hid hN; clear hN)
  go_upto_region 10 with fail
  go_simp
  have Bb8 := hid (bel_trans Bb5.out O7.out.bel)
  have O8 := hid (own_below O6.out O7.out.bel)
  have T8 := hid O7.out.isBB
  clear O6 O7 Bb5 R6 C6 X6 Y6 B6 I7 heq
  generalize hWd : W3.drew = Wd at R4 C4 X4 Y4 B4 Bb8 O8
  clear hWd
  have HP : Hid (turnL K non p (l.take s) ++ turnL K non t (l.drop s) = turnL K non p l) := by
    show _ = _
    rw [Ht.out]; exact turnL_parts K non p s l
  go_upto_region 12 with (first
    | (at_builtin; go_loud (refine wpList_append_w rfl (.tmp 86) (.tmp 87) rfl Wd.heap.size Wd _ s _ rfl O8.out ⟨g7, 0, none⟩ r r _ rfl T8.out.toIsB (by omega) Bb8.out (Nat.le_refl _) ?_); intro v9 W9 hv9 hb9 _; rw [HP.out, show s + r = q by (have := Hr.out; omega)] at hv9; obtain ⟨A9, c9, he9, hI9⟩ := own_isBB hv9.out (by omega); subst he9; have Z9 := hid hI9; have Bb9 := hid hb9.out; clear hv9 hb9 hI9 O8 T8 Bb8)
    | (go_at_call 12; refine (SameBytes_true A9 (some ⟨g3, 0, none⟩) (turnL K non p l) q c9 q W9 Z9.out.toIsB (R4.out.on Bb9.out).toIsB).mono ?_; rintro e w' ⟨rfl, k10, rfl⟩))
  have hb10 : Below Wd.heap.size Wd (W9.drewN k10) := below_drewN Bb9.out k10
  have R10 := hid (R4.out.on hb10)
  have C10 := hid (C4.out.onB hb10 C4.out.lt)
  have X10 := hid (X4.out.on hb10)
  have Y10 := hid (Y4.out.on hb10)
  have B10 := hid (bel_trans B4.out hb10)
  clear hb10 R4 C4 X4 Y4 B4 Z9 Bb9 HP G5
  generalize W9.drewN k10 = W10 at R10 C10 X10 Y10 B10 ⊢
  obtain ⟨Wl, hWe⟩ : ∃ Wl, Wl = turnL K non p l := ⟨_, rfl⟩
  have HTT : Hid (turnL K non p Wl = l) := by show _ = _; rw [hWe]; exact turnL_turnL K non p l
  have HG : Hid (∀ j (h1 : j < Wl.length) (h2 : j < l.length) (h3 : j < (stL K non p q).length), Wl[j] = l[j] ^^^ (stL K non p q)[j]) := by
    intro j h1 h2 h3
    simp only [hWe]
    rw [turnL_get, stL_get]
  rw [← hWe] at R10
  clear hWe
  have HD := hid (stL_drop K non p q s (by omega))
  have HSl := hid (stL_len K non p q)
  go_upto_region 13 with (go_at_call 10; refine (Turn_any gc K _ _ 8 q non Wl p q W10 C10.out hkk X10.out R10.out (by omega) (by omega)).mono ?_; rintro e W11 ⟨g11, rfl, hN⟩; rw [HTT.out] at hN; have K11 := hid hN.isBB; have R11 := hid (R10.out.on hN.bel); have C11 := hid (C10.out.onB hN.bel C10.out.lt); have X11 := hid (X10.out.on hN.bel); have Y11 := hid (Y10.out.on hN.bel); have B11 := hid (bel_trans B10.out hN.bel); clear hN R10 C10 X10 Y10 B10)
  go_upto_region 14 with (go_at_call 8; refine (Stream_any gc K _ 8 non p q W11 C11.out hkk X11.out (by omega) (by omega)).mono ?_; rintro e W12 ⟨g12, rfl, hN⟩; have S12 := hid hN.isBB; have K12 := hid (K11.out.on hN.bel); have R12 := hid (R11.out.on hN.bel); have C12 := hid (C11.out.onB hN.bel C11.out.lt); have X12 := hid (X11.out.on hN.bel); have Y12 := hid (Y11.out.on hN.bel); have B12 := hid (bel_trans B11.out hN.bel); clear hN K11 R11 C11 X11 Y11 B11)
  have hrz2 : (q : Int) - (s : Int) = (r : Int) := by have := Hr.out; omega
  have hrz3 : IntKind.i64.wrap (r : Int) = (r : Int) := IntWalk.i64_in _ (by omega)
  go_upto_region 15 with (go_at_call 8; (try rw [htz3]); go_loud (refine (Stream_any gc K _ 8 non t r W12 C12.out hkk X12.out (by omega) (by omega)).mono ?_); rintro e W13 ⟨g13, rfl, hN⟩; have P13 := hid hN.isBB; have S13 := hid (S12.out.on hN.bel); have K13 := hid (K12.out.on hN.bel); have R13 := hid (R12.out.on hN.bel); have Y13 := hid (Y12.out.on hN.bel); have B13 := hid (bel_trans B12.out hN.bel); clear hN S12 K12 R12 C12 X12 Y12 B12)
  obtain ⟨A14, heq, hI14⟩ := slice_from S13.out s (by omega)
  rw [HD.out, ← Ht.out, ← Hr.out] at hI14
  rw [← Hr.out] at heq
  have I14 := hid hI14.toIsB
  have P14 := hid P13.out.toIsB
  clear hI14 P13
  go_wp2_with (first
    | (go_at_call 12; with_reducible refine (SameBytes_true (some ⟨g11, 0, none⟩) B l q q d W13 K13.out.toIsB Y13.out.toIsB).mono ?_; rintro e w' ⟨rfl, k14, rfl⟩; have I15 := hid (I14.out.drewN k14); have P15 := hid (P14.out.drewN k14))
    | (go_at_call 12; with_reducible refine (SameBytes_true A14 (some ⟨g13, 0, none⟩) (stL K non t r) r r r _ I15.out P15.out).mono ?_; rintro e w' ⟨rfl, k15, rfl⟩))
  have hb16 : Below W13.heap.size W13 (W13.drewN (k14 + k15)) := below_drewN (Below.refl _ W13) _
  have R16 := hid (R13.out.on hb16)
  have S16 := hid (S13.out.on hb16)
  have Y16 := hid (Y13.out.on hb16)
  have B16 := hid (bel_trans B13.out hb16)
  clear hb16 K13 S13 R13 Y13 B13 I14 P14 I15 P15 heq HD htz htz2 htz3 hrz2 hrz3 HTT
  generalize W13.drewN (k14 + k15) = W16 at R16 S16 Y16 B16 ⊢
  have hWl := R16.out.len
  have HWl := hid hWl
  clear hWl
  go_loopw [25] (fun vi wr => ∃ (j m : Nat), j ≤ q ∧ vi = .int .i64 j ∧ wr = W16.drewN m) (fun vi _ => q - (intOf vi).toNat)
  case atStart => exact ⟨0, 0, Nat.zero_le _, rfl, rfl⟩
  case round =>
    obtain ⟨j, m, hj, rfl, rfl⟩ := hrel
    by_cases hlt : j < q
    · have hlz : (j : Int) < (q : Int) := by omega
      have j1 : j < Wl.length := by rw [HWl.out]; exact hlt
      have j2 : j < l.length := by rw [Hll.out]; exact hlt
      have j3 : j < (stL K non p q).length := by rw [HSl.out]; exact hlt
      obtain ⟨wy, hwy⟩ : ∃ W, W = W16.drewN m := ⟨_, rfl⟩
      obtain ⟨a9, e9, h9⟩ := Y16.out.lies (by omega)
      have d7 : wy.cell? ⟨g3, j, none⟩ = some (.int .u8 (Wl[j].toNat : Int)) := by rw [hwy]; exact cell_of R16.out j j1
      have d8 : wy.cell? ⟨g12, j, none⟩ = some (.int .u8 ((stL K non p q)[j].toNat : Int)) := by rw [hwy]; exact cell_of S16.out j j3
      have d9 : wy.cell? (a9.add j) = some (.int .u8 (l[j].toNat : Int)) := by rw [hwy]; exact h9 j j2
      have hx := u8_xor_u l[j] (stL K non p q)[j]
      rw [HG.out j j1 j2 j3] at d7
      generalize l[j] ^^^ (stL K non p q)[j] = x at d7 hx
      generalize (stL K non p q)[j] = y at d8 hx
      generalize l[j] = z at d9 hx
      rw [← hwy, e9]
      have Hwy := hid hwy
      clear hwy h9 j1 j2 j3 e9
      go_wp2_with fail
      go_quiet (fail)
      go_wp2_with fail
      go_roundw
      case rel => exact ⟨j + 1, _, by omega, by go_num, by rw [Hwy.out, World.drewN_drewN]⟩
      case measure => simp [intOf]; omega
    · obtain rfl : j = q := by omega
      have Ba := hid (bel_trans B16.out (below_drewN (Below.refl _ W16) m))
      go_wp2_with (go_at_call 13; refine (awake_any _).mono ?_; rintro e W20 ⟨rfl, hb20⟩)
      go_ret
      exact ⟨rfl, bel_trans Ba.out hb20⟩
end Go.Proofs.Ytlgabihjfjlhkaa
