/-
  The walk of the law AesBack.
-/
import Derived.Test.YtgflkoabjibipaaAwake
import Derived.Test.YtgflkoabjibipaaArr
import Derived.Deep.Cut
import Derived.BigQuiet
namespace Go.Proofs.Ytgflkoabjibipaa
open Go.RowKit
open Go.BigFrame

theorem dec_encL (K : Nat → Nat) (l : List UInt8) (hk : ∀ j, j < 32 → K j < 256) (hl : l.length = 16) : decL K (encL K l) = l := by
  have hkl : ∀ r, Low (keyF K r) := Low.key K hk
  unfold decL encL
  rw [outL_same ((Same.dec (fnOf_out (Low.enc (fnOf_low l) hkl))).trans (dec_enc (fnOf_low l) hkl)), out_fnOf l hl]
theorem enc_decL (K : Nat → Nat) (l : List UInt8) (hk : ∀ j, j < 32 → K j < 256) (hl : l.length = 16) : encL K (decL K l) = l := by
  have hkl : ∀ r, Low (keyF K r) := Low.key K hk
  unfold decL encL
  rw [outL_same ((Same.enc (fnOf_out (Low.dec (fnOf_low l) hkl))).trans (enc_dec (fnOf_low l) hkl)), out_fnOf l hl]
theorem enc_eq (K : Nat → Nat) (a b : List UInt8) (hk : ∀ j, j < 32 → K j < 256) (ha : a.length = 16) (hb : b.length = 16) : (encL K a == encL K b) = (a == b) := by
  rw [Bool.eq_iff_iff, beq_iff_eq, beq_iff_eq]
  constructor
  · intro e
    rw [← dec_encL K a hk ha, e, dec_encL K b hk hb]
  · rintro rfl; rfl
theorem loadV16 {w : World} {g : Nat} {l : List UInt8} (h : w.heap[g]? = some (.cells (l.map bv).toArray 43 (0, 0))) (hl : l.length = 16) : (loadVar 43 ⟨g, 0, none⟩).run Try.prog w = .ok (.agg (l.map bv).toArray) w := by
  refine run_loadVar_mid w g 0 43 (l.map bv) _ (fun j v hv => ?_) Try.underlying43 rfl ?_
  · rw [Nat.zero_add, row_cell h j, List.getElem?_toArray, hv]
  · rw [List.length_map, hl]; kernel_rfl
theorem quiet_load {P : Program} {C : World → Prop} {o : Oper} {a : Act} {K : Act → Prop} (ty : TypeId) (x : Operand) (ad : Addr) (ho : o.op = .load ty x) (hx : a.eval x = .pointer (some ad)) (V : Value)
    (hrun : ∀ w, C w → (loadVar ty ad).run P w = .ok V w) (hk : K (a.put o.dst V)) : o.quiet P a C K :=
  ⟨_, fun w hC => by
    unfold Oper.quietAt execOp
    simp only [ho, hx, Instr.loadAt, Instr.sureAddr, Sem.run_bind, Sem.run_pure, Result.andThen_ok, hrun w hC]
    exact ⟨rfl, rfl⟩, hk⟩
theorem load16 {w : World} {g : Nat} {l : List UInt8} (h : w.heap[g]? = some (.cells (l.map bv).toArray 43 (0, 0))) (hl : l.length = 16) : (Instr.loadAt 43 (.pointer (some ⟨g, 0, none⟩))).run Try.prog w = .ok (.agg (l.map bv).toArray) w := by
  refine run_loadAt_mid w g 0 43 (l.map bv) _ (fun j v hv => ?_) Try.underlying43 rfl ?_
  · rw [Nat.zero_add, row_cell h j, List.getElem?_toArray, hv]
  · rw [List.length_map, hl]; kernel_rfl
set_option maxRecDepth 10000 in
set_option maxHeartbeats 4000000 in
theorem back_walk (k a b : List UInt8) (hk : k.length = 32) (ha : a.length = 16) (hb : b.length = 16) (w : World) :
    Calls Try.prog 5 #[.agg (k.map bv).toArray, .agg (a.map bv).toArray, .agg (b.map bv).toArray] w fun e w' => e = .returned (.bool true) ∧ Below w.heap.size w w' := by
  obtain ⟨W0, hW0⟩ : ∃ W, W = ((w.alloc (.cells (k.map bv).toArray 42)).alloc (.cells (a.map bv).toArray 43)).alloc (.cells (b.map bv).toArray 43) := ⟨_, rfl⟩
  have z1 : (w.alloc (.cells (k.map bv).toArray 42)).heap.size = w.heap.size + 1 := by simp
  have z2 : ((w.alloc (.cells (k.map bv).toArray 42)).alloc (.cells (a.map bv).toArray 43)).heap.size = w.heap.size + 1 + 1 := by simp
  have hB0 : Below w.heap.size w W0 := by
    rw [hW0]
    exact (((Below.refl w.heap.size w).alloc (Nat.le_refl _) _).alloc (by rw [z1]; omega) _).alloc (by rw [z2]; omega) _
  have hg1 : W0.heap[w.heap.size]? = some (.cells (k.map bv).toArray 42 (0, 0)) := by
    rw [hW0, heap_alloc_old _ _ (by rw [z2]; omega), heap_alloc_old _ _ (by rw [z1]; omega)]
    exact heap_alloc_new w _
  have hg2 : W0.heap[w.heap.size + 1]? = some (.cells (a.map bv).toArray 43 (0, 0)) := by
    rw [hW0, heap_alloc_old _ _ (by rw [z2]; omega), ← z1]
    exact heap_alloc_new _ _
  have hg3 : W0.heap[w.heap.size + 1 + 1]? = some (.cells (b.map bv).toArray 43 (0, 0)) := by
    rw [hW0, ← z2]
    exact heap_alloc_new _ _
  have HB0 := hid hB0
  have HG2 := hid hg2
  have HG3 := hid hg3
  have K0 := hid (arr_isBB hg1 32 hk (by omega))
  have A0 := hid (arr_isBB hg2 16 ha (by omega))
  have B0 := hid (arr_isBB hg3 16 hb (by omega))
  have hkk : ∀ j, j < 32 → fnOf k j < 256 := fun j _ => fnOf_lt k j
  have HDE := hid (dec_encL (fnOf k) a hkk ha)
  have HED := hid (enc_decL (fnOf k) a hkk ha)
  have HEQ := hid (enc_eq (fnOf k) a b hkk ha hb)
  have Hab := hid (And.intro ha hb)
  clear hB0 hg1 hg2 hg3 z1 z2 ha hb hk
  have HNew := hid (New_any (some ⟨w.heap.size, 0, none⟩) 32 k W0 K0.out)
  generalize fnOf k = K at hkk HDE HED HEQ HNew
  go_enter Try.func5, Try.ntmps5
  go_upto_region 1 with fail
  rw [← hW0]
  clear hW0
  obtain ⟨gk, hgk⟩ : ∃ g, g = w.heap.size := ⟨_, rfl⟩
  obtain ⟨ga, hga⟩ : ∃ g, g = w.heap.size + 1 := ⟨_, rfl⟩
  obtain ⟨gb, hgb⟩ : ∃ g, g = w.heap.size + 1 + 1 := ⟨_, rfl⟩
  rw [← hgb] at HG3 B0 ⊢
  rw [← hga] at HG2 A0 ⊢
  rw [← hgk] at HNew
  rw [← hgk]
  clear hgk hga hgb K0
  have HLA := hid (lt_of_heap HG2.out)
  have HLB := hid (lt_of_heap HG3.out)
  go_upto_region 4 with (go_at_call 7; refine HNew.out.mono ?_; rintro e W1 ⟨gc, rfl, hC1, hB1, _⟩; have C1 := hid hC1; have A1 := hid (A0.out.on hB1); have B1 := hid (B0.out.on hB1); have G2 := hid ((hB1.block ga HLA.out).trans HG2.out); have G3 := hid ((hB1.block gb HLB.out).trans HG3.out); have HB1 := hid (bel_trans HB0.out hB1); clear hC1 hB1 HNew A0 B0 HG2 HG3 HLA HLB HB0)
  have E1 := hid (encrypt_any gc K _ 16 a W1 C1.out hkk A1.out)
  go_upto_region 5 with (go_at_call 9; refine E1.out.mono ?_; rintro e W2 ⟨gx, rfl, hX2, hB2, _⟩; have X2 := hid hX2; have C2 := hid (C1.out.onB hB2 C1.out.lt); have A2 := hid (A1.out.on hB2); have B2 := hid (B1.out.on hB2); have K2 := hid ((hB2.block ga (lt_of_heap G2.out)).trans G2.out); have K3 := hid ((hB2.block gb (lt_of_heap G3.out)).trans G3.out); have HB2 := hid (bel_trans HB1.out hB2); clear hX2 hB2 E1 C1 A1 B1 G2 G3 HB1)
  have E2 := hid (encrypt_any gc K _ 16 b W2 C2.out hkk B2.out)
  go_upto_region 6 with (go_at_call 9; refine E2.out.mono ?_; rintro e W3 ⟨gy, rfl, hY3, hB3, _⟩; have Y3 := hid hY3; have X3 := hid (X2.out.on hB3); have C3 := hid (C2.out.onB hB3 C2.out.lt); have A3 := hid (A2.out.on hB3); have L2 := hid ((hB3.block ga (lt_of_heap K2.out)).trans K2.out); have L3 := hid ((hB3.block gb (lt_of_heap K3.out)).trans K3.out); have HB3 := hid (bel_trans HB2.out hB3); clear hY3 hB3 E2 C2 A2 B2 X2 K2 K3 HB2)
  have E3 := hid (decrypt_any gc K _ 16 a W3 C3.out hkk A3.out)
  go_upto_region 7 with (go_at_call 10; refine E3.out.mono ?_; rintro e W4 ⟨gu, rfl, hU4, hB4, _⟩; have U4 := hid hU4; have Y4 := hid (Y3.out.on hB4); have X4 := hid (X3.out.on hB4); have C4 := hid (C3.out.onB hB4 C3.out.lt); have A4 := hid (A3.out.on hB4); have M2 := hid ((hB4.block ga (lt_of_heap L2.out)).trans L2.out); have M3 := hid ((hB4.block gb (lt_of_heap L3.out)).trans L3.out); have HB4 := hid (bel_trans HB3.out hB4); clear hU4 hB4 E3 C3 A3 X3 Y3 L2 L3 HB3)
  have SB : Hid (∀ n, Calls Try.prog 21 #[.slice (some ⟨gx, 0, none⟩) 16 16, .slice (some ⟨gy, 0, none⟩) 16 16] (W4.drewN n) fun e w'' => e = .returned (.bool (a == b)) ∧ ∃ m, w'' = W4.drewN m) := by
    intro n
    refine (SameBytes_any _ _ (encL K a) (encL K b) 16 16 16 (W4.drewN n) (X4.out.toIsB.drewN n) (Y4.out.toIsB.drewN n)).mono fun e w'' h => ⟨by rw [h.1, HEQ.out], ?_⟩
    obtain ⟨m, hm⟩ := h.2
    exact ⟨n + m, by rw [hm, World.drewN_drewN]⟩
  have l1 : ∀ n, (loadVar 43 ⟨ga, 0, none⟩).run Try.prog (W4.drewN n) = .ok (.agg (a.map bv).toArray) (W4.drewN n) := fun n => loadV16 (w := W4.drewN n) M2.out Hab.out.1
  have l2 : ∀ n, (loadVar 43 ⟨gb, 0, none⟩).run Try.prog (W4.drewN n) = .ok (.agg (b.map bv).toArray) (W4.drewN n) := fun n => loadV16 (w := W4.drewN n) M3.out Hab.out.2
  have l3 : ∀ w, (Op.equalIn 10000 43 (.agg (a.map bv).toArray) (.agg (b.map bv).toArray)).run Try.prog w = .ok (a == b) w := fun w => eq_arr a b Hab.out.1 Hab.out.2 w
  obtain ⟨XA, hXA⟩ : ∃ X, X = (a.map bv).toArray := ⟨_, rfl⟩
  obtain ⟨XB, hXB⟩ : ∃ X, X = (b.map bv).toArray := ⟨_, rfl⟩
  rw [← hXA] at l1 l3 ⊢
  rw [← hXB] at l2 l3 ⊢
  generalize (a == b) = q at SB l3
  clear HEQ hXA hXB
  have HM := hid (And.intro M2.out M3.out)
  clear M2 M3
  cases q
  all_goals
    go_wp2_with fail
    refine wp_region_quiet_lit (by kernel_rfl) (by kernel_rfl) ?_
    repeat (go_big_quiet_step ((go_at_call 21; with_reducible exact SB.out _)))
    go_big_quiet_want
    rename_i KK hKK
    refine quiet_load 43 (.tmp 4) ⟨ga, 0, none⟩ rfl rfl (.agg XA) (fun w hC => by obtain ⟨n, rfl⟩ := hC; exact l1 n) ?_
    refine hKK _ ?_
    clear hKK
    clear KK
    go_simp
    go_big_quiet_want
    rename_i KK hKK
    refine quiet_load 43 (.tmp 5) ⟨gb, 0, none⟩ rfl rfl (.agg XB) (fun w hC => by obtain ⟨n, rfl⟩ := hC; exact l2 n) ?_
    refine hKK _ ?_
    clear hKK
    clear KK
    go_simp
    repeat (go_big_quiet_step (fail))
    refine wpQuiet_nil ?_
    intro nq
    have U5 := hid ((U4.out.toIsB.drewN nq))
    have hxb : Below W4.heap.size W4 (W4.drewN nq) := below_drewN (Below.refl _ W4) nq
    have X5 := hid (X4.out.on hxb)
    have U6 := hid (U4.out.on hxb)
    have C5 := hid (C4.out.onB hxb C4.out.lt)
    have A5 := hid (A4.out.on hxb)
    have HB5 := hid (bel_trans HB4.out hxb)
    clear hxb U5 X4 U4 C4 A4 HB4 SB l1 l2 l3 Y4 HM
    generalize W4.drewN nq = W5 at X5 U6 C5 A5 HB5 ⊢
    have E5 := hid (decrypt_any gc K _ 16 (encL K a) W5 C5.out hkk X5.out)
    rw [HDE.out] at E5
    go_upto_region 10 with (go_at_call 10; refine E5.out.mono ?_; rintro e W6 ⟨gv, rfl, hV6, hB6, _⟩; have V6 := hid hV6; have U7 := hid (U6.out.on hB6); have C6 := hid (C5.out.onB hB6 C5.out.lt); have A6 := hid (A5.out.on hB6); have HB6 := hid (bel_trans HB5.out hB6); clear hV6 hB6 E5 X5 U6 C5 A5 HB5)
    have E6 := hid (encrypt_any gc K _ 16 (decL K a) W6 C6.out hkk U7.out)
    rw [HED.out] at E6
    go_upto_region 11 with (go_at_call 9; refine E6.out.mono ?_; rintro e W7 ⟨gw, rfl, hV7, hB7, _⟩; have V7 := hid hV7; have V8 := hid (V6.out.on hB7); have A7 := hid (A6.out.on hB7); have HB7 := hid (bel_trans HB6.out hB7); clear hV7 hB7 E6 U7 C6 A6 V6 HB6)
    go_wp2_with (first
      | (go_at_call 21; with_reducible refine (SameBytes_true (some ⟨gv, 0, none⟩) (some ⟨ga, 0, none⟩) a 16 16 16 _ V8.out.toIsB A7.out.toIsB).mono ?_; rintro e w' ⟨rfl, k1, rfl⟩; have V9 := hid (V7.out.toIsB.drewN k1); have A8 := hid (A7.out.toIsB.drewN k1))
      | (go_at_call 21; with_reducible refine (SameBytes_true (some ⟨gw, 0, none⟩) (some ⟨ga, 0, none⟩) a 16 16 16 _ V9.out A8.out).mono ?_; rintro e w' ⟨rfl, k2, rfl⟩)
      | (go_at_call 15; refine (awake_any _).mono ?_; rintro e w' ⟨rfl, hb9⟩))
    go_ret
    exact ⟨rfl, bel_trans (below_drewN HB7.out _) hb9⟩
end Go.Proofs.Ytgflkoabjibipaa
