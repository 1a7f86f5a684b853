/-
  The contracts of 'key' and of 'awake': the chapter's examples.
-/
import Derived.Test.YtlgabihjfjlhkaaRow
import Derived.Test.YtlgabihjfjlhkaaNew
import Derived.Test.YtlgabihjfjlhkaaStm
import Derived.BigQuiet
import Derived.Deep.Cut
namespace Go.Proofs.Ytlgabihjfjlhkaa
open Go.RowKit

/-- The chapter's key: its first n bytes. -/
def keyP (n : Nat) : List UInt8 := (List.range n).map (fun i => UInt8.ofNat i)
theorem keyP_len (n : Nat) : (keyP n).length = n := by simp [keyP]
theorem keyP_next (n : Nat) : keyP n ++ [UInt8.ofNat n] = keyP (n + 1) := by simp [keyP, List.range_succ]
def exKey : Nat → Nat := fnOf (keyP 32)
set_option maxRecDepth 10000 in
set_option maxHeartbeats 1000000 in
theorem key_any6 (w : World) : Calls Try.prog 7 #[] w fun e w' => ∃ A c, e = .returned (.slice A 32 c) ∧ IsBB w' w'.heap.size A 32 c (keyP 32) ∧ Below w.heap.size w w' := by
  have S0 : Hid (OwnB w w (.slice none 0 0) (keyP 0)) := OwnB.nil w w (Below.refl _ w)
  go_enter Try.func7, Try.ntmps7
  go_wp2_with fail
  go_loopw [1, 2] (fun vv i wr => ∃ (v : Value) (k : Nat), k ≤ 32 ∧ i = .int .i64 k ∧ v = vv ∧ Hid (OwnB w wr v (keyP k))) (fun _ i _ => 32 - (intOf i).toNat)
  case atStart => exact ⟨_, 0, Nat.zero_le _, rfl, rfl, S0⟩
  case round =>
    obtain ⟨v, k, hk, rfl, rfl, hs⟩ := hrel
    clear S0
    by_cases hlt : k < 32
    · have hkz : (k : Int) < 32 := by omega
      have hx : (k : Int) % 256 = (k : Int) := by omega
      have hln := keyP_len k
      have hnx := hid (keyP_next k)
      go_wp2_with (at_builtin; go_loud (refine wpList_app1 rfl (.tmp 7) (.tmp 10) rfl w wr v (keyP k) k rfl rfl hs.out (by omega) (by omega) ?_); intro v2 W2 hv2)
      rw [hnx.out] at hv2
      go_roundw
      case rel => exact ⟨v2, k + 1, by omega, by go_num, rfl, hv2⟩
      case measure => simp [intOf]; omega
    · obtain rfl : k = 32 := by omega
      go_wp2_with fail
      go_ret
      obtain ⟨A, c, rfl, hI⟩ := hs.out.isBB (by rw [keyP_len]; omega)
      rw [keyP_len] at hI ⊢
      exact ⟨A, c, rfl, hI, hs.out.bel⟩
/-- make([]byte, n) of a written-out n. -/
theorem wpList_zeros {ops : Array Oper} {rest : List Oper} {o : Oper} {a : Act} {Q : Exit → Act → World → Prop} (hg : o.guard = none) (l c : Operand) (hop : o.op = .makeSlice 26 l c) (w : World) (n : Nat) (hl : a.eval l = .int .i64 n) (hc : a.eval c = .int .i64 n) (hn : n ≤ 1000)
    (hK : ∀ w', Hid (New w w' w.heap.size n n (List.replicate n 0)) → wpList Try.prog ops Q rest (a.put o.dst (.slice (some ⟨w.heap.size, 0, none⟩) n n)) w') : wpList Try.prog ops Q (o :: rest) a w := by
  obtain ⟨i0, hi, hz0, hz1, hz2⟩ := info_parts Try.info5
  refine wpList_make_full w hg l c 26 hop w.heap.size 5 i0 (.int .u8 0) 1 Try.underlying26 hi hz0 hz1 _ _ _ _ n hl hc rfl rfl (by rw [hz2]; omega) (by unfold maxLen; omega) (Nat.le_refl _) ?_
  intro w' h1 h2
  refine hK w' ⟨?_, (Below.refl _ w).grown h2 (Nat.le_refl _) (by simp), by omega⟩
  rw [made_cells] at h1
  rw [List.map_replicate]
  exact h1
theorem ex_a : List.replicate 8 (0 : UInt8) ++ be8L 0 = List.replicate 16 0 := by rfl
theorem ex_b : List.replicate 8 (0 : UInt8) ++ be8L 1 = List.replicate 15 0 ++ [1] := by rfl
theorem ex_s0 (K : Nat → Nat) : stB K (List.replicate 8 0) 15 = (encL K (List.replicate 16 0))[15]'(by unfold encL; rw [outL_len]; omega) := by
  rw [stB_get]
  simp only [blkS, ← ex_a]
theorem ex_s1 (K : Nat → Nat) : stB K (List.replicate 8 0) 16 = (encL K (List.replicate 15 0 ++ [1]))[0]'(by unfold encL; rw [outL_len]; omega) := by
  rw [stB_get]
  simp only [blkS, ← ex_b]
theorem New.ownB {w w' : World} {g n c : Nat} {l : List UInt8} (h : New w w' g n c l) : OwnB w w' (.slice (some ⟨g, 0, none⟩) n c) l := by
  refine ⟨?_, h.bel⟩
  rw [h.len]
  exact h.own
theorem zeros_bb {w w' : World} {g n : Nat} (h : New w w' g n n (List.replicate n 0)) : IsBB w' w'.heap.size (some ⟨g, 0, none⟩) n n (List.replicate n 0) := h.isBB
theorem fifteen {w w' : World} {v : Value} (h : OwnB w w' v (List.replicate 15 0 ++ [UInt8.ofNat 1])) : ∃ A c, v = .slice A 16 c ∧ IsBB w' w'.heap.size A 16 c (List.replicate 15 0 ++ [1]) := h.isBB (by simp)
theorem cell_of {w : World} {B g n c : Nat} {l : List UInt8} (h : IsBB w B (some ⟨g, 0, none⟩) n c l) (j : Nat) (hj : j < l.length) : w.cell? ⟨g, j, none⟩ = some (.int .u8 (l[j].toNat : Int)) := by
  obtain ⟨ad, e, hc⟩ := h.lies (by omega)
  cases e
  have := hc j hj
  rw [ad_add, Nat.zero_add] at this
  exact this
theorem awake_cells {w : World} {B g9 g4 g7 : Nat} {K : Nat → Nat} (hs : IsBB w B (some ⟨g9, 0, none⟩) 2 2 (stL K (List.replicate 8 0) 15 2)) (ha : IsBB w B (some ⟨g4, 0, none⟩) 16 16 (encL K (List.replicate 16 0))) (hb : IsBB w B (some ⟨g7, 0, none⟩) 16 16 (encL K (List.replicate 15 0 ++ [1]))) :
    ∃ x y : Nat, w.cell? ⟨g9, 0, none⟩ = some (.int .u8 (x : Int)) ∧ w.cell? ⟨g9, 1, none⟩ = some (.int .u8 (y : Int)) ∧ w.cell? ⟨g4, 15, none⟩ = some (.int .u8 (x : Int)) ∧ w.cell? ⟨g7, 0, none⟩ = some (.int .u8 (y : Int)) := by
  have l1 : (encL K (List.replicate 16 0)).length = 16 := outL_len _
  have l2 : (encL K (List.replicate 15 0 ++ [1])).length = 16 := outL_len _
  have c1 := cell_of hs 0 (by rw [stL_len]; omega)
  have c2 := cell_of hs 1 (by rw [stL_len]; omega)
  have c3 := cell_of ha 15 (by omega)
  have c4 := cell_of hb 0 (by omega)
  rw [stL_get, Nat.add_zero, ex_s0] at c1
  rw [stL_get, ex_s1] at c2
  exact ⟨_, _, c1, c2, c3, c4⟩
set_option maxRecDepth 10000 in
set_option maxHeartbeats 2000000 in
theorem awake_any (w : World) : Calls Try.prog 13 #[] w fun e w' => e = .returned (.bool true) ∧ Below w.heap.size w w' := by
  have hk : ∀ j, j < 32 → exKey j < 256 := fun j _ => fnOf_lt _ j
  go_enter Try.func13, Try.ntmps13
  go_upto_region 2 with (first
    | (go_at_call 7; refine (key_any6 _).mono ?_; rintro e W1 ⟨A1, c1, rfl, hA1, hB1⟩; have HA1 := hid hA1; have HB1 := hid hB1; clear hA1 hB1)
    | (go_at_call 6; refine (New_any A1 c1 _ _ HA1.out).mono ?_; rintro e W2 ⟨gc, rfl, hC2, hB2, _⟩; have HC2 : Hid (Ci W2 gc exKey) := hC2; have HB2 := hid (bel_trans HB1.out hB2); clear hC2 hB2 HA1 HB1))
  go_upto_region 5 with (first
    | (at_make; go_loud (refine wpList_zeros rfl _ _ rfl W2 16 rfl rfl (by omega) ?_); intro W3 hN3; have HN3 := hid hN3.out.isBB; have HC3 := hid (HC2.out.onB hN3.out.bel HC2.out.lt); have HB3 := hid (bel_trans HB2.out hN3.out.bel); clear hN3 HC2 HB2)
    | (go_at_call 9; refine (encrypt_any gc _ _ 16 _ W3 HC3.out hk HN3.out).mono ?_; rintro e W4 ⟨g4, rfl, hI4, hB4, _⟩; have HI4 := hid hI4; have HC4 := hid (HC3.out.onB hB4 HC3.out.lt); have HB4 := hid (bel_trans HB3.out hB4); clear hI4 hB4 HC3 HB3 HN3))
  go_upto_region 6 with (first
    | (at_make; go_loud (refine wpList_zeros rfl _ _ rfl W4 15 rfl rfl (by omega) ?_); intro W5 hN5; have HN5 := hid hN5.out.ownB; clear hN5)
    | (at_builtin; go_loud (refine wpList_app1 rfl (.tmp 24) (.tmp 25) rfl W4 W5 _ _ 1 rfl rfl HN5.out (by simp) (by omega) ?_); intro v6 W6 hv6; have hbx := hv6.out.bel; obtain ⟨A6, c6, rfl, hI6⟩ := fifteen hv6.out; have HN6 := hid hI6; have HI6 := hid (HI4.out.on hbx); have HC6 := hid (HC4.out.onB hbx HC4.out.lt); have HB6 := hid (bel_trans HB4.out hbx); clear hv6 hbx hI6 HI4 HC4 HB4 HN5)
    | (go_at_call 9; refine (encrypt_any gc _ _ c6 _ W6 HC6.out hk HN6.out).mono ?_; rintro e W7 ⟨g7, rfl, hI7, hB7, _⟩; have HJ7 := hid hI7; have HI7 := hid (HI6.out.on hB7); have HC7 := hid (HC6.out.onB hB7 HC6.out.lt); have HB7 := hid (bel_trans HB6.out hB7); clear hI7 hB7 HC6 HB6 HN6 HI6))
  go_upto_region 7 with (first
    | (at_make; go_loud (refine wpList_zeros rfl _ _ rfl W7 8 rfl rfl (by omega) ?_); intro W8 hN8; have HN8 := hid hN8.out.isBB; have HJ8 := hid (HJ7.out.on hN8.out.bel); have HI8 := hid (HI7.out.on hN8.out.bel); have HC8 := hid (HC7.out.onB hN8.out.bel HC7.out.lt); have HB8 := hid (bel_trans HB7.out hN8.out.bel); clear hN8 HJ7 HI7 HC7 HB7)
    | (go_at_call 8; refine (Stream_any gc _ _ 8 _ 15 2 W8 HC8.out hk HN8.out (by omega) (by omega)).mono ?_; rintro e W9 ⟨g9, rfl, hN9⟩; have HS9 := hid hN9.isBB; have HJ9 := hid (HJ8.out.on hN9.bel); have HI9 := hid (HI8.out.on hN9.bel); have HB9 := hid (bel_trans HB8.out hN9.bel); clear hN9 HJ8 HI8 HC8 HB8 HN8))
  have hx := awake_cells HS9.out HI9.out HJ9.out
  obtain ⟨x, y, q1, q2, q3, q4⟩ := hx
  clear HS9 HJ9 HI9
  go_wp2_with fail
  go_quiet (fail)
  go_wp2_with fail
  go_ret
  exact ⟨rfl, below_drewN HB9.out _⟩
end Go.Proofs.Ytlgabihjfjlhkaa
