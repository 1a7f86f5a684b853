/-
  A list of bytes of the call's own that grows byte by byte; the contracts of 'row' and of the document's Table.
-/
import Derived.Test.YtgflkoabjibipaaRefS
import Derived.OwnWalk
import Derived.Test.YtgflkoabjibipaaBox
import Derived.Deep.Cut
namespace Go.Proofs.Ytgflkoabjibipaa
open Go.RowKit

/-- The slice v, of the call's own, holds these bytes. -/
structure OwnB (w wr : World) (v : Value) (X : List UInt8) : Prop where
  own : wr.ownsRow w.heap.size 5 1 v X.length (X.map bv)
  bel : Below w.heap.size w wr
theorem OwnB.nil (w wr : World) (h : Below w.heap.size w wr) : OwnB w wr (.slice none 0 0) [] := ⟨World.ownsRow_nil wr _ _ _, h⟩
theorem OwnB.drewN {w wr : World} {v : Value} {X : List UInt8} (h : OwnB w wr v X) (n : Nat) : OwnB w (wr.drewN n) v X := ⟨h.own, below_drewN h.bel n⟩
theorem OwnB.drew {w wr : World} {v : Value} {X : List UInt8} (h : OwnB w wr v X) : OwnB w wr.drew v X := ⟨h.own, ⟨h.bel.os, h.bel.tape, h.bel.output, h.bel.size, h.bel.block⟩⟩
theorem OwnB.isBB {w wr : World} {v : Value} {X : List UInt8} (h : OwnB w wr v X) (hs : X.length ≤ 1000000) : ∃ A c, v = .slice A X.length c ∧ IsBB wr wr.heap.size A X.length c X := own_isBB h.own (by omega)
theorem OwnB.new {w wr : World} {v : Value} {X : List UInt8} (h : OwnB w wr v X) (hs : X.length ≤ 1000000) (h0 : 0 < X.length) : ∃ g c, v = .slice (some ⟨g, 0, none⟩) X.length c ∧ New w wr g X.length c X := by
  obtain ⟨g, c, rfl⟩ := own_nil h.own h0
  exact ⟨g, c, rfl, h.own, h.bel, by omega⟩
theorem OwnB.below {w wr w' : World} {v : Value} {X : List UInt8} (h : OwnB w wr v X) (hb : Below wr.heap.size wr w') : OwnB w w' v X := by
  refine ⟨?_, h.bel.trans (hb.mono h.bel.size)⟩
  rcases h.own with ⟨h1, h2⟩
  refine ⟨h1, ?_⟩
  rcases h2 with h2 | ⟨g, cap, cur, rfl, hg, hh, r⟩
  · exact .inl h2
  · exact .inr ⟨g, cap, cur, rfl, hg, (hb.block g (lt_of_heap hh)).trans hh, r⟩
/-- Bytes that lie below an append's base stay. -/
theorem wpList_app1 {ops : Array Oper} {rest : List Oper} {o : Oper} {a : Act} {Q : Exit → Act → World → Prop} (hgd : o.guard = none) (s x : Operand)
    (ho : o.op = .call { callee := .builtin .append, args := #[s, x], argTypes := #[26, 26] }) (w wr : World) (v : Value) (X : List UInt8) (b : Nat) (hs : a.eval s = v) (hx : a.eval x = .slice (some ⟨wr.heap.size, 0, none⟩) 1 1)
    (h : OwnB w wr v X) (hl : X.length ≤ 1000000) (hb : b < 256)
    (hK : ∀ v' W, Hid (OwnB w W v' (X ++ [UInt8.ofNat b])) → wpList Try.prog ops Q rest (a.put o.dst v') W) : wpList Try.prog ops Q (o :: rest) a (wr.alloc (.cells #[.int .u8 (b : Nat)] 5)) := by
  obtain ⟨i0, hi, hz0, hz1, hz2⟩ := info_parts Try.info5
  refine wpList_append_own _ hgd s x 26 ho w.heap.size 5 i0 (.int .u8 0) 1 1 Try.underlying26 hi hz0 hz1 hz2 rfl (by decide) v X.length (X.map bv) hs (h.own.alloc _) ⟨wr.heap.size, 0, none⟩ 1 1 [bv (UInt8.ofNat b)] hx rfl ?_ ?_ ?_ ?_ ?_ ?_
  · exact one_cell wr _ _ (by simp; omega)
  · intro u hu; simp at hu; subst hu; rfl
  · unfold maxLen; omega
  · omega
  · have := h.bel.size; simp; omega
  · intro v2 W2 hown2 hgrow2 _
    refine hK v2 W2 ⟨by simpa using hown2, ?_⟩
    exact (h.bel.alloc h.bel.size _).grown hgrow2 (by have := h.bel.size; simp; omega) (fun q hq => (h.own.lt q hq).1)
def rowL (f b n : Nat) : List UInt8 := (List.range n).map (fun i => UInt8.ofNat ((f + i * b) % 256))
theorem rowL_len (f b n : Nat) : (rowL f b n).length = n := by simp [rowL]
theorem rowL_next (f b n : Nat) : rowL f b n ++ [UInt8.ofNat ((f + n * b) % 256)] = rowL f b (n + 1) := by simp [rowL, List.range_succ]
set_option maxRecDepth 10000 in
set_option maxHeartbeats 1000000 in
theorem row_any (f b n : Nat) (hf : f < 256) (hb : b < 256) (hn : n ≤ 100) (w : World) : Calls Try.prog 8 #[.int .u8 f, .int .u8 b, .int .i64 n] w fun e w' => ∃ v, e = .returned v ∧ OwnB w w' v (rowL f b n) := by
  have S0 : Hid (OwnB w w (.slice none 0 0) (rowL f b 0)) := OwnB.nil w w (Below.refl _ w)
  go_enter Try.func8, Try.ntmps8
  go_wp2_with fail
  go_loopw [7, 8] (fun vv i wr => ∃ (v : Value) (k : Nat), k ≤ n ∧ i = .int .i64 k ∧ v = vv ∧ Hid (OwnB w wr v (rowL f b k))) (fun _ i _ => n - (intOf i).toNat)
  case atStart => exact ⟨_, 0, Nat.zero_le _, rfl, rfl, S0⟩
  case round =>
    obtain ⟨v, k, hk, rfl, rfl, hs⟩ := hrel
    clear S0
    by_cases hlt : k < n
    · have hkz : (k : Int) < (n : Int) := by omega
      have hx : ((f : Int) + (k : Int) * (b : Int)) % 256 = (((f + k * b) % 256 : Nat) : Int) := by push_cast; rfl
      have hx2 : ((f : Int) + (k : Int) * (b : Int) % 256) % 256 = (((f + k * b) % 256 : Nat) : Int) := by rw [← hx]; omega
      have hln := rowL_len f b k
      have hnx := hid (rowL_next f b k)
      have hzl : (f + k * b) % 256 < 256 := by omega
      generalize (f + k * b) % 256 = z at hx hx2 hnx hzl
      go_wp2_with (at_builtin; go_loud (refine wpList_app1 rfl (.tmp 14) (.tmp 21) rfl w wr v (rowL f b k) z rfl rfl hs.out (by omega) hzl ?_); intro v2 W2 hv2)
      rw [hnx.out] at hv2
      go_roundw
      case rel => exact ⟨v2, k + 1, by omega, by go_num, rfl, hv2⟩
      case measure => simp [intOf]; omega
    · obtain rfl : k = n := by omega
      go_wp2_with fail
      go_ret
      exact ⟨_, rfl, hs.out⟩
end Go.Proofs.Ytgflkoabjibipaa
