/-
  slices.Backward: what its iterator tells, from the last byte to the first.
-/
import Derived.Test.YtgccjclloomfgaaRnd
namespace Go.Proofs.Ytgccjclloomfgaa
open Go.RowKit Go.Shelf
attribute [local go_sem] Oper.semAt_some

/-- The first k pairs that come: place and byte, from the end. -/
def backUp (l : List UInt8) (k : Nat) : List (Nat × UInt8) := (List.range k).map (fun j => (l.length - 1 - j, l.getD (l.length - 1 - j) 0))
theorem backUp_next (l : List UInt8) (k : Nat) : backUp l k ++ [(l.length - 1 - k, l.getD (l.length - 1 - k) 0)] = backUp l (k + 1) := by simp [backUp, List.range_succ]
theorem backUp_len (l : List UInt8) (k : Nat) : (backUp l k).length = k := by simp [backUp]
theorem backUp_all (l : List UInt8) : (backUp l l.length).map (·.2) = l.reverse := by
  apply List.ext_getElem
  · simp [backUp]
  · intro i h1 h2
    simp only [backUp, List.length_map, List.length_range] at h1
    simp only [backUp, List.getElem_map, List.getElem_range, List.getElem_reverse]
    rw [List.getD_eq_getElem?_getD, List.getElem?_eq_getElem (by omega)]
    rfl
def encP (p : Nat × UInt8) : Array Value := #[.int .i64 (p.1 : Nat), .int .u8 (p.2.toNat : Nat)]
/-- What a round must keep: the variable's cell, the list's cells. -/
def KpB (bx : Nat) (A : Option Addr) (W W' : World) : Prop := W'.heap[bx]? = W.heap[bx]? ∧ ∀ ad, A = some ad → W'.heap[ad.block]? = W.heap[ad.block]?
theorem backward_stops (n bx : Nat) (A : Option Addr) (m c : Nat) (l : List UInt8) (w : World) (hn : 1 ≤ n) (hb : w.cell? ⟨bx, 0, none⟩ = some (.slice A m c)) (hl : IsB w A m c l) (hm : m ≤ 4194304) :
    SeqStopsK Fence.wide n Try.prog 62 #[.pointer (some ⟨bx, 0, none⟩)] encP (KpB bx A) (fun xs => xs = backUp l l.length) (fun _ => True) m w := by
  intro lp J Jx W hW hJ hJx hY h0
  have hlen := hl.len
  refine callsIn_of_wp Try.func62 rfl trivial ?_ rfl
  simp only [Try.ntmps62, List.size_toArray, List.length_cons, List.length_nil, Nat.reduceAdd, Nat.reduceSub, Array.replicate_succ, Array.replicate_zero, List.push_toArray, List.append_toArray, List.nil_append, List.cons_append]
  have hbW : W.cell? ⟨bx, 0, none⟩ = some (.slice A m c) := (hW.cell (lt_of_cell hb)).trans hb
  have ew : IntKind.i64.wrap ((m : Int) - 1) = (m : Int) - 1 := IntWalk.i64_in _ (by omega)
  gi_wp2
  gi_loopw [3] (fun p wr => ∃ k : Nat, k ≤ m ∧ p = .int .i64 ((m : Int) - 1 - (k : Int)) ∧ Hid (J (backUp l k) wr ∧ KpB bx A W wr)) (fun p _ => (intOf p + 1).toNat)
  case atStart => exact ⟨0, Nat.zero_le _, by simp, h0, rfl, fun _ _ => rfl⟩
  case round =>
    obtain ⟨k, hk, rfl, hst⟩ := hrel
    by_cases hlt : k < m
    · obtain ⟨q, hq⟩ : ∃ q : Nat, q = m - 1 - k := ⟨_, rfl⟩
      have hqz : (m : Int) - 1 - (k : Int) = (q : Int) := by omega
      rw [hqz]
      obtain ⟨ad, rfl, hc⟩ := hl.lies (by omega)
      have hql : q < l.length := by omega
      have hadW : ad.block < w.heap.size := by have := lt_of_cell (hc q hql); rwa [block_of_add] at this
      have cb : wr.cell? ⟨bx, 0, none⟩ = some (.slice (some ad) m c) := (World.cell?_of_block hst.out.2.1).trans hbW
      have cx : wr.cell? (ad.add q) = some (.int .u8 ((l.getD q 0).toNat : Int)) := by
        refine (World.cell?_of_block (by rw [block_of_add]; exact hst.out.2.2 ad rfl)).trans ((hW.cell (by rw [block_of_add]; exact hadW)).trans ((hc q hql).trans ?_))
        rw [List.getD_eq_getElem?_getD, List.getElem?_eq_getElem hql]; rfl
      obtain ⟨fn, tmps, assign, body, hy, hR⟩ := hY (backUp l k) (q, l.getD q 0) wr hst.out.1 (by rw [backUp_len]; exact hlt)
      have hnx := backUp_next l k
      rw [hlen, ← hq] at hnx
      rw [hnx] at hR
      simp only [encP] at hy hR
      generalize (l.getD q 0).toNat = x at cx hy hR
      have hqm : (q : Int) < (m : Int) := by omega
      have eq1 : IntKind.i64.wrap ((q : Int) - 1) = (q : Int) - 1 := IntWalk.i64_in _ (by omega)
      have Hq := hid hq
      clear hc hY hnx hq hl h0 hb hbW hql hadW hqz
      gi_wp2
      refine hR.mono ?_
      rintro e W3 (⟨rfl, hJ3, hk3⟩ | ⟨rfl, hJx3⟩)
      · dsimp only
        gi_wp2
        refine ⟨⟨k + 1, by omega, by congr 1; have := Hq.out; omega, hJ3, hk3.1.trans hst.out.2.1, fun ad' e => (hk3.2 ad' e).trans (hst.out.2.2 ad' e)⟩, ?_⟩
        simp only [intOf]
        omega
      · dsimp only
        gi_wp2
        refine bodyPost_ret (results_none rfl _ _ _) rfl ?_
        exact ⟨⟨_, rfl⟩, .inr ⟨_, trivial, hJx3⟩⟩
    · obtain rfl : k = m := by omega
      gi_wp2
      go_end0
      exact ⟨⟨_, rfl⟩, .inl ⟨_, rfl, by rw [hlen]; exact hst.out.1⟩⟩
end Go.Proofs.Ytgccjclloomfgaa
