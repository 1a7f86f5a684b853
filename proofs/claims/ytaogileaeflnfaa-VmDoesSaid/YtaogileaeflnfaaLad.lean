/-
  The contract of laid: each instruction of a right program at its place.
-/
import Derived.Test.YtaogileaeflnfaaMt
import Derived.Deep.MidRow
import Derived.Laws.MakeOwn
set_option linter.unusedVariables false
set_option linter.unusedSimpArgs false
namespace Go.Proofs.Ytaogileaeflnfaa
open Go.RowKit

def stepL (g : Got) : List Value := [.int .u8 g.o, .int .i64 g.d, .int .i64 g.s, .int .i64 g.n, .int .i64 g.e]
theorem below_cells {B : Nat} {w : World} (b : Nat) (hb : B ≤ b) : ∀ (vs : List Value) (o : Nat) (w' : World), Below B w w' → Below B w (w'.setCells b o vs)
  | [], _, _, h => h
  | v :: r, o, w', h => by
    rw [World.setCells]
    exact below_cells b hb r (o + 1) _ (below_set h ⟨b, o, none⟩ v hb)
theorem size_cells (b : Nat) : ∀ (vs : List Value) (o : Nat) (w : World), (w.setCells b o vs).heap.size = w.heap.size
  | [], _, _ => rfl
  | v :: r, o, w => by
    rw [World.setCells, size_cells b r (o + 1) _, World.size_setCell]
/-- The places P are laid: block gs. -/
structure LdAt (w : World) (gs n : Nat) (l : List UInt8) (P : List Nat) : Prop where
  there : w.there gs 0 (n * 5)
  at_ : ∀ a ∈ P, w.rangeAt gs (a * 5) (stepL (getR l a))
  lt : gs < w.heap.size
theorem LdAt.on {w w' : World} {gs n : Nat} {l : List UInt8} {P : List Nat} (h : LdAt w gs n l P) (b : w'.heap[gs]? = w.heap[gs]?) (hs : w.heap.size ≤ w'.heap.size) : LdAt w' gs n l P := by
  have hc : ∀ j, w'.cell? ⟨gs, j, none⟩ = w.cell? ⟨gs, j, none⟩ := fun j => World.cell?_of_block b
  have hf : ∀ j, w'.frozen? ⟨gs, j, none⟩ = w.frozen? ⟨gs, j, none⟩ := fun j => by unfold World.frozen?; rw [b]
  exact ⟨fun j hj => by rw [hc, hf]; exact h.there j hj, fun a ha j v hv => by rw [hc]; exact h.at_ a ha j v hv, Nat.lt_of_lt_of_le h.lt hs⟩
theorem LdAt.below {w w' : World} {gs n : Nat} {l : List UInt8} {P : List Nat} (h : LdAt w gs n l P) (b : Below w.heap.size w w') : LdAt w' gs n l P := h.on (b.block _ h.lt) b.size
theorem LdAt.put {w : World} {gs n k : Nat} {l : List UInt8} {P : List Nat} (h : LdAt w gs n l P) (hk : k < n) : LdAt (w.setCells gs (k * 5) (stepL (getR l k))) gs n l (P ++ [k]) := by
  refine ⟨World.there_setCells h.there _ _ _, fun a ha => ?_, by rw [size_cells]; exact h.lt⟩
  have ht : w.there gs (k * 5) (stepL (getR l k)).length := fun j hj => by
    have hj5 : j < 5 := hj
    have := h.there (k * 5 + j) (by omega)
    rwa [Nat.zero_add] at this
  by_cases e : a = k
  · subst e
    exact World.rangeAt_setCells_same _ _ _ _ ht
  · rcases List.mem_append.1 ha with ha | ha
    · refine World.rangeAt_setCells_apart (h.at_ a ha) _ _ _ (.inr ?_)
      show a * 5 + 5 ≤ k * 5 ∨ k * 5 + 5 ≤ a * 5
      omega
    · exact absurd (List.mem_singleton.1 ha) e
theorem step_one (o d s n e : Int) : (#[.int .u8 o, .int .i64 d, .int .i64 s, .int .i64 n, .int .i64 e] : Array Value).all (·.oneCell') = true :=
  all_oneCell_toArray (cs := [.int .u8 o, .int .i64 d, .int .i64 s, .int .i64 n, .int .i64 e]) (by
    intro v hv
    simp only [List.mem_cons, List.not_mem_nil, or_false] at hv
    rcases hv with rfl | rfl | rfl | rfl | rfl <;> rfl)
def z5 : Value := .agg #[.int .u8 0, .int .i64 0, .int .i64 0, .int .i64 0, .int .i64 0]
theorem Try.info87 : (Try.prog.info? 87).map (fun i => (i.zero, i.size, i.bytes)) = some (some z5, 5, 40) := by kernel_rfl
theorem make_steps (n : Nat) (hn : n ≤ 5000) (w : World) : ∃ cs : Array Value, cs.size = n * 5 ∧ (Instr.makeSlice 69 (.int .i64 (n : Int)) (.int .i64 (n : Int))).run Try.prog w = .ok (.slice (some ⟨w.heap.size, 0, none⟩) n n) (w.alloc (.cells cs 87)) := by
  obtain ⟨i, hi, hzz⟩ := Option.map_eq_some_iff.1 Try.info87
  simp only [Prod.mk.injEq] at hzz
  obtain ⟨h1, h2, h3⟩ := hzz
  have hb' : (i.bytes : Int) * (n : Int) ≤ 281474976710656 := by
    have h : ((i.bytes * n : Nat) : Int) ≤ 281474976710656 := by rw [h3]; omega
    rwa [Int.natCast_mul] at h
  have hr := run_make (P := Try.prog) (w := w) 69 87 i z5 Try.underlying69 hi h1 .i64 .i64 n n (by omega) (Int.le_refl _) hb' (by omega)
  simp only [Int.toNat_natCast, h2] at hr
  exact ⟨_, size_madeCells _ _, hr⟩
theorem size87 (v : Got) : (Try.prog.info? 87).map (·.size) = some (stepL v).toArray.size := by kernel_rfl
theorem ld_made (w : World) (cs : Array Value) (n : Nat) (l : List UInt8) (h : cs.size = n * 5) : LdAt (w.alloc (.cells cs 87)) w.heap.size n l [] := by
  have hr := heap_alloc_new w (.cells cs 87)
  refine ⟨fun j hj => ⟨?_, row_free hr _⟩, fun a ha => by simp at ha, by simp⟩
  rw [row_cell hr, Nat.zero_add, Array.getElem?_eq_getElem (by omega)]
  rfl
set_option maxRecDepth 10000 in
set_option maxHeartbeats 8000000 in
theorem laid_any {l : List UInt8} {A : Option Addr} {n c : Nat} {S : List Nat} (w : World) (h : IsBB w w.heap.size A n c l) (hn : n ≤ 5000) (hS : starts l = some S) :
    Calls Try.prog 38 #[.slice A n c] w fun e w' => ∃ gs, e = .returned (.slice (some ⟨gs, 0, none⟩) n n) ∧ LdAt w' gs n l S ∧ Below w.heap.size w w' ∧ w.heap.size ≤ gs := by
  have hlen := h.len
  obtain ⟨cs, hcs, hmk⟩ := make_steps n hn w
  have HL := hid (And.intro hlen hS)
  have HI : Hid (LdAt (w.alloc (.cells cs 87)) w.heap.size n l [] ∧ Below w.heap.size w (w.alloc (.cells cs 87))) := ⟨ld_made w cs n l hcs, (Below.refl _ w).alloc (Nat.le_refl _) _⟩
  have HG := hid (fun w h k => Get_any A n c l w h k)
  have HB := hid h
  clear h hS hcs hlen
  go_enter Try.func38, Try.ntmps38
  go_wp2_with fail
  generalize w.alloc (.cells cs 87) = W0 at *
  obtain ⟨gs, hgs⟩ : ∃ gs, gs = w.heap.size := ⟨_, rfl⟩
  have HI2 : Hid (LdAt W0 gs n l [] ∧ Below w.heap.size w W0) := hid (by rw [hgs]; exact HI.out)
  rw [← hgs]
  have HE := hid hgs
  clear hgs hmk HI
  go_loopw [4] (fun v4 wr => ∃ (k : Nat) (P : List Nat), k ≤ n ∧ v4 = .int .i64 (k : Nat) ∧ Hid (Pre l P k) ∧ Hid (LdAt wr gs n l P ∧ Below w.heap.size w wr)) (fun v4 _ => n - (intOf v4).toNat)
  case atStart => exact ⟨0, [], Nat.zero_le _, rfl, hid (pre_0 l), HI2⟩
  case round =>
    obtain ⟨k, P, hk, rfl, HP, HS⟩ := hrel
    clear HI2
    by_cases hlt : k < n
    · have hltz : (k : Int) < (n : Int) := by omega
      have hg0 : (getR l k).err = 0 := Decidable.byContradiction fun he => by
        have := pre_bad HP.out (by rw [HL.out.1]; exact hlt) he
        rw [HL.out.2] at this
        cases this
      have GI := hid (got_in hg0)
      have PS := hid (pre_step HP.out (by rw [HL.out.1]; exact hlt) hg0)
      have HPut := hid (fun (w' : World) (b : Below wr.heap.size wr w') => And.intro ((HS.out.1.below b).put hlt) (below_cells gs (by rw [HE.out]; exact Nat.le_refl _) (stepL (getR l k)) (k * 5) _ (bel_trans HS.out.2 b)))
      have HTh := hid (fun (w' : World) (b : Below wr.heap.size wr w') => (show w'.there gs (k * 5) 5 from fun j hj => by have := (HS.out.1.below b).there (k * 5 + j) (by omega); rwa [Nat.zero_add] at this))
      have hne : getR l (k : Int) = getR l (k : Nat) := rfl
      obtain ⟨g, hg⟩ : ∃ g, getR l k = g := ⟨_, rfl⟩
      have hnx : g.e = (nxt l k : Nat) := by rw [← hg]; exact GI.out.2.2.2.2
      have HGk := hid (HG.out wr ((HB.out.on HS.out.2)) k)
      rw [hg] at HPut HGk
      have hkm : (k : Int) * 5 = ((k * 5 : Nat) : Int) := by omega
      clear hne hg0
      go_upto_region 5 with (go_at_call 52; refine HGk.out.mono ?_; rintro r w2 ⟨rfl, b2⟩; unfold vG vI; have B2 := hid (b2.alloc b2.size (.cells #[.int .u8 g.o, .int .i64 g.d, .int .i64 g.s, .int .i64 g.n] 24)); have RX := hid (heap_alloc_new w2 (.cells #[.int .u8 g.o, .int .i64 g.d, .int .i64 g.s, .int .i64 g.n] 24)); clear b2; dsimp only)
      have B3 := B2.out
      generalize w2.alloc (.cells #[.int .u8 g.o, .int .i64 g.d, .int .i64 g.s, .int .i64 g.n] 24) = W3 at *
      clear B3
      have q0 : W3.cell? ⟨w2.heap.size, 0, none⟩ = some (.int .u8 g.o) := row_cell RX.out 0
      have q1 : W3.cell? ⟨w2.heap.size, 1, none⟩ = some (.int .i64 g.d) := row_cell RX.out 1
      have q2 : W3.cell? ⟨w2.heap.size, 2, none⟩ = some (.int .i64 g.s) := row_cell RX.out 2
      have q3 : W3.cell? ⟨w2.heap.size, 3, none⟩ = some (.int .i64 g.n) := row_cell RX.out 3
      have HP3 := hid (HPut.out W3 B2.out)
      have HT3 := hid (HTh.out W3 B2.out)
      unfold stepL at HP3
      rw [hnx] at HP3
      generalize w2.heap.size = b5 at *
      clear HPut HTh RX B2 HGk hkm
      go_wp2_with (refine wpList_store_mid (op := ⟨none, .store 87 (.tmp 27) (.tmp 26), _, _, _, _⟩) rfl 87 (.tmp 27) (.tmp 26) rfl gs (k * 5) #[.int .u8 g.o, .int .i64 g.d, .int .i64 g.s, .int .i64 g.n, .int .i64 (nxt l k : Nat)] rfl rfl HT3.out (by kernel_rfl) (step_one _ _ _ _ _) ?_)
      go_roundw
      case rel => exact ⟨nxt l k, _, by have := GI.out; have := HL.out; omega, by first | rfl | rw [hnx], PS, HP3⟩
      case measure =>
        have := GI.out
        have := HL.out
        simp [intOf]
        omega
    · obtain rfl : k = n := by omega
      have e := pre_end HP.out (by rw [HL.out.1]; exact Nat.le_refl _)
      rw [HL.out.2] at e
      cases e
      go_wp2
      go_ret
      exact ⟨gs, rfl, HS.out.1, HS.out.2, by rw [HE.out]; exact Nat.le_refl _⟩
end Go.Proofs.Ytaogileaeflnfaa
