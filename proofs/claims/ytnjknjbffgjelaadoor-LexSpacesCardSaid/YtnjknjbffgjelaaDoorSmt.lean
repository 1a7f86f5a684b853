/-
  SameTokens (written by tools/stage18/gen_smt.py).
-/
import Derived.Test.YtnjknjbffgjelaaDoorTok
import Derived.BigQuiet
import Derived.Deep.QuietTactic
set_option linter.unusedVariables false
set_option linter.unusedSimpArgs false
namespace Go.Proofs.YtnjknjbffgjelaaDoor
open Go.RowKit

theorem flat_c4 : ∀ (L : List TD) (i k : Nat) (h : i < L.length), k < 4 → (L.flatMap c4)[i * 4 + k]? = (c4 L[i])[k]?
  | [], i, k, h, _ => absurd h (by simp)
  | t :: L, 0, k, h, hk => by
    rw [List.flatMap_cons, List.getElem?_append_left (by show _ < 4; omega)]
    simp
  | t :: L, i + 1, k, h, hk => by
    rw [List.flatMap_cons, List.getElem?_append_right (by show 4 ≤ _; omega)]
    have e : (i + 1) * 4 + k - (c4 t).length = i * 4 + k := by show (i + 1) * 4 + k - 4 = _; omega
    rw [e, flat_c4 L i k (by simpa using h) hk]
    simp
/-- Tokens that are read: in block g. -/
def TkAt (w : World) (g : Nat) (L : List TD) : Prop := ∀ i (h : i < L.length) k, k < 4 → w.cell? ⟨g, i * 4 + k, none⟩ = (c4 L[i])[k]?
theorem TkAt.below {w W : World} {g : Nat} {L : List TD} (h : TkAt w g L) (b : Below w.heap.size w W) : TkAt W g L := fun i hi k hk => by
  have h1 := h i hi k hk
  have h2 : ∃ v, (c4 L[i])[k]? = some v := ⟨(c4 L[i])[k]'(by show k < 4; exact hk), List.getElem?_eq_getElem _⟩
  obtain ⟨v, hv⟩ := h2
  rw [hv] at h1 ⊢
  exact keeps b h1
theorem own_tk {w : World} {B n c : Nat} {A : Option Addr} {L : List TD} (h : w.ownsRow B 33 4 (.slice A n c) n (L.flatMap c4)) (hn : L.length = n) (h0 : 0 < n) : ∃ g, A = some ⟨g, 0, none⟩ ∧ TkAt w g L := by
  rcases h.2 with ⟨_, h1⟩ | ⟨g, cap, cur, hv, hg, hh, hcn, hm, hs, ht⟩
  · omega
  · injection hv with e1 e2 e3
    refine ⟨g, e1, fun i hi k hk => ?_⟩
    rw [← flat_c4 L i k hi hk, ← ht]
    unfold World.cell?
    rw [hh]
    show cur[i * 4 + k]? = _
    rw [List.getElem?_take_of_lt (by omega), Array.getElem?_toList]
theorem TkAt.cells {w : World} {g : Nat} {L : List TD} (h : TkAt w g L) (i : Nat) (hi : i < L.length) : w.cell? ⟨g, i * 4, none⟩ = some (.int .u8 (L[i].k : Nat)) ∧ w.cell? ⟨g, i * 4 + 1, none⟩ = some (.string (str L[i].s)) ∧ w.cell? ⟨g, i * 4 + 2, none⟩ = some (.int .i64 (L[i].n : Nat)) ∧ w.cell? ⟨g, i * 4 + 3, none⟩ = some (.int .i64 (L[i].line : Nat)) :=
  ⟨h i hi 0 (by omega), h i hi 1 (by omega), h i hi 2 (by omega), h i hi 3 (by omega)⟩
theorem neq_same (a : Int) (q : ByteArray) (b c : Int) (w : World) : (binOp BinOp.neq 33 (.agg #[.int .u8 a, .string q, .int .i64 b, .int .i64 c]) (.agg #[.int .u8 a, .string q, .int .i64 b, .int .i64 c])).run Tryd.prog w = .ok (.bool false) w := by
  go_simp
set_option maxRecDepth 10000 in
set_option maxHeartbeats 8000000 in
theorem SameTokens_true (w : World) (L : List TD) (A1 A2 : Option Addr) (n B1 B2 c1 c2 : Nat) (hn : L.length = n) (hs : n ≤ 1000000) (h1 : w.ownsRow B1 33 4 (.slice A1 n c1) n (L.flatMap c4)) (h2 : w.ownsRow B2 33 4 (.slice A2 n c2) n (L.flatMap c4)) :
    Calls Tryd.prog 7 #[.slice A1 n c1, .slice A2 n c2] w fun e w' => e = .returned (.bool true) ∧ Below w.heap.size w w' := by
  by_cases h0 : n = 0
  · subst h0
    go_enter Tryd.func7, Tryd.ntmps7
    go_wp2_with fail
    go_loopw [5] (fun v wr => v = .int .i64 0 ∧ wr = w) (fun _ _ => 0)
    case atStart => exact ⟨rfl, rfl⟩
    case round =>
      obtain ⟨rfl, rfl⟩ := hrel
      go_wp2_with fail
      go_ret
      exact ⟨rfl, Below.refl _ _⟩
  · obtain ⟨g1, rfl, t1⟩ := own_tk h1 hn (by omega)
    obtain ⟨g2, rfl, t2⟩ := own_tk h2 hn (by omega)
    replace t1 := hid t1
    replace t2 := hid t2
    have ne := neq_same
    clear h1 h2
    go_enter Tryd.func7, Tryd.ntmps7
    go_upto_region 4 with fail
    go_loopw [5] (fun v wr => ∃ k : Nat, k ≤ n ∧ v = .int .i64 (k : Int) ∧ Hid (∃ q, wr = w.drewN q)) (fun v _ => n - (intOf v).toNat)
    case atStart => exact ⟨0, by omega, rfl, 0, rfl⟩
    case round =>
      obtain ⟨k, hk, rfl, HW⟩ := hrel
      have HB : Hid (Below w.heap.size w wr) := hid (by obtain ⟨q, e⟩ := HW.out; rw [e]; exact ⟨rfl, rfl, rfl, Nat.le_refl _, fun _ _ => rfl⟩)
      by_cases hlt : k < n
      · have hz : (k : Int) < (n : Int) := by omega
        obtain ⟨a0, a1, a2, a3⟩ := (t1.out.below HB.out).cells k (by omega)
        obtain ⟨b0, b1, b2, b3⟩ := (t2.out.below HB.out).cells k (by omega)
        have HW2 : Hid (∀ m, ∃ q, wr.drewN m = w.drewN q) := hid (fun m => by obtain ⟨q, e⟩ := HW.out; exact ⟨q + m, by rw [e, World.drewN_drewN]⟩)
        generalize (L[k]'(by omega)).k = x0 at *
        generalize str (L[k]'(by omega)).s = x1 at *
        generalize (L[k]'(by omega)).n = x2 at *
        generalize (L[k]'(by omega)).line = x3 at *
        clear HW HB
        go_upto_region 6 with fail
        go_quiet (fail)
        go_wp2_with fail
        go_roundw
        case rel => exact ⟨k + 1, by omega, by go_num, HW2.out _⟩
        case measure => simp [intOf]; omega
      · obtain rfl : k = n := by omega
        go_wp2_with fail
        go_ret
        exact ⟨rfl, HB.out⟩
end Go.Proofs.YtnjknjbffgjelaaDoor
