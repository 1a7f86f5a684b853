/-
  What OctetsOwn's walk wants of quillpresslow: whole, stamped.
-/
import Derived.Test.YtgccjclloomfgaaLent
namespace Go.Proofs.Ytgccjclloomfgaa
open Go.RowKit

set_option maxHeartbeats 400000 in
theorem whole_any (g n c : Nat) (w : World) (hn : n ≤ c) (_hm : c ≤ maxLen) (hs : n ≤ 140737488355328) :
    Calls Try.prog 55 #[.slice (some ⟨g, 0, none⟩) n c] w fun e w' => e = .returned (.slice (some ⟨g, 0, none⟩) (min c (n + 40)) c) ∧ w = w' := by
  by_cases h : c ≤ n + 40
  · have e : min c (n + 40) = c := Nat.min_eq_left h
    have E := hid e
    clear e
    have h1 : (c : Int) ≤ (n : Int) + 40 := by omega
    go_enter Try.func55, Try.ntmps55
    go_wp2_with fail
    go_ret
    exact ⟨by rw [E.out]; rfl, rfl⟩
  · have e : min c (n + 40) = n + 40 := Nat.min_eq_right (by omega)
    have E := hid e
    clear e
    have h1 : (n : Int) + 40 < (c : Int) := by omega
    go_enter Try.func55, Try.ntmps55
    go_wp2_with fail
    go_ret
    exact ⟨by rw [E.out]; rfl, rfl⟩
/-- The stamp of list k in a round. -/
def stamp (k r : Nat) : Nat := if r = 0 then k else 0
set_option maxHeartbeats 400000 in
theorem stamped_0 (k : Nat) (w : World) (hk : k < 6) : Calls Try.prog 56 #[.int .i64 k, .int .i64 0] w fun e w' => e = .returned (.int .u8 (stamp k 0 : Nat)) ∧ w = w' := by
  match k, hk with
  | 0, _ | 1, _ | 2, _ | 3, _ | 4, _ | 5, _ =>
    go_enter Try.func56, Try.ntmps56
    go_wp2_with fail
    go_ret
    exact ⟨by kernel_rfl, rfl⟩
set_option maxHeartbeats 400000 in
theorem stamped_1 (k : Nat) (w : World) (hk : k < 6) : Calls Try.prog 56 #[.int .i64 k, .int .i64 1] w fun e w' => e = .returned (.int .u8 (stamp k 1 : Nat)) ∧ w = w' := by
  match k, hk with
  | 0, _ | 1, _ | 2, _ | 3, _ | 4, _ | 5, _ =>
    go_enter Try.func56, Try.ntmps56
    go_wp2_with fail
    go_ret
    exact ⟨by kernel_rfl, rfl⟩
theorem stamped_any (k r : Nat) (w : World) (hk : k < 6) (hr : r < 2) : Calls Try.prog 56 #[.int .i64 k, .int .i64 r] w fun e w' => e = .returned (.int .u8 (stamp k r : Nat)) ∧ w = w' := by
  match r, hr with
  | 0, _ => exact stamped_0 k w hk
  | 1, _ => exact stamped_1 k w hk
/-- The closure 'mine': is a byte the list's stamp? -/
theorem mine_any (k r : Nat) (gk gr : Nat) (y : Int) (w : World) (hk : k < 6) (hr : r < 2) (ck : w.cell? ⟨gk, 0, none⟩ = some (.int .i64 k)) (cr : w.cell? ⟨gr, 0, none⟩ = some (.int .i64 r)) (hy : (y == ((stamp k r : Nat) : Int)) = true) :
    Calls Try.prog 57 #[.int .u8 y, .pointer (some ⟨gk, 0, none⟩), .pointer (some ⟨gr, 0, none⟩)] w fun e w' => e = .returned (.bool true) ∧ w = w' := by
  go_enter Try.func57, Try.ntmps57
  go_wp2_with (go_at_call 56; refine (stamped_any k r _ hk hr).mono ?_; rintro e w' ⟨rfl, rfl⟩)
  go_ret
  exact ⟨rfl, rfl⟩
/-- What holds of the memory that the closure looks at. -/
structure Mine (w : World) (gf gk gr k r : Nat) : Prop where
  f : w.cell? ⟨gf, 0, none⟩ = some (.func (.func 57) #[] #[.pointer (some ⟨gk, 0, none⟩), .pointer (some ⟨gr, 0, none⟩)])
  k : w.cell? ⟨gk, 0, none⟩ = some (.int .i64 k)
  r : w.cell? ⟨gr, 0, none⟩ = some (.int .i64 r)
set_option maxHeartbeats 400000 in
theorem notmine_any (k r gf gk gr : Nat) (y : Int) (w : World) (hk : k < 6) (hr : r < 2) (hm : Mine w gf gk gr k r) (hy : (y == ((stamp k r : Nat) : Int)) = true) :
    Calls Try.prog 61 #[.int .u8 y, .pointer (some ⟨gf, 0, none⟩)] w fun e w' => e = .returned (.bool false) ∧ w = w' := by
  have cf := hm.f
  go_enter Try.func61, Try.ntmps61
  go_wp2_with (go_at_call 57; refine (mine_any k r gk gr y _ hk hr hm.k hm.r hy).mono ?_; rintro e w' ⟨rfl, rfl⟩)
  go_ret
  exact ⟨rfl, rfl⟩
set_option maxHeartbeats 1000000 in
set_option maxRecDepth 10000 in
theorem IndexFunc_none (A : Option Addr) (l : List UInt8) (n c k r gf gk gr : Nat) (w : World) (h : IsB w A n c l) (hk : k < 6) (hr : r < 2) (hm : Mine w gf gk gr k r) (hy : ∀ b ∈ l, b.toNat = stamp k r) :
    Calls Try.prog 63 #[.slice A n c, .func (.func 61) #[] #[.pointer (some ⟨gf, 0, none⟩)]] w fun e w' => e = .returned (.int .i64 (-1)) ∧ w = w' := by
  have hs := h.small
  have hc := h.cap
  go_enter Try.func63, Try.ntmps63
  go_wp2_with fail
  go_loop [8] (fun i => ∃ j : Nat, j ≤ n ∧ i = .int .i64 j) (fun i => n - (intOf i).toNat)
  case atStart => exact ⟨0, Nat.zero_le _, rfl⟩
  case round =>
    obtain ⟨j, hj, rfl⟩ := hrel
    by_cases hlt : j < n
    · obtain ⟨ad, rfl, ha⟩ := h.lies (by rw [h.len]; omega)
      have hjl : j < l.length := by rw [h.len]; exact hlt
      have ca := ha j hjl
      rw [hy _ (List.getElem_mem hjl)] at ca
      have hji : (j : Int) < (n : Int) := by omega
      go_wp2_with (go_at_call 61; refine (notmine_any k r gf gk gr _ _ hk hr hm (by simp)).mono ?_; rintro e w' ⟨rfl, rfl⟩)
      go_round
      case rel => exact ⟨j + 1, by omega, by go_num⟩
      case measure => simp [intOf]; omega
    · go_wp2_with fail
      go_ret
      exact ⟨rfl, rfl⟩
set_option maxHeartbeats 400000 in
theorem ContainsFunc_no (A : Option Addr) (l : List UInt8) (n c k r gf gk gr : Nat) (w : World) (h : IsB w A n c l) (hk : k < 6) (hr : r < 2) (hm : Mine w gf gk gr k r) (hy : ∀ b ∈ l, b.toNat = stamp k r) :
    Calls Try.prog 60 #[.slice A n c, .func (.func 61) #[] #[.pointer (some ⟨gf, 0, none⟩)]] w fun e w' => e = .returned (.bool false) ∧ w = w' := by
  go_enter Try.func60, Try.ntmps60
  go_wp2_with (go_at_call 63; refine (IndexFunc_none _ l _ _ k r gf gk gr _ h hk hr hm hy).mono ?_; rintro e w' ⟨rfl, rfl⟩)
  go_ret
  exact ⟨rfl, rfl⟩
set_option maxHeartbeats 400000 in
theorem all_yes (A : Option Addr) (l : List UInt8) (n c k r gk gr : Nat) (w : World) (h : IsBB w w.heap.size A n c l) (hk : k < 6) (hr : r < 2) (ck : w.cell? ⟨gk, 0, none⟩ = some (.int .i64 k)) (cr : w.cell? ⟨gr, 0, none⟩ = some (.int .i64 r)) (hy : ∀ b ∈ l, b.toNat = stamp k r) :
    Calls Try.prog 58 #[.slice A n c, .func (.func 57) #[] #[.pointer (some ⟨gk, 0, none⟩), .pointer (some ⟨gr, 0, none⟩)]] w fun e w' => e = .returned (.bool true) ∧ Below w.heap.size w w' := by
  have b0 : Below w.heap.size w (w.alloc (.cells #[.func (.func 57) #[] #[.pointer (some ⟨gk, 0, none⟩), .pointer (some ⟨gr, 0, none⟩)]] 72)) := (Below.refl _ _).alloc (Nat.le_refl _) _
  have h1 := h.on b0
  have hh : (w.alloc (.cells #[.func (.func 57) #[] #[.pointer (some ⟨gk, 0, none⟩), .pointer (some ⟨gr, 0, none⟩)]] 72)).heap[w.heap.size]? = some (.cells #[.func (.func 57) #[] #[.pointer (some ⟨gk, 0, none⟩), .pointer (some ⟨gr, 0, none⟩)]] 72 (0, 0)) := heap_alloc_new w _
  have hm : Mine (w.alloc (.cells #[.func (.func 57) #[] #[.pointer (some ⟨gk, 0, none⟩), .pointer (some ⟨gr, 0, none⟩)]] 72)) w.heap.size gk gr k r :=
    ⟨row_cell hh 0, (b0.cell (p := ⟨gk, 0, none⟩) (lt_of_cell ck)).trans ck, (b0.cell (p := ⟨gr, 0, none⟩) (lt_of_cell cr)).trans cr⟩
  have Hh := hid hh
  clear hh
  go_enter Try.func58, Try.ntmps58
  go_wp2_with (go_at_call 60; refine (ContainsFunc_no _ l _ _ k r w.heap.size gk gr _ h1.toIsB hk hr hm hy).mono ?_; rintro e w' ⟨rfl, rfl⟩)
  go_ret
  exact ⟨rfl, b0⟩
end Go.Proofs.Ytgccjclloomfgaa
