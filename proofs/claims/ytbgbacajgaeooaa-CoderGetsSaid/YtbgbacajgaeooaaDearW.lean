/-
  The walk of CoderDear.
-/
import Derived.Test.YtbgbacajgaeooaaAwk
import Derived.Test.YtbgbacajgaeooaaCdd
namespace Go.Proofs.Ytbgbacajgaeooaa
open Go.RowKit

def pickN (x k : Int) : Nat := (if x.tmod k < 0 then x.tmod k + k else x.tmod k).toNat
theorem pickN_lt (x k : Int) (hk : 0 < k) : (pickN x k : Int) < k := by
  have h1 := Int.tmod_lt_of_pos x hk
  have h2 := Int.lt_tmod_of_pos x hk
  unfold pickN
  split <;> omega
set_option maxRecDepth 10000 in
set_option maxHeartbeats 1000000 in
theorem Pick_any (x k : Int) (hk : 0 < k) (hk2 : k ≤ 1000000) (w : World) : Calls Try.prog 24 #[.int .i64 x, .int .i64 k] w fun r w' => r = .returned (.int .i64 (pickN x k : Nat)) ∧ w = w' := by
  have h1 := Int.tmod_lt_of_pos x hk
  have h2 := Int.lt_tmod_of_pos x hk
  have k1 : 1 ≤ k := by omega
  have k0 : k ≠ 0 := by omega
  have e1 : IntKind.i64.wrap (x.tmod k) = x.tmod k := by rw [IntKind.wrap_i64]; omega
  have hu : pickN x k = (if x.tmod k < 0 then x.tmod k + k else x.tmod k).toNat := rfl
  clear e1
  by_cases hn : x.tmod k < 0
  · rw [if_pos hn] at hu
    have e3 : wrap64 (x.tmod k + k) = (pickN x k : Int) := by
      unfold wrap64; omega
    clear h1 h2 hu
    go_enter Try.func24, Try.ntmps24
    go_wp2_with fail
    go_ret
    exact ⟨by rw [e3]; rfl, rfl⟩
  · rw [if_neg hn] at hu
    have e3 : (pickN x k : Int) = x.tmod k := by omega
    have hn2 : 0 ≤ x.tmod k := by omega
    clear h1 h2 hu hn
    go_enter Try.func24, Try.ntmps24
    go_wp2_with fail
    go_ret
    exact ⟨by rw [e3]; rfl, rfl⟩
/-- n ones of the chance p, put into a new encoder. -/
def esN (p n : Nat) : Es := ⟨(putL (List.replicate n (true, p)) 0 4294967295).2.1, (putL (List.replicate n (true, p)) 0 4294967295).2.2, (putL (List.replicate n (true, p)) 0 4294967295).1⟩
theorem esN_put (p n : Nat) (h1 : 1 ≤ p) (h2 : p ≤ 65535) (hn : n ≤ 5000) : (esN p n).put 1 (p : Int) = (esN p (n + 1), 0) := by
  have hl := putL_len (List.replicate n (true, p)) 0 4294967295
  rw [List.length_replicate] at hl
  have := es_put (esN p n) true p h1 h2 (by show (putL (List.replicate n (true, p)) 0 4294967295).1.length < 65536; omega)
  rw [if_pos rfl] at this
  rw [this]
  unfold esN
  rw [List.replicate_succ' , putL_snoc]
theorem esN_a (n : Nat) (h : n < 4250) : (esN 65000 n).l.length ≤ 10 + n / 500 := by
  have h1 := ata n h
  rw [ones_putL] at h1
  unfold okA at h1
  have h2 := of_decide_eq_true h1
  simp only [Nat.zero_add] at h2
  exact h2
theorem esN_b (n : Nat) (h : n < 4250) : n * 7 / 8 ≤ (esN 500 n).l.length + 2 := by
  have h1 := atb n h
  rw [ones_putL] at h1
  unfold okB at h1
  have h2 := of_decide_eq_true h1
  simp only [Nat.zero_add] at h2
  exact h2
theorem esN_len (p n : Nat) : (esN p n).l.length ≤ 4 * n := by
  have hl := putL_len (List.replicate n (true, p)) 0 4294967295
  rw [List.length_replicate] at hl
  exact hl
set_option maxRecDepth 10000 in
set_option maxHeartbeats 4000000 in
theorem dear_walk (n : Int) (w : World) : Calls Try.prog 7 #[.int .i64 n] w fun e w' => e = .returned (.bool true) ∧ Below w.heap.size w w' := by
  have HP := hid (Pick_any n 3201 (by omega) (by omega) w)
  have hp := pickN_lt n 3201 (by omega)
  obtain ⟨p, hpp⟩ : ∃ p, p = pickN n 3201 := ⟨_, rfl⟩
  rw [← hpp] at HP hp
  clear hpp
  obtain ⟨N, hN⟩ : ∃ N, N = 800 + p := ⟨_, rfl⟩
  have e1 : IntKind.i64.wrap (800 + (p : Int)) = (N : Int) := by rw [IntKind.wrap_i64]; omega
  have e1' : wrap64 (800 + (p : Int)) = (N : Int) := by unfold wrap64; omega
  have HN := hid (show N ≤ 4000 by omega)
  clear hN hp
  have O0 := hid (OL.nil (Below.refl w.heap.size w))
  go_enter Try.func7, Try.ntmps7
  go_wp2_with (first
    | (go_at_call 24; (with_reducible refine HP.out.mono ?_); rintro r w' ⟨rfl, rfl⟩)
    | (go_at_call 8; (with_reducible refine O0.out.new.mono ?_); rintro r w1 ⟨a, rfl, h1⟩; have O1 := hid h1; clear h1)
    | (go_at_call 8; (with_reducible refine O1.out.new.mono ?_); rintro r w2 ⟨b, rfl, h2⟩; have O2 := hid h2.swap; clear h2))
  go_loopw [5] (fun vi wr => ∃ i, i ≤ N ∧ vi = .int .i64 (i : Nat) ∧ Hid (OL wr.heap.size w wr [(true, a, esN 65000 i), (true, b, esN 500 i)])) (fun vi _ => N - (intOf vi).toNat)
  case atStart => exact ⟨0, Nat.zero_le _, rfl, O2⟩
  case round =>
    obtain ⟨i, hi, rfl, hst⟩ := hrel
    clear O0 O1 O2 e1 e1'
    have hi4 : i ≤ 4000 := by have := HN.out; omega
    by_cases hlt : i < N
    · have hlz : (i : Int) < (N : Int) := by omega
      have PA := hid (esN_put 65000 i (by decide) (by decide) (by have := HN.out; omega))
      have PB := hid (esN_put 500 i (by decide) (by decide) (by have := HN.out; omega))
      clear hlt
      go_wp2_with (first
        | (go_at_call 10; (with_reducible refine (hst.out.put10 1 65000 PA.out 0 rfl).mono ?_); rintro r w3 ⟨rfl, h3⟩; have O3 := hid h3.swap; clear h3)
        | (go_at_call 10; (with_reducible refine (O3.out.put10 1 500 PB.out 0 rfl).mono ?_); rintro r w4 ⟨rfl, h4⟩; have O4 := hid h4.swap; clear h4))
      go_roundw
      case rel => exact ⟨i + 1, by omega, by go_num, O4⟩
      case measure => simp [intOf]; omega
    · obtain rfl : i = N := by omega
      clear hi hlt
      have la := esN_a i (by have := HN.out; omega)
      have lb := esN_b i (by have := HN.out; omega)
      have lb2 := esN_len 500 i
      obtain ⟨p1, hp1⟩ : ∃ p1, p1 = (esN 65000 i).l.length := ⟨_, rfl⟩
      obtain ⟨p2, hp2⟩ : ∃ p2, p2 = (esN 500 i).l.length := ⟨_, rfl⟩
      have HLA : Hid (Calls Try.prog 12 #[.pointer (some ⟨a, 0, none⟩)] wr fun r w' => r = .returned (.int .i64 (p1 : Nat)) ∧ wr = w') := by rw [hp1]; exact hst.out.len
      have HLB : Hid (Calls Try.prog 12 #[.pointer (some ⟨b, 0, none⟩)] wr fun r w' => r = .returned (.int .i64 (p2 : Nat)) ∧ wr = w') := by rw [hp2]; exact hst.out.swap.len
      rw [← hp1] at la
      rw [← hp2] at lb lb2
      clear hp1 hp2
      go_wp2_with (first
        | (go_at_call 12; (with_reducible refine HLA.out.mono ?_); rintro r w' ⟨rfl, rfl⟩)
        | (go_at_call 12; (with_reducible refine HLB.out.mono ?_); rintro r w' ⟨rfl, rfl⟩)
        | (go_at_call 16; (refine (awake_any _).mono ?_); rintro r w5 ⟨rfl, b5⟩; have B5 := hid (bel_trans hst.out.bel b5)))
      go_ret
      exact ⟨rfl, B5.out⟩
end Go.Proofs.Ytbgbacajgaeooaa
