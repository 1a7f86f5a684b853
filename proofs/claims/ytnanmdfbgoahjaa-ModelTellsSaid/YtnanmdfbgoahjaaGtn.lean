/-
  Get's closure 'number'.
-/
import Derived.Test.YtnanmdfbgoahjaaGtk
namespace Go.Proofs.Ytnanmdfbgoahjaa
open Go.RowKit

theorem i64_or_step (x y : Nat) (hx : x < 65536) (h : y < 256) : bits BinOp.or IntKind.i64 ((x : Int) * 256) (y : Int) = ((x * 256 + y : Nat) : Int) := by
  have e0 : (x : Int) * 256 = ((x * 256 : Nat) : Int) := by omega
  rw [e0]
  show IntKind.i64.wrap ((BitVec.ofInt 64 ((x * 256 : Nat) : Int) ||| BitVec.ofInt 64 (y : Int)).toNat : Int) = _
  rw [BitVec.toNat_or, ofInt_u64 _ (by omega), ofInt_u64 _ (by omega)]
  have e2 : x * 256 ||| y = x * 256 + y := by
    have := Nat.two_pow_add_eq_or_of_lt (i := 8) (b := y) (by omega) x
    rw [Nat.mul_comm x 256]
    exact this.symm
  rw [e2]
  exact IntWalk.i64_in _ (by omega)
theorem numL_app : ∀ (L : List UInt8) (n : Nat) (x : UInt8), numL n (L ++ [x]) = numL n L * 256 + x.toNat
  | [], _, _ => rfl
  | y :: r, n, x => numL_app r (n * 256 + y.toNat) x
theorem numL_take (T : List UInt8) (j : Nat) (h : j < T.length) : numL 0 (T.take (j + 1)) = numL 0 (T.take j) * 256 + T[j].toNat := by
  rw [List.take_succ_eq_append_getElem h, numL_app]
theorem numL_lt : ∀ (T : List UInt8) (n m : Nat), n < 256 ^ m → numL n T < 256 ^ (m + T.length)
  | [], n, m, h => h
  | y :: r, n, m, h => by
    have hy := y.toNat_lt
    have := numL_lt r (n * 256 + y.toNat) (m + 1) (by rw [Nat.pow_succ]; omega)
    rw [List.length_cons, show m + (r.length + 1) = m + 1 + r.length by omega]
    exact this
theorem takeL_le (l : List UInt8) (k : Nat) (s : St) : (takeL l k s).length ≤ k := by
  unfold takeL
  split
  · exact Nat.zero_le _
  · split
    · exact Nat.zero_le _
    · rw [List.length_take]; omega
theorem numV_lt (l : List UInt8) (k : Nat) (s : St) : numV l k s < 256 ^ k := by
  have h := numL_lt (takeL l k s) 0 0 (by decide)
  rw [Nat.zero_add] at h
  exact Nat.lt_of_lt_of_le h (Nat.pow_le_pow_right (by decide) (takeL_le l k s))
section
variable {w0 w : World} {p : Gp} {A : Option Addr} {n c : Nat} {l : List UInt8} {s : St}
set_option maxRecDepth 10000 in
set_option maxHeartbeats 1000000 in
theorem num_any (h : GtAt w0 w p A n c l s) (k : Nat) (hk : k = 1 ∨ k = 2) : Calls Try.prog 24 #[.int .i64 (k : Nat), .pointer (some ⟨p.t, 0, none⟩)] w fun r w' =>
    r = .returned (.int .i64 (numV l k s : Nat)) ∧ GtAt w0 w' p A n c l (takeS l k s) ∧ But2 p.a p.e w w' := by
  have c4 : w.cell? ⟨p.t, 0, none⟩ = some (vTake p) := row_cell h.rt 0
  have HT := hid (take_any h k (by omega))
  have hle := takeL_le l k s
  have HV : Hid (numV l k s = numL 0 (takeL l k s)) := rfl
  clear h
  unfold vTake at c4
  generalize numV l k s = V at *
  generalize takeL l k s = T at *
  obtain ⟨q, hq⟩ : ∃ q, T.length = q := ⟨_, rfl⟩
  rw [hq] at HT hle
  have HQ := hid hq
  have hq2 : q ≤ 2 := by omega
  clear hq hle
  go_enter Try.func24, Try.ntmps24
  go_upto_region 3 with (go_at_call 23; refine HT.out.mono ?_; rintro r w1 ⟨A', c', rfl, h1, h2, b1⟩)
  have H2 := hid (And.intro h2 b1)
  have hqc := h1.cap
  have hqm := h1.max
  unfold maxLen at hqm
  have h3 := h1
  clear h2 b1 HT hk
  go_wp2_with fail
  go_loopw [4, 11] (fun vn vi wr => ∃ j : Nat, j ≤ q ∧ vn = .int .i64 (numL 0 (T.take j) : Nat) ∧ vi = .int .i64 (j : Nat) ∧ wr = w1) (fun _ vi _ => q - (intOf vi).toNat)
  case atStart => exact ⟨0, Nat.zero_le _, rfl, rfl, rfl⟩
  case round =>
    obtain ⟨j, hj, rfl, rfl, rfl⟩ := hrel
    by_cases hgo : j < q
    · have hjl : j < T.length := by rw [HQ.out]; exact hgo
      obtain ⟨ad, rfl, ha⟩ := h1.lies (by omega)
      have ca := ha j hjl
      have hz : (j : Int) < (q : Int) := by omega
      have hnx := hid (numL_take T j hjl)
      have hzl := T[j].toNat_lt
      have hml : numL 0 (T.take j) < 65536 := by
        have h := numL_lt (T.take j) 0 0 (by decide)
        rw [List.length_take, Nat.zero_add] at h
        exact Nat.lt_of_lt_of_le h (Nat.pow_le_pow_right (n := 256) (show 0 < 256 by decide) (show min j T.length ≤ 2 by omega))
      clear ha h1 h3
      generalize T[j].toNat = z at ca hnx hzl
      generalize numL 0 (T.take j) = m at hml hnx ⊢
      have e1 := i64_or_step m z hml hzl
      go_wp2_with fail
      go_roundw
      case rel => exact ⟨j + 1, by omega, by rw [hnx.out]; go_num, by go_num, trivial⟩
      case measure => simp [intOf]; omega
    · obtain rfl : j = q := by omega
      have e : T.take j = T := List.take_of_length_le (by rw [HQ.out]; exact Nat.le_refl _)
      rw [e, ← HV.out]
      clear h1 h3
      go_wp2_with fail
      go_ret
      exact ⟨rfl, H2.out⟩
end
end Go.Proofs.Ytnanmdfbgoahjaa
