/-
  The walk of ValidTells.
-/
import Derived.Test.YtdlmcfknmdaabaaTlc
import Derived.Test.YtdlmcfknmdaabaaBig
namespace Go.Proofs.Ytdlmcfknmdaabaa
open Go.RowKit
set_option linter.unusedVariables false
set_option linter.unusedSimpArgs false

theorem chk_same {l : List UInt8} {post : Bool} {S1 S2 : List Nat} (h1 : stE l = 0 → starts l = some S1) (h2 : stE l = 0 → starts l = some S2) : chkE l post S1 = chkE l post S2 := by
  by_cases h0 : stE l = 0
  · have e := (h1 h0).symm.trans (h2 h0)
    injection e with e
    rw [e]
  · unfold chkE
    rw [if_neg h0, if_neg h0]
theorem same_S {l : List UInt8} {S1 S2 : List Nat} (h1 : stE l = 0 → starts l = some S1) (h2 : stE l = 0 → starts l = some S2) (g1 : stE l ≠ 0 → S1 = []) (g2 : stE l ≠ 0 → S2 = []) : S1 = S2 := by
  by_cases h0 : stE l = 0
  · have e := (h1 h0).symm.trans (h2 h0)
    injection e
  · rw [g1 h0, g2 h0]
set_option maxRecDepth 10000 in
set_option maxHeartbeats 4000000 in
theorem tells_big (A : Option Addr) (n c : Nat) (post : Bool) (w : World) (h : 8000 < n) :
    Calls Try.prog 3 #[.slice A n c, .bool post] w fun e w' => e = .returned (.bool true) ∧ Below w.heap.size w w' := by
  have HC := hid (fun post w => Check_big A n c post w (by omega))
  have HA := hid (fun w => awake_any w)
  have hz : (8000 : Int) < (n : Int) := by omega
  clear h
  go_enter Try.func3, Try.ntmps3
  go_wp2_with fail
  refine (HC.out _ _).mono ?_
  rintro r w2 ⟨rfl, b2⟩
  have B2 := hid b2
  clear b2
  dsimp only
  go_wp2_with fail
  refine (HA.out _).mono ?_
  rintro r w3 ⟨rfl, b3⟩
  dsimp only
  go_wp2_with fail
  go_ret
  exact ⟨rfl, B2.out.trans (b3.mono B2.out.size)⟩
set_option maxRecDepth 10000 in
set_option maxHeartbeats 4000000 in
theorem tells_any (A : Option Addr) (n c : Nat) (l : List UInt8) (post : Bool) (w : World) (h : IsBB w w.heap.size A n c l) (hn : n ≤ 8000) :
    Calls Try.prog 3 #[.slice A n c, .bool post] w fun e w' => e = .returned (.bool true) ∧ Below w.heap.size w w' := by
  have HA := hid (fun w => awake_any w)
  have I0 := hid h
  have C1 := hid (CopyBytes_any A l n c w h (by omega))
  have hz : (n : Int) ≤ 8000 := by omega
  have hlen := h.len
  obtain ⟨se, hse⟩ : ∃ se, stE l = se := ⟨_, rfl⟩
  have SE := hid hse
  clear h hse
  go_enter Try.func3, Try.ntmps3
  go_wp2_with fail
  refine C1.out.mono ?_
  rintro r w1 ⟨v1, rfl, o1⟩
  obtain ⟨A1, c1, rfl, i1⟩ := o1.isBB (by omega)
  rw [hlen] at i1
  rw [hlen]
  have I1 := hid i1
  have B1 := hid o1.bel
  have C2 := hid (Starts_any A1 n c1 l w1 i1)
  rw [SE.out] at C2
  clear o1 i1 C1 hlen
  dsimp only
  go_wp2_with fail
  refine C2.out.mono ?_
  rintro r w2 ⟨v2, S2, rfl, b2, r2, s2, n2⟩
  have R2 := hid r2
  have HS2 := hid s2
  have HN2 := hid n2
  have I2 := hid (I1.out.on b2)
  have B2 := hid (bel_on B1.out b2)
  have C3 := hid (RefStarts_any A n c l w2 (I0.out.on B2.out))
  rw [SE.out] at C3
  clear b2 r2 s2 n2 C2 I1 B1
  dsimp only
  go_wp2_with fail
  refine C3.out.mono ?_
  rintro r w3 ⟨v3, S3, rfl, b3, r3, s3, n3⟩
  have hS : S2 = S3 := same_S (l := l) (by rw [SE.out]; exact HS2.out) (by rw [SE.out]; exact s3) (by rw [SE.out]; exact HN2.out) (by rw [SE.out]; exact n3)
  subst hS
  have hX : (nats S2).length ≤ 100000 := by
    by_cases h0 : se = 0
    · have h1 := starts_few (s3 h0)
      have h2 := stE_le (SE.out.trans h0)
      rw [nats_len]
      omega
    · rw [n3 h0]
      exact Nat.zero_le _
  have C4 := hid (SameInts_true v2 v3 (nats S2) _ _ w3 (ints_below R2.out b3) r3 hX)
  have I3 := hid (I2.out.on b3)
  have B3 := hid (bel_on B2.out b3)
  have hee : (se == se) = true := beq_self_eq_true se
  clear b3 r3 s3 n3 C3 I2 B2 R2 HS2 HN2 hX
  dsimp only
  go_wp2_with fail
  refine C4.out.mono ?_
  rintro r w4 ⟨rfl, q, rfl⟩
  have I4 := hid (I3.out.on (below_drewN (Below.refl _ w3) q))
  have B4 := hid (below_drewN B3.out q)
  clear C4 I3 B3
  generalize w3.drewN q = w4 at *
  have C5 := hid (Check_any A1 n c1 l post w4 I4.out)
  dsimp only
  go_wp2_with fail
  refine C5.out.mono ?_
  rintro r w5 ⟨S5, rfl, b5, s5⟩
  have I5 := hid (I4.out.on b5)
  have B5 := hid (bel_on B4.out b5)
  have H5 := hid s5
  have C6 := hid (RefCheck_any A n c l post w5 (I0.out.on B5.out))
  clear b5 s5 C5 I4 B4
  dsimp only
  go_wp2_with fail
  refine C6.out.mono ?_
  rintro r w6 ⟨S6, rfl, b6, s6⟩
  have he := chk_same (post := post) H5.out s6
  have I6 := hid (I5.out.on b6)
  have B6 := hid (bel_on B5.out b6)
  rw [he]
  generalize chkE l post S6 = ce
  have hce : (ce == ce) = true := beq_self_eq_true ce
  have C7 := hid (SameBytes_true A1 A l n c1 c w6 I6.out.toIsB (I0.out.on B6.out).toIsB)
  clear b6 s6 he H5 C6 I5 B5
  dsimp only
  go_wp2_with fail
  refine C7.out.mono ?_
  rintro r w7 ⟨rfl, q, rfl⟩
  have B7 := hid (below_drewN B6.out q)
  clear C7 I6 B6
  generalize w6.drewN q = w7 at *
  dsimp only
  go_wp2_with fail
  refine (HA.out _).mono ?_
  rintro r w8 ⟨rfl, b8⟩
  dsimp only
  go_wp2_with fail
  go_ret
  exact ⟨rfl, bel_on B7.out b8⟩
end Go.Proofs.Ytdlmcfknmdaabaa
