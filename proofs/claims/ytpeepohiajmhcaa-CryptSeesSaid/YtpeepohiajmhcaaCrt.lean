/-
  The contracts of Create and Open.
-/
import Derived.Test.YtpeepohiajmhcaaEcr
namespace Go.Proofs.Ytpeepohiajmhcaa
open Go.RowKit

section
variable {B : Nat} {S : Nat → Prop} {w : World} {g : Nat} {F L : Value} {d : Dk} {e : Int}
set_option maxRecDepth 10000 in
set_option maxHeartbeats 1000000 in
theorem Create_none (o : Option Addr) (A A2 : Option Addr) (n cap m cap2 : Nat) (h : NoDk w o) :
    Calls Try.prog 7 #[.pointer o, .slice A n cap, .slice A2 m cap2] w fun r w' => r = .returned (.tuple #[.pointer none, .int .i64 1]) ∧ w = w' := by
  have HI := hid (isDisk_no h)
  clear h
  go_enter Try.func7, Try.ntmps7
  go_wp2_with (go_at_call 27; refine HI.out.mono ?_; rintro r w' ⟨rfl, rfl⟩)
  go_ret2
  exact ⟨rfl, rfl⟩
set_option maxRecDepth 10000 in
set_option maxHeartbeats 1000000 in
theorem Create_state (hd : DkAt B S w g F L d e) (h0 : d.now.length ≠ 0) (A A2 : Option Addr) (n cap m cap2 : Nat) :
    Calls Try.prog 7 #[.pointer (some ⟨g, 0, none⟩), .slice A n cap, .slice A2 m cap2] w fun r w' => r = .returned (.tuple #[.pointer none, .int .i64 20]) ∧ w = w' := by
  have HI := hid (isDisk_any hd)
  have HZ := hid (Size_any hd)
  obtain ⟨z, hz⟩ : ∃ z, d.now.length = z := ⟨_, rfl⟩
  rw [hz] at HZ h0
  have b0 : ((z : Int) != 0) = true := by simp; omega
  clear hd hz
  go_enter Try.func7, Try.ntmps7
  go_wp2_with (first
    | (go_at_call 27; (with_reducible refine HI.out.mono ?_); rintro r w' ⟨rfl, rfl⟩)
    | (go_at_call 10; (with_reducible refine HZ.out.mono ?_); rintro r w' ⟨rfl, rfl⟩))
  go_ret2
  exact ⟨rfl, rfl⟩
/-- A plain file: no password, no salt. -/
theorem size_nil (h0 : d.now.length = 0) (HZ : Calls Try.prog 10 #[.pointer (some ⟨g, 0, none⟩)] w fun r w' => r = .returned (.int .i64 (d.now.length : Nat)) ∧ w = w') : Calls Try.prog 10 #[.pointer (some ⟨g, 0, none⟩)] w fun r w' => r = .returned (.int .i64 0) ∧ w = w' := by
  rw [h0] at HZ; exact HZ
set_option maxRecDepth 10000 in
set_option maxHeartbeats 1000000 in
theorem Create_plain (T : Nat → Prop) (hT : ∀ i, T i → i < w.heap.size) (hd : DkAt B S w g F L d e) (h0 : d.now.length = 0) (A A2 : Option Addr) (cap cap2 : Nat) :
    Calls Try.prog 7 #[.pointer (some ⟨g, 0, none⟩), .slice A 0 cap, .slice A2 0 cap2] w fun r w' => ∃ h, r = .returned (.tuple #[.pointer (some ⟨h, 0, none⟩), .int .i64 0]) ∧ FlAt T w' h g none ∧ Below w.heap.size w w' ∧ w.heap.size ≤ h := by
  have HI := hid (isDisk_any hd)
  have HZ := hid (size_nil h0 (Size_any hd))
  have HP := hid (plain_any T g w hT)
  clear hd h0
  go_enter Try.func7, Try.ntmps7
  go_wp2_with (first
    | (go_at_call 27; (with_reducible refine HI.out.mono ?_); rintro r w' ⟨rfl, rfl⟩)
    | (go_at_call 10; (with_reducible refine HZ.out.mono ?_); rintro r w' ⟨rfl, rfl⟩)
    | (go_at_call 28; (with_reducible refine HP.out.mono ?_); rintro r w1 ⟨h, rfl, h1, b1, q1⟩; have H1 := hid (And.intro h1 (And.intro b1 q1)); clear h1 b1 q1))
  go_ret2
  exact ⟨h, rfl, H1.out⟩
set_option maxRecDepth 10000 in
set_option maxHeartbeats 1000000 in
theorem Create_arg (hd : DkAt B S w g F L d e) (h0 : d.now.length = 0) (A A2 : Option Addr) (n cap m cap2 : Nat) (hb : (n = 0 ∧ m ≠ 0) ∨ (n ≠ 0 ∧ m ≠ 32)) :
    Calls Try.prog 7 #[.pointer (some ⟨g, 0, none⟩), .slice A n cap, .slice A2 m cap2] w fun r w' => r = .returned (.tuple #[.pointer none, .int .i64 2]) ∧ w = w' := by
  have HI := hid (isDisk_any hd)
  have HZ := hid (size_nil h0 (Size_any hd))
  clear hd h0
  rcases hb with ⟨rfl, hm⟩ | ⟨hn, hm⟩
  · have b1 : ((m : Int) == 0) = false := by simp; omega
    go_enter Try.func7, Try.ntmps7
    go_wp2_with (first
      | (go_at_call 27; (with_reducible refine HI.out.mono ?_); rintro r w' ⟨rfl, rfl⟩)
      | (go_at_call 10; (with_reducible refine HZ.out.mono ?_); rintro r w' ⟨rfl, rfl⟩))
    go_ret2
    exact ⟨rfl, rfl⟩
  · have b1 : ((n : Int) == 0) = false := by simp; omega
    have b2 : ((m : Int) != 32) = true := by simp; omega
    go_enter Try.func7, Try.ntmps7
    go_wp2_with (first
      | (go_at_call 27; (with_reducible refine HI.out.mono ?_); rintro r w' ⟨rfl, rfl⟩)
      | (go_at_call 10; (with_reducible refine HZ.out.mono ?_); rintro r w' ⟨rfl, rfl⟩))
    go_ret2
    exact ⟨rfl, rfl⟩
set_option maxRecDepth 10000 in
set_option maxHeartbeats 1000000 in
/-- The salt can't be appended. -/
theorem Create_app (hd : DkAt B S w g F L d e) (h0 : d.now.length = 0) (A A2 : Option Addr) (n cap m : Nat) (salt : List UInt8) (hn : n ≠ 0) (hs : Out S w A2 32 m salt) {d1 : Dk} {x : Nat} (e1 : d.app salt = (d1, x)) (hx : x ≠ 0) :
    Calls Try.prog 7 #[.pointer (some ⟨g, 0, none⟩), .slice A n cap, .slice A2 32 m] w fun r w' => r = .returned (.tuple #[.pointer none, .int .i64 (x : Nat)]) ∧ ∃ F' S', DkAt B S' w' g F' L d1 e ∧ Stp S S' w w' := by
  have HI := hid (isDisk_any hd)
  have HZ := hid (size_nil h0 (Size_any hd))
  have HA := hid (Append_any A2 32 m salt hd hs)
  rw [e1] at HA
  have b1 : ((n : Int) == 0) = false := by simp; omega
  have b2 : ((x : Int) != 0) = true := by simp; omega
  clear hd hs h0 e1
  go_enter Try.func7, Try.ntmps7
  go_wp2_with (first
    | (go_at_call 27; (with_reducible refine HI.out.mono ?_); rintro r w' ⟨rfl, rfl⟩)
    | (go_at_call 10; (with_reducible refine HZ.out.mono ?_); rintro r w' ⟨rfl, rfl⟩)
    | (go_at_call 29; (with_reducible refine HA.out.mono ?_); rintro r w1 ⟨rfl, h1⟩; have H1 := hid h1; clear h1))
  go_ret2
  exact ⟨rfl, H1.out⟩
set_option maxRecDepth 10000 in
set_option maxHeartbeats 1000000 in
/-- The disk can't be synced. -/
theorem Create_syn (hd : DkAt B S w g F L d e) (h0 : d.now.length = 0) (A A2 : Option Addr) (n cap m : Nat) (salt : List UInt8) (hn : n ≠ 0) (hs : Out S w A2 32 m salt) {d1 d2 : Dk} {x : Nat} (e1 : d.app salt = (d1, 0)) (e2 : d1.syn = (d2, x)) (hx : x ≠ 0) :
    Calls Try.prog 7 #[.pointer (some ⟨g, 0, none⟩), .slice A n cap, .slice A2 32 m] w fun r w' => r = .returned (.tuple #[.pointer none, .int .i64 (x : Nat)]) ∧ ∃ F' L' S', DkAt B S' w' g F' L' d2 e ∧ Stp S S' w w' := by
  have HI := hid (isDisk_any hd)
  have HZ := hid (size_nil h0 (Size_any hd))
  have HA := hid (Append_any A2 32 m salt hd hs)
  rw [e1] at HA
  rw [show (((d1, 0) : Dk × Nat).2 : Int) = 0 from rfl] at HA
  have HE := hid e2
  have b1 : ((n : Int) == 0) = false := by simp; omega
  have b2 : ((x : Int) != 0) = true := by simp; omega
  clear hd hs h0 e1 e2
  go_enter Try.func7, Try.ntmps7
  go_wp2_with (first
    | (go_at_call 27; (with_reducible refine HI.out.mono ?_); rintro r w' ⟨rfl, rfl⟩)
    | (go_at_call 10; (with_reducible refine HZ.out.mono ?_); rintro r w' ⟨rfl, rfl⟩)
    | (go_at_call 29; (with_reducible refine HA.out.mono ?_); rintro r w1 ⟨rfl, F', S', h1, s1⟩; have HS := hid (Sync_any h1); rw [HE.out] at HS; have S1 := hid s1; clear h1 s1)
    | (go_at_call 19; (with_reducible refine HS.out.mono ?_); rintro r w2 ⟨rfl, ⟨L', h2⟩, b2⟩; have H2 := hid h2; have S2 := hid (S1.out.trans (.of_but b2)); clear h2 b2))
  go_ret2
  exact ⟨rfl, F', L', S', H2.out, S2.out⟩
set_option maxRecDepth 10000 in
set_option maxHeartbeats 1000000 in
theorem Create_good (T : Nat → Prop) (hT : ∀ i, T i → i < w.heap.size) (hd : DkAt B S w g F L d e) (h0 : d.now.length = 0) (A A2 : Option Addr) (n cap m : Nat) (pw salt : List UInt8) (hn : n ≠ 0) (hp : Out S w A n cap pw) (hs : Out S w A2 32 m salt) {d1 d2 : Dk} (e1 : d.app salt = (d1, 0)) (e2 : d1.syn = (d2, 0)) :
    Calls Try.prog 7 #[.pointer (some ⟨g, 0, none⟩), .slice A n cap, .slice A2 32 m] w fun r w' => ∃ h F' L' S', r = .returned (.tuple #[.pointer (some ⟨h, 0, none⟩), .int .i64 0]) ∧ DkAt B S' w' g F' L' d2 e ∧ Stp S S' w w' ∧ FlAt (U S' T) w' h g (some (enOf pw salt)) ∧ w.heap.size ≤ h := by
  have HI := hid (isDisk_any hd)
  have HZ := hid (size_nil h0 (Size_any hd))
  have HA := hid (Append_any A2 32 m salt hd hs)
  rw [e1] at HA
  rw [show (((d1, 0) : Dk × Nat).2 : Int) = 0 from rfl] at HA
  have HE := hid e2
  have HO := hid (And.intro hp hs)
  have b1 : ((n : Int) == 0) = false := by simp; omega
  clear hd hs hp h0 e1 e2
  go_enter Try.func7, Try.ntmps7
  go_wp2_with (first
    | (go_at_call 27; (with_reducible refine HI.out.mono ?_); rintro r w' ⟨rfl, rfl⟩)
    | (go_at_call 10; (with_reducible refine HZ.out.mono ?_); rintro r w' ⟨rfl, rfl⟩)
    | (go_at_call 29; (with_reducible refine HA.out.mono ?_); rintro r w1 ⟨rfl, F', S', h1, s1⟩; have HS := hid (Sync_any h1); rw [HE.out] at HS; have S1 := hid s1; clear h1 s1; rw [show (((d2, 0) : Dk × Nat).2 : Int) = 0 from rfl] at HS)
    | (go_at_call 19; (with_reducible refine HS.out.mono ?_); rintro r w2 ⟨rfl, ⟨L', h2⟩, b2⟩; have H2 := hid h2; have S2 := hid (S1.out.trans (.of_but b2)); have HC := hid (encrypted_any (U S' T) g A A2 n cap m pw salt w2 (HO.out.1.stp S2.out).isBB (HO.out.2.stp S2.out).isBB (fun i hi => hi.elim (fun q => (H2.out.lt i q).2) (fun q => Nat.lt_of_lt_of_le (hT i q) S2.out.but.size))); clear h2 b2)
    | (go_at_call 30; (with_reducible refine HC.out.mono ?_); rintro r w3 ⟨h, rfl, h3, b3, q3⟩; have H3 := hid h3; have B3 := hid b3; have Q3 := hid q3; clear h3 b3 q3))
  go_ret2
  exact ⟨h, F', L', S', rfl, H2.out.below B3.out, S2.out.trans (.of_below B3.out), H3.out, Nat.le_trans S2.out.but.size Q3.out⟩
set_option maxRecDepth 10000 in
set_option maxHeartbeats 1000000 in
theorem Open_none (o : Option Addr) (A : Option Addr) (n cap : Nat) (h : NoDk w o) :
    Calls Try.prog 8 #[.pointer o, .slice A n cap] w fun r w' => r = .returned (.tuple #[.pointer none, .int .i64 1]) ∧ w = w' := by
  have HI := hid (isDisk_no h)
  clear h
  go_enter Try.func8, Try.ntmps8
  go_wp2_with (go_at_call 27; refine HI.out.mono ?_; rintro r w' ⟨rfl, rfl⟩)
  go_ret2
  exact ⟨rfl, rfl⟩
set_option maxRecDepth 10000 in
set_option maxHeartbeats 1000000 in
theorem Open_short (hd : DkAt B S w g F L d e) (h0 : d.now.length < 32) (A : Option Addr) (n cap : Nat) (hn : n ≠ 0) :
    Calls Try.prog 8 #[.pointer (some ⟨g, 0, none⟩), .slice A n cap] w fun r w' => r = .returned (.tuple #[.pointer none, .int .i64 12]) ∧ w = w' := by
  have HI := hid (isDisk_any hd)
  have HZ := hid (Size_any hd)
  obtain ⟨z, hz⟩ : ∃ z, d.now.length = z := ⟨_, rfl⟩
  rw [hz] at HZ h0
  have b1 : ((n : Int) == 0) = false := by simp; omega
  have h0' : (z : Int) < 32 := by omega
  clear hd hz
  go_enter Try.func8, Try.ntmps8
  go_wp2_with (first
    | (go_at_call 27; (with_reducible refine HI.out.mono ?_); rintro r w' ⟨rfl, rfl⟩)
    | (go_at_call 10; (with_reducible refine HZ.out.mono ?_); rintro r w' ⟨rfl, rfl⟩))
  go_ret2
  exact ⟨rfl, rfl⟩
set_option maxRecDepth 10000 in
set_option maxHeartbeats 1000000 in
theorem Open_good (T : Nat → Prop) (hT : ∀ i, T i → i < w.heap.size) (hd : DkAt B S w g F L d e) (h0 : 32 ≤ d.now.length) (A : Option Addr) (n cap : Nat) (pw : List UInt8) (hn : n ≠ 0) (hp : Out S w A n cap pw) (hop : d.op.2 = 0) :
    Calls Try.prog 8 #[.pointer (some ⟨g, 0, none⟩), .slice A n cap] w fun r w' => ∃ h, r = .returned (.tuple #[.pointer (some ⟨h, 0, none⟩), .int .i64 0]) ∧ DkAt B S w' g F L d.op.1 e ∧ But S w w' ∧ FlAt (U S T) w' h g (some (enOf pw (d.now.take 32))) ∧ w.heap.size ≤ h := by
  have HI := hid (isDisk_any hd)
  have HZ := hid (Size_any hd)
  have HR := hid (ReadAt_any hd 0 32 (by omega) hop)
  rw [show ((0 : Nat) : Int) = 0 from rfl, show ((32 : Nat) : Int) = 32 from rfl, List.drop_zero] at HR
  have HO := hid hp
  obtain ⟨z, hz⟩ : ∃ z, d.now.length = z := ⟨_, rfl⟩
  rw [hz] at HZ h0
  have b1 : ((n : Int) == 0) = false := by simp; omega
  have h0' : 32 ≤ (z : Int) := by omega
  clear hd hz hp
  go_enter Try.func8, Try.ntmps8
  go_wp2_with (first
    | (go_at_call 27; (with_reducible refine HI.out.mono ?_); rintro r w' ⟨rfl, rfl⟩)
    | (go_at_call 10; (with_reducible refine HZ.out.mono ?_); rintro r w' ⟨rfl, rfl⟩)
    | (go_at_call 31; (with_reducible refine HR.out.mono ?_); rintro r w2 ⟨A2, m, rfl, h2, b2, o2⟩; have H2 := hid h2; have S2 := hid b2; have HC := hid (encrypted_any (U S T) g A A2 n cap m pw _ w2 (HO.out.stp (.of_but b2)).isBB (own_isB2 o2 (by omega)) (fun i hi => hi.elim (fun q => (H2.out.lt i q).2) (fun q => Nat.lt_of_lt_of_le (hT i q) S2.out.size))); clear h2 b2 o2)
    | (go_at_call 30; (with_reducible refine HC.out.mono ?_); rintro r w3 ⟨h, rfl, h3, b3, q3⟩; have H3 := hid h3; have B3 := hid b3; have Q3 := hid q3; clear h3 b3 q3))
  go_ret2
  exact ⟨h, rfl, H2.out.below B3.out, S2.out.trans (.of_below B3.out) (fun i hi => .inl hi), H3.out, Nat.le_trans S2.out.size Q3.out⟩
end
end Go.Proofs.Ytpeepohiajmhcaa
