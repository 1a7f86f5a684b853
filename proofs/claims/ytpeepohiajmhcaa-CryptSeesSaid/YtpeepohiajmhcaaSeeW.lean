/-
  The walk of CryptSees.
-/
import Derived.Test.YtpeepohiajmhcaaHdn
import Derived.Test.YtpeepohiajmhcaaZa
namespace Go.Proofs.Ytpeepohiajmhcaa
open Go.RowKit

/-- A slice of calls below block B: the first 3000 bytes of each one's bytes. -/
structure OpsL (w : World) (B : Nat) (A : Option Addr) (n c : Nat) : Prop where
  cap : n ≤ c
  max : c ≤ maxLen
  lies : ∀ i, i < n → ∃ (ad : Addr) (K N M E : Int) (Ai : Option Addr) (ni ci : Nat) (l : List UInt8), A = some ad ∧ ad.block < B ∧
    (w.cell? (ad.add (i * 5)) = some (.int .i64 K) ∧ w.cell? (ad.add (i * 5 + 1)) = some (.int .i64 N) ∧ w.cell? (ad.add (i * 5 + 2)) = some (.int .i64 M) ∧ w.cell? (ad.add (i * 5 + 3)) = some (.int .i64 E) ∧ w.cell? (ad.add (i * 5 + 4)) = some (.slice Ai ni ci)) ∧
    N ≤ 9223372036854775807 ∧ M ≤ 9223372036854775807 ∧ ni ≤ ci ∧ ci ≤ maxLen ∧ IsBB w B Ai (min ni 3000) ci l
theorem ops_cells {w q : World} {ad : Addr} {i : Nat} {K N M E : Int} {Ai : Option Addr} {ni ci : Nat} (hb : ad.block < w.heap.size) (b : Below w.heap.size w q)
    (h : w.cell? (ad.add (i * 5)) = some (.int .i64 K) ∧ w.cell? (ad.add (i * 5 + 1)) = some (.int .i64 N) ∧ w.cell? (ad.add (i * 5 + 2)) = some (.int .i64 M) ∧ w.cell? (ad.add (i * 5 + 3)) = some (.int .i64 E) ∧ w.cell? (ad.add (i * 5 + 4)) = some (.slice Ai ni ci)) :
    q.cell? (ad.add (i * 5)) = some (.int .i64 K) ∧ q.cell? (ad.add (i * 5 + 1)) = some (.int .i64 N) ∧ q.cell? (ad.add (i * 5 + 2)) = some (.int .i64 M) ∧ q.cell? (ad.add (i * 5 + 3)) = some (.int .i64 E) ∧ q.cell? (ad.add (i * 5 + 4)) = some (.slice Ai ni ci) :=
  ⟨(b.cell (by rw [block_of_add]; exact hb)).trans h.1, (b.cell (by rw [block_of_add]; exact hb)).trans h.2.1, (b.cell (by rw [block_of_add]; exact hb)).trans h.2.2.1, (b.cell (by rw [block_of_add]; exact hb)).trans h.2.2.2.1, (b.cell (by rw [block_of_add]; exact hb)).trans h.2.2.2.2⟩
/-- Both disks from call to call. -/
structure SeeSt (W0 wr : World) (gd gp h hg : Nat) (en : En) (salt : List UInt8) : Prop where
  ex : ∃ X d p, Two W0.heap.size wr X gd gp d p h hg en ∧ Sees salt (stE en) d p
  bel : Below W0.heap.size W0 wr
theorem two_bel {base : Nat} {W0 W W' : World} {X X' : Nat → Prop} {gd gp : Nat} {d p : Dk} {h hg : Nat} {en : En} (t : Two base W X gd gp d p h hg en) (b : Below base W0 W) (s : Stp X X' W W') : Below base W0 W' := b.trans (s.but.below (fun i hi => (t.lt i hi).1) t.bb)
theorem dk_low {B B' : Nat} {S : Nat → Prop} {w : World} {g : Nat} {F L : Value} {d : Dk} {e : Int} (h : DkAt B' S w g F L d e) (hB : B ≤ B') : DkAt B S w g F L d e :=
  ⟨h.row, h.ff, h.ll, h.ap, h.sg, h.sf, h.sl, fun i hi => ⟨Nat.le_trans hB (h.lt i hi).1, (h.lt i hi).2⟩, h.ok, h.er, h.ae, h.fe⟩
def S0 : Dk := Dk.load 3032 []
def P0 : Dk := Dk.load 3000 []
def S1 (salt : List UInt8) : Dk := { S0 with now := salt }
def S2 (salt : List UInt8) : Dk := { S1 salt with old := salt, floor := salt.length }
theorem st1 (salt : List UInt8) (h : salt.length = 32) : S0.app salt = (S1 salt, 0) := by
  have h1 : S0.op = (S0, 0) := rfl
  have h2 : S0.now.length = 0 := rfl
  unfold Dk.app
  rw [h1, if_neg (by simp), if_neg (by rw [h2, h]; decide)]
  rfl
theorem st2 (salt : List UInt8) : (S1 salt).syn = (S2 salt, 0) := rfl
theorem st3 : P0.syn = (P0, 0) := rfl
theorem st4 (salt : List UInt8) (en : En) (h : salt.length = 32) : Sees salt (stE en) (S2 salt) P0 :=
  ⟨rfl, by show salt = salt ++ []; rw [List.append_nil], by show salt = salt ++ []; rw [List.append_nil], h, rfl, rfl, rfl, fun hf => absurd rfl hf⟩
theorem crash_op (d : Dk) (k : Int) : (d.crash k []).op = (d.crash k [], 0) := by
  have h1 : (d.crash k []).down = false := rfl
  have h2 : (d.crash k []).armed = 0 := rfl
  have h3 : (d.crash k []).fails = 0 := rfl
  generalize d.crash k [] = x at h1 h2 h3
  unfold Dk.op
  rw [if_neg (by rw [h1]; simp), if_neg (by rw [h2]; simp), if_neg (by rw [h3]; simp)]
  cases x
  simp at h1 h2 h3
  subst h1 h2 h3
  rfl
section
variable {base : Nat} {W : World} {X : Nat → Prop} {gd gp : Nat} {d p : Dk} {hf hg : Nat} {en : En} {salt : List UInt8}
theorem fsize_z (t : Two base W X gd gp d p hf hg en) (q : Nat) (hq : d.now.length - 32 = q) (m : Nat) : Calls Try.prog 14 #[.pointer (some ⟨hf, 0, none⟩)] (W.drewN m) fun e w'' => e = .returned (.int .i64 (q : Nat)) ∧ ∃ k, w'' = W.drewN k := by
  refine ((t.below (below_drewN (Below.refl _ W) m)).fsize).mono ?_
  rintro e w'' ⟨rfl, rfl⟩
  exact ⟨by rw [hq], m + 1, by rw [World.drewN_drewN]⟩
theorem gsize_z (t : Two base W X gd gp d p hf hg en) (q : Nat) (hq : p.now.length = q) (m : Nat) : Calls Try.prog 14 #[.pointer (some ⟨hg, 0, none⟩)] (W.drewN m) fun e w'' => e = .returned (.int .i64 (q : Nat)) ∧ ∃ k, w'' = W.drewN k := by
  refine ((t.below (below_drewN (Below.refl _ W) m)).gsize).mono ?_
  rintro e w'' ⟨rfl, rfl⟩
  exact ⟨by rw [hq], m + 1, by rw [World.drewN_drewN]⟩
theorem same_z {A B : Option Addr} {n c c2 : Nat} {l : List UInt8} (h1 : IsB W A n c l) (h2 : IsB W B n c2 l) (m : Nat) : Calls Try.prog 24 #[.slice A n c, .slice B n c2] (W.drewN m) fun e w'' => e = .returned (.bool true) ∧ ∃ k, w'' = W.drewN k := by
  refine (SameBytes_true A B l n c c2 (W.drewN m) (h1.drewN m) (h2.drewN m)).mono ?_
  rintro e w'' ⟨rfl, k, rfl⟩
  exact ⟨rfl, m + k, by rw [World.drewN_drewN]⟩
theorem sees_salt (s : Sees salt (stE en) d p) (hs : salt.length = 32) : d.now.take 32 = salt := by rw [s.nw]; exact (list_split hs).2
/-- The image is laid, the salt's box stands. -/
theorem tail_bytes {W0 W6 : World} {b z cB : Nat} {AB : Option Addr} (s : Sees salt (stE en) d p) (hs : salt.length = 32) (r0 : W0.heap[b]? = some (.cells (salt.map bv).toArray 46 (0, 0))) (bel : Below W0.heap.size W0 W6) (hz : d.now.length = z) (ib : IsBB W6 W6.heap.size AB z cB d.now) :
    32 ≤ (z : Int) ∧ IsB W6 AB 32 cB salt ∧ IsB W6 (some ⟨b, 0, none⟩) 32 32 salt ∧ ∀ w, (Instr.slice 29 (.slice AB z cB) none (some (.int .i64 32)) none).run Try.prog w = .ok (.slice AB 32 cB) w := by
  have hl := s.len hs
  have h32 : 32 ≤ z := by omega
  have r6 := (bel.block b (lt_of_heap r0)).trans r0
  refine ⟨by omega, ?_, (arr_isBB r6 32 hs (by omega)).toIsB, fun w => ?_⟩
  · have := (take_isB ib h32).toIsB
    rw [sees_salt s hs] at this
    exact this
  · have := slice_cut AB z cB 32 (by have := ib.cap; omega) w
    rw [show ((32 : Nat) : Int) = 32 from rfl] at this
    exact this
end
set_option maxRecDepth 10000 in
set_option maxHeartbeats 1000000 in
theorem CryptSees_out (A : Option Addr) (n cap : Nat) (salt : List UInt8) (SA : Option Addr) (sn sc : Nat) (w : World) (hn : n = 0 ∨ 100 < n) :
    Calls Try.prog 5 #[.slice A n cap, .agg (salt.map bv).toArray, .slice SA sn sc] w fun r w' => r = .returned (.bool true) ∧ Below w.heap.size w w' := by
  have ba : Below w.heap.size w (w.alloc (.cells (salt.map bv).toArray 46)) := (Below.refl _ w).alloc (Nat.le_refl _) _
  have BA := hid ba
  have HA := hid (awake_any (w.alloc (.cells (salt.map bv).toArray 46)))
  clear ba
  rcases hn with rfl | hn
  · go_enter Try.func5, Try.ntmps5
    go_wp2_with (go_at_call 16; refine HA.out.mono ?_; rintro r W1 ⟨rfl, b1⟩; have B1 := hid b1; clear b1)
    go_ret
    exact ⟨rfl, bel_trans BA.out B1.out⟩
  · have hn2 : (100 : Int) < (n : Int) := by omega
    go_enter Try.func5, Try.ntmps5
    go_wp2_with (go_at_call 16; refine HA.out.mono ?_; rintro r W1 ⟨rfl, b1⟩; have B1 := hid b1; clear b1)
    go_ret
    exact ⟨rfl, bel_trans BA.out B1.out⟩
set_option maxRecDepth 10000 in
set_option maxHeartbeats 8000000 in
theorem CryptSees_any (A : Option Addr) (n cap : Nat) (pw salt : List UInt8) (SA : Option Addr) (sn sc : Nat) (w : World) (hp : IsBB w w.heap.size A n cap pw) (hn0 : n ≠ 0) (hn : n ≤ 100) (hs : salt.length = 32) (ho : OpsL w w.heap.size SA sn sc) :
    Calls Try.prog 5 #[.slice A n cap, .agg (salt.map bv).toArray, .slice SA sn sc] w fun r w' => r = .returned (.bool true) ∧ Below w.heap.size w w' := by
  obtain ⟨W0, hW0⟩ : ∃ W0, W0 = w.alloc (.cells (salt.map bv).toArray 46) := ⟨_, rfl⟩
  have b0 : Below w.heap.size w W0 := by rw [hW0]; exact (Below.refl _ w).alloc (Nat.le_refl _) _
  have r0 : W0.heap[w.heap.size]? = some (.cells (salt.map bv).toArray 46 (0, 0)) := by rw [hW0]; exact heap_alloc_new w _
  have I0 := hid (arr_isBB r0 32 hs (by omega))
  have P1 := hid (hp.on b0)
  have R0 := hid r0
  have B0 := hid b0
  have HO := hid ho
  have Hs := hid hs
  have CA := hid (New_any 3032 W0 (by omega))
  rw [show ((3032 : Nat) : Int) = 3032 from rfl] at CA
  have hnb : ((n : Int) == 0) = false := by simp; omega
  have hnz : (n : Int) ≤ 100 := by omega
  have Hn0 := hid hn0
  obtain ⟨en, hen⟩ : ∃ en, enOf pw salt = en := ⟨_, rfl⟩
  have Hen := hid hen
  clear hp hn0 hn hs ho b0 r0 hen
  go_enter Try.func5, Try.ntmps5
  go_upto_region 1 with fail
  rw [← hW0]
  clear hW0
  obtain ⟨b, hb⟩ : ∃ b, w.heap.size = b := ⟨_, rfl⟩
  rw [hb] at I0 R0 B0 ⊢
  have Hb := hid hb
  clear hb
  go_upto_region 5 with (first
    | (go_at_call 6; (with_reducible refine CA.out.mono ?_); rintro r W1 ⟨gd, Sd, Fd, rfl, hd, b1⟩; have D1 : Hid (DkAt W0.heap.size Sd W1 gd Fd (.slice none 0 0) S0 0) := hd; have B1 := hid b1; have CB := hid (New_any 3000 W1 (by omega)); rw [show ((3000 : Nat) : Int) = 3000 from rfl] at CB; clear hd b1 CA)
    | (go_at_call 6; (with_reducible refine CB.out.mono ?_); rintro r W2 ⟨gp, Sp, Fp, rfl, hp, b2⟩; have D2 := hid (D1.out.below b2); have Q2 : Hid (DkAt W1.heap.size Sp W2 gp Fp (.slice none 0 0) P0 0) := hp; have X2 : Hid (∀ i, Sd i → ¬ Sp i) := (fun i h1 h2 => by have e1 := (D1.out.lt i h1).2; have e2 := (Q2.out.lt i h2).1; omega); have B2 := hid (bel_trans B1.out b2); have L1 := hid B1.out.size; clear hp b2 CB D1 B1))
  have HC := hid (Create_good Sp (fun i hi => (Q2.out.lt i hi).2) D2.out rfl A (some ⟨b, 0, none⟩) n cap 32 pw salt Hn0.out (((P1.out.on B2.out).toIsB |> fun h => (P1.out.below B2.out).out (fun i hi => (D2.out.lt i hi).1))) ((I0.out.below B2.out).out (fun i hi => (D2.out.lt i hi).1)) (st1 salt Hs.out) (st2 salt))
  rw [Hen.out] at HC
  go_upto_region 7 with (first
    | (go_at_call 7; (with_reducible refine HC.out.mono ?_); rintro r W3 ⟨h, F3, L3, S3, rfl, d3, s3, f3, _⟩; have D3 := hid d3; have F3 := hid f3; have Q3 := hid (dk_low (Q2.out.but s3.but (fun i hi hs => X2.out i hs hi)) L1.out); have X3 : Hid (∀ i, S3 i → ¬ Sp i) := (fun i h1 h2 => by rcases s3.new i h1 with e1 | e1; exact X2.out i e1 h2; have e2 := (Q2.out.lt i h2).2; omega); have B3 := hid (B2.out.trans (s3.but.below (fun i hi => (D2.out.lt i hi).1) B2.out.size)); have HG := hid (Create_plain (U S3 Sp) (fun i hi => hi.elim (fun q => (D3.out.lt i q).2) (fun q => (Q3.out.lt i q).2)) Q3.out rfl none none 0 0); clear d3 s3 f3 HC D2 Q2 X2 B2 L1)
    | (go_at_call 7; (with_reducible refine HG.out.mono ?_); rintro r W4 ⟨hg, rfl, g4, b4, _⟩; have T4 : Hid (Two W0.heap.size W4 (U S3 Sp) gd gp (S2 salt) P0 h hg en) := ⟨⟨S3, Sp, _, _, _, _, _, _, D3.out.below b4, Q3.out.below b4, X3.out, rfl⟩, F3.out.below b4, g4⟩; have B4 := hid (B3.out.trans (b4.mono B3.out.size)); have HS := hid (T4.out.psync st3); clear g4 b4 HG D3 Q3 X3 F3 B3))
  rw [show ((0 : Nat) : Int) = 0 from rfl] at HS
  go_upto_region 10 with (first
    | (go_at_call 19; refine HS.out.mono ?_; rintro r W5 ⟨rfl, X5, t5, s5⟩; have S5 : Hid (SeeSt W0 W5 gd gp h hg en salt) := ⟨⟨X5, _, _, t5, st4 salt en Hs.out⟩, two_bel T4.out B4.out s5⟩; clear t5 s5 HS T4 B4))
  go_wp2_with fail
  have hsn : (sn : Int) ≤ 9223372036854775807 := by have := HO.out.cap; have := HO.out.max; unfold maxLen at *; omega
  go_loopw [11, 15] (fun vf vi wr => ∃ i h : Nat, i ≤ 20 ∧ vi = .int .i64 i ∧ vf = .pointer (some ⟨h, 0, none⟩) ∧ Hid (SeeSt W0 wr gd gp h hg en salt)) (fun _ vi _ => 20 - (intOf vi).toNat)
  case atStart => exact ⟨0, h, Nat.zero_le _, rfl, rfl, S5⟩
  case round =>
    obtain ⟨i, h, hi20, rfl, rfl, hS⟩ := hrel
    clear S5
    have Bw : Below w.heap.size w wr := (show Below w.heap.size w W0 by rw [Hb.out]; exact B0.out).trans (hS.out.bel.mono (by have := B0.out.size; exact this))
    by_cases hlt : i < sn ∧ i < 20
    · obtain ⟨hl1, hl2⟩ := hlt
      have hz1 : (i : Int) < sn := by omega
      have hz2 : (i : Int) < 20 := by omega
      obtain ⟨ad, K, N, M, E, Ai, ni, ci, l, rfl, hadl, hcells, hNm, hMm, hnc, hcm, hIB0⟩ := HO.out.lies i hl1
      obtain ⟨e0, e1, e2, e3, e4⟩ := ops_cells hadl Bw hcells
      rw [← add_of_add ad (i * 5) 1] at e1
      rw [← add_of_add ad (i * 5) 2] at e2
      rw [← add_of_add ad (i * 5) 3] at e3
      rw [← add_of_add ad (i * 5) 4] at e4
      change wr.cell? ⟨(ad.add (i * 5)).block, (ad.add (i * 5)).off + 1, none⟩ = _ at e1
      change wr.cell? ⟨(ad.add (i * 5)).block, (ad.add (i * 5)).off + 2, none⟩ = _ at e2
      change wr.cell? ⟨(ad.add (i * 5)).block, (ad.add (i * 5)).off + 3, none⟩ = _ at e3
      change wr.cell? ⟨(ad.add (i * 5)).block, (ad.add (i * 5)).off + 4, none⟩ = _ at e4
      have hcut : Cut (wr.alloc (.cells (opC K N M E Ai ni ci) 49)) W0.heap.size Ai ni ci (min ni 300) (l.take (min ni 300)) := by
        refine ⟨Nat.min_le_left _ _, by omega, by split <;> omega, hnc, ?_⟩
        have h1 := take_isB hIB0 (show min ni 300 ≤ min ni 3000 by omega)
        have hbw : Below w.heap.size w W0 := by rw [Hb.out]; exact B0.out
        have h2 := h1.on hbw
        exact (h2.below hS.out.bel).below ((op_bel K N M E Ai ni ci wr).mono hS.out.bel.size)
      obtain ⟨X, d, p, t, sSee⟩ := hS.out.ex
      have O0 := op_start K N M E Ai ni ci t
      obtain ⟨q0, q1, q2, q3, q4⟩ := O0.cells
      have HA := hid (alike_any (c := ci) (E := E) K (t.below (op_bel K N M E Ai ni ci wr)) sSee Hs.out hcut hNm hMm)
      unfold AlsTo at HA
      have HOp := hid O0
      have HTb := hid (t.below (op_bel K N M E Ai ni ci wr))
      have HBb := hid (hS.out.bel.trans ((op_bel K N M E Ai ni ci wr).mono hS.out.bel.size))
      clear hcut hcells hIB0 t sSee O0 hNm hMm hnc hcm hadl hS
      unfold opC at q0 q1 q2 q3 q4 HA HOp HTb HBb
      obtain ⟨wb, hwb⟩ : ∃ x, x = wr.heap.size := ⟨_, rfl⟩
      go_upto_region 14 with fail
      clear hwb
      by_cases k7 : K = 7
      · subst k7
        go_upto_region 24 with (first
          | (go_at_call 20; (with_reducible refine HA.out.mono ?_); rintro r W1 ⟨rfl, X1, d1, p1, t1, s1, st1⟩; have T1 := hid t1; have E1 := hid s1; have B1 := hid (two_bel HTb.out HBb.out st1); obtain ⟨k0, k1, k2, k3, k4⟩ := (HOp.out.stp st1).cells; have HP := hid (Pick_any N 400 W1 (by omega) (by omega)); clear t1 s1 st1 HA q0 q1 q2 q3 q4 e0 e1 e2 e3 e4)
          | (go_at_call 21; (with_reducible refine HP.out.mono ?_); rintro r w9 ⟨kk, rfl, hk, rfl⟩; have Hk : Hid ((kk : Int) ≤ 9223372036854775807) := (by show (kk : Int) ≤ _; omega); have HC := hid (T1.out.dcrash (kk : Nat) Hk.out rfl); clear HP hk)
          | (go_at_call 22; (with_reducible refine HC.out.mono ?_); rintro r W2 ⟨rfl, X2, t2, st2⟩; have T2 := hid t2; have B2 := hid (two_bel T1.out B1.out st2); have HD := hid (t2.pcrash (kk : Nat) Hk.out rfl); clear t2 st2 HC T1 B1 k0 k1 k2 k3 k4)
          | (go_at_call 22; (with_reducible refine HD.out.mono ?_); rintro r W3 ⟨rfl, X3, t3, st3⟩; have T3 := hid t3; have B3 := hid (two_bel T2.out B2.out st3); have E4 := hid (E1.out.crash Hs.out kk); have HN := hid (t3.dopen Hn0.out (t3.low (P1.out.below B3.out)) (by rw [E4.out.len Hs.out]; omega) (sees_salt E4.out Hs.out) (crash_op d1 (kk : Nat))); rw [Hen.out] at HN; clear t3 st3 HD T2 B2)
          | (go_at_call 8; (with_reducible refine HN.out.mono ?_); rintro r W4 ⟨h8, rfl, X4, t4, st4⟩; have T4 := hid t4; have B4 := hid (two_bel T3.out B3.out st4); have HI := hid t4.dimage; obtain ⟨z, hz⟩ : ∃ z, (d1.crash (kk : Nat) []).now.length = z := ⟨_, rfl⟩; rw [hz] at HI; have Hz := hid hz; obtain ⟨q, hq⟩ : ∃ q, (p1.crash (kk : Nat) []).now.length = q := ⟨_, rfl⟩; have Hq : Hid ((d1.crash (kk : Nat) []).now.length - 32 = q ∧ (p1.crash (kk : Nat) []).now.length = q) := ⟨by rw [E4.out.len Hs.out, Nat.add_sub_cancel]; exact hq, hq⟩; clear hz hq; clear t4 st4 HN T3 B3)
          | (go_at_call 23; (with_reducible refine HI.out.mono ?_); rintro r W6 ⟨AB, cB, rfl, ib, b6⟩; have TW := hid (T4.out.below b6); have BW := hid (B4.out.trans (b6.mono B4.out.size)); have IB := hid ib; clear ib b6 HI T4 B4))
        obtain ⟨hz32, i1, i2, hcb⟩ := tail_bytes E4.out Hs.out R0.out BW.out Hz.out IB.out
        have C1 := fsize_z TW.out q Hq.out.1
        have C2 := gsize_z TW.out q Hq.out.2
        have C3 := same_z i1 i2
        have HE := hid (show SeeSt W0 W6 gd gp h8 hg en salt from ⟨⟨_, _, _, TW.out, E4.out⟩, BW.out⟩)
        clear i1 i2 TW BW IB Hz Hq E4
        go_quiet ((first
          | (go_at_call 14; with_reducible exact C1 _)
          | (go_at_call 14; with_reducible exact C2 _)
          | (go_at_call 24; with_reducible exact C3 _)))
        go_wp2_with fail
        go_roundw
        case rel => exact ⟨i + 1, h8, by omega, by go_num, rfl, ⟨HE.out.ex.elim (fun X h1 => h1.elim (fun d h2 => h2.elim (fun p h3 => ⟨X, d, p, h3.1.below (below_drewN (Below.refl _ _) _), h3.2⟩))), below_drewN HE.out.bel _⟩⟩
        case measure => simp [intOf]; omega
      · have z7 : (K == 7) = false := by simpa using k7
        go_upto_region 24 with (first
          | (go_at_call 20; (with_reducible refine HA.out.mono ?_); rintro r W1 ⟨rfl, X1, d1, p1, t1, s1, st1⟩; have T1 := hid t1; have E1 := hid s1; have B1 := hid (two_bel HTb.out HBb.out st1); obtain ⟨k0, k1, k2, k3, k4⟩ := (HOp.out.stp st1).cells; have HI := hid t1.dimage; obtain ⟨z, hz⟩ : ∃ z, d1.now.length = z := ⟨_, rfl⟩; rw [hz] at HI; have Hz := hid hz; obtain ⟨q, hq⟩ : ∃ q, p1.now.length = q := ⟨_, rfl⟩; have Hq : Hid (d1.now.length - 32 = q ∧ p1.now.length = q) := ⟨by rw [E1.out.len Hs.out, Nat.add_sub_cancel]; exact hq, hq⟩; clear hz hq; clear t1 s1 st1 HA q0 q1 q2 q3 q4 e0 e1 e2 e3 e4)
          | (go_at_call 23; (with_reducible refine HI.out.mono ?_); rintro r W6 ⟨AB, cB, rfl, ib, b6⟩; have TW := hid (T1.out.below b6); have BW := hid (B1.out.trans (b6.mono B1.out.size)); have IB := hid ib; clear ib b6 HI T1 B1 k0 k1 k2 k3 k4))
        obtain ⟨hz32, i1, i2, hcb⟩ := tail_bytes E1.out Hs.out R0.out BW.out Hz.out IB.out
        have C1 := fsize_z TW.out q Hq.out.1
        have C2 := gsize_z TW.out q Hq.out.2
        have C3 := same_z i1 i2
        have HE := hid (show SeeSt W0 W6 gd gp h hg en salt from ⟨⟨_, _, _, TW.out, E1.out⟩, BW.out⟩)
        clear i1 i2 TW BW IB Hz Hq E1
        go_quiet ((first
          | (go_at_call 14; with_reducible exact C1 _)
          | (go_at_call 14; with_reducible exact C2 _)
          | (go_at_call 24; with_reducible exact C3 _)))
        go_wp2_with fail
        go_roundw
        case rel => exact ⟨i + 1, h, by omega, by go_num, rfl, ⟨HE.out.ex.elim (fun X h1 => h1.elim (fun d h2 => h2.elim (fun p h3 => ⟨X, d, p, h3.1.below (below_drewN (Below.refl _ _) _), h3.2⟩))), below_drewN HE.out.bel _⟩⟩
        case measure => simp [intOf]; omega
    · have hsz : (Try.prog.info? 46).map (·.size) = some (salt.map bv).toArray.size := by
        rw [show (salt.map bv).toArray.size = 32 by simp [Hs.out]]
        kernel_rfl
      have rw46 := (hS.out.bel.block b (lt_of_heap R0.out)).trans R0.out
      obtain ⟨X, d, p, t, sSee⟩ := hS.out.ex
      have HH := hid (hidden_any t Hen.out.symm sSee Hs.out (P1.out.on hS.out.bel))
      have BB : Hid (Below b w wr) := by rw [← Hb.out]; exact Bw
      clear t sSee
      have HX := hid (And.intro rw46 hsz)
      clear rw46 hsz
      by_cases hl1 : i < sn
      · have hz1 : (i : Int) < sn := by omega
        have hz2 : (20 : Int) ≤ i := by omega
        clear hlt
        go_wp2_with (first
          | (refine wpList_load_row rfl 46 (.tmp 4) rfl b rfl 46 (salt.map bv).toArray (0, 0) _ HX.out.1 Try.underlying46 rfl HX.out.2 ?_)
          | (go_at_call 25; (with_reducible refine HH.out.mono ?_); rintro r W7 ⟨rfl, b7⟩; have B7 := hid (bel_trans0 (Nat.le_of_eq Hb.out.symm) BB.out b7); clear b7 HH)
          | (go_at_call 16; (with_reducible refine (awake_any _).mono ?_); rintro r W8 ⟨rfl, b8⟩; have B8 := hid (bel_trans0 (Nat.le_of_eq Hb.out.symm) B7.out b8); clear b8))
        go_ret
        rw [Hb.out]
        exact ⟨rfl, B8.out⟩
      · have hz1 : (sn : Int) ≤ i := by omega
        clear hlt
        go_wp2_with (first
          | (refine wpList_load_row rfl 46 (.tmp 4) rfl b rfl 46 (salt.map bv).toArray (0, 0) _ HX.out.1 Try.underlying46 rfl HX.out.2 ?_)
          | (go_at_call 25; (with_reducible refine HH.out.mono ?_); rintro r W7 ⟨rfl, b7⟩; have B7 := hid (bel_trans0 (Nat.le_of_eq Hb.out.symm) BB.out b7); clear b7 HH)
          | (go_at_call 16; (with_reducible refine (awake_any _).mono ?_); rintro r W8 ⟨rfl, b8⟩; have B8 := hid (bel_trans0 (Nat.le_of_eq Hb.out.symm) B7.out b8); clear b8))
        go_ret
        rw [Hb.out]
        exact ⟨rfl, B8.out⟩
end Go.Proofs.Ytpeepohiajmhcaa
