/-
  The walk of the law CtrTells.
-/
import Derived.Test.YtlgabihjfjlhkaaAll
import Derived.Test.YtlgabihjfjlhkaaKey
import Derived.Test.YtlgabihjfjlhkaaArr
import Derived.Test.YtlgabihjfjlhkaaLent
import Derived.Test.YtlgabihjfjlhkaaSame
namespace Go.Proofs.Ytlgabihjfjlhkaa
open Go.RowKit

/-- The number that is asked. -/
def cutN (n : Int) : Int := if 600 < n ∧ n ≤ 4194304 then n.tmod 600 else n
theorem cutN_ok (n : Int) : cutN n ≤ 1000 ∨ 4194304 < cutN n := by
  unfold cutN
  split
  · have := Int.tmod_lt_of_pos n (show 0 < (600 : Int) by omega)
    omega
  · omega
set_option maxRecDepth 10000 in
set_option maxHeartbeats 4000000 in
theorem tells_walk (k : List UInt8) (hk : k.length = 32) (A B : Option Addr) (N c M d : Nat) (zA zB : List Int) (at' n : Int) (w : World) (hA : IsRow w A N c zA) (hB : IsRow w B M d zB) :
    Calls Try.prog 4 #[.agg (k.map bv).toArray, .slice A N c, .int .i64 at', .int .i64 n, .slice B M d] w fun e w' => e = .returned (.bool true) ∧ Below w.heap.size w w' := by
  obtain ⟨non, hnon⟩ := isBB_cut hA 20 (by omega)
  obtain ⟨l, hl⟩ := isBB_cut hB 400 (by omega)
  have hcA := row_cap hA
  have hcB := row_cap hB
  unfold maxLen at hcA hcB
  obtain ⟨m, hm⟩ : ∃ m, m = min N 20 := ⟨_, rfl⟩
  obtain ⟨q, hq⟩ : ∃ q, q = min M 400 := ⟨_, rfl⟩
  have hm1 : (if (20 : Int) < (N : Int) then (20 : Int) else (N : Int)) = (m : Int) := by split <;> omega
  have hq1 : (if (400 : Int) < (M : Int) then (400 : Int) else (M : Int)) = (q : Int) := by split <;> omega
  have hmc : (m : Int) ≤ (c : Int) := by omega
  have hqd : (q : Int) ≤ (d : Int) := by omega
  have hm20 : m ≤ 20 := by omega
  have hq400 : q ≤ 400 := by omega
  have hNz : (N : Int) ≤ 140737488355328 ∨ True := .inr trivial
  rw [← hm] at hnon
  rw [← hq] at hl
  have hw0 : Below w.heap.size w (w.alloc (.cells (k.map bv).toArray 39)) := (Below.refl w.heap.size w).alloc (Nat.le_refl _) _
  have G0 := hid (heap_alloc_new w (.cells (k.map bv).toArray 39))
  have X0 := hid (hnon.on hw0)
  have Y0 := hid (hl.on hw0)
  have B0 := hid hw0
  clear hw0 hnon hl hNz hm hq hA hB
  have hsel : (600 < n ∧ n ≤ 4194304 ∧ n.tmod 600 = cutN n) ∨ (¬ 600 < n ∧ cutN n = n) ∨ (600 < n ∧ ¬ n ≤ 4194304 ∧ cutN n = n) := by
    by_cases h1 : 600 < n
    · by_cases h2 : n ≤ 4194304
      · exact .inl ⟨h1, h2, by unfold cutN; rw [if_pos ⟨h1, h2⟩]⟩
      · exact .inr (.inr ⟨h1, h2, by unfold cutN; rw [if_neg (fun k => h2 k.2)]⟩)
    · exact .inr (.inl ⟨h1, by unfold cutN; rw [if_neg (fun k => h1 k.1)]⟩)
  have hcut := hid (cutN_ok n)
  generalize cutN n = n' at hsel hcut
  have hkk : ∀ j, j < 32 → fnOf k j < 256 := fun j _ => fnOf_lt k j
  have hll : l.length = q := Y0.out.len
  obtain ⟨K, hK⟩ : ∃ K, K = fnOf k := ⟨_, rfl⟩
  obtain ⟨S, hS⟩ : ∃ S, S = sA K non m at' n' := ⟨_, rfl⟩
  obtain ⟨T, hT⟩ : ∃ T, T = tA K non m at' l := ⟨_, rfl⟩
  obtain ⟨V, hV⟩ : ∃ V, V = sA K non m at' (q : Int) := ⟨_, rfl⟩
  obtain ⟨f1, hf1⟩ : ∃ f, f = sE m at' n' := ⟨_, rfl⟩
  obtain ⟨f2, hf2⟩ : ∃ f, f = sE m at' (q : Int) := ⟨_, rfl⟩
  obtain ⟨LS, hLS⟩ : ∃ L, L = S.length := ⟨_, rfl⟩
  obtain ⟨L, hL⟩ : ∃ L, L = V.length := ⟨_, rfl⟩
  have hLT : T.length = L := by rw [hT, tA_len, hL, hV, hll]
  have hLq : L ≤ q := by rw [← hLT, hT, ← hll]; exact tA_le _ _ _ _ _
  have HG := hid (fun j (h1 : j < T.length) (h2 : j < V.length) (h3 : j < l.length) => (show T[j] = V[j] ^^^ l[j] by
    have e := tA_get K non m at' l j (by rw [← hT]; exact h1) (by rw [hll, ← hV]; exact h2) h3
    simp only [← hT, hll, ← hV] at e
    exact e))
  have CK := hid (fun W g (h : IsBB W W.heap.size (some ⟨g, 0, none⟩) 32 32 k) => (show Calls Try.prog 6 #[.slice (some ⟨g, 0, none⟩) 32 32] W fun e w' => ∃ gc, e = .returned (.tuple #[.pointer (some ⟨gc, 0, none⟩), .int .i64 0]) ∧ Ci w' gc K ∧ Below W.heap.size W w' ∧ W.heap.size ≤ gc by rw [hK]; exact New_any _ 32 k W h))
  have CS := hid (fun W gc A c (hc : Ci W gc K) (h : IsBB W W.heap.size A m c non) => (show Calls Try.prog 8 #[.pointer (some ⟨gc, 0, none⟩), .slice A m c, .int .i64 at', .int .i64 n'] W fun e w' => ∃ A' c', e = .returned (.tuple #[.slice A' LS c', .int .i64 f1]) ∧ IsBB w' w'.heap.size A' LS c' S ∧ Below W.heap.size W w' by
    rw [hLS, hS, hf1]; exact Stream_all gc K A m c non at' n' W hc (by rw [hK]; exact hkk) h))
  have CR := hid (fun W g A c (hk : IsBB W W.heap.size (some ⟨g, 0, none⟩) 32 32 k) (h : IsBB W W.heap.size A m c non) => (show Calls Try.prog 11 #[.slice (some ⟨g, 0, none⟩) 32 32, .slice A m c, .int .i64 at', .int .i64 n'] W fun e w' => ∃ A' c', e = .returned (.tuple #[.slice A' LS c', .int .i64 f1]) ∧ IsBB w' w'.heap.size A' LS c' S ∧ Below W.heap.size W w' by
    rw [hLS, hS, hf1, hK]; exact RefStream_all _ A m 32 c k non at' n' W hk h hcut.out))
  have CT := hid (fun W gc A c B d (hc : Ci W gc K) (h : IsBB W W.heap.size A m c non) (hb : IsBB W W.heap.size B q d l) => (show Calls Try.prog 10 #[.pointer (some ⟨gc, 0, none⟩), .slice A m c, .int .i64 at', .slice B q d] W fun e w' => ∃ A' c', e = .returned (.tuple #[.slice A' L c', .int .i64 f2]) ∧ IsBB w' w'.heap.size A' L c' T ∧ Below W.heap.size W w' by
    rw [← hLT, hT, hf2]; exact Turn_all gc K A B m c q d non l at' W hc (by rw [hK]; exact hkk) h hb))
  have CV := hid (fun W g A c (hk : IsBB W W.heap.size (some ⟨g, 0, none⟩) 32 32 k) (h : IsBB W W.heap.size A m c non) => (show Calls Try.prog 11 #[.slice (some ⟨g, 0, none⟩) 32 32, .slice A m c, .int .i64 at', .int .i64 (q : Int)] W fun e w' => ∃ A' c', e = .returned (.tuple #[.slice A' L c', .int .i64 f2]) ∧ IsBB w' w'.heap.size A' L c' V ∧ Below W.heap.size W w' by
    rw [hL, hV, hf2, hK]; exact RefStream_all _ A m 32 c k non at' q W hk h (.inl (by omega))))
  have HLV := hid hL.symm
  have HLT := hid hLT
  have Hll := hid hll
  clear hkk hS hT hV hf1 hf2 hLS hL hLT hll hK hcut
  obtain ⟨g0, hg0⟩ : ∃ g, g = w.heap.size := ⟨_, rfl⟩
  rcases hsel with ⟨h1, h2, h3⟩ | ⟨h1, h3⟩ | ⟨h1, h2, h3⟩
  case' inr.inl => subst h3
  case' inr.inr => subst h3
  all_goals
    go_enter Try.func4, Try.ntmps4
    go_upto_region 3 with fail
    go_region
    try clear h1
    try clear h2
    try clear h3
    rw [← hg0] at G0 ⊢
    have hd : Below (w.alloc (.cells (k.map bv).toArray 39)).heap.size (w.alloc (.cells (k.map bv).toArray 39)) (w.alloc (.cells (k.map bv).toArray 39)).drew := (Below.refl _ _).drew
    have G1 : Hid ((w.alloc (.cells (k.map bv).toArray 39)).drew.heap[g0]? = some (.cells (k.map bv).toArray 39 (0, 0))) := G0
    have X1 := hid (X0.out.on hd)
    have Y1 := hid (Y0.out.on hd)
    have B1 := hid (bel_trans B0.out hd)
    clear hd G0 X0 Y0 B0 hg0
    generalize (w.alloc (.cells (k.map bv).toArray 39)).drew = W1 at G1 X1 Y1 B1 ⊢
    have P1 := hid (arr_isBB G1.out 32 hk (by omega))
    clear G1
    go_upto_region 7 with (go_at_call 6; refine (CK.out W1 g0 P1.out).mono ?_; rintro e W2 ⟨gc, rfl, hC2, hB2, _⟩; have C2 := hid hC2; have P2 := hid (P1.out.on hB2); have X2 := hid (X1.out.on hB2); have Y2 := hid (Y1.out.on hB2); have B2 := hid (bel_trans B1.out hB2); clear hC2 hB2 P1 X1 Y1 B1 CK)
    go_upto_region 8 with (first
      | (go_at_call 14; refine (LentBytes_any A non m c W2 X2.out (by omega)).mono ?_; rintro e W3 ⟨gx, cx, rfl, hN⟩; have XX3 := hid (hN.front X2.out.len); have XK3 := hid hN.isBB; have C3 := hid (C2.out.onB hN.bel C2.out.lt); have P3 := hid (P2.out.on hN.bel); have X3 := hid (X2.out.on hN.bel); have Y3 := hid (Y2.out.on hN.bel); have B3 := hid (bel_trans B2.out hN.bel); clear hN C2 P2 X2 Y2 B2)
      | (go_at_call 14; refine (LentBytes_any B l q d W3 Y3.out (by omega)).mono ?_; rintro e W4 ⟨gy, cy, rfl, hN⟩; have YY4 := hid (hN.front Y3.out.len); have YK4 := hid hN.isBB; have XX4 := hid (XX3.out.on hN.bel); have XK4 := hid (XK3.out.on hN.bel); have C4 := hid (C3.out.onB hN.bel C3.out.lt); have P4 := hid (P3.out.on hN.bel); have X4 := hid (X3.out.on hN.bel); have Y4 := hid (Y3.out.on hN.bel); have B4 := hid (bel_trans B3.out hN.bel); clear hN C3 P3 X3 Y3 B3 XX3 XK3))
    go_upto_region 9 with (go_at_call 8; refine (CS.out W4 gc _ cx C4.out XX4.out).mono ?_; rintro e W5 ⟨A5, c5, rfl, hS5, hB5⟩; have S5 := hid hS5; have YY5 := hid (YY4.out.on hB5); have YK5 := hid (YK4.out.on hB5); have XX5 := hid (XX4.out.on hB5); have XK5 := hid (XK4.out.on hB5); have C5 := hid (C4.out.onB hB5 C4.out.lt); have P5 := hid (P4.out.on hB5); have X5 := hid (X4.out.on hB5); have Y5 := hid (Y4.out.on hB5); have B5 := hid (bel_trans B4.out hB5); clear hS5 hB5 YY4 YK4 XX4 XK4 C4 P4 X4 Y4 B4 CS)
    go_upto_region 10 with (go_at_call 11; refine (CR.out W5 g0 A c P5.out X5.out).mono ?_; rintro e W6 ⟨A6, c6, rfl, hR6, hB6⟩; have R6 := hid hR6; have S6 := hid (S5.out.on hB6); have YY6 := hid (YY5.out.on hB6); have YK6 := hid (YK5.out.on hB6); have XX6 := hid (XX5.out.on hB6); have XK6 := hid (XK5.out.on hB6); have C6 := hid (C5.out.onB hB6 C5.out.lt); have P6 := hid (P5.out.on hB6); have X6 := hid (X5.out.on hB6); have Y6 := hid (Y5.out.on hB6); have B6 := hid (bel_trans B5.out hB6); clear hR6 hB6 S5 YY5 YK5 XX5 XK5 C5 P5 X5 Y5 B5 CR)
    go_upto_region 11 with (go_at_call 10; refine (CT.out W6 gc _ cx _ cy C6.out XX6.out YY6.out).mono ?_; rintro e W7 ⟨A7, c7, rfl, hT7, hB7⟩; have T7 := hid hT7; have R7 := hid (R6.out.on hB7); have S7 := hid (S6.out.on hB7); have YK7 := hid (YK6.out.on hB7); have XK7 := hid (XK6.out.on hB7); have P7 := hid (P6.out.on hB7); have X7 := hid (X6.out.on hB7); have Y7 := hid (Y6.out.on hB7); have B7 := hid (bel_trans B6.out hB7); clear hT7 hB7 R6 S6 YY6 YK6 XX6 XK6 C6 P6 X6 Y6 B6 CT)
    go_upto_region 12 with (go_at_call 11; refine (CV.out W7 g0 A c P7.out X7.out).mono ?_; rintro e W8 ⟨A8, c8, rfl, hV8, hB8⟩; have V8 := hid hV8; have T8 := hid (T7.out.on hB8); have R8 := hid (R7.out.on hB8); have S8 := hid (S7.out.on hB8); have YK8 := hid (YK7.out.on hB8); have XK8 := hid (XK7.out.on hB8); have X8 := hid (X7.out.on hB8); have Y8 := hid (Y7.out.on hB8); have B8 := hid (bel_trans B7.out hB8); clear hV8 hB8 T7 R7 S7 YK7 XK7 P7 X7 Y7 B7 CV)
    go_wp2_with (go_at_call 12; refine (SameBytes_true A5 A6 S LS c5 c6 W8 S8.out.toIsB R8.out.toIsB).mono ?_; rintro e w' ⟨rfl, k9, rfl⟩; have b9 : Below W8.heap.size W8 (W8.drewN k9) := below_drewN (Below.refl _ W8) k9; have V9 := hid (V8.out.on b9); have T9 := hid (T8.out.on b9); have YK9 := hid (YK8.out.on b9); have XK9 := hid (XK8.out.on b9); have X9 := hid (X8.out.on b9); have Y9 := hid (Y8.out.on b9); have B9 := hid (bel_trans B8.out b9); clear b9 V8 T8 YK8 XK8 X8 Y8 B8 S8 R8; generalize W8.drewN k9 = W9 at V9 T9 YK9 XK9 X9 Y9 B9 ⊢)
    have hL1 : (L : Int) ≤ 400 := by omega
    go_loopw [23] (fun vi wr => ∃ (j t : Nat), j ≤ L ∧ vi = .int .i64 j ∧ wr = W9.drewN t) (fun vi _ => L - (intOf vi).toNat)
    case atStart => exact ⟨0, 0, Nat.zero_le _, rfl, rfl⟩
    case round =>
      obtain ⟨j, t, hj, rfl, rfl⟩ := hrel
      by_cases hlt : j < L
      · have hlz : (j : Int) < (L : Int) := by omega
        have hlq : (j : Int) < (q : Int) := by omega
        have j1 : j < T.length := by rw [HLT.out]; exact hlt
        have j2 : j < V.length := by rw [HLV.out]; exact hlt
        have j3 : j < l.length := by rw [Hll.out]; omega
        obtain ⟨a7, e7, h7⟩ := T9.out.lies (by omega)
        obtain ⟨a8, e8, h8⟩ := V9.out.lies (by omega)
        obtain ⟨a9, e9, h9⟩ := Y9.out.lies (by omega)
        obtain ⟨wy, hwy⟩ : ∃ W, W = W9.drewN t := ⟨_, rfl⟩
        have d7 : wy.cell? (a7.add j) = some (.int .u8 (T[j].toNat : Int)) := by rw [hwy]; exact h7 j j1
        have d8 : wy.cell? (a8.add j) = some (.int .u8 (V[j].toNat : Int)) := by rw [hwy]; exact h8 j j2
        have d9 : wy.cell? (a9.add j) = some (.int .u8 (l[j].toNat : Int)) := by rw [hwy]; exact h9 j j3
        have hx := u8_xor_u V[j] l[j]
        rw [HG.out j j1 j2 j3] at d7
        generalize V[j] ^^^ l[j] = x at d7 hx
        generalize V[j] = y at d8 hx
        generalize l[j] = z at d9 hx
        rw [← hwy, e7, e8, e9]
        have Hwy := hid hwy
        clear hwy h7 h8 h9 j1 j2 j3 e7 e8 e9
        go_wp2_with fail
        go_quiet (fail)
        go_wp2_with fail
        go_roundw
        case rel => exact ⟨j + 1, _, by omega, by go_num, by rw [Hwy.out, World.drewN_drewN]⟩
        case measure => simp [intOf]; omega
      · obtain rfl : j = L := by omega
        have b10 : Below W9.heap.size W9 (W9.drewN t) := below_drewN (Below.refl _ W9) t
        have YKa := hid (YK9.out.on b10)
        have XKa := hid (XK9.out.on b10)
        have Xa := hid (X9.out.on b10)
        have Ya := hid (Y9.out.on b10)
        have Ba := hid (bel_trans B9.out b10)
        clear b10 YK9 XK9 X9 Y9 B9 T9 V9 HG
        generalize W9.drewN t = W10 at YKa XKa Xa Ya Ba ⊢
        go_wp2_with (first
          | (go_at_call 15; refine (KeptBytes_true A non gx m cx c W10 Xa.out XKa.out).mono ?_; rintro e W11 ⟨rfl, hb11⟩; have YKb := hid (YKa.out.on hb11); have Yb := hid (Ya.out.on hb11); have Bb := hid (bel_trans Ba.out hb11); clear hb11 YKa XKa Xa Ya Ba)
          | (go_at_call 15; refine (KeptBytes_true B l gy q cy d _ Yb.out YKb.out).mono ?_; rintro e W12 ⟨rfl, hb12⟩; have Bc := hid (bel_trans Bb.out hb12); clear hb12 YKb Yb Bb)
          | (go_at_call 13; refine (awake_any _).mono ?_; rintro e W13 ⟨rfl, hb13⟩))
        go_ret
        exact ⟨rfl, bel_trans Bc.out hb13⟩
end Go.Proofs.Ytlgabihjfjlhkaa
