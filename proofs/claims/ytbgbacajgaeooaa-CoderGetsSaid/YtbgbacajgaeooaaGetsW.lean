/-
  The walk of CoderGets.
-/
import Derived.Test.YtbgbacajgaeooaaArg
import Derived.Test.YtbgbacajgaeooaaPutsW
namespace Go.Proofs.Ytbgbacajgaeooaa
open Go.RowKit

/-- The slice a has the ints xs; it lies below B. -/
def IntsAt (w : World) (B : Nat) (a : Option Addr) (len : Nat) (xs : Nat → Int) : Prop :=
  ∀ i, i < len → ∃ ad, a = some ad ∧ ad.block < B ∧ w.cell? (ad.add i) = some (.int .i64 (xs i))
theorem IntsL.fn {w : World} {B : Nat} {a : Option Addr} {len cap : Nat} (h : IntsL w B a len cap) : ∃ xs, IntsAt w B a len xs := by
  have h2 : ∀ i, ∃ x : Int, i < len → ∃ ad, a = some ad ∧ ad.block < B ∧ w.cell? (ad.add i) = some (.int .i64 x) := by
    intro i
    by_cases hi : i < len
    · obtain ⟨ad, x, h1, h2, h3⟩ := h.2.2 i hi
      exact ⟨x, fun _ => ⟨ad, h1, h2, h3⟩⟩
    · exact ⟨0, fun hj => absurd hj hi⟩
  obtain ⟨f, hf⟩ := Classical.axiomOfChoice h2
  exact ⟨f, hf⟩
theorem IntsAt.below {w w' : World} {B : Nat} {a : Option Addr} {len : Nat} {xs : Nat → Int} (h : IntsAt w B a len xs) (b : Below B w w') : IntsAt w' B a len xs := by
  intro i hi
  obtain ⟨ad, e, h1, h2⟩ := h i hi
  exact ⟨ad, e, h1, (b.cell (p := ad.add i) (by rw [block_of_add]; exact h1)).trans h2⟩
/-- A decoder and the document's, of the same bytes, as far as each other; their blocks lie from n1 on; all that lay in w stands. -/
structure DD (n1 : Nat) (w W : World) (d g : Nat) (b : List UInt8) (t : Nat) : Prop where
  is : ∃ S T x y A n c A2 n2 c2, DeAt n1 S W d x y ((0 :: 0 :: 0 :: 0 :: b).drop t) b.length A n c ∧ RdAt n1 T W g x y b t (z4 ((0 :: 0 :: 0 :: 0 :: b).drop t)) A2 n2 c2 ∧ IvOk x y ∧ (∀ i, S i → ¬ T i)
  bel : Below w.heap.size w W
  n1 : w.heap.size ≤ n1
section
variable {n1 : Nat} {w W : World} {d g : Nat} {b : List UInt8} {t : Nat}
/-- Other blocks turned. -/
theorem DD.but {W' : World} {X : Nat → Prop} (h : DD n1 w W d g b t) (k : But X W W') (hX : ∀ i, X i → i < n1) (hX2 : ∀ i, X i → w.heap.size ≤ i) : DD n1 w W' d g b t := by
  obtain ⟨S, T, x, y, A, n, c, A2, n2, c2, h1, h2, h3, h4⟩ := h.is
  refine ⟨⟨S, T, x, y, A, n, c, A2, n2, c2, h1.but k (fun i hi hx => ?_), h2.but k (fun i hi hx => ?_), h3, h4⟩, h.bel.trans (k.below hX2 h.bel.size), h.n1⟩
  · exact Nat.lt_irrefl _ (Nat.lt_of_lt_of_le (hX i hx) (h1.lt i hi).1)
  · exact Nat.lt_irrefl _ (Nat.lt_of_lt_of_le (hX i hx) (h2.lt i hi).1)
theorem DD.later {W' : World} (h : DD n1 w W d g b t) (k : Below W.heap.size W W') : DD n1 w W' d g b t := h.but (X := fun _ => False) (.of_below k) (fun _ h => h.elim) (fun _ h => h.elim)
theorem DD.get (h : DD n1 w W d g b t) (ht : t ≤ 900000) (p : Int) : ∃ (v1 v2 : Int) (t' : Nat), t' ≤ t + 4 ∧
    Calls Try.prog 20 #[.pointer (some ⟨d, 0, none⟩), .int .i64 p] W fun z W1 => z = .returned (.tuple #[.int .i64 v1, .int .i64 v2]) ∧ Below w.heap.size w W1 ∧
      Calls Try.prog 21 #[.pointer (some ⟨g, 0, none⟩), .int .i64 p] W1 fun z W2 => z = .returned (.tuple #[.int .i64 v1, .int .i64 v2]) ∧ DD n1 w W2 d g b t' := by
  obtain ⟨S, T, x, y, A, n, c, A2, n2, c2, h1, h2, h3, h4⟩ := h.is
  by_cases hp : 1 ≤ p ∧ p ≤ 65535
  · obtain ⟨q, rfl⟩ : ∃ q : Nat, p = (q : Int) := ⟨p.toNat, by omega⟩
    obtain ⟨R, hR⟩ : ∃ R, R = (0 :: 0 :: 0 :: 0 :: b).drop t := ⟨_, rfl⟩
    rw [← hR] at h1 h2
    obtain ⟨bt, hbt⟩ : ∃ bt, bt = bitOf x y q R := ⟨_, rfl⟩
    have hl4 := put1_len x y q bt
    refine ⟨if bt then 1 else 0, 0, t + (put1 x y q bt).1.length, by omega, (Get_good h1 h3 q (by omega) (by omega) bt hbt).mono ?_⟩
    rintro z W1 ⟨rfl, ⟨A', n', c', k1⟩, b1⟩
    have h2' := h2.but b1 (fun i hi e => h4 i (by rw [e]; exact h1.sg) hi)
    have bel1 : Below w.heap.size w W1 := h.bel.trans (b1.below (fun i hi => by rw [hi]; exact Nat.le_trans h.n1 (h1.lt _ h1.sg).1) h.bel.size)
    refine ⟨rfl, bel1, (RGet_good R hR h2' ht h3 q (by omega) (by omega) bt hbt).mono ?_⟩
    rintro z W2 ⟨rfl, k2, b2⟩
    have k1' := k1.but b2 (fun i hi e => h4 i hi (by rw [e]; exact h2.sg))
    have eR : R.drop (put1 x y q bt).1.length = (0 :: 0 :: 0 :: 0 :: b).drop (t + (put1 x y q bt).1.length) := by rw [hR, List.drop_drop]
    rw [eR] at k1' k2
    exact ⟨rfl, ⟨S, T, _, _, _, _, _, _, _, _, k1', k2, put1_ok x y q bt h3 (by omega) (by omega), h4⟩, bel1.trans (b2.below (fun i hi => by rw [hi]; exact Nat.le_trans h.n1 (h2.lt _ h2.sg).1) bel1.size), h.n1⟩
  · refine ⟨0, 2, t, by omega, (Get_arg d W (row_cell h1.row 0) p hp).mono ?_⟩
    rintro z W1 ⟨rfl, rfl⟩
    refine ⟨rfl, h.bel, (RGet_arg ⟨g, 0, none⟩ W p hp).mono ?_⟩
    rintro z W2 ⟨rfl, rfl⟩
    exact ⟨rfl, h⟩
theorem DD.reads (h : DD n1 w W d g b t) : ∃ m : Nat,
    Calls Try.prog 22 #[.pointer (some ⟨d, 0, none⟩)] W fun z W1 => z = .returned (.int .i64 (m : Nat)) ∧ W = W1 ∧
      Calls Try.prog 23 #[.pointer (some ⟨g, 0, none⟩)] W1 fun z W2 => z = .returned (.int .i64 (m : Nat)) ∧ DD n1 w W2 d g b t := by
  obtain ⟨S, T, x, y, A, n, c, A2, n2, c2, h1, h2, h3, h4⟩ := h.is
  have e1 := h1.rest.len
  have e2 := h2.lst.len
  rw [List.drop_drop, List.length_drop] at e1
  simp only [List.length_cons] at e1
  refine ⟨min t n2, (Read_any h1).mono ?_⟩
  rintro z W1 ⟨rfl, rfl⟩
  refine ⟨by rw [show b.length - n = min t n2 by omega], rfl, (RRead_any h2).mono ?_⟩
  rintro z W2 ⟨rfl, k, rfl⟩
  exact ⟨rfl, h.later (below_drewN (Below.refl _ W) k)⟩
end
/-- Both made, of bytes of one's own and of those that came in. -/
theorem DD.news (A : Option Addr) (b : List UInt8) (n c : Nat) (w : World) (hB : IsBB w w.heap.size A n c b) (hn : n ≤ 20000) :
    Calls Try.prog 17 #[.slice A n c] w fun z W1 => ∃ A1 c1, z = .returned (.slice A1 n c1) ∧ (0 < n → ∃ gb, A1 = some ⟨gb, 0, none⟩ ∧ w.heap.size ≤ gb ∧ gb < W1.heap.size ∧ BRow W1 gb n ∧ n ≤ c1) ∧
      Calls Try.prog 18 #[.slice A1 n c1] W1 fun z W2 => ∃ d, z = .returned (.pointer (some ⟨d, 0, none⟩)) ∧ Below W1.heap.size W1 W2 ∧
        Calls Try.prog 19 #[.slice A n c] W2 fun z W3 => ∃ g, z = .returned (.pointer (some ⟨g, 0, none⟩)) ∧ Below W1.heap.size W1 W3 ∧ DD W1.heap.size w W3 d g b 4 := by
  refine (CopyBytes_any A b n c w hB hn).mono ?_
  rintro z W1 ⟨v, rfl, ho⟩
  have hlen := hB.len
  obtain ⟨A1, c1, rfl, hI⟩ := ho.isBB (by omega)
  rw [hlen] at hI ⊢
  refine ⟨A1, c1, rfl, fun hp => ?_, (NewDecoder_any A1 b n c1 W1 hI).mono ?_⟩
  · obtain ⟨gb, cb, e, hnew⟩ := ho.new (by omega) (by omega)
    injection e with e1 e2 e3
    subst e1 e3
    have := ho.own
    rw [hlen] at this
    obtain ⟨q1, q2⟩ := brow_of this
    exact ⟨gb, rfl, q2, hnew.row.2.1, q1, hI.cap⟩
  · rintro z W2 ⟨d, S, A2, n2, c2, rfl, hd, b2⟩
    refine ⟨d, rfl, b2, (RNewDecoder_any A b n c W2 ((hB.on ho.bel).on b2)).mono ?_⟩
    rintro z W3 ⟨g, T, A3, n3, c3, rfl, hr, b3⟩
    have b13 := b2.trans (b3.mono b2.size)
    refine ⟨g, rfl, b13, ⟨⟨S, T, 0, 4294967295, A2, n2, c2, A3, n3, c3, hd.below b3, ⟨hr.row, hr.lst, hr.low, hr.sg, fun i hi => ⟨Nat.le_trans b2.size (hr.lt i hi).1, (hr.lt i hi).2⟩⟩, es0_ok, fun i hi ht => ?_⟩, bel_trans ho.bel b13, ho.bel.size⟩⟩
    exact Nat.lt_irrefl _ (Nat.lt_of_lt_of_le (hd.lt i hi).2 (hr.lt i ht).1)
set_option maxRecDepth 10000 in
set_option maxHeartbeats 1000000 in
theorem gets_walk (A : Option Addr) (b : List UInt8) (n c : Nat) (a : Option Addr) (len cap : Nat) (w : World) (hB : n ≤ 20000 → IsBB w w.heap.size A n c b) (hnc : n ≤ c) (hcx : c ≤ maxLen) (xs : Nat → Int) (hp : IntsAt w w.heap.size a len xs) (_hlc : len ≤ cap) (_hcm : cap ≤ maxLen) :
    Calls Try.prog 4 #[.slice A n c, .slice a len cap] w fun e w' => e = .returned (.bool true) ∧ Below w.heap.size w w' := by
  by_cases hn : n ≤ 20000
  · have HD := hid (DD.news A b n c w (hB hn) hn)
    have HP : Hid (∀ W, Below w.heap.size w W → IntsAt W w.heap.size a len xs) := fun W k => hp.below k
    have hnz : decide ((20000 : Int) < (n : Int)) = false := decide_eq_false (by omega)
    have hny : decide (20000 < n) = false := decide_eq_false (by omega)
    unfold maxLen at _hcm hcx
    clear hp hB
    go_enter Try.func4, Try.ntmps4
    go_wp2_with (first
      | (go_at_call 17; (with_reducible refine HD.out.mono ?_); rintro z1 W1 ⟨A1, c1, rfl, hA, h1⟩; have HA := hid hA; have H1 := hid h1; clear hA h1)
      | (go_at_call 18; (with_reducible refine H1.out.mono ?_); rintro z2 W2 ⟨d, rfl, b2, h2⟩; have H2 := hid h2; clear h2 b2)
      | (go_at_call 19; (with_reducible refine H2.out.mono ?_); rintro z3 W3 ⟨g, rfl, b3, h3⟩; have H3 := hid h3; have B3 := hid b3; clear h3 b3))
    have HA3 : Hid (0 < n → ∃ gb, A1 = some ⟨gb, 0, none⟩ ∧ w.heap.size ≤ gb ∧ gb < W1.heap.size ∧ BRow W3 gb n ∧ n ≤ c1) := fun h0 => by
      obtain ⟨gb, e, q1, q2, q3, q4⟩ := HA.out h0
      exact ⟨gb, e, q1, q2, q3.below B3.out, q4⟩
    obtain ⟨n1, hn1⟩ : ∃ n1, n1 = W1.heap.size := ⟨_, rfl⟩
    rw [← hn1] at H3 HA3
    clear HA H1 H2 B3 HD hn1
    go_loopw [26] (fun vk wr => ∃ k, k ≤ n ∧ vk = .int .i64 (k : Nat) ∧ Hid (DD n1 w wr d g b 4) ∧ Hid (0 < n → ∃ gb, A1 = some ⟨gb, 0, none⟩ ∧ w.heap.size ≤ gb ∧ gb < n1 ∧ BRow wr gb n ∧ n ≤ c1)) (fun vk _ => n - (intOf vk).toNat)
    case atStart => exact ⟨0, Nat.zero_le _, rfl, H3, HA3⟩
    case round =>
      obtain ⟨k, hk, rfl, hst, hA⟩ := hrel
      clear H3 HA3
      by_cases hlt : k < n
      · have hkz : (k : Int) < (n : Int) := by omega
        obtain ⟨gb, rfl, q1, q2, q3, q4⟩ := hA.out (by omega)
        obtain ⟨z, hz, cz, fz⟩ := q3.at hlt
        obtain ⟨z1, hz1⟩ : ∃ z1, z1 = (z + 1) % 256 := ⟨_, rfl⟩
        have ez : ((z : Int) + 1) % 256 = (z1 : Int) := by omega
        have HN : Hid (DD n1 w (wr.setCell ⟨gb, k, none⟩ (.int .u8 (z1 : Nat))) d g b 4) := hst.out.but (X := (· = gb)) ((But.refl _ wr).set _ _ (.inl rfl)) (fun x hx => by rw [hx]; exact q2) (fun x hx => by rw [hx]; exact q1)
        have HN2 : Hid (0 < n → ∃ gb', some (⟨gb, 0, none⟩ : Addr) = some ⟨gb', 0, none⟩ ∧ w.heap.size ≤ gb' ∧ gb' < n1 ∧ BRow (wr.setCell ⟨gb, k, none⟩ (.int .u8 (z1 : Nat))) gb' n ∧ n ≤ c1) := fun _ => ⟨gb, rfl, q1, q2, q3.set k z1 (by omega), q4⟩
        have HLT := hid hlt
        clear hst hA hz hz1 hlt q1 q2 q3 hn
        go_wp2_with fail
        have hlt := HLT.out
        go_roundw
        case rel => exact ⟨k + 1, by omega, by go_num, HN, HN2⟩
        case measure => simp [intOf]; omega
      · obtain rfl : k = n := by omega
        clear hk hlt hA
        go_wp2_with fail
        go_loopw [9] (fun vi wr => ∃ i, i ≤ len ∧ i ≤ 5000 ∧ vi = .int .i64 (i : Nat) ∧ ∃ t, t ≤ 4 + 4 * i ∧ Hid (DD n1 w wr d g b t)) (fun vi _ => len - (intOf vi).toNat)
        case atStart => exact ⟨0, Nat.zero_le _, Nat.zero_le _, rfl, 4, Nat.le_refl _, hst⟩
        case round =>
          obtain ⟨i, hi, hi5, rfl, t, ht, hs⟩ := hrel
          clear hst
          by_cases hlt : i < len ∧ i < 5000
          · obtain ⟨l1, l2⟩ := hlt
            have l1z : (i : Int) < (len : Int) := by omega
            have l2y : decide ((i : Int) < 5000) = true := decide_eq_true (by omega)
            have l2z : decide (i < 5000) = true := decide_eq_true l2
            obtain ⟨ad, rfl, h0, c0⟩ := HP.out wr hs.out.bel i l1
            obtain ⟨v1, v2, t', ht', hG⟩ := hs.out.get (by omega) (xs i)
            have HC : Hid (∀ W, Below w.heap.size w W → W.cell? (ad.add i) = some (.int .i64 (xs i))) := by
              intro W kb
              obtain ⟨ad2, e2, _, q0⟩ := HP.out W kb i l1
              cases e2
              exact q0
            have HG := hid hG
            have HL := hid (And.intro l1 l2)
            have HT := hid (And.intro ht ht')
            clear hG h0 hi l1 l2 ht ht' hs
            go_wp2_with (first
              | (go_at_call 20; (with_reducible refine HG.out.mono ?_); rintro z4 W4 ⟨rfl, b4, h4⟩; have k4 := HC.out W4 b4; have H4 := hid h4; clear h4)
              | (go_at_call 21; (with_reducible refine H4.out.mono ?_); rintro z5 W5 ⟨rfl, h5⟩; obtain ⟨m, hr⟩ := h5.reads; have HR := hid hr; clear h5 hr)
              | (go_at_call 22; (with_reducible refine HR.out.mono ?_); rintro z6 W6 ⟨rfl, rfl, h6⟩; have H6 := hid h6; clear h6)
              | (go_at_call 23; (with_reducible refine H6.out.mono ?_); rintro z7 W7 ⟨rfl, h7⟩; have H7 := hid h7; clear h7))
            obtain ⟨l1, l2⟩ := HL.out
            obtain ⟨ht, ht'⟩ := HT.out
            go_roundw
            case rel => exact ⟨i + 1, by omega, by omega, by go_num, t', by omega, H7⟩
            case measure => simp [intOf]; omega
          · have hguard : ((len : Int) ≤ (i : Int)) ∨ ((i : Int) < (len : Int) ∧ decide ((i : Int) < (5000 : Int)) = false) := by
              by_cases h : i < len
              · exact .inr ⟨by omega, decide_eq_false (by omega)⟩
              · exact .inl (by omega)
            obtain ⟨m, hr⟩ := hs.out.reads
            have HR := hid hr
            clear hr hs hi5 hi hlt ht
            rcases hguard with hg1 | ⟨hg1, hg2⟩
            all_goals
              go_wp2_with (first
                | (go_at_call 22; (with_reducible refine HR.out.mono ?_); rintro z6 W6 ⟨rfl, rfl, h6⟩; have H6 := hid h6; clear h6)
                | (go_at_call 23; (with_reducible refine H6.out.mono ?_); rintro z7 W7 ⟨rfl, h7⟩; have H7 := hid h7; clear h7)
                | (go_at_call 16; (refine (awake_any _).mono ?_); rintro z8 W8 ⟨rfl, b8⟩; have B8 := hid (bel_trans H7.out.bel b8)))
              go_ret
              exact ⟨rfl, B8.out⟩
  · have hnz : decide ((20000 : Int) < (n : Int)) = true := decide_eq_true (by omega)
    have hny : decide (20000 < n) = true := decide_eq_true (by omega)
    unfold maxLen at _hcm hcx
    clear hp hB hn
    go_enter Try.func4, Try.ntmps4
    go_wp2_with (go_at_call 16; (refine (awake_any _).mono ?_); rintro z8 W8 ⟨rfl, b8⟩; have B8 := hid b8)
    go_ret
    exact ⟨rfl, B8.out⟩
end Go.Proofs.Ytbgbacajgaeooaa
