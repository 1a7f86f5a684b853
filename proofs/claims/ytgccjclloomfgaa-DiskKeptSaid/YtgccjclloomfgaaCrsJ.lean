/-
  Crash with a junk of any length (spoil_any, spoil_all, Crash_any again; nothing asked but that the bytes are there).
-/
import Derived.Test.YtgccjclloomfgaaCrs
namespace Go.Proofs.Ytgccjclloomfgaa
open Go.RowKit

/-- The slice of address A, length n and capacity c has the bytes l; of any length. -/
structure IsJ (w : World) (A : Option Addr) (n c : Nat) (l : List UInt8) : Prop where
  len : l.length = n
  cap : n ≤ c
  max : c ≤ maxLen
  lies : 0 < l.length → ∃ ad, A = some ad ∧ ∀ j (h : j < l.length), w.cell? (ad.add j) = some (.int .u8 (l[j].toNat : Int))
theorem IsJ.to {w w' : World} {A : Option Addr} {n c : Nat} {l : List UInt8} (h : IsJ w A n c l) (hk : ∀ ad, A = some ad → ∀ j, w'.cell? (ad.add j) = w.cell? (ad.add j)) : IsJ w' A n c l :=
  ⟨h.len, h.cap, h.max, fun hp => by
    obtain ⟨ad, e, hc⟩ := h.lies hp
    exact ⟨ad, e, fun j hj => (hk ad e j).trans (hc j hj)⟩⟩
theorem IsJ.drewN {w : World} {A : Option Addr} {n c : Nat} {l : List UInt8} (h : IsJ w A n c l) (k : Nat) : IsJ (w.drewN k) A n c l := ⟨h.len, h.cap, h.max, h.lies⟩
structure OutJ (S : Nat → Prop) (w : World) (A : Option Addr) (n c : Nat) (l : List UInt8) : Prop extends IsJ w A n c l where
  ap : 0 < l.length → ∀ ad, A = some ad → ¬ S ad.block ∧ ad.block < w.heap.size
theorem OutJ.stp {S S' : Nat → Prop} {w w' : World} {A : Option Addr} {n c : Nat} {l : List UInt8} (h : OutJ S w A n c l) (s : Stp S S' w w') : OutJ S' w' A n c l := by
  refine ⟨⟨h.len, h.cap, h.max, fun hp => ?_⟩, fun hp ad e => ?_⟩
  · obtain ⟨ad, e, hc⟩ := h.lies hp
    obtain ⟨h1, h2⟩ := h.ap hp ad e
    exact ⟨ad, e, fun j hj => (World.cell?_of_block (by rw [block_of_add]; exact s.but.block _ h2 h1)).trans (hc j hj)⟩
  · obtain ⟨h1, h2⟩ := h.ap hp ad e
    exact ⟨fun e => by rcases s.new _ e with h3 | h3; exact h1 h3; omega, Nat.lt_of_lt_of_le h2 s.but.size⟩
theorem OutJ.drew {S : Nat → Prop} {w : World} {A : Option Addr} {n c : Nat} {l : List UInt8} (h : OutJ S w A n c l) : OutJ S w.drew A n c l := ⟨⟨h.len, h.cap, h.max, h.lies⟩, h.ap⟩
/-- Bytes of any length that lie below block B. -/
structure IsJB (w : World) (B : Nat) (A : Option Addr) (n c : Nat) (l : List UInt8) : Prop extends IsJ w A n c l where
  low : 0 < l.length → ∀ ad, A = some ad → ad.block < B
theorem IsJB.below {w w' : World} {B : Nat} {A : Option Addr} {n c : Nat} {l : List UInt8} (h : IsJB w B A n c l) (hb : Below B w w') : IsJB w' B A n c l :=
  ⟨⟨h.len, h.cap, h.max, fun hp => by
    obtain ⟨ad, e, hc⟩ := h.lies hp
    exact ⟨ad, e, fun j hj => (World.cell?_of_block (by rw [block_of_add]; exact hb.block _ (h.low hp ad e))).trans (hc j hj)⟩⟩, h.low⟩
theorem IsJB.on {w w' : World} {A : Option Addr} {n c : Nat} {l : List UInt8} (h : IsJB w w.heap.size A n c l) (hb : Below w.heap.size w w') : IsJB w' w'.heap.size A n c l :=
  ⟨(h.below hb).toIsJ, fun hp ad e => Nat.lt_of_lt_of_le (h.low hp ad e) hb.size⟩
theorem IsJB.out {S : Nat → Prop} {w : World} {B : Nat} {A : Option Addr} {n c : Nat} {l : List UInt8} (h : IsJB w B A n c l) (hB : B ≤ w.heap.size) (hS : ∀ i, S i → B ≤ i) : OutJ S w A n c l :=
  ⟨h.toIsJ, fun hp ad e => ⟨fun hs => by have := hS _ hs; have := h.low hp ad e; omega, Nat.lt_of_lt_of_le (h.low hp ad e) hB⟩⟩
set_option maxRecDepth 10000 in
set_option maxHeartbeats 2000000 in
theorem spoil_anyJ {B : Nat} {S : Nat → Prop} {w : World} {g : Nat} {F L : Value} {d : Dk} {e : Int} (A : Option Addr) (n c : Nat) (junk : List UInt8) (h : DkAt B S w g F L d e) (hi : IsJ w A n c junk) (ha : 0 < n → ∀ ad, A = some ad → F.ownBlock ≠ some ad.block) (hn : n ≠ 0) (hl : d.now.length ≠ 0) :
    Calls Try.prog 49 #[.pointer (some ⟨g, 0, none⟩), .slice A n c] w fun r w' => r = .returned noResult ∧ DkAt B S w' g F L { d with now := junked d.now d.floor junk } e ∧ But S w w' := by
  obtain ⟨AF, cF, rfl⟩ := own_sl h.ff
  obtain ⟨_, _, c2, c3, _, _, _, _, _⟩ := h.cells
  have hmx := h.ok.mx
  have hm4 := h.ok.m4
  have hfn := h.ok.fn
  have hjl := hi.len
  obtain ⟨N, hN⟩ : ∃ N, d.now.length = N := ⟨_, rfl⟩
  obtain ⟨q, hq⟩ : ∃ q : Nat, q = (N - 1) / 512 := ⟨_, rfl⟩
  obtain ⟨f, hf⟩ : ∃ f : Nat, f = junkFrom d.floor d.now.length := ⟨_, rfl⟩
  obtain ⟨fl, hfl0⟩ : ∃ fl : Nat, d.floor = fl := ⟨_, rfl⟩
  obtain ⟨p, hp⟩ : ∃ p : Nat, p = 512 * q := ⟨_, rfl⟩
  have hfp : f = max fl p := by rw [hf, hN, hfl0, hp, hq]; rfl
  have hfl : f ≤ N := by rw [hfp]; omega
  rw [hN] at c2 hmx hfn hl
  rw [hfl0] at c3 hfn
  obtain ⟨N1, hN1⟩ : ∃ N1 : Nat, N1 = N - 1 := ⟨_, rfl⟩
  have b1 : ((n : Int) == 0) = false := by simpa using hn
  have b2 : ((N : Int) == 0) = false := by simpa using hl
  have ew1 : IntKind.i64.wrap ((N : Int) - 1) = (N1 : Int) := by rw [IntWalk.i64_in _ (by omega)]; omega
  have ed1 : (N1 : Int) / 512 = (q : Int) := by omega
  have ed2 : Int.tdiv (N1 : Int) 512 = (q : Int) := by rw [Int.tdiv_eq_ediv_of_nonneg (by omega)]; omega
  have ew2 : IntKind.i64.wrap ((q : Int) * 512) = (p : Int) := by rw [IntWalk.i64_in _ (by omega)]; omega
  have ew3 : IntKind.i64.wrap (q : Int) = (q : Int) := IntWalk.i64_in _ (by omega)
  have em : (if fl < p then (p : Int) else (fl : Int)) = (f : Int) := by rw [hfp]; split <;> omega
  obtain ⟨R, hR⟩ : ∃ R, R = N - f := ⟨_, rfl⟩
  obtain ⟨C2, hC2⟩ : ∃ C, C = cF - f := ⟨_, rfl⟩
  have hcap : N ≤ cF := by have := h.ff; obtain ⟨A9, c9, e9, h9, _⟩ := own_slice this; cases e9; omega
  obtain ⟨A2, hs1, hA2⟩ : ∃ A', (∀ w' : World, (Instr.slice 27 (.slice AF N cF) (some (.int .i64 (f : Nat))) none none).run Try.prog w' = .ok (.slice A' R C2) w') ∧ (f < N → ∃ gF, AF = some ⟨gF, 0, none⟩ ∧ A' = some ⟨gF, f, none⟩) := by
    rw [hR, hC2]
    by_cases hlt : f < N
    · rcases h.ff.2 with ⟨h9, h8⟩ | ⟨gF, cap, cur, hv, _⟩
      · omega
      · injection hv with e1 e2 e3
        subst e1
        exact ⟨_, fun w' => slice_rest gF N cF f hfl (by omega) w', fun _ => ⟨gF, rfl, rfl⟩⟩
    · exact ⟨_, fun w' => slice_end AF N cF f hfl w', fun h9 => absurd h9 hlt⟩
  have H0 : Hid (DkAt B S w g (.slice AF N cF) L { d with now := jkP d.now f 0 junk } e ∧ But S w w ∧ IsJ w A n c junk) := by
    rw [jkP_zero, ← hN]; exact ⟨h, But.refl S w, hi⟩
  have hjk : jkP d.now f R junk = junked d.now d.floor junk := by
    have := jkP_all d.now d.floor junk (by omega) (by rw [← hf, hN]; exact hfl)
    rw [← hf, hN, ← hR] at this
    exact this
  have HJ := hid hjk
  have HN := hid (And.intro hN (And.intro hfl0 (And.intro hf (And.intro hR (And.intro hfp hfl)))))
  have HA := hid ha
  have HA2 := hid hA2
  have hRz : (R : Int) ≤ 4194304 := by omega
  rw [hN]
  clear h hN hf hfl0 hp hq hN1 hfp hi hjk ha hA2 hR hC2
  go_enter Try.func49, Try.ntmps49
  go_wp2_with fail
  go_quiet (fail)
  go_wp2_with fail
  obtain ⟨w0, hw0⟩ : ∃ w0, w0 = w.drewN nq := ⟨_, rfl⟩
  have H1 : Hid (DkAt B S w0 g (.slice AF N cF) L { d with now := jkP d.now f 0 junk } e ∧ But S w w0 ∧ IsJ w0 A n c junk) := by
    subst hw0; exact ⟨H0.out.1.drewN _, H0.out.2.1.drewN _, H0.out.2.2.drewN _⟩
  rw [← hw0]
  clear hw0 H0 hs1
  go_loopw [39] (fun v wr => ∃ k : Nat, k ≤ R ∧ v = .int .i64 k ∧ Hid (DkAt B S wr g (.slice AF N cF) L { d with now := jkP d.now f k junk } e ∧ But S w wr ∧ IsJ wr A n c junk)) (fun v _ => R - (intOf v).toNat)
  case atStart => exact ⟨0, Nat.zero_le _, rfl, H1⟩
  case round =>
    obtain ⟨k, hk, rfl, hs⟩ := hrel
    clear H1
    by_cases hlt : k < R
    · obtain ⟨gF, rfl, rfl⟩ := HA2.out (by have := HN.out; omega)
      obtain ⟨r, hr⟩ : ∃ r, r = k % n := ⟨_, rfl⟩
      have hrn : r < n := by rw [hr]; exact Nat.mod_lt _ (by omega)
      have er1 : (k : Int) % (n : Int) = (r : Int) := by rw [hr]; exact (Int.natCast_emod k n).symm
      have er2 : Int.tmod (k : Int) (n : Int) = (r : Int) := by rw [Int.tmod_eq_emod_of_nonneg (by omega)]; exact er1
      have hn0 : ¬ ((n : Int) = 0) := by omega
      have hrz : (r : Int) < (n : Int) := by omega
      have hkz : (k : Int) < (R : Int) := by omega
      obtain ⟨ad, rfl, hc⟩ := hs.out.2.2.lies (by rw [hs.out.2.2.len]; omega)
      have cj := hc r (by rw [hs.out.2.2.len]; exact hrn)
      obtain ⟨b, hb⟩ : ∃ b, b = junk[r]'(by rw [hs.out.2.2.len]; exact hrn) := ⟨_, rfl⟩
      rw [← hb] at cj
      have hgd : junk.getD (k % junk.length) 0 = b := by
        rw [hs.out.2.2.len, ← hr, hb, List.getD_eq_getElem?_getD, List.getElem?_eq_getElem]; rfl
      have hlN : (jkP d.now f k junk).length = N := by rw [jkP_len]; exact HN.out.1
      have hnx := jkP_next d.now f k junk (by have := HN.out; omega)
      rw [hgd] at hnx
      obtain ⟨k1, k2⟩ := hs.out.1.putb hlN (j := f + k) (by have := HN.out; omega) (by have := HN.out; show d.floor ≤ f + k; omega) b
      have hadF : ad.block ≠ gF := fun e => HA.out (by omega) ad rfl (by rw [e]; rfl)
      have HS : Hid (DkAt B S (wr.setCell ⟨gF, f + k, none⟩ (.int .u8 (b.toNat : Int))) g (.slice (some ⟨gF, 0, none⟩) N cF) L { d with now := jkP d.now f (k + 1) junk } e ∧ But S w (wr.setCell ⟨gF, f + k, none⟩ (.int .u8 (b.toNat : Int))) ∧ IsJ (wr.setCell ⟨gF, f + k, none⟩ (.int .u8 (b.toNat : Int))) (some ad) n c junk) := by
        refine ⟨by rw [← hnx]; exact k1, hs.out.2.1.trans k2 (by rintro i rfl; exact .inl (hs.out.1.sf _ rfl)), hs.out.2.2.to fun ad' e j => ?_⟩
        cases e
        exact World.cell?_of_block (Below.heap_setCell _ _ _ _ (by rw [block_of_add]; exact hadF))
      have hcf : ∃ y : Int, wr.cell? ⟨gF, f + k, none⟩ = some (.int .u8 y) := by
        obtain ⟨A9, c9, e9, h9⟩ := own_isBB hs.out.1.ff (by show (jkP d.now f k junk).length ≤ _; omega)
        injection e9 with e91 _ _
        subst e91
        obtain ⟨ad9, e8, h8⟩ := h9.lies (by show 0 < (jkP d.now f k junk).length; have := HN.out; omega)
        cases e8
        have := h8 (f + k) (by show f + k < (jkP d.now f k junk).length; have := HN.out; omega)
        rw [Addr.add_lit, Nat.zero_add] at this
        exact ⟨_, this⟩
      obtain ⟨y, cy⟩ := hcf
      have fy : wr.frozen? ⟨gF, f + k, none⟩ = false := by
        rcases hs.out.1.ff.2 with ⟨h1, _⟩ | ⟨q9, cap, cur, hv, _, hh, _⟩
        · cases h1
        · cases hv; exact row_free hh _
      clear hc hs hb hgd hnx k1 k2 hr hlN
      go_wp2_with fail
      go_roundw
      case rel => exact ⟨k + 1, by omega, by go_num, HS⟩
      case measure => simp [intOf]; omega
    · obtain rfl : k = R := by omega
      have hs1 := hs.out.1
      rw [HJ.out] at hs1
      go_wp2_with fail
      go_end0
      exact ⟨rfl, hs1, hs.out.2.1⟩
theorem spoil_allJ {B : Nat} {S : Nat → Prop} {w : World} {g : Nat} {F L : Value} {d : Dk} {e : Int} (A : Option Addr) (n c : Nat) (junk : List UInt8) (h : DkAt B S w g F L d e) (hi : OutJ S w A n c junk) :
    Calls Try.prog 49 #[.pointer (some ⟨g, 0, none⟩), .slice A n c] w fun r w' => r = .returned noResult ∧ DkAt B S w' g F L { d with now := junked d.now d.floor junk } e ∧ But S w w' := by
  by_cases hz : n = 0 ∨ d.now.length = 0
  · refine (spoil_none A n c h hz).mono ?_
    rintro r w' ⟨rfl, rfl⟩
    have e1 : junked d.now d.floor junk = d.now := by
      rcases hz with hz | hz
      · obtain rfl : junk = [] := List.eq_nil_of_length_eq_zero (by rw [hi.len]; exact hz)
        exact junked_nil _ _
      · rw [List.eq_nil_of_length_eq_zero hz]; exact junked_none _ _
    rw [e1]
    exact ⟨rfl, h, But.refl S w⟩
  · exact spoil_anyJ A n c junk h hi.toIsJ (fun hp ad e hb => (hi.ap (by rw [hi.len]; exact hp) ad e).1 (h.sf _ hb)) (fun e => hz (.inl e)) (fun e => hz (.inr e))
set_option maxRecDepth 10000 in
set_option maxHeartbeats 2000000 in
theorem Crash_anyJ {B : Nat} {S : Nat → Prop} {w : World} {g : Nat} {F L : Value} {d : Dk} {e : Int} (k : Int) (A : Option Addr) (n c : Nat) (junk : List UInt8) (h : DkAt B S w g F L d e) (hi : OutJ S w A n c junk) (hk : k ≤ 9223372036854775807) :
    Calls Try.prog 20 #[.pointer (some ⟨g, 0, none⟩), .agg #[.int .i64 k, .slice A n c]] w fun r w' => r = .returned (.int .i64 0) ∧ ∃ F' S', DkAt B S' w' g F' (.slice none 0 0) (d.crash k junk) e ∧ Stp S S' w w' := by
  have hb0 : Below w.heap.size w (w.alloc (.cells #[.int .i64 k, .slice A n c] 40)) := (Below.refl _ w).alloc (Nat.le_refl _) _
  have h0 := h.below hb0
  have hi0 := hi.stp (Stp.of_below (S := S) hb0)
  have HM := hid (made_any h0)
  have S0 := hid (Stp.of_below (S := S) hb0)
  have hgl := lt_of_heap h.row
  have hr := heap_alloc_new w (.cells #[.int .i64 k, .slice A n c] 40)
  have ck := row_cell hr 0
  have cj := row_cell hr 1
  by_cases hk0 : k < 0
  · have HR := hid (restore_any h0)
    have ec : d.crash k junk = Dk.up { d with now := d.old } := by unfold Dk.crash Dk.up; simp only [hk0, if_true]
    rw [ec]
    clear h h0 hi hi0 hb0
    go_enter Try.func20, Try.ntmps20
    go_wp2_with (first
      | (go_at_call 39; refine HM.out.mono ?_; rintro r w' ⟨rfl, rfl⟩)
      | (go_at_call 48; refine HR.out.mono ?_; rintro r w1 ⟨rfl, F', S', h1, s1⟩; have HU := hid (start_any h1); have S1 := hid (S0.out.trans s1); have G1 := hid h1.sg; clear h1 s1)
      | (go_at_call 44; refine HU.out.mono ?_; rintro r w2 ⟨rfl, h2, s2⟩; have H2 := hid h2; have S2 := hid (S1.out.trans (Stp.of_but (s2.mono (S' := S') (by rintro i rfl; exact .inl G1.out)))); clear h2 s2))
    go_ret
    exact ⟨rfl, _, _, H2.out, S2.out⟩
  · obtain ⟨K, rfl⟩ : ∃ K : Nat, k = K := ⟨k.toNat, by omega⟩
    obtain ⟨AF, cF, rfl⟩ := own_sl h0.ff
    obtain ⟨_, _, c2, c3, _, _, _, _, _⟩ := h0.cells
    have f2 := row_free h0.row 2
    have hmx := h0.ok.mx
    have hm4 := h0.ok.m4
    have hfn := h0.ok.fn
    have hcap : d.now.length ≤ cF := by have := h0.ff; obtain ⟨A9, c9, e9, h9, _⟩ := own_slice this; cases e9; omega
    obtain ⟨N, hN⟩ : ∃ N, d.now.length = N := ⟨_, rfl⟩
    obtain ⟨fl, hfl⟩ : ∃ fl, d.floor = fl := ⟨_, rfl⟩
    obtain ⟨m, hm⟩ : ∃ m, m = N - fl := ⟨_, rfl⟩
    obtain ⟨t, ht⟩ : ∃ t, t = min K m := ⟨_, rfl⟩
    obtain ⟨q, hq⟩ : ∃ q, q = fl + t := ⟨_, rfl⟩
    rw [hN] at c2 hmx hfn hcap
    rw [hfl] at c3 hfn
    have hqN : q ≤ N := by omega
    have e1 : IntKind.i64.wrap ((N : Int) - (fl : Int)) = (m : Int) := by rw [IntWalk.i64_in _ (by omega)]; omega
    have e2 : (if m < K then (m : Int) else (K : Int)) = (t : Int) := by rw [ht]; split <;> omega
    have e2' : (if (m : Int) < (K : Int) then (m : Int) else (K : Int)) = (t : Int) := by rw [ht]; split <;> omega
    have e3 : IntKind.i64.wrap ((fl : Int) + (t : Int)) = (q : Int) := by rw [IntWalk.i64_in _ (by omega)]; omega
    have hcut := slice_cut AF N cF q (by omega)
    have hcutd := DkAt.cut h0 (n := q) (by omega) (by omega)
    have ek : d.crash (K : Int) junk = Dk.up { d with now := junked (d.now.take q) d.floor junk } := by
      have e9 : leftK d.now d.floor K = d.now.take q := by
        unfold leftK
        rcases Nat.le_total (d.floor + K) N with h9 | h9
        · congr 1; omega
        · rw [List.take_of_length_le (by omega), List.take_of_length_le (by omega)]
      unfold Dk.crash Dk.up
      simp only [hk0, if_false, Int.toNat_natCast, e9]
    rw [ek]
    have Hd := hid hcutd
    have Hi := hid hi0
    have Hn := hid hN
    have hnb : w.heap.size ≠ g := by omega
    have ck' : (w.alloc (.cells #[.int .i64 (K : Nat), .slice A n c] 40)).cell? ⟨w.heap.size, 0, none⟩ = some (.int .i64 (K : Nat)) := ck
    have cj' : (w.alloc (.cells #[.int .i64 (K : Nat), .slice A n c] 40)).cell? ⟨w.heap.size, 1, none⟩ = some (.slice A n c) := cj
    clear ck cj h h0 hi hi0 hb0 hr hcutd ek hN hfl hm ht hq
    go_enter Try.func20, Try.ntmps20
    go_wp2_with (go_at_call 39; refine HM.out.mono ?_; rintro r w' ⟨rfl, rfl⟩)
    generalize (w.alloc (.cells #[.int .i64 (K : Nat), .slice A n c] 40)) = Wb at ck' cj' c2 c3 f2 Hd Hi S0 ⊢
    go_still_tail 24, (by kernel_rfl)
    change wpList _ _ _ _ _ Wb.drew
    have HD2 : Hid (DkAt B S (Wb.setCell ⟨g, 2, none⟩ (.slice AF q cF)).drew g (.slice AF q cF) L { d with now := d.now.take q } e ∧ Stp S S w (Wb.setCell ⟨g, 2, none⟩ (.slice AF q cF)).drew ∧ OutJ S (Wb.setCell ⟨g, 2, none⟩ (.slice AF q cF)).drew A n c junk) :=
      ⟨Hd.out.1.drew, (S0.out.trans (Stp.of_but Hd.out.2)).but.drew |> Stp.of_but, (Hi.out.stp (Stp.of_but Hd.out.2)).drew⟩
    have qj : (Wb.setCell ⟨g, 2, none⟩ (.slice AF q cF)).cell? ⟨w.heap.size, 1, none⟩ = some (.slice A n c) := keep_set hnb cj'
    clear c3 ck' cj' e1 e2 e2' e3 hcut Hd Hi S0
    go_wp2_with (first
      | (go_at_call 49; refine (spoil_allJ A n c junk HD2.out.1 HD2.out.2.2).mono ?_; rintro r w1 ⟨rfl, h1, s1⟩; have HU := hid (start_any h1); have S1 := hid (HD2.out.2.1.trans (Stp.of_but s1)); have G1 := hid h1.sg; clear h1 s1)
      | (go_at_call 44; refine HU.out.mono ?_; rintro r w2 ⟨rfl, h2, s2⟩; have H2 := hid h2; have S2 := hid (S1.out.trans (Stp.of_but (s2.mono (S' := S) (by rintro i rfl; exact .inl G1.out)))); clear h2 s2))
    go_ret
    exact ⟨rfl, _, _, H2.out, S2.out⟩
end Go.Proofs.Ytgccjclloomfgaa
