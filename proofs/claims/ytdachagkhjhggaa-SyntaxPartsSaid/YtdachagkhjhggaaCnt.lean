/-
  The document's count, Count, Depth.
-/
import Derived.Test.YtdachagkhjhggaaTre
import Derived.Deep.QuietTactic
namespace Go.Proofs.Ytdachagkhjhggaa
open Go.RowKit
set_option linter.unusedVariables false
set_option linter.unusedSimpArgs false

/-- How many statements, down to so many levels. -/
def Tr.cnt : Tr → Nat → Nat
  | .nil, _ => 0
  | .st _ _ _ _, 0 => 0
  | .st _ b e q, L + 1 => 1 + b.cnt L + e.cnt L + q.cnt (L + 1)
theorem Tr.cnt_le : ∀ (t : Tr) (L : Nat), t.cnt L ≤ t.sz
  | .nil, _ => Nat.zero_le _
  | .st _ _ _ _, 0 => Nat.zero_le _
  | .st _ b e q, L + 1 => by
    have := b.cnt_le L
    have := e.cnt_le L
    have := q.cnt_le (L + 1)
    simp only [Tr.cnt, Tr.sz]; omega
theorem Tr.cnt_zero : ∀ (t : Tr), t.cnt 0 = 0
  | .nil => rfl
  | .st _ _ _ _ => rfl
/-- How deep, at most one more than so many. -/
def Tr.dp : Tr → Nat → Nat
  | .nil, _ => 0
  | .st _ _ _ _, 0 => 1
  | .st _ b e q, L + 1 => max (max (b.dp L) (e.dp L) + 1) (q.dp (L + 1))
theorem Tr.dp_le : ∀ (t : Tr) (L : Nat), t.dp L ≤ L + 1
  | .nil, _ => Nat.zero_le _
  | .st _ _ _ _, 0 => Nat.le_refl _
  | .st _ b e q, L + 1 => by
    have := b.dp_le L
    have := e.dp_le L
    have := q.dp_le (L + 1)
    simp only [Tr.dp]; omega
theorem Sl.drewN {w : World} {B : Nat} {t : Tr} {A : Option Addr} {n c : Nat} (h : Sl w B t A n c) (k : Nat) : Sl (w.drewN k) B t A n c := h.to (Nat.le_refl _) (fun _ _ => rfl)
theorem Rest.drewN {w : World} {B : Nat} {t : Tr} {A : Option Addr} {i n : Nat} (h : Rest w B t A i n) (k : Nat) : Rest (w.drewN k) B t A i n :=
  ⟨h.len, fun h0 => by obtain ⟨ad, e, r⟩ := h.lies h0; exact ⟨ad, e, Row.to (w := w) (w' := w.drewN k) (Nat.le_refl _) (fun _ _ => rfl) _ _ r⟩⟩
theorem quiet_at {f : Nat} {args : Array Value} {v : Value} {wr : World} {k : Nat} (h : Calls Try.prog f args (wr.drewN k) fun e w' => e = .returned v ∧ ∃ j, w' = (wr.drewN k).drewN j) : Calls Try.prog f args (wr.drewN k) fun e w' => e = .returned v ∧ ∃ j, w' = wr.drewN j :=
  h.mono fun e w' h => ⟨h.1, by obtain ⟨j, e⟩ := h.2; rw [World.drewN_drewN] at e; exact ⟨_, e⟩⟩
set_option maxRecDepth 10000 in
set_option maxHeartbeats 4000000 in
theorem count_any (m : Nat) : ∀ (t : Tr), t.sz < m → t.sz ≤ 3000 → ∀ (B : Nat) (A : Option Addr) (n c L : Nat) (w : World), Sl w B t A n c → L ≤ 1000 →
    Calls Try.prog 26 #[.slice A n c, .int .i64 L] w fun e w' => e = .returned (.int .i64 (t.cnt L)) ∧ ∃ j, w' = w.drewN j := by
  induction m with
  | zero => intro t ht; omega
  | succ m ih =>
    intro t ht ht3 B A n c L w hS hL
    have hsml := hS.sml
    by_cases h1 : L = 0
    · subst h1
      rw [Tr.cnt_zero]
      clear hS ih
      go_enter Try.func26, Try.ntmps26
      go_wp2
      go_ret
      exact ⟨rfl, 0, rfl⟩
    obtain ⟨L1, rfl⟩ : ∃ L1, L = L1 + 1 := ⟨L - 1, by omega⟩
    have hL1 : ¬ (((L1 + 1 : Nat) : Int) < 1) := by omega
    have HB := hid hS
    have HSL := hid (And.intro ht (And.intro ht3 (And.intro hL hS.len)))
    have IH := hid (fun t h => ih t h)
    clear hS ih h1
    obtain ⟨LZ, hLZ⟩ : ∃ LZ : Int, ((L1 + 1 : Nat) : Int) = LZ := ⟨_, rfl⟩
    have hLZ1 : ¬ (LZ < 1) := by omega
    have hLZ2 : LZ - 1 = (L1 : Int) := by omega
    have hLZ3 : 0 ≤ LZ ∧ LZ ≤ 1000 := by omega
    rw [hLZ]
    clear hL1 hLZ hL
    have hLZ4 : IntKind.i64.wrap (LZ - 1) = (L1 : Int) := by rw [IntKind.wrap_i64]; omega
    go_enter Try.func26, Try.ntmps26
    go_wp2_with fail
    go_loopw [5, 6] (fun v5 v6 wr => ∃ (i s : Nat) (t' : Tr), v6 = .int .i64 (i : Nat) ∧ v5 = .int .i64 (s : Nat) ∧ Hid (Rest wr B t' A i n) ∧ Hid (∃ j, wr = w.drewN j) ∧ Hid (s + t'.cnt (L1 + 1) = t.cnt (L1 + 1) + t'.len ∧ t'.sz ≤ t.sz)) (fun _ v6 _ => n - (intOf v6).toNat)
    case atStart => exact ⟨0, n, t, rfl, rfl, hid HB.out.rest, hid ⟨0, rfl⟩, by show _ ∧ _; have := HSL.out; omega⟩
    case round =>
      obtain ⟨i, s, t', rfl, rfl, HR, HW, HI⟩ := hrel
      have hi := HR.out.le
      by_cases hlt : i < n
      · have hltz : (i : Int) < (n : Int) := by omega
        obtain ⟨x, b, e, q, ad, Ab, nb, cb, Ae, ne, ce, rfl, rfl, hab, hat, hb, he, hq⟩ := HR.out.at hlt
        have a10 := hat.c10
        have a11 := hat.c11
        have HZ : Hid (b.sz < m ∧ e.sz < m ∧ b.sz ≤ 3000 ∧ e.sz ≤ 3000) := by
          show _ ∧ _
          have h1 := HSL.out.1
          have h2 := HI.out.2
          have h3 := HSL.out.2.1
          have h5 : (Tr.st x b e q).sz = 1 + b.sz + e.sz + q.sz := rfl
          omega
        have HQ := hid hq
        obtain ⟨kb, hkb⟩ : ∃ kb, b.cnt L1 = kb := ⟨_, rfl⟩
        obtain ⟨ke, hke⟩ : ∃ ke, e.cnt L1 = ke := ⟨_, rfl⟩
        have C1 := hid (fun k => quiet_at (IH.out b HZ.out.1 HZ.out.2.2.1 B Ab nb cb L1 (wr.drewN k) (hb.drewN k) (by have := HSL.out; omega)))
        have C2 := hid (fun k => quiet_at (IH.out e HZ.out.2.1 HZ.out.2.2.2 B Ae ne ce L1 (wr.drewN k) (he.drewN k) (by have := HSL.out; omega)))
        rw [hkb] at C1
        rw [hke] at C2
        have HS3 : Hid (s ≤ 6000 ∧ kb ≤ 3000 ∧ ke ≤ 3000) := by
          show _ ∧ _
          have h1 := HI.out.1
          have h2 := (Tr.st x b e q).cnt_le (L1 + 1)
          have h3 := t.cnt_le (L1 + 1)
          have h4 := (Tr.st x b e q).len_sz
          have h5 := b.cnt_le L1
          have h6 := e.cnt_le L1
          have := HI.out.2
          have := HSL.out
          have := HZ.out
          omega
        have HK := hid (And.intro hkb hke)
        have w1 : IntKind.i64.wrap ((s : Int) + (kb : Int)) = ((s + kb : Nat) : Int) := by have := HS3.out; rw [IntKind.wrap_i64]; omega
        have w2 : IntKind.i64.wrap (((s + kb : Nat) : Int) + (ke : Int)) = ((s + kb + ke : Nat) : Int) := by have := HS3.out; rw [IntKind.wrap_i64]; omega
        obtain ⟨s1, hs1⟩ : ∃ s1, s + kb = s1 := ⟨_, rfl⟩
        rw [hs1] at w1 w2
        obtain ⟨s2, hs2⟩ : ∃ s2, s1 + ke = s2 := ⟨_, rfl⟩
        rw [hs2] at w2
        have HK2 := hid (And.intro hs1 hs2)
        clear hat hb he hq hkb hke hs1 hs2
        go_wp2_with fail
        go_quiet (first | (go_at_call 26; go_must (first | (with_reducible exact C1.out _) | (with_reducible exact C2.out _))))
        go_wp2_with fail
        go_roundw
        case rel =>
          refine ⟨i + 1, s2, q, by go_num, rfl, HQ.out.drewN _, ?_, ?_⟩
          · obtain ⟨j, e⟩ := HW.out
            exact ⟨j + nq, by rw [e, World.drewN_drewN]⟩
          · have h1 := HI.out
            have h2 := HK.out
            have h3 := HK2.out
            have h5 : (Tr.st x b e q).sz = 1 + b.sz + e.sz + q.sz := rfl
            have h6 : (Tr.st x b e q).len = q.len + 1 := rfl
            have h7 : (Tr.st x b e q).cnt (L1 + 1) = 1 + b.cnt L1 + e.cnt L1 + q.cnt (L1 + 1) := rfl
            show _ ∧ _
            omega
        case measure => simp [intOf]; omega
      · obtain rfl : i = n := by omega
        obtain rfl := HR.out.end
        go_wp2_with fail
        go_ret
        have h := HI.out.1
        simp only [Tr.cnt, Tr.len] at h
        have h' : s = t.cnt (L1 + 1) := by omega
        exact ⟨by rw [h']; rfl, HW.out⟩
theorem Count_any (t : Tr) (A : Option Addr) (n c : Nat) (w : World) (h : Sl w w.heap.size t A n c) (h3 : t.sz ≤ 3000) :
    Calls Try.prog 11 #[.slice A n c] w fun e w' => e = .returned (.int .i64 (t.cnt 20)) ∧ ∃ j, w' = w.drewN j := by
  have HC := hid (count_any (t.sz + 1) t (by omega) h3 _ A n c 20 w h (by omega))
  clear h
  go_enter Try.func11, Try.ntmps11
  go_wp2_with (go_at_call 26; (refine HC.out.mono ?_); rintro e1 w1 ⟨rfl, j, rfl⟩)
  go_ret
  exact ⟨rfl, j, rfl⟩
set_option maxRecDepth 10000 in
set_option maxHeartbeats 4000000 in
theorem depth_any (m : Nat) : ∀ (t : Tr), t.sz < m → ∀ (B : Nat) (A : Option Addr) (n c L : Nat) (w : World), Sl w B t A n c → L ≤ 1000 →
    Calls Try.prog 23 #[.slice A n c, .int .i64 L] w fun e w' => e = .returned (.int .i64 (t.dp L)) ∧ ∃ j, w' = w.drewN j := by
  induction m with
  | zero => intro t ht; omega
  | succ m ih =>
    intro t ht B A n c L w hS hL
    have hsml := hS.sml
    by_cases h0 : n = 0
    · subst h0
      obtain rfl := Tr.len_nil hS.len
      clear hS ih
      go_enter Try.func23, Try.ntmps23
      go_wp2
      go_ret
      exact ⟨rfl, 0, rfl⟩
    have hn0 : ((n : Int) == 0) = false := by simpa using h0
    have hne : t ≠ .nil := fun e => by subst e; exact h0 hS.len.symm
    by_cases h1 : L = 0
    · subst h1
      have e : t.dp 0 = 1 := by
        cases t with
        | nil => exact absurd rfl hne
        | st => rfl
      rw [e]
      clear hS ih h0 hne e
      go_enter Try.func23, Try.ntmps23
      go_wp2
      go_ret
      exact ⟨rfl, 0, rfl⟩
    obtain ⟨L1, rfl⟩ : ∃ L1, L = L1 + 1 := ⟨L - 1, by omega⟩
    have HB := hid hS
    have HSL := hid (And.intro ht (And.intro hL (And.intro hS.len hne)))
    have IH := hid (fun t h => ih t h)
    clear hS ih h1 hne
    obtain ⟨LZ, hLZ⟩ : ∃ LZ : Int, ((L1 + 1 : Nat) : Int) = LZ := ⟨_, rfl⟩
    have hLZ1 : ¬ (LZ < 1) := by omega
    have hLZ2 : LZ - 1 = (L1 : Int) := by omega
    have hLZ3 : 0 ≤ LZ ∧ LZ ≤ 1000 := by omega
    rw [hLZ]
    clear hLZ hL h0
    have hLZ4 : IntKind.i64.wrap (LZ - 1) = (L1 : Int) := by rw [IntKind.wrap_i64]; omega
    go_enter Try.func23, Try.ntmps23
    go_wp2_with fail
    go_loopw [5, 6] (fun v5 v6 wr => ∃ (i s : Nat) (t' : Tr), v6 = .int .i64 (i : Nat) ∧ v5 = .int .i64 (s : Nat) ∧ Hid (Rest wr B t' A i n) ∧ Hid (∃ j, wr = w.drewN j) ∧ Hid (max (s + 1) (t'.dp (L1 + 1)) = t.dp (L1 + 1) ∧ t'.sz ≤ t.sz)) (fun _ v6 _ => n - (intOf v6).toNat)
    case atStart => exact ⟨0, 0, t, rfl, rfl, hid HB.out.rest, hid ⟨0, rfl⟩, by
      show _ ∧ _
      have := HSL.out
      cases t with
      | nil => exact absurd rfl this.2.2.2
      | st x b e q => simp only [Tr.dp]; omega⟩
    case round =>
      obtain ⟨i, s, t', rfl, rfl, HR, HW, HI⟩ := hrel
      have hi := HR.out.le
      by_cases hlt : i < n
      · have hltz : (i : Int) < (n : Int) := by omega
        obtain ⟨x, b, e, q, ad, Ab, nb, cb, Ae, ne, ce, rfl, rfl, hab, hat, hb, he, hq⟩ := HR.out.at hlt
        have a10 := hat.c10
        have a11 := hat.c11
        have HZ : Hid (b.sz < m ∧ e.sz < m) := by
          show _ ∧ _
          have h1 := HSL.out.1
          have h2 := HI.out.2
          have h5 : (Tr.st x b e q).sz = 1 + b.sz + e.sz + q.sz := rfl
          omega
        have HQ := hid hq
        obtain ⟨kb, hkb⟩ : ∃ kb, b.dp L1 = kb := ⟨_, rfl⟩
        obtain ⟨ke, hke⟩ : ∃ ke, e.dp L1 = ke := ⟨_, rfl⟩
        have C1 := hid (fun k => quiet_at (IH.out b HZ.out.1 B Ab nb cb L1 (wr.drewN k) (hb.drewN k) (by have := HSL.out; omega)))
        have C2 := hid (fun k => quiet_at (IH.out e HZ.out.2 B Ae ne ce L1 (wr.drewN k) (he.drewN k) (by have := HSL.out; omega)))
        rw [hkb] at C1
        rw [hke] at C2
        have HK := hid (And.intro hkb hke)
        clear hat hb he hq hkb hke
        go_wp2_with fail
        go_quiet (first | (go_at_call 23; go_must (first | (with_reducible exact C1.out _) | (with_reducible exact C2.out _))))
        go_wp2_with fail
        go_roundw
        case rel =>
          refine ⟨i + 1, max (max s kb) ke, q, by go_num, ?_, HQ.out.drewN _, ?_, ?_⟩
          · congr 1
            by_cases p1 : s < kb
            · rw [if_pos p1]
              by_cases p2 : (kb : Int) < (ke : Int)
              · rw [if_pos p2]; omega
              · rw [if_neg p2]; omega
            · rw [if_neg p1]
              by_cases p2 : (s : Int) < (ke : Int)
              · rw [if_pos p2]; omega
              · rw [if_neg p2]; omega
          · obtain ⟨j, e⟩ := HW.out
            exact ⟨j + nq, by rw [e, World.drewN_drewN]⟩
          · have h1 := HI.out
            have h2 := HK.out
            have h5 : (Tr.st x b e q).sz = 1 + b.sz + e.sz + q.sz := rfl
            have h7 : (Tr.st x b e q).dp (L1 + 1) = max (max (b.dp L1) (e.dp L1) + 1) (q.dp (L1 + 1)) := rfl
            show _ ∧ _
            omega
        case measure => simp [intOf]; omega
      · obtain rfl : i = n := by omega
        obtain rfl := HR.out.end
        have h := HI.out.1
        simp only [Tr.dp] at h
        have h' : t.dp (L1 + 1) = s + 1 := by omega
        have hs : s ≤ 1001 := by have := t.dp_le (L1 + 1); have := HSL.out; omega
        have HH := hid h'
        clear h h'
        go_wp2_with fail
        go_ret
        refine ⟨?_, HW.out⟩
        rw [HH.out]
        simp
end Go.Proofs.Ytdachagkhjhggaa
