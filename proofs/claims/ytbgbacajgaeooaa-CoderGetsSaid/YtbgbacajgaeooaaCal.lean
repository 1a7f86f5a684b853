/-
  The document's End; encoders side by side, for a caller.
-/
import Derived.Test.YtbgbacajgaeooaaRtp
namespace Go.Proofs.Ytbgbacajgaeooaa
open Go.RowKit

set_option maxRecDepth 10000 in
set_option maxHeartbeats 4000000 in
theorem REnd_any {B : Nat} {S : Nat → Prop} {w : World} {g x y : Nat} {F : Value} {l : List UInt8} (h : Ob B S w g 32 (rcells x y) F l) (hl : l.length ≤ 100000) (hx : x < 4294967296) :
    Calls Try.prog 15 #[.pointer (some ⟨g, 0, none⟩)] w fun r w' => ∃ v, r = .returned v ∧ OwnB w w' v (l ++ be4 x) := by
  have c2 : w.cell? ⟨g, 2, none⟩ = some F := row_cell h.row 2
  have c0 : w.cell? ⟨g, 0, none⟩ = some (.int .u64 (x : Nat)) := row_cell h.row 0
  obtain ⟨A, c, rfl⟩ := own_sl h.ff
  have hIB := own_isB2 h.ff (by omega)
  have HO0 : Hid ((w.alloc (.cells #[] 5)).ownsRow w.heap.size 5 1 (.slice (some ⟨w.heap.size, 0, none⟩) 0 0) 0 (([] : List UInt8).map bv)) := World.ownsRow_made w #[] 0 (Nat.le_refl _) (Nat.zero_le _) rfl
  have HB0 := hid ((hIB.below ((Below.refl w.heap.size w).alloc (Nat.le_refl _) (.cells #[] 5))).toIsB)
  have HBel := hid ((Below.refl w.heap.size w).alloc (Nat.le_refl _) (.cells #[] 5))
  have HL := hid hl
  have q0 : (x : Int) / 16777216 = ((UInt8.ofNat (x / 16777216)).toNat : Int) := by simp; omega
  have q1 : (x : Int) / 65536 % 256 = ((UInt8.ofNat (x / 65536 % 256)).toNat : Int) := by simp
  have q2 : (x : Int) / 256 % 256 = ((UInt8.ofNat (x / 256 % 256)).toNat : Int) := by simp
  have q3 : (x : Int) % 256 = ((UInt8.ofNat (x % 256)).toNat : Int) := by simp
  have H4 : Hid (∀ W2 : World, IsB (W2.alloc (.cells #[.int .u8 ((x : Int) / 16777216), .int .u8 ((x : Int) / 65536 % 256), .int .u8 ((x : Int) / 256 % 256), .int .u8 ((x : Int) % 256)] 5)) (some ⟨W2.heap.size, 0, none⟩) 4 4 (be4 x)) := fun W2 => four_isB W2 _ _ _ _ _ _ _ _ q0 q1 q2 q3
  clear q0 q1 q2 q3
  have c2' : (w.alloc (.cells #[] 5)).cell? ⟨g, 2, none⟩ = some (.slice A l.length c) := HBel.out.cell (lt_of_cell c2) |>.trans c2
  clear h hIB hl
  go_enter Try.func15, Try.ntmps15
  go_wp2_with (first
    | (at_builtin; (refine wpList_append_bytes rfl (.tmp 9) (.tmp 13) rfl w.heap.size w (.slice (some ⟨w.heap.size, 0, none⟩) 0 0) 0 [] rfl HO0.out A l.length c l rfl HB0.out (by have := HL.out; omega) HBel.out (Nat.le_refl _) ?_); intro v2 W2 ho2 hb2 _)
    | (at_builtin; (refine wpList_append_bytes rfl (.tmp 14) (.tmp 29) rfl w.heap.size w v2 (0 + l.length) ([] ++ l) rfl (ho2.out.alloc _) (some ⟨W2.heap.size, 0, none⟩) 4 4 (be4 x) rfl (H4.out W2) (by have := HL.out; omega) (hb2.out.alloc hb2.out.size _) (Nat.le_refl _) ?_); intro v3 W3 ho3 hb3 _))
  go_ret
  refine ⟨_, rfl, ?_, hb3.out⟩
  have := ho3.out
  rw [Nat.zero_add, List.nil_append] at this
  have e : (l ++ be4 x).length = l.length + 4 := by rw [List.length_append]; rfl
  rw [e]
  exact this
/-- An encoder (k), or the document's, as a caller has it. -/
def typ : Bool → TypeId
  | true => 55
  | false => 32
def cls : Bool → Nat → Nat → Nat → Value → Array Value
  | true, g, x, y => ecells g x y
  | false, _, x, y => rcells x y
structure O1 (k : Bool) (B : Nat) (S : Nat → Prop) (w : World) (g : Nat) (s : Es) : Prop where
  ob : ∃ F, Ob B S w g (typ k) (cls k g s.x s.y) F s.l
  ok : IvOk s.x s.y
  len : s.l.length ≤ 65539
def es0 : Es := ⟨0, 4294967295, []⟩
theorem es0_ok : IvOk 0 4294967295 := ⟨by decide, by decide, by decide⟩
theorem O1.but {k : Bool} {B : Nat} {S T : Nat → Prop} {w w' : World} {g : Nat} {s : Es} (h : O1 k B S w g s) (b : But T w w') (hT : ∀ i, S i → ¬ T i) : O1 k B S w' g s := by
  obtain ⟨⟨F, ho⟩, h1, h2⟩ := h
  exact ⟨⟨F, ho.but b hT⟩, h1, h2⟩
theorem put1_len (x y p : Nat) (b : Bool) : (put1 x y p b).1.length ≤ 4 := shd_len 4 _ _
theorem ite_dec (b : Bool) : (if b = true then (1 : Int) else 0) = 1 ↔ b = true := by cases b <;> simp
theorem es_put (s : Es) (b : Bool) (p : Nat) (h1 : 1 ≤ p) (h2 : p ≤ 65535) (hl : s.l.length < 65536) : s.put (if b then 1 else 0) (p : Int) = (⟨(put1 s.x s.y p b).2.1, (put1 s.x s.y p b).2.2, s.l ++ (put1 s.x s.y p b).1⟩, 0) := by
  unfold Es.put
  have e : decide ((if b = true then (1 : Int) else 0) = 1) = b := by cases b <;> rfl
  rw [if_neg, if_neg (by omega), Int.toNat_natCast, e]
  intro h
  rcases h with h | h
  · apply h; cases b <;> simp
  · apply h; omega
/-- Put, of an encoder or of the document's. -/
theorem O1.puts {k : Bool} {B : Nat} {S : Nat → Prop} {w : World} {g : Nat} {s : Es} (h : O1 k B S w g s) (bit p : Int) :
    Calls Try.prog (if k then 10 else 11) #[.pointer (some ⟨g, 0, none⟩), .int .i64 bit, .int .i64 p] w fun r w' => r = .returned (.int .i64 ((s.put bit p).2 : Nat)) ∧ ∃ S', O1 k B S' w' g (s.put bit p).1 ∧ Stp S S' w w' := by
  obtain ⟨⟨F, ho⟩, hok, hlen⟩ := h
  by_cases hb : ¬ (bit = 0 ∨ bit = 1) ∨ ¬ (1 ≤ p ∧ p ≤ 65535)
  · have e : s.put bit p = (s, 2) := by unfold Es.put; rw [if_pos hb]
    rw [e]
    cases k
    · refine (RPut_arg ⟨g, 0, none⟩ w bit p hb).mono ?_
      rintro r w' ⟨rfl, rfl⟩
      exact ⟨rfl, S, ⟨⟨F, ho⟩, hok, hlen⟩, Stp.refl _ _⟩
    · refine (Put_arg g w (row_cell ho.row 0) bit p hb).mono ?_
      rintro r w' ⟨rfl, rfl⟩
      exact ⟨rfl, S, ⟨⟨F, ho⟩, hok, hlen⟩, Stp.refl _ _⟩
  · have hb1 : bit = 0 ∨ bit = 1 := by omega
    have hp1 : 1 ≤ p ∧ p ≤ 65535 := by omega
    by_cases hl : 65536 ≤ s.l.length
    · have e : s.put bit p = (s, 3) := by unfold Es.put; rw [if_neg hb, if_pos hl]
      rw [e]
      cases k
      · refine (RPut_long ho hl bit p hb1 hp1).mono ?_
        rintro r w' ⟨rfl, rfl⟩
        exact ⟨rfl, S, ⟨⟨F, ho⟩, hok, hlen⟩, Stp.refl _ _⟩
      · refine (Put_long ho hl bit p hb1 hp1).mono ?_
        rintro r w' ⟨rfl, rfl⟩
        exact ⟨rfl, S, ⟨⟨F, ho⟩, hok, hlen⟩, Stp.refl _ _⟩
    · obtain ⟨q, rfl⟩ : ∃ q : Nat, p = (q : Int) := ⟨p.toNat, by omega⟩
      obtain ⟨b, rfl⟩ : ∃ b : Bool, bit = if b then 1 else 0 := by
        rcases hb1 with rfl | rfl
        · exact ⟨false, rfl⟩
        · exact ⟨true, rfl⟩
      rw [es_put s b q (by omega) (by omega) (by omega)]
      have hk := put1_ok s.x s.y q b hok (by omega) (by omega)
      have h4 := put1_len s.x s.y q b
      have hll : (s.l ++ (put1 s.x s.y q b).1).length ≤ 65539 := by rw [List.length_append]; omega
      cases k
      · refine (RPut_good ho hok (by omega) b q (by omega) (by omega)).mono ?_
        rintro r w' ⟨rfl, S', F', h1, h2⟩
        exact ⟨rfl, S', ⟨⟨F', h1⟩, hk, hll⟩, h2⟩
      · refine (Put_good ho hok (by omega) b q (by omega) (by omega)).mono ?_
        rintro r w' ⟨rfl, S', F', h1, h2⟩
        exact ⟨rfl, S', ⟨⟨F', h1⟩, hk, hll⟩, h2⟩
/-- Several side by side, within U. -/
def OLs (B : Nat) (w : World) : List (Bool × Nat × Es) → (Nat → Prop) → Prop
  | [], _ => True
  | o :: L, U => ∃ S, O1 o.1 B S w o.2.1 o.2.2 ∧ (∀ i, S i → U i) ∧ OLs B w L (fun i => U i ∧ ¬ S i)
theorem OLs.but {B : Nat} {w w' : World} {T : Nat → Prop} (b : But T w w') : ∀ (L : List (Bool × Nat × Es)) (U : Nat → Prop), OLs B w L U → (∀ i, U i → ¬ T i) → OLs B w' L U
  | [], _, _, _ => trivial
  | _o :: L, _U, ⟨S, h1, h2, h3⟩, hT => ⟨S, h1.but b (fun i hi => hT i (h2 i hi)), h2, OLs.but b L _ h3 (fun i hi => hT i hi.1)⟩
theorem OLs.mono {B : Nat} {w : World} : ∀ (L : List (Bool × Nat × Es)) (U V : Nat → Prop), OLs B w L U → (∀ i, U i → V i) → OLs B w L V
  | [], _, _, _, _ => trivial
  | _ :: L, _, _, ⟨S, h1, h2, h3⟩, h => ⟨S, h1, fun i hi => h i (h2 i hi), OLs.mono L _ _ h3 (fun i hi => ⟨h i hi.1, hi.2⟩)⟩
theorem OLs.swap {B : Nat} {w : World} {a b : Bool × Nat × Es} {L : List (Bool × Nat × Es)} {U : Nat → Prop} : OLs B w (a :: b :: L) U → OLs B w (b :: a :: L) U
  | ⟨S, h1, h2, T, h3, h4, h5⟩ => ⟨T, h3, fun i hi => (h4 i hi).1, S, h1, fun i hi => ⟨h2 i hi, fun ht => (h4 i ht).2 hi⟩, OLs.mono L _ _ h5 (fun _ hi => ⟨⟨hi.1.1, hi.2⟩, hi.1.2⟩)⟩
/-- A caller's encoders, in blocks below n; all that lay in w stands. -/
structure OL (n : Nat) (w W : World) (L : List (Bool × Nat × Es)) : Prop where
  os : OLs w.heap.size W L (fun i => i < n)
  n0 : w.heap.size ≤ n
  n1 : n ≤ W.heap.size
  bel : Below w.heap.size w W
theorem OL.swap {n : Nat} {w W : World} {a b : Bool × Nat × Es} {L : List (Bool × Nat × Es)} (h : OL n w W (a :: b :: L)) : OL n w W (b :: a :: L) := ⟨h.os.swap, h.n0, h.n1, h.bel⟩
theorem OL.swap2 {n : Nat} {w W : World} {a b c : Bool × Nat × Es} {L : List (Bool × Nat × Es)} (h : OL n w W (a :: b :: c :: L)) : OL n w W (a :: c :: b :: L) := by
  obtain ⟨⟨S, h1, h2, h3⟩, h4, h5, h6⟩ := h
  exact ⟨⟨S, h1, h2, OLs.swap h3⟩, h4, h5, h6⟩
theorem OL.up {n m : Nat} {w W : World} {L : List (Bool × Nat × Es)} (h : OL n w W L) (h1 : n ≤ m) (h2 : m ≤ W.heap.size) : OL m w W L := ⟨OLs.mono _ _ _ h.os (fun _ hi => Nat.lt_of_lt_of_le hi h1), Nat.le_trans h.n0 h1, h2, h.bel⟩
theorem OL.but {n : Nat} {w W W' : World} {L : List (Bool × Nat × Es)} {T : Nat → Prop} (h : OL n w W L) (b : But T W W') (hT : ∀ i, T i → n ≤ i) : OL n w W' L :=
  ⟨OLs.but b _ _ h.os (fun i hi ht => Nat.lt_irrefl _ (Nat.lt_of_lt_of_le hi (hT i ht))), h.n0, Nat.le_trans h.n1 b.size, h.bel.trans (b.below (fun i hi => Nat.le_trans h.n0 (hT i hi)) h.bel.size)⟩
theorem OL.later {n : Nat} {w W W' : World} {L : List (Bool × Nat × Es)} (h : OL n w W L) (b : Below W.heap.size W W') : OL n w W' L := h.but (T := fun _ => False) (.of_below b) (fun _ h => h.elim)
theorem OL.nil {w W : World} (b : Below w.heap.size w W) : OL W.heap.size w W [] := ⟨trivial, b.size, Nat.le_refl _, b⟩
/-- The first one's step. -/
theorem OL.step {w W W' : World} {o : Bool × Nat × Es} {L : List (Bool × Nat × Es)} {s' : Es} {n : Nat} (h : OL n w W (o :: L)) (hc : ∀ S, O1 o.1 w.heap.size S W o.2.1 o.2.2 → ∃ S', O1 o.1 w.heap.size S' W' o.2.1 s' ∧ Stp S S' W W') : OL W'.heap.size w W' ((o.1, o.2.1, s') :: L) := by
  obtain ⟨⟨S, h1, h2, h3⟩, h4, h5, h6⟩ := h
  obtain ⟨S', k1, k2⟩ := hc S h1
  have hlt : ∀ i, S' i → w.heap.size ≤ i ∧ i < W'.heap.size := fun i hi => by obtain ⟨F, ho⟩ := k1.ob; exact ho.lt i hi
  have hS : ∀ i, S i → w.heap.size ≤ i := fun i hi => by obtain ⟨F, ho⟩ := h1.ob; exact (ho.lt i hi).1
  refine ⟨⟨S', k1, fun i hi => (hlt i hi).2, ?_⟩, Nat.le_trans h4 (Nat.le_trans h5 k2.but.size), Nat.le_refl _, h6.trans (k2.but.below hS h6.size)⟩
  refine OLs.mono _ _ _ (OLs.but k2.but _ _ h3 (fun i hi => hi.2)) (fun i hi => ⟨Nat.lt_of_lt_of_le hi.1 (Nat.le_trans h5 k2.but.size), fun hs => ?_⟩)
  rcases k2.new i hs with h7 | h7
  · exact hi.2 h7
  · exact Nat.lt_irrefl _ (Nat.lt_of_lt_of_le hi.1 (Nat.le_trans h5 h7))
theorem OL.put {n : Nat} {w W : World} {k : Bool} {g : Nat} {s : Es} {L : List (Bool × Nat × Es)} (h : OL n w W ((k, g, s) :: L)) (bit p : Int) :
    Calls Try.prog (if k then 10 else 11) #[.pointer (some ⟨g, 0, none⟩), .int .i64 bit, .int .i64 p] W fun r w' => r = .returned (.int .i64 ((s.put bit p).2 : Nat)) ∧ OL w'.heap.size w w' ((k, g, (s.put bit p).1) :: L) := by
  obtain ⟨S, h1, h2, h3⟩ := h.os
  refine (h1.puts bit p).mono ?_
  rintro r w' ⟨rfl, S', k1, k2⟩
  refine ⟨rfl, ?_⟩
  have h' : OL n w W ((k, g, s) :: L) := ⟨⟨S, h1, h2, h3⟩, h.n0, h.n1, h.bel⟩
  have hlt : ∀ i, S' i → w.heap.size ≤ i ∧ i < w'.heap.size := fun i hi => by obtain ⟨F, ho⟩ := k1.ob; exact ho.lt i hi
  have hS : ∀ i, S i → w.heap.size ≤ i := fun i hi => by obtain ⟨F, ho⟩ := h1.ob; exact (ho.lt i hi).1
  refine ⟨⟨S', k1, fun i hi => (hlt i hi).2, ?_⟩, Nat.le_trans h.n0 (Nat.le_trans h.n1 k2.but.size), Nat.le_refl _, h.bel.trans (k2.but.below hS h.bel.size)⟩
  refine OLs.mono _ _ _ (OLs.but k2.but _ _ h3 (fun i hi => hi.2)) (fun i hi => ⟨Nat.lt_of_lt_of_le hi.1 (Nat.le_trans h.n1 k2.but.size), fun hs => ?_⟩)
  rcases k2.new i hs with h7 | h7
  · exact hi.2 h7
  · exact Nat.lt_irrefl _ (Nat.lt_of_lt_of_le hi.1 (Nat.le_trans h.n1 h7))
theorem OL.first {n : Nat} {w W : World} {k : Bool} {g : Nat} {s : Es} {L : List (Bool × Nat × Es)} (h : OL n w W ((k, g, s) :: L)) : ∃ S, O1 k w.heap.size S W g s := by
  obtain ⟨S, h1, _, _⟩ := h.os
  exact ⟨S, h1⟩
theorem OL.len {n : Nat} {w W : World} {g : Nat} {s : Es} {L : List (Bool × Nat × Es)} (h : OL n w W ((true, g, s) :: L)) : Calls Try.prog 12 #[.pointer (some ⟨g, 0, none⟩)] W fun r w' => r = .returned (.int .i64 (s.l.length : Nat)) ∧ W = w' := by
  obtain ⟨S, ⟨F, ho⟩, _, _⟩ := h.first
  exact Len_any ho
theorem OL.end {n : Nat} {w W : World} {g : Nat} {s : Es} {L : List (Bool × Nat × Es)} (h : OL n w W ((true, g, s) :: L)) : Calls Try.prog 13 #[.pointer (some ⟨g, 0, none⟩)] W fun r w' => ∃ v, r = .returned v ∧ OwnB W w' v (s.l ++ be4 s.x) := by
  obtain ⟨S, ⟨F, ho⟩, hk, hl⟩ := h.first
  exact End_any ho (by omega) (Nat.lt_of_le_of_lt hk.le hk.lt)
theorem OL.rend {n : Nat} {w W : World} {g : Nat} {s : Es} {L : List (Bool × Nat × Es)} (h : OL n w W ((false, g, s) :: L)) : Calls Try.prog 15 #[.pointer (some ⟨g, 0, none⟩)] W fun r w' => ∃ v, r = .returned v ∧ OwnB W w' v (s.l ++ be4 s.x) := by
  obtain ⟨S, ⟨F, ho⟩, hk, hl⟩ := h.first
  exact REnd_any ho (by omega) (Nat.lt_of_le_of_lt hk.le hk.lt)
theorem OL.new {n : Nat} {w W : World} {L : List (Bool × Nat × Es)} (h : OL n w W L) : Calls Try.prog 8 #[] W fun r w' => ∃ g, r = .returned (.pointer (some ⟨g, 0, none⟩)) ∧ OL w'.heap.size w w' ((true, g, es0) :: L) := by
  refine (NewEncoder_any W).mono ?_
  rintro r w' ⟨g, rfl, h1, b1⟩
  have h2 := h.later b1
  have hg := (h1.lt g rfl)
  refine ⟨g, rfl, ⟨⟨(· = g), ⟨⟨_, ⟨h1.row, h1.t5, h1.ff, rfl, h1.sf, fun i hi => ⟨by have := (h1.lt i hi).1; have := h.bel.size; omega, (h1.lt i hi).2⟩⟩⟩, es0_ok, Nat.zero_le _⟩, fun i hi => by rw [hi]; exact hg.2, ?_⟩, Nat.le_trans h.n0 h2.n1, Nat.le_refl _, h2.bel⟩⟩
  refine OLs.mono _ _ _ h2.os (fun i hi => ⟨Nat.lt_of_lt_of_le hi h2.n1, fun e => ?_⟩)
  have hi' : i < n := hi
  have := hg.1
  have := h.n1
  omega
theorem OL.rnew {n : Nat} {w W : World} {L : List (Bool × Nat × Es)} (h : OL n w W L) : OL (W.alloc (.cells #[.int .u64 0, .int .u64 4294967295, .slice none 0 0] 32)).heap.size w (W.alloc (.cells #[.int .u64 0, .int .u64 4294967295, .slice none 0 0] 32)) ((false, W.heap.size, es0) :: L) := by
  have b1 : Below W.heap.size W (W.alloc (.cells #[.int .u64 0, .int .u64 4294967295, .slice none 0 0] 32)) := (Below.refl _ W).alloc (Nat.le_refl _) _
  have h2 := h.later b1
  have hs : W.heap.size < (W.alloc (.cells #[.int .u64 0, .int .u64 4294967295, .slice none 0 0] 32)).heap.size := by simp
  refine ⟨⟨(· = W.heap.size), ⟨⟨.slice none 0 0, ⟨heap_alloc_new W _, (by show (32 : Nat) ≠ 5; decide), World.ownsRow_nil _ _ _ _, rfl, fun k e => (by cases e), fun i hi => by rw [hi]; exact ⟨h.bel.size, hs⟩⟩⟩, es0_ok, Nat.zero_le _⟩, fun i hi => by rw [hi]; exact hs, ?_⟩, Nat.le_trans h.n0 h2.n1, Nat.le_refl _, h2.bel⟩
  refine OLs.mono _ _ _ h2.os (fun i hi => ⟨Nat.lt_of_lt_of_le hi h2.n1, fun e => ?_⟩)
  have hi' : i < n := hi
  have := h.n1
  omega
end Go.Proofs.Ytbgbacajgaeooaa
