/-
  Merged: Aw Zi Sse.
-/
import Derived.Test.YtkfdbibgjoaefaaGreatDoorMg27
import Derived.Test.YtkfdbibgjoaefaaGreatDoorMg28
import Derived.Test.YtkfdbibgjoaefaaGreatDoorMg25
import Derived.Test.YtkfdbibgjoaefaaGreatDoorMg26
import Derived.BigQuiet
/-
  awake.
-/
namespace Go.Proofs.YtkfdbibgjoaefaaGreatDoor
open Go.RowKit

/-- Kinds of which all is known. -/
def Kind (k : Nat) : Prop := BuildK k ∧ LeanK k ∧ LearnK k ∧ EndK k
theorem kind1 : Kind 1 := ⟨buildK1, leanK1, learnK1, endK1⟩
theorem kind2 : Kind 2 := ⟨buildK2, leanK2, learnK2, endK2⟩
theorem kind3 : Kind 3 := ⟨buildK3, leanK3, learnK3, endK3⟩
theorem can_new {L : List Pt} (h : ∀ p ∈ L, Kind p.kind) : Can (Bl.new L).l := fun u hu => by
  obtain ⟨p, hp, e⟩ := List.mem_map.1 hu
  rw [← e, begun_k]
  exact (h p hp).2
theorem fit_new {L : List Pt} (hr : rightP L = 0) : Fit (Bl.new L) := ⟨new_ok L hr, fun u hu => by
  obtain ⟨p, _, e⟩ := List.mem_map.1 hu
  rw [← e, begun_h]; omega, by show (0 : Nat) < _; decide⟩
theorem On.new {w0 w : World} {A : Option Addr} {n c : Nat} {L : List Pt} (h : IsP w w.heap.size A n c L) (hr : rightP L = 0) (kn : KnIs w) (bel : Below w0.heap.size w0 w) (pos : 0 < w0.heap.size) (hk : ∀ p ∈ L, Kind p.kind) :
    Calls Tryz.prog 7 #[.slice A n c] w fun e w' => ∃ g, e = .returned (.tuple #[pt g, .int .i64 0]) ∧ On w0 w' (fun a => w.heap.size ≤ a ∧ a < w'.heap.size) g (Bl.new L) ∧ Below w.heap.size w w' := by
  refine (New_any A n c L w h hr kn (fun p hp => (hk p hp).1) (fun p hp => (hk p hp).2.1)).mono ?_
  rintro e w' ⟨g, rfl, bl, b⟩
  exact ⟨g, rfl, ⟨kn.below b, bel.trans (b.mono bel.size), bl, fit_new hr, can_new hk, fun a ha => Nat.le_trans bel.size ha.1, pos⟩, b⟩
def pA : Pt := ⟨2, 0, 0, 0, 0, 0, 255⟩
def pB : Pt := ⟨1, 0, 0, 0, 128, 0, 0⟩
theorem rA : rightP [pA] = 0 := by decide +kernel
theorem rB : rightP [pB] = 0 := by decide +kernel
theorem stz_3071 : stz 3071 = 284 := by decide +kernel
theorem sq_284 : sq 284 = 3072 := by decide +kernel
theorem gA0 : (Bl.new [pA]).guess = 32768 := by decide +kernel
theorem gB0 : (Bl.new [pB]).guess = 40800 := by decide +kernel
theorem gA1 : ((Bl.new [pA]).learn true).guess = 49152 := by decide +kernel
theorem gB1 : ((Bl.new [pB]).learn false).guess = 40800 := by decide +kernel
theorem iA1 : ((Bl.new [pA]).learn true).bits = 1 := by decide +kernel
theorem cA1 : ((Bl.new [pA]).learn true).c = 3 := by decide +kernel
theorem kA : ∀ p ∈ [pA], Kind p.kind := fun p hp => by rw [List.mem_singleton] at hp; rw [hp]; exact kind2
theorem kB : ∀ p ∈ [pB], Kind p.kind := fun p hp => by rw [List.mem_singleton] at hp; rw [hp]; exact kind1
theorem r100 : rightP [] = 100 := by decide +kernel
set_option maxRecDepth 10000 in
set_option maxHeartbeats 2000000 in
theorem awake_any (w : World) (kn : KnIs w) : Calls Tryz.prog 5 #[] w fun e w' => e = .returned (.bool true) ∧ Below w.heap.size w w' := by
  have w0 := kn_pos kn
  have HN : Hid (∀ W o, o = Obj.cells #[Value.int .u8 2, .int .i64 0, .int .i64 0, .int .i64 0, .int .i64 0, .int .i64 0, .int .i64 255] 38 → KnIs W → Below w.heap.size w W → Calls Tryz.prog 7 #[.slice (some ⟨W.heap.size, 0, none⟩) 1 1] (W.alloc o) fun e w' => ∃ g, e = .returned (.tuple #[.pointer (some ⟨g, 0, none⟩), .int .i64 0]) ∧
      On w w' (fun a => (W.alloc o).heap.size ≤ a ∧ a < w'.heap.size) g (Bl.new [pA]) ∧ Below (W.alloc o).heap.size (W.alloc o) w') := hid fun W o ho k b => by
    subst ho
    have b1 : Below W.heap.size W (W.alloc (Obj.cells #[Value.int .u8 2, .int .i64 0, .int .i64 0, .int .i64 0, .int .i64 0, .int .i64 0, .int .i64 255] 38)) := (Below.refl _ _).alloc (Nat.le_refl _) _
    exact On.new (isP_row [pA] (heap_alloc_new W _) rfl 1 rfl (by omega)) rA (k.below b1) (b.trans (b1.mono b.size)) w0 kA
  have HM : Hid (∀ W o, o = Obj.cells #[Value.int .u8 1, .int .i64 0, .int .i64 0, .int .i64 0, .int .i64 128, .int .i64 0, .int .i64 0] 38 → KnIs W → Below w.heap.size w W → Calls Tryz.prog 7 #[.slice (some ⟨W.heap.size, 0, none⟩) 1 1] (W.alloc o) fun e w' => ∃ g, e = .returned (.tuple #[.pointer (some ⟨g, 0, none⟩), .int .i64 0]) ∧
      On w w' (fun a => (W.alloc o).heap.size ≤ a ∧ a < w'.heap.size) g (Bl.new [pB]) ∧ Below (W.alloc o).heap.size (W.alloc o) w') := hid fun W o ho k b => by
    subst ho
    have b1 : Below W.heap.size W (W.alloc (Obj.cells #[Value.int .u8 1, .int .i64 0, .int .i64 0, .int .i64 0, .int .i64 128, .int .i64 0, .int .i64 0] 38)) := (Below.refl _ _).alloc (Nat.le_refl _) _
    exact On.new (isP_row [pB] (heap_alloc_new W _) rfl 1 rfl (by omega)) rB (k.below b1) (b.trans (b1.mono b.size)) w0 kB
  go_enter Tryz.func5, Tryz.ntmps5
  go_wp2_with fail
  refine (HN.out _ _ rfl kn (Below.refl _ _)).mono ?_
  rintro e w1 ⟨g1, rfl, o1, b1⟩
  go_wp2_with fail
  refine (HM.out _ _ rfl o1.kn o1.bel).mono ?_
  rintro e w2 ⟨g2, rfl, o2, b2⟩
  have s0 : Sd w w2 _ _ g1 g2 (Bl.new [pA]) (Bl.new [pB]) := ⟨o1.below (bel_alloc b2), o2, fun a h1 h2 => by have := h1.2; have := h2.1; simp at this; omega⟩
  generalize (fun a => (w.alloc (Obj.cells #[Value.int .u8 2, .int .i64 0, .int .i64 0, .int .i64 0, .int .i64 0, .int .i64 0, .int .i64 255] 38)).heap.size ≤ a ∧ a < w1.heap.size) = F1 at s0
  generalize (fun a => (w1.alloc (Obj.cells #[Value.int .u8 1, .int .i64 0, .int .i64 0, .int .i64 0, .int .i64 128, .int .i64 0, .int .i64 0] 38)).heap.size ≤ a ∧ a < w2.heap.size) = F2 at s0
  have S0 := hid s0
  clear o1 o2 b1 b2 s0 HN HM kn
  go_wp2_with fail
  have q := S0.out.guess
  rw [gA0] at q
  unfold pt at q
  refine q.mono ?_
  rintro e w3 ⟨rfl, s1⟩
  have S1 := hid s1
  clear s1 q S0
  go_wp2_with fail
  have q := S1.out.guess2
  rw [gB0] at q
  unfold pt at q
  refine q.mono ?_
  rintro e w4 ⟨rfl, s2⟩
  have S2 := hid s2
  clear s2 q S1
  go_wp2_with fail
  have q := S2.out.learn true (by decide)
  rw [if_pos rfl] at q
  unfold pt at q
  refine q.mono ?_
  rintro e w5 ⟨rfl, s3⟩
  have S3 := hid s3
  clear s3 q S2
  go_wp2_with fail
  have q := S3.out.learn2 false (by decide)
  rw [if_neg (by decide)] at q
  unfold pt at q
  refine q.mono ?_
  rintro e w6 ⟨rfl, s4⟩
  have S4 := hid s4
  clear s4 q S3
  go_wp2_with fail
  have q := New_bad none 0 0 [] w6 (isP_nil w6 w6.heap.size) (by rw [r100]; decide)
  rw [r100] at q
  refine q.mono ?_
  rintro e w7 ⟨rfl, b7⟩
  have S5 := hid (S4.out.below b7)
  clear b7 q S4
  go_wp2_with fail
  have q := S5.out.guess
  rw [gA1] at q
  unfold pt at q
  refine q.mono ?_
  rintro e w8 ⟨rfl, s6⟩
  have S6 := hid s6
  clear s6 q S5
  go_wp2_with fail
  have q := stretch_any 3071 w8 S6.out.one.kn
  rw [stz_3071] at q
  refine q.mono ?_
  rintro e w9 ⟨rfl, b9⟩
  have S7 := hid (S6.out.below b9)
  clear b9 q S6
  go_wp2_with fail
  have q := squash_below 284 w9 S7.out.one.kn (by omega) (by omega)
  rw [sq_284] at q
  refine q.mono ?_
  rintro e w10 ⟨rfl, b10⟩
  have S8 := hid (S7.out.below b10)
  clear b10 q S7
  go_wp2_with fail
  have q := S8.out.guess2
  rw [gB1] at q
  unfold pt at q
  refine q.mono ?_
  rintro e w11 ⟨rfl, s9⟩
  have S9 := hid s9
  clear s9 q S8
  go_wp2_with fail
  have q := bl_bits S9.out.one.at_ S9.out.one.fit
  rw [iA1] at q
  unfold pt at q
  refine q.mono ?_
  rintro e w12 ⟨rfl, rfl⟩
  clear q
  go_wp2_with fail
  have q := bl_learn_bad S9.out.one.at_ 2 (by decide) (by decide)
  unfold pt at q
  refine q.mono ?_
  rintro e w12 ⟨rfl, rfl⟩
  clear q
  go_wp2_with fail
  have q := bl_ctx_bad S9.out.one.at_ (by rw [cA1]; decide) (.slice none 0 0)
  unfold pt at q
  refine q.mono ?_
  rintro e w12 ⟨rfl, rfl⟩
  clear q
  go_wp2_with fail
  go_ret
  exact ⟨rfl, S9.out.one.bel⟩
end Go.Proofs.YtkfdbibgjoaefaaGreatDoor
/-
  Merged: Avg Mx2 Mxl.
-/
/-
  A PAvg leans; how far a lean was from the bit; what lies within a range.
-/
namespace Go.Proofs.YtkfdbibgjoaefaaGreatDoor
open Go.RowKit

theorem mul_bd (x y : Int) (m n : Nat) (hx : -(m : Int) ≤ x ∧ x ≤ m) (hy : -(n : Int) ≤ y ∧ y ≤ n) : -((m * n : Nat) : Int) ≤ x * y ∧ x * y ≤ ((m * n : Nat) : Int) := by
  have h1 : x.natAbs ≤ m := by omega
  have h2 : y.natAbs ≤ n := by omega
  have h3 := Nat.mul_le_mul h1 h2
  rw [← Int.natAbs_mul] at h3
  generalize x * y = z at *
  generalize m * n = q at *
  omega
set_option maxRecDepth 10000 in
set_option maxHeartbeats 1000000 in
theorem w_avg_lean (a b : Nat) (c : Int) (h cc le m : Nat) (L : List Int) (w : World) (ha : a < m) (hb : b < m) (hm : m ≤ 16) (hc : 0 ≤ c ∧ c ≤ 256) (la : Lean1 (L.getD a 0)) (lb : Lean1 (L.getD b 0)) (hl : Ro w le 3 m (intsF L)) :
    Calls Tryz.prog 116 #[.agg #[.int .i64 a, .int .i64 b, .int .i64 c], mo h cc le m] w fun e w' => e = .returned (.int .i64 ((c * L.getD a 0 + (256 - c) * L.getD b 0) / 256)) ∧ Below w.heap.size w w' := by
  have x0 := hl.cell a ha
  have x1 := hl.cell b hb
  unfold intsF at x0 x1
  obtain ⟨la1, la2⟩ := la
  obtain ⟨lb1, lb2⟩ := lb
  generalize L.getD a 0 = p at *
  generalize L.getD b 0 = q at *
  have b1 := mul_bd c p 256 2047 (by omega) (by omega)
  have b2 := mul_bd (256 - c) q 256 2047 (by omega) (by omega)
  obtain ⟨P, e1⟩ : ∃ P, c * p = P := ⟨_, rfl⟩
  obtain ⟨Q, e2⟩ : ∃ Q, (256 - c) * q = Q := ⟨_, rfl⟩
  rw [e1] at b1
  rw [e2] at b2
  rw [e1, e2]
  obtain ⟨p1, p2⟩ := b1
  obtain ⟨q1, q2⟩ := b2
  obtain ⟨c1, c2⟩ := hc
  have z0 : (a : Int) < (m : Int) := by omega
  have z1 : (b : Int) < (m : Int) := by omega
  have z2 : (m : Int) ≤ 16 := by omega
  have g1 : IntKind.i64.wrap (c * p) = P := by rw [e1]; exact IntWalk.i64_in _ (by omega)
  have g2 : IntKind.i64.wrap ((256 - c) * q) = Q := by rw [e2]; exact IntWalk.i64_in _ (by omega)
  have y0 : ∀ o o', ((w.alloc o).alloc o').cell? ⟨le, a, none⟩ = some (.int .i64 p) := fun o o' => keeps (((Below.refl w.heap.size w).alloc (Nat.le_refl _) o).alloc (by simp) o') x0
  have y1 : ∀ o o', ((w.alloc o).alloc o').cell? ⟨le, b, none⟩ = some (.int .i64 q) := fun o o' => keeps (((Below.refl w.heap.size w).alloc (Nat.le_refl _) o).alloc (by simp) o') x1
  clear hl x0 x1
  unfold mo sl
  go_enter Tryz.func116, Tryz.ntmps116
  go_wp2_with fail
  go_quiet (fail)
  go_wp2_with fail
  go_ret
  exact ⟨by simp, (((Below.refl w.heap.size w).alloc (Nat.le_refl _) _).alloc (by simp) _).trans (Below.drewN _ _ _)⟩
theorem into_sym (n m : Int) (_h : 0 ≤ m) : into n (-m) m = if n < -m then -m else if m < n then m else n := rfl
set_option maxRecDepth 10000 in
set_option maxHeartbeats 1000000 in
theorem miss_any (own : Int) (one : Bool) (w : World) (kn : KnIs w) (ho : Lean1 own) : Calls Tryz.prog 119 #[.int .i64 own, .int .i64 (if one then 1 else 0)] w fun e w' => e = .returned (.int .i64 ((if one then 4095 else 0) - sq own)) ∧ Below w.heap.size w w' := by
  obtain ⟨o1, o2⟩ := ho
  have HQ := hid (squash_below own w kn (by omega) (by omega))
  have hs := sq_range own
  generalize sq own = s at *
  obtain ⟨s1, s2⟩ := hs
  cases one
  · rw [if_neg (by decide), if_neg (by decide)]
    have z : IntKind.i64.wrap (0 - s) = 0 - s := IntWalk.i64_in _ (by omega)
    have z2 : IntKind.i64.wrap (-s) = -s := IntWalk.i64_in _ (by omega)
    go_enter Tryz.func119, Tryz.ntmps119
    go_wp2_with fail
    refine HQ.out.mono ?_
    rintro e w1 ⟨rfl, b1⟩
    go_wp2_with fail
    go_ret
    exact ⟨by simp, b1⟩
  · rw [if_pos rfl, if_pos rfl]
    have z : IntKind.i64.wrap (4095 - s) = 4095 - s := IntWalk.i64_in _ (by omega)
    go_enter Tryz.func119, Tryz.ntmps119
    go_wp2_with fail
    refine HQ.out.mono ?_
    rintro e w1 ⟨rfl, b1⟩
    go_wp2_with fail
    go_ret
    exact ⟨by simp, b1⟩
set_option maxRecDepth 10000 in
set_option maxHeartbeats 1000000 in
theorem within_any' (n m : Int) (w : World) (hm : 0 ≤ m ∧ m ≤ 1048576) : Calls Tryz.prog 122 #[.int .i64 n, .int .i64 m] w fun e w' => e = .returned (.int .i64 (into n (-m) m)) ∧ w = w' := by
  obtain ⟨m0, m1⟩ := hm
  have z : IntKind.i64.wrap (-m) = -m := IntWalk.i64_in _ (by omega)
  unfold into
  go_enter Tryz.func122, Tryz.ntmps122
  go_wp2_with fail
  all_goals
    go_ret
    exact ⟨ret_i64 (by omega), rfl⟩
end Go.Proofs.YtkfdbibgjoaefaaGreatDoor
/-
  A PMix2 at work.
-/
namespace Go.Proofs.YtkfdbibgjoaefaaGreatDoor
open Go.RowKit

set_option maxRecDepth 10000 in
set_option maxHeartbeats 1000000 in
theorem w_mix2_lean (g d h c le m a b : Nat) (size rate : Int) (weight L : List Int) (w : World) (hh : h < 4294967296) (hc : c < 256) (s0 : 0 ≤ size) (s1 : size ≤ 16) (ha : a < m) (hb : b < m) (hm : m ≤ 16) (la : Lean1 (L.getD a 0)) (lb : Lean1 (L.getD b 0)) (hl : Ro w le 3 m (intsF L))
    (hg : w.heap[g]? = some (.cells #[.int .i64 size, .int .i64 1, sl d (pw size), .int .i64 a, .int .i64 b, .int .i64 rate] 112 (0, 0))) (hd : Ro w d 3 (pw size) (intsF weight))
    (hr : 0 ≤ weight.getD (placeN h c size) 0 ∧ weight.getD (placeN h c size) 0 ≤ 65535) :
    Calls Tryz.prog 117 #[pt g, mo h c le m] w fun e w' => e = .returned (.int .i64 ((weight.getD (placeN h c size) 0 * L.getD a 0 + (65536 - weight.getD (placeN h c size) 0) * L.getD b 0) / 65536)) ∧ Below w.heap.size w w' := by
  obtain ⟨s, rfl, s16, hp⟩ := pw_nat size s0 s1
  have hpl := placeN_lt h c s s0 (by omega)
  have ha2 : placeN h c s < pw s := hpl
  rw [hp] at hg hd ha2
  have HA : Hid (∀ w', Calls Tryz.prog 113 #[.agg #[.int .i64 s, .int .i64 1, .slice (some ⟨d, 0, none⟩) (2 ^ s) (2 ^ s)], .agg #[.int .u32 h, .int .u32 c, .slice (some ⟨le, 0, none⟩) m m]] w' fun e w'' =>
      e = .returned (.slice (some ⟨d, placeN h c s * 1, none⟩) 1 (2 ^ s - placeN h c s * 1)) ∧ Below w'.heap.size w' w'') := hid (fun w' => at_i d h c s 1 (2 ^ s) m m (some ⟨le, 0, none⟩) w' hh hc s16 (by omega) (by omega))
  rw [Nat.mul_one] at HA
  have c0 := hd.cell (placeN h c s) (by omega)
  have x0 := hl.cell a ha
  have x1 := hl.cell b hb
  unfold intsF at c0 x0 x1
  generalize placeN h c s = pl at *
  obtain ⟨n, hn⟩ : ∃ n, 2 ^ s = n := ⟨_, rfl⟩
  rw [hn] at HA hg hd ha2
  generalize n - pl = q at HA
  obtain ⟨la1, la2⟩ := la
  obtain ⟨lb1, lb2⟩ := lb
  generalize L.getD a 0 = p at *
  generalize L.getD b 0 = r at *
  generalize weight.getD pl 0 = wt at *
  have b1 := mul_bd wt p 65536 2047 (by omega) (by omega)
  have b2 := mul_bd (65536 - wt) r 65536 2047 (by omega) (by omega)
  obtain ⟨P, e1⟩ : ∃ P, wt * p = P := ⟨_, rfl⟩
  obtain ⟨Q, e2⟩ : ∃ Q, (65536 - wt) * r = Q := ⟨_, rfl⟩
  rw [e1] at b1
  rw [e2] at b2
  rw [e1, e2]
  obtain ⟨p1, p2⟩ := b1
  obtain ⟨q1, q2⟩ := b2
  obtain ⟨r1, r2⟩ := hr
  have z0 : (a : Int) < (m : Int) := by omega
  have z1 : (b : Int) < (m : Int) := by omega
  have z2 : (m : Int) ≤ 16 := by omega
  have g1 : IntKind.i64.wrap (wt * p) = P := by rw [e1]; exact IntWalk.i64_in _ (by omega)
  have g2 : IntKind.i64.wrap ((65536 - wt) * r) = Q := by rw [e2]; exact IntWalk.i64_in _ (by omega)
  obtain ⟨W, hW⟩ : ∃ W, W = w.alloc (.cells #[.int .u32 h, .int .u32 c, sl le m] 72) := ⟨_, rfl⟩
  have b0 : Below w.heap.size w W := by rw [hW]; exact (Below.refl _ _).alloc (Nat.le_refl _) _
  have m0 : W.cell? ⟨w.heap.size, 0, none⟩ = some (.int .u32 h) := by rw [hW]; go_simp
  have m1 : W.cell? ⟨w.heap.size, 1, none⟩ = some (.int .u32 c) := by rw [hW]; go_simp
  have m2 : W.cell? ⟨w.heap.size, 2, none⟩ = some (sl le m) := by rw [hW]; go_simp
  have f0 : W.cell? ⟨g, 0, none⟩ = some (.int .i64 s) := keeps b0 (row_cell hg 0)
  have f1 : W.cell? ⟨g, 1, none⟩ = some (.int .i64 1) := keeps b0 (row_cell hg 1)
  have f2 : W.cell? ⟨g, 2, none⟩ = some (sl d n) := keeps b0 (row_cell hg 2)
  have f3 : W.cell? ⟨g, 3, none⟩ = some (.int .i64 a) := keeps b0 (row_cell hg 3)
  have f4 : W.cell? ⟨g, 4, none⟩ = some (.int .i64 b) := keeps b0 (row_cell hg 4)
  have dc := keeps b0 c0
  have xa := keeps b0 x0
  have xb := keeps b0 x1
  have b0 := hid b0
  clear hg hd c0 hp hn hpl ha2 hl x0 x1
  unfold mo pt sl at *
  go_enter Tryz.func117, Tryz.ntmps117
  go_wp2_with fail
  rw [← hW]
  clear hW
  go_region_held3 (fun w' => w'.cell? ⟨g, 0, none⟩ = some (.int .i64 s) ∧ w'.cell? ⟨g, 1, none⟩ = some (.int .i64 1) ∧ w'.cell? ⟨g, 2, none⟩ = some (.slice (some ⟨d, 0, none⟩) n n) ∧ w'.cell? ⟨w.heap.size, 0, none⟩ = some (.int .u32 h) ∧ w'.cell? ⟨w.heap.size, 1, none⟩ = some (.int .u32 c) ∧ w'.cell? ⟨w.heap.size, 2, none⟩ = some (.slice (some ⟨le, 0, none⟩) m m) ∧ w'.cell? ⟨d, pl, none⟩ = some (.int .i64 wt))
    (first | exact ⟨f0, f1, f2, m0, m1, m2, dc⟩ | exact ⟨k0, k1, k2, k3, k4, k5, k6⟩ | go_keep)
    (first
    | (go_at_call 113; go_must ((refine (HA.out _).mono ?_); rintro r w1 ⟨rfl, b1⟩; have k0 := keeps b1 f0; have k1 := keeps b1 f1; have k2 := keeps b1 f2; have k3 := keeps b1 m0; have k4 := keeps b1 m1; have k5 := keeps b1 m2; have k6 := keeps b1 dc; have k7 := keeps b1 f3; have k8 := keeps b1 f4; have k9 := keeps b1 xa; have k10 := keeps b1 xb; have B1 := hid (show Below W.heap.size W w1 from undrew b1))))
  all_goals
    clear f0 f1 f2 f3 f4 m0 m1 m2 dc xa xb k0 k1 k2 k3 k4 k6
    go_wp2_with fail
    go_quiet (fail)
    go_wp2_with fail
    go_ret
    exact ⟨by simp, (bel2 b0.out B1.out).trans (Below.drewN _ _ _)⟩
end Go.Proofs.YtkfdbibgjoaefaaGreatDoor
/-
  A PMix2 learns.
-/
namespace Go.Proofs.YtkfdbibgjoaefaaGreatDoor
open Go.RowKit

theorem intsF_set {l : List Int} {n i : Nat} {x : Int} (_hi : i < n) (hl : l.length = n) : ∀ k, k < n → (fun k => if k = i then Value.int .i64 x else intsF l k) k = intsF (l.set i x) k := by
  intro k hk
  show (if k = i then Value.int .i64 x else intsF l k) = _
  unfold intsF
  rw [getD_set _ _ _ _ _ (by omega)]
  by_cases e : k = i
  · rw [if_pos e, if_pos e.symm]
  · rw [if_neg e, if_neg (Ne.symm e)]
theorem miss_bd (own : Int) (one : Bool) : -4095 ≤ (if one then (4095 : Int) else 0) - sq own ∧ (if one then (4095 : Int) else 0) - sq own ≤ 4095 := by
  have := sq_range own
  cases one <;> simp <;> omega
set_option maxRecDepth 10000 in
set_option maxHeartbeats 1000000 in
theorem w_mix2_learn (g d h c le m a b : Nat) (size rate own : Int) (weight L : List Int) (one : Bool) (w : World) (kn : KnIs w) (_ngd : g ≠ d) (_nld : le ≠ d) (ho : Lean1 own) (hh : h < 4294967296) (hc : c < 256) (s0 : 0 ≤ size) (s1 : size ≤ 16) (ha : a < m) (hb : b < m) (hm : m ≤ 16) (la : Lean1 (L.getD a 0)) (lb : Lean1 (L.getD b 0)) (hl : Ro w le 3 m (intsF L))
    (hrate : 1 ≤ rate ∧ rate ≤ 64) (hg : w.heap[g]? = some (.cells #[.int .i64 size, .int .i64 1, sl d (pw size), .int .i64 a, .int .i64 b, .int .i64 rate] 112 (0, 0))) (hd : Ro w d 3 (pw size) (intsF weight)) (l2 : weight.length = pw size)
    (hr : 0 ≤ weight.getD (placeN h c size) 0 ∧ weight.getD (placeN h c size) 0 ≤ 65535) :
    Calls Tryz.prog 118 #[pt g, mo h c le m, .int .i64 own, .int .i64 (if one then 1 else 0)] w fun e w' => e = .returned (.tuple #[]) ∧
      Ro w' d 3 (pw size) (intsF (weight.set (placeN h c size) (into (weight.getD (placeN h c size) 0 + (((if one then 4095 else 0) - sq own) * rate * (L.getD a 0 - L.getD b 0) + 512) / 1024) 0 65535))) ∧ But (· = d) w w' := by
  obtain ⟨s, rfl, s16, hp⟩ := pw_nat size s0 s1
  have hpl := placeN_lt h c s s0 (by omega)
  have ha2 : placeN h c s < pw s := hpl
  rw [hp] at hg hd ha2 l2 ⊢
  have HA : Hid (∀ w', Calls Tryz.prog 113 #[.agg #[.int .i64 s, .int .i64 1, .slice (some ⟨d, 0, none⟩) (2 ^ s) (2 ^ s)], .agg #[.int .u32 h, .int .u32 c, .slice (some ⟨le, 0, none⟩) m m]] w' fun e w'' =>
      e = .returned (.slice (some ⟨d, placeN h c s * 1, none⟩) 1 (2 ^ s - placeN h c s * 1)) ∧ Below w'.heap.size w' w'') := hid (fun w' => at_i d h c s 1 (2 ^ s) m m (some ⟨le, 0, none⟩) w' hh hc s16 (by omega) (by omega))
  rw [Nat.mul_one] at HA
  have c0 := hd.cell (placeN h c s) (by omega)
  have x0 := hl.cell a ha
  have x1 := hl.cell b hb
  unfold intsF at c0 x0 x1
  generalize placeN h c s = pl at *
  obtain ⟨n, hn⟩ : ∃ n, 2 ^ s = n := ⟨_, rfl⟩
  rw [hn] at HA hg hd ha2 l2 ⊢
  generalize n - pl = q at HA
  have HM := hid (fun w' k => miss_any own one w' k ho)
  have hE := miss_bd own one
  generalize (if one then (4095 : Int) else 0) - sq own = E at *
  generalize (if one then (1 : Int) else 0) = bt at *
  have HD := hid (fun (w' : World) (b : Ro w' d 3 n (intsF weight)) => fun x => (b.set pl (.int .i64 x)).same (intsF_set ha2 l2))
  obtain ⟨la1, la2⟩ := la
  obtain ⟨lb1, lb2⟩ := lb
  generalize L.getD a 0 = p at *
  generalize L.getD b 0 = r at *
  generalize weight.getD pl 0 = wt at *
  have b1 := mul_bd E rate 4095 64 (by omega) (by omega)
  obtain ⟨ER, e1⟩ : ∃ ER, E * rate = ER := ⟨_, rfl⟩
  rw [e1] at b1
  obtain ⟨D, e2⟩ : ∃ D, p - r = D := ⟨_, rfl⟩
  have b2 := mul_bd ER D (4095 * 64) 4094 (by omega) (by omega)
  obtain ⟨M, e3⟩ : ∃ M, ER * D = M := ⟨_, rfl⟩
  rw [e3] at b2
  rw [e1, e2, e3]
  obtain ⟨p1, p2⟩ := b1
  obtain ⟨q1, q2⟩ := b2
  obtain ⟨r1, r2⟩ := hr
  have z0 : (a : Int) < (m : Int) := by omega
  have z1 : (b : Int) < (m : Int) := by omega
  have z2 : (m : Int) ≤ 16 := by omega
  have g1 : IntKind.i64.wrap (E * rate) = ER := by rw [e1]; exact IntWalk.i64_in _ (by omega)
  have g2 : IntKind.i64.wrap (p - r) = D := by rw [e2]; exact IntWalk.i64_in _ (by omega)
  have g3 : IntKind.i64.wrap (ER * D) = M := by rw [e3]; exact IntWalk.i64_in _ (by omega)
  have g4 : IntKind.i64.wrap (M + 512) = M + 512 := IntWalk.i64_in _ (by omega)
  have g5 : IntKind.i64.wrap (wt + (M + 512) / 1024) = wt + (M + 512) / 1024 := IntWalk.i64_in _ (by omega)
  obtain ⟨W, hW⟩ : ∃ W, W = w.alloc (.cells #[.int .u32 h, .int .u32 c, sl le m] 72) := ⟨_, rfl⟩
  have b0 : Below w.heap.size w W := by rw [hW]; exact (Below.refl _ _).alloc (Nat.le_refl _) _
  have m0 : W.cell? ⟨w.heap.size, 0, none⟩ = some (.int .u32 h) := by rw [hW]; go_simp
  have m1 : W.cell? ⟨w.heap.size, 1, none⟩ = some (.int .u32 c) := by rw [hW]; go_simp
  have m2 : W.cell? ⟨w.heap.size, 2, none⟩ = some (sl le m) := by rw [hW]; go_simp
  have f0 : W.cell? ⟨g, 0, none⟩ = some (.int .i64 s) := keeps b0 (row_cell hg 0)
  have f1 : W.cell? ⟨g, 1, none⟩ = some (.int .i64 1) := keeps b0 (row_cell hg 1)
  have f2 : W.cell? ⟨g, 2, none⟩ = some (sl d n) := keeps b0 (row_cell hg 2)
  have f3 : W.cell? ⟨g, 3, none⟩ = some (.int .i64 a) := keeps b0 (row_cell hg 3)
  have f4 : W.cell? ⟨g, 4, none⟩ = some (.int .i64 b) := keeps b0 (row_cell hg 4)
  have f5 : W.cell? ⟨g, 5, none⟩ = some (.int .i64 rate) := keeps b0 (row_cell hg 5)
  have dc := keeps b0 c0
  have xa := keeps b0 x0
  have xb := keeps b0 x1
  have DW := hid (hd.below b0)
  have KW := hid (kn.below b0)
  have b0 := hid b0
  clear hg hd c0 hp hn hpl hl x0 x1 kn l2 hrate e1 e2 e3
  unfold mo pt sl at *
  go_enter Tryz.func118, Tryz.ntmps118
  go_wp2_with fail
  rw [← hW]
  clear hW
  go_region_held3 (fun w' => w'.cell? ⟨g, 0, none⟩ = some (.int .i64 s) ∧ w'.cell? ⟨g, 1, none⟩ = some (.int .i64 1) ∧ w'.cell? ⟨g, 2, none⟩ = some (.slice (some ⟨d, 0, none⟩) n n) ∧ w'.cell? ⟨w.heap.size, 0, none⟩ = some (.int .u32 h) ∧ w'.cell? ⟨w.heap.size, 1, none⟩ = some (.int .u32 c) ∧ w'.cell? ⟨w.heap.size, 2, none⟩ = some (.slice (some ⟨le, 0, none⟩) m m))
    (first | exact ⟨f0, f1, f2, m0, m1, m2⟩ | exact ⟨k0, k1, k2, k3, k4, k5⟩ | go_keep)
    (first
    | (go_at_call 113; go_must ((refine (HA.out _).mono ?_); rintro r w1 ⟨rfl, b1⟩; have k0 := keeps b1 f0; have k1 := keeps b1 f1; have k2 := keeps b1 f2; have k3 := keeps b1 m0; have k4 := keeps b1 m1; have k5 := keeps b1 m2; have k6 := keeps b1 dc; have k7 := keeps b1 f3; have k8 := keeps b1 f4; have k9 := keeps b1 xa; have k10 := keeps b1 xb; have k11 := keeps b1 f5; have b1 := undrew b1; have B1 := hid (show Below W.heap.size W w1 from b1))))
  all_goals
    clear f0 f1 f2 f3 f4 f5 m0 m1 m2 dc xa xb k0 k1 k2 k3 k4
    have K1 := hid (KW.out.below B1.out)
    have D1 := hid (DW.out.below B1.out)
    go_wp2_with fail
    go_region_held3 (fun w' => w'.cell? ⟨w.heap.size, 2, none⟩ = some (.slice (some ⟨le, 0, none⟩) m m) ∧ w'.cell? ⟨g, 3, none⟩ = some (.int .i64 a) ∧ w'.cell? ⟨g, 4, none⟩ = some (.int .i64 b) ∧ w'.cell? ⟨g, 5, none⟩ = some (.int .i64 rate) ∧ w'.cell? ⟨le, a, none⟩ = some (.int .i64 p) ∧ w'.cell? ⟨le, b, none⟩ = some (.int .i64 r))
      (first | exact ⟨k5, k7, k8, k11, k9, k10⟩ | exact ⟨j5, j7, j8, j11, j9, j10⟩ | go_keep)
      (first
      | (go_at_call 119; go_must ((refine (HM.out _ K1.out.drew').mono ?_); rintro r w2 ⟨rfl, b2⟩; have j5 := keeps b2 k5; have j7 := keeps b2 k7; have j8 := keeps b2 k8; have j11 := keeps b2 k11; have j9 := keeps b2 k9; have j10 := keeps b2 k10; have j6 := keeps b2 k6; have b2 := undrew b2; have B2 := hid (show Below w1.heap.size w1 w2 from b2))))
    all_goals
      have D2 := hid (D1.out.below B2.out)
      have ff := D2.out.free pl
      have X3 := hid (fun x => ((But.refl (· = d) w2).set ⟨d, pl, none⟩ (.int .i64 x) (.inl rfl)))
      clear k5 k6 k7 k8 k9 k10 k11 j5 j7 j8 j9 j10 j11
      go_wp2_with fail
      all_goals
        refine bodyPost_end (results_none rfl _ _ _) rfl ⟨rfl, ?_, ?_⟩
        · refine (HD.out _ D2.out _).same (fun k _ => ?_)
          refine congrArg (fun v => intsF (weight.set pl v) k) ?_
          unfold into
          repeat' split
          all_goals omega
        · exact (But.of_below (bel3 b0.out B1.out B2.out)).trans (X3.out _)
end Go.Proofs.YtkfdbibgjoaefaaGreatDoor
/-
  A PSse at work.
-/
namespace Go.Proofs.YtkfdbibgjoaefaaGreatDoor
open Go.RowKit

theorem place_pw' (h c : Nat) (size : Int) (s0 : 0 ≤ size) (s1 : size ≤ 16) : placeN h c size < pw size := placeN_lt h c size s0 (by omega)
theorem jOf (la : Int) (h : Lean1 la) : ∃ j : Nat, (la + 2047) / 128 = (j : Int) ∧ j < 32 ∧ ((la + 2047) / 128).toNat = j ∧ Int.tdiv (la + 2047) 128 = (j : Int) := by
  obtain ⟨h1, h2⟩ := h
  refine ⟨((la + 2047) / 128).toNat, by omega, by omega, rfl, ?_⟩
  rw [Int.tdiv_eq_ediv_of_nonneg (by omega)]
  omega
set_option maxRecDepth 10000 in
set_option maxHeartbeats 1000000 in
theorem w_sse_odds (g d h c le m a j : Nat) (size limit : Int) (L : List Int) (w : World) (hh : h < 4294967296) (hc : c < 256) (s0 : 0 ≤ size) (s1 : size ≤ 16) (ha : a < m) (hm : m ≤ 16) (la : Lean1 (L.getD a 0)) (hj : j < 32) (hj2 : Int.tdiv (L.getD a 0 + 2047) 128 = (j : Int)) (hl : Ro w le 3 m (intsF L))
    (hg : w.heap[g]? = some (.cells #[.int .i64 size, .int .i64 32, sl d (pw size * 32), .int .i64 a, .int .i64 limit] 120 (0, 0))) :
    Calls Tryz.prog 127 #[pt g, mo h c le m] w fun e w' => e = .returned (.pointer (some ⟨d, placeN h c size * 32 * 2 + j * 2, none⟩)) ∧ Below w.heap.size w w' := by
  obtain ⟨s, rfl, s16, hp⟩ := pw_nat size s0 s1
  rw [hp] at hg
  have HA : Hid (∀ w', Calls Tryz.prog 101 #[.agg #[.int .i64 s, .int .i64 32, .slice (some ⟨d, 0, none⟩) (2 ^ s * 32) (2 ^ s * 32)], .agg #[.int .u32 h, .int .u32 c, .slice (some ⟨le, 0, none⟩) m m]] w' fun e w'' =>
      e = .returned (.slice (some ⟨d, placeN h c s * 32 * 2, none⟩) 32 (2 ^ s * 32 - placeN h c s * 32)) ∧ Below w'.heap.size w' w'') := hid (fun w' => at_o d h c s 32 (2 ^ s * 32) m m (some ⟨le, 0, none⟩) w' hh hc s16 (by omega) (by omega))
  have x0 := hl.cell a ha
  unfold intsF at x0
  generalize placeN h c s * 32 * 2 = o at *
  generalize 2 ^ s * 32 - placeN h c s * 32 = q at HA
  generalize 2 ^ s * 32 = n at *
  obtain ⟨la1, la2⟩ := la
  generalize L.getD a 0 = p at *
  have z0 : (a : Int) < (m : Int) := by omega
  have z2 : (m : Int) ≤ 16 := by omega
  have z3 : (j : Int) < 32 := by omega
  have g1 : IntKind.i64.wrap (p + 2047) = p + 2047 := IntWalk.i64_in _ (by omega)
  have g2 : IntKind.i64.wrap (Int.tdiv (p + 2047) 128) = (j : Int) := by rw [hj2]; exact IntWalk.i64_in _ (by omega)
  obtain ⟨W, hW⟩ : ∃ W, W = w.alloc (.cells #[.int .u32 h, .int .u32 c, sl le m] 72) := ⟨_, rfl⟩
  have b0 : Below w.heap.size w W := by rw [hW]; exact (Below.refl _ _).alloc (Nat.le_refl _) _
  have m0 : W.cell? ⟨w.heap.size, 0, none⟩ = some (.int .u32 h) := by rw [hW]; go_simp
  have m1 : W.cell? ⟨w.heap.size, 1, none⟩ = some (.int .u32 c) := by rw [hW]; go_simp
  have m2 : W.cell? ⟨w.heap.size, 2, none⟩ = some (sl le m) := by rw [hW]; go_simp
  have f0 : W.cell? ⟨g, 0, none⟩ = some (.int .i64 s) := keeps b0 (row_cell hg 0)
  have f1 : W.cell? ⟨g, 1, none⟩ = some (.int .i64 32) := keeps b0 (row_cell hg 1)
  have f2 : W.cell? ⟨g, 2, none⟩ = some (sl d n) := keeps b0 (row_cell hg 2)
  have f3 : W.cell? ⟨g, 3, none⟩ = some (.int .i64 a) := keeps b0 (row_cell hg 3)
  have xa := keeps b0 x0
  have b0 := hid b0
  clear hg hp hl x0 hj2
  unfold mo pt sl at *
  go_enter Tryz.func127, Tryz.ntmps127
  go_wp2_with fail
  rw [← hW]
  clear hW
  go_region_held3 (fun w' => w'.cell? ⟨g, 0, none⟩ = some (.int .i64 s) ∧ w'.cell? ⟨g, 1, none⟩ = some (.int .i64 32) ∧ w'.cell? ⟨g, 2, none⟩ = some (.slice (some ⟨d, 0, none⟩) n n) ∧ w'.cell? ⟨w.heap.size, 0, none⟩ = some (.int .u32 h) ∧ w'.cell? ⟨w.heap.size, 1, none⟩ = some (.int .u32 c) ∧ w'.cell? ⟨w.heap.size, 2, none⟩ = some (.slice (some ⟨le, 0, none⟩) m m) ∧ w'.cell? ⟨g, 3, none⟩ = some (.int .i64 a) ∧ w'.cell? ⟨le, a, none⟩ = some (.int .i64 p))
    (first | exact ⟨f0, f1, f2, m0, m1, m2, f3, xa⟩ | exact ⟨k0, k1, k2, k3, k4, k5, k6, k7⟩ | go_keep)
    (first
    | (go_at_call 101; go_must ((refine (HA.out _).mono ?_); rintro r w1 ⟨rfl, b1⟩; have k0 := keeps b1 f0; have k1 := keeps b1 f1; have k2 := keeps b1 f2; have k3 := keeps b1 m0; have k4 := keeps b1 m1; have k5 := keeps b1 m2; have k6 := keeps b1 f3; have k7 := keeps b1 xa; have b1 := undrew b1; have B1 := hid (show Below W.heap.size W w1 from b1))))
  all_goals
    go_wp2_with fail
    go_ret
    exact ⟨rfl, bel2 b0.out B1.out⟩
set_option maxRecDepth 10000 in
set_option maxHeartbeats 1000000 in
theorem w_sse_lean (g d h c le m a j : Nat) (size limit : Int) (L chance count : List Int) (w : World) (kn : KnIs w) (hh : h < 4294967296) (hc : c < 256) (s0 : 0 ≤ size) (s1 : size ≤ 16) (ha : a < m) (hm : m ≤ 16) (la : Lean1 (L.getD a 0)) (hj : j < 32) (hj2 : Int.tdiv (L.getD a 0 + 2047) 128 = (j : Int)) (hl : Ro w le 3 m (intsF L))
    (hg : w.heap[g]? = some (.cells #[.int .i64 size, .int .i64 32, sl d (pw size * 32), .int .i64 a, .int .i64 limit] 120 (0, 0))) (hd : Ro w d 95 (2 * (pw size * 32)) (oddsF chance count))
    (hr : 0 ≤ chance.getD (placeN h c size * 32 + j) 0 ∧ chance.getD (placeN h c size * 32 + j) 0 ≤ 4194303) :
    Calls Tryz.prog 125 #[pt g, mo h c le m] w fun e w' => e = .returned (.int .i64 (stz (chance.getD (placeN h c size * 32 + j) 0 / 1024))) ∧ Below w.heap.size w w' := by
  have HO := hid (fun w' (b : Below w.heap.size w w') => w_sse_odds g d h c le m a j size limit L w' hh hc s0 s1 ha hm la hj hj2 (hl.below b) ((b.block g (lt_of_heap hg)).trans hg))
  have hp := place_pw' h c size s0 s1
  have c0 := hd.cell (placeN h c size * 32 * 2 + j * 2) (by omega)
  rw [show oddsF chance count (placeN h c size * 32 * 2 + j * 2) = .int .i32 (chance.getD (placeN h c size * 32 + j) 0) from by unfold oddsF; rw [if_pos (by omega), show (placeN h c size * 32 * 2 + j * 2) / 2 = placeN h c size * 32 + j from by omega]] at c0
  generalize placeN h c size * 32 * 2 + j * 2 = o at *
  generalize chance.getD (placeN h c size * 32 + j) 0 = ch at *
  have HL := hid (fun w' k1 k2 => odds_lean d o ch w' k1 k2 hr.1 hr.2)
  generalize stz (ch / 1024) = r0 at HL ⊢
  have KN := hid kn
  have C0 := hid c0
  clear hl hg hd kn c0
  obtain ⟨W, hW⟩ : ∃ W, W = w.alloc (.cells #[.int .u32 h, .int .u32 c, sl le m] 72) := ⟨_, rfl⟩
  have b0 : Below w.heap.size w W := by rw [hW]; exact (Below.refl _ _).alloc (Nat.le_refl _) _
  have m0 : W.cell? ⟨w.heap.size, 0, none⟩ = some (.int .u32 h) := by rw [hW]; go_simp
  have m1 : W.cell? ⟨w.heap.size, 1, none⟩ = some (.int .u32 c) := by rw [hW]; go_simp
  have m2 : W.cell? ⟨w.heap.size, 2, none⟩ = some (sl le m) := by rw [hW]; go_simp
  have b0 := hid b0
  unfold mo pt sl at *
  go_enter Tryz.func125, Tryz.ntmps125
  go_wp2_with fail
  rw [← hW]
  clear hW
  go_wp2_with fail
  refine (HO.out _ b0.out).mono ?_
  rintro e w1 ⟨rfl, b1⟩
  have k1 := bel2 b0.out b1
  have K1 := hid k1
  clear k1 b1
  go_wp2_with fail
  refine (HL.out _ (KN.out.below K1.out) (keeps K1.out C0.out)).mono ?_
  rintro e w2 ⟨rfl, b2⟩
  have B2 := hid b2
  clear b2
  go_wp2_with fail
  go_ret
  exact ⟨rfl, bel2 K1.out B2.out⟩
set_option maxRecDepth 10000 in
set_option maxHeartbeats 1000000 in
theorem w_sse_learn (g d h c le m a j : Nat) (size limit own : Int) (L chance count : List Int) (one : Bool) (w : World) (ngd : g ≠ d) (hh : h < 4294967296) (hc : c < 256) (s0 : 0 ≤ size) (s1 : size ≤ 16) (ha : a < m) (hm : m ≤ 16) (la : Lean1 (L.getD a 0)) (hj : j < 32) (hj2 : Int.tdiv (L.getD a 0 + 2047) 128 = (j : Int)) (hl : Ro w le 3 m (intsF L))
    (hg : w.heap[g]? = some (.cells #[.int .i64 size, .int .i64 32, sl d (pw size * 32), .int .i64 a, .int .i64 limit] 120 (0, 0))) (hd : Ro w d 95 (2 * (pw size * 32)) (oddsF chance count)) (l1 : chance.length = pw size * 32) (l2 : count.length = pw size * 32)
    (hr : 0 ≤ chance.getD (placeN h c size * 32 + j) 0 ∧ chance.getD (placeN h c size * 32 + j) 0 ≤ 4194303) (hn : 0 ≤ count.getD (placeN h c size * 32 + j) 0 ∧ count.getD (placeN h c size * 32 + j) 0 ≤ 1023) (hlim : 0 ≤ limit ∧ limit ≤ 1023) :
    Calls Tryz.prog 126 #[pt g, mo h c le m, .int .i64 own, .int .i64 (if one then 1 else 0)] w fun e w' => e = .returned (.tuple #[]) ∧
      Ro w' d 95 (2 * (pw size * 32)) (oddsF (chance.set (placeN h c size * 32 + j) (chance.getD (placeN h c size * 32 + j) 0 + Int.tdiv ((if one then 4194303 else 0) - chance.getD (placeN h c size * 32 + j) 0) (count.getD (placeN h c size * 32 + j) 0 + 2))) (count.set (placeN h c size * 32 + j) (into (count.getD (placeN h c size * 32 + j) 0 + 1) 0 limit))) ∧ But (· = d) w w' := by
  have HO := hid (fun w' (b : Below w.heap.size w w') => w_sse_odds g d h c le m a j size limit L w' hh hc s0 s1 ha hm la hj hj2 (hl.below b) ((b.block g (lt_of_heap hg)).trans hg))
  have hp := place_pw' h c size s0 s1
  generalize placeN h c size = pl at *
  have ho : pl * 32 * 2 + j * 2 = 2 * (pl * 32 + j) := by omega
  generalize pl * 32 * 2 + j * 2 = o at *
  have hi : pl * 32 + j < pw size * 32 := by omega
  have HL := hid (fun w' k1 => odds_learn d o (pl * 32 + j) (pw size * 32) chance count limit one w' k1 hi ho l1 l2 hr hn hlim)
  generalize pl * 32 + j = i at *
  generalize oddsF (chance.set i _) _ = R at HL ⊢
  generalize (if one then (1 : Int) else 0) = bt at HL ⊢
  generalize pw size * 32 = n at *
  have c4 : w.cell? ⟨g, 4, none⟩ = some (.int .i64 limit) := row_cell hg 4
  have DW := hid hd
  have gl := lt_of_heap hg
  clear hl hg hd l1 l2 hr hn ho hi hp hj2 la
  obtain ⟨W, hW⟩ : ∃ W, W = w.alloc (.cells #[.int .u32 h, .int .u32 c, sl le m] 72) := ⟨_, rfl⟩
  have b0 : Below w.heap.size w W := by rw [hW]; exact (Below.refl _ _).alloc (Nat.le_refl _) _
  have m0 : W.cell? ⟨w.heap.size, 0, none⟩ = some (.int .u32 h) := by rw [hW]; go_simp
  have m1 : W.cell? ⟨w.heap.size, 1, none⟩ = some (.int .u32 c) := by rw [hW]; go_simp
  have m2 : W.cell? ⟨w.heap.size, 2, none⟩ = some (sl le m) := by rw [hW]; go_simp
  have g4 : W.cell? ⟨g, 4, none⟩ = some (.int .i64 limit) := keeps b0 c4
  have nd : ¬ w.heap.size = d := by have := DW.out.lt; omega
  have b0 := hid b0
  clear c4
  unfold mo pt sl at *
  go_enter Tryz.func126, Tryz.ntmps126
  go_wp2_with fail
  rw [← hW]
  clear hW
  go_region_held3 (fun w' => w'.cell? ⟨w.heap.size, 0, none⟩ = some (.int .u32 h) ∧ w'.cell? ⟨w.heap.size, 1, none⟩ = some (.int .u32 c) ∧ w'.cell? ⟨w.heap.size, 2, none⟩ = some (.slice (some ⟨le, 0, none⟩) m m) ∧ w'.cell? ⟨g, 4, none⟩ = some (.int .i64 limit))
    (first | exact ⟨m0, m1, m2, g4⟩ | exact ⟨k0, k1, k2, k3⟩ | go_keep)
    (first
    | (go_at_call 127; go_must ((refine (HO.out _ b0.out.drew).mono ?_); rintro r w1 ⟨rfl, b1⟩; have k0 := keeps b1 m0; have k1 := keeps b1 m1; have k2 := keeps b1 m2; have k3 := keeps b1 g4; have b1 := undrew b1; have B1 := hid (show Below W.heap.size W w1 from b1); have Q1 := hid (DW.out.below (bel2 b0.out B1.out))))
    | (go_at_call 103; go_must ((refine (HL.out _ Q1.out).mono ?_); rintro r w2 ⟨rfl, r2, b2⟩; replace k0 := b2.cell k0 nd; replace k1 := b2.cell k1 nd; replace k2 := b2.cell k2 nd; replace k3 := b2.cell k3 ngd; have R2 := hid r2; have B2 := hid b2)))
  all_goals
    go_wp2_with fail
    refine bodyPost_end (results_none rfl _ _ _) rfl ⟨rfl, R2.out, bb3 b0.out B1.out B2.out⟩
end Go.Proofs.YtkfdbibgjoaefaaGreatDoor
