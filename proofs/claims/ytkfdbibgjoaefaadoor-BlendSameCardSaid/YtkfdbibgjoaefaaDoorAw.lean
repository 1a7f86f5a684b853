/-
  awake.
-/
import Derived.Test.YtkfdbibgjoaefaaDoorSd
import Derived.Test.YtkfdbibgjoaefaaDoorNw
namespace Go.Proofs.YtkfdbibgjoaefaaDoor
open Go.RowKit

/-- Kinds of which all is known. -/
def Kind (k : Nat) : Prop := BuildK k ∧ LeanK k ∧ LearnK k ∧ EndK k
theorem kind1 : Kind 1 := ⟨buildK1, leanK1, learnK1, endK1⟩
theorem kind2 : Kind 2 := ⟨buildK2, leanK2, learnK2, endK2⟩
theorem kind3 : Kind 3 := ⟨buildK3, leanK3, learnK3, endK3⟩
theorem can_new {L : List Pt} (h : ∀ p ∈ L, Kind p.kind) : Can (Bl.new L).l := fun u hu => by
  obtain ⟨p, hp, e⟩ := List.mem_map.1 hu
  rw [← e, begun_k]
  exact (h p hp).2
theorem fit_new {L : List Pt} (hr : rightP L = 0) : Fit (Bl.new L) := ⟨new_ok L hr, fun u hu => by
  obtain ⟨p, _, e⟩ := List.mem_map.1 hu
  rw [← e, begun_h]; omega, by show (0 : Nat) < _; decide⟩
theorem On.new {w0 w : World} {A : Option Addr} {n c : Nat} {L : List Pt} (h : IsP w w.heap.size A n c L) (hr : rightP L = 0) (kn : KnIs w) (bel : Below w0.heap.size w0 w) (pos : 0 < w0.heap.size) (hk : ∀ p ∈ L, Kind p.kind) :
    Calls Tryd.prog 13 #[.slice A n c] w fun e w' => ∃ g, e = .returned (.tuple #[pt g, .int .i64 0]) ∧ On w0 w' (fun a => w.heap.size ≤ a ∧ a < w'.heap.size) g (Bl.new L) ∧ Below w.heap.size w w' := by
  refine (New_any A n c L w h hr kn (fun p hp => (hk p hp).1) (fun p hp => (hk p hp).2.1)).mono ?_
  rintro e w' ⟨g, rfl, bl, b⟩
  exact ⟨g, rfl, ⟨kn.below b, bel.trans (b.mono bel.size), bl, fit_new hr, can_new hk, fun a ha => Nat.le_trans bel.size ha.1, pos⟩, b⟩
def pA : Pt := ⟨2, 0, 0, 0, 0, 0, 255⟩
def pB : Pt := ⟨1, 0, 0, 0, 128, 0, 0⟩
theorem rA : rightP [pA] = 0 := by decide +kernel
theorem rB : rightP [pB] = 0 := by decide +kernel
theorem stz_3071 : stz 3071 = 284 := by decide +kernel
theorem sq_284 : sq 284 = 3072 := by decide +kernel
theorem gA0 : (Bl.new [pA]).guess = 32768 := by decide +kernel
theorem gB0 : (Bl.new [pB]).guess = 40800 := by decide +kernel
theorem gA1 : ((Bl.new [pA]).learn true).guess = 49152 := by decide +kernel
theorem gB1 : ((Bl.new [pB]).learn false).guess = 40800 := by decide +kernel
theorem iA1 : ((Bl.new [pA]).learn true).bits = 1 := by decide +kernel
theorem cA1 : ((Bl.new [pA]).learn true).c = 3 := by decide +kernel
theorem kA : ∀ p ∈ [pA], Kind p.kind := fun p hp => by rw [List.mem_singleton] at hp; rw [hp]; exact kind2
theorem kB : ∀ p ∈ [pB], Kind p.kind := fun p hp => by rw [List.mem_singleton] at hp; rw [hp]; exact kind1
theorem r100 : rightP [] = 100 := by decide +kernel
set_option maxRecDepth 10000 in
set_option maxHeartbeats 2000000 in
theorem awake_any (w : World) (kn : KnIs w) : Calls Tryd.prog 11 #[] w fun e w' => e = .returned (.bool true) ∧ Below w.heap.size w w' := by
  have w0 := kn_pos kn
  have HN : Hid (∀ W o, o = Obj.cells #[Value.int .u8 2, .int .i64 0, .int .i64 0, .int .i64 0, .int .i64 0, .int .i64 0, .int .i64 255] 48 → KnIs W → Below w.heap.size w W → Calls Tryd.prog 13 #[.slice (some ⟨W.heap.size, 0, none⟩) 1 1] (W.alloc o) fun e w' => ∃ g, e = .returned (.tuple #[.pointer (some ⟨g, 0, none⟩), .int .i64 0]) ∧
      On w w' (fun a => (W.alloc o).heap.size ≤ a ∧ a < w'.heap.size) g (Bl.new [pA]) ∧ Below (W.alloc o).heap.size (W.alloc o) w') := hid fun W o ho k b => by
    subst ho
    have b1 : Below W.heap.size W (W.alloc (Obj.cells #[Value.int .u8 2, .int .i64 0, .int .i64 0, .int .i64 0, .int .i64 0, .int .i64 0, .int .i64 255] 48)) := (Below.refl _ _).alloc (Nat.le_refl _) _
    exact On.new (isP_row [pA] (heap_alloc_new W _) rfl 1 rfl (by omega)) rA (k.below b1) (b.trans (b1.mono b.size)) w0 kA
  have HM : Hid (∀ W o, o = Obj.cells #[Value.int .u8 1, .int .i64 0, .int .i64 0, .int .i64 0, .int .i64 128, .int .i64 0, .int .i64 0] 48 → KnIs W → Below w.heap.size w W → Calls Tryd.prog 13 #[.slice (some ⟨W.heap.size, 0, none⟩) 1 1] (W.alloc o) fun e w' => ∃ g, e = .returned (.tuple #[.pointer (some ⟨g, 0, none⟩), .int .i64 0]) ∧
      On w w' (fun a => (W.alloc o).heap.size ≤ a ∧ a < w'.heap.size) g (Bl.new [pB]) ∧ Below (W.alloc o).heap.size (W.alloc o) w') := hid fun W o ho k b => by
    subst ho
    have b1 : Below W.heap.size W (W.alloc (Obj.cells #[Value.int .u8 1, .int .i64 0, .int .i64 0, .int .i64 0, .int .i64 128, .int .i64 0, .int .i64 0] 48)) := (Below.refl _ _).alloc (Nat.le_refl _) _
    exact On.new (isP_row [pB] (heap_alloc_new W _) rfl 1 rfl (by omega)) rB (k.below b1) (b.trans (b1.mono b.size)) w0 kB
  go_enter Tryd.func11, Tryd.ntmps11
  go_wp2_with fail
  refine (HN.out _ _ rfl kn (Below.refl _ _)).mono ?_
  rintro e w1 ⟨g1, rfl, o1, b1⟩
  go_wp2_with fail
  refine (HM.out _ _ rfl o1.kn o1.bel).mono ?_
  rintro e w2 ⟨g2, rfl, o2, b2⟩
  have s0 : Sd w w2 _ _ g1 g2 (Bl.new [pA]) (Bl.new [pB]) := ⟨o1.below (bel_alloc b2), o2, fun a h1 h2 => by have := h1.2; have := h2.1; simp at this; omega⟩
  generalize (fun a => (w.alloc (Obj.cells #[Value.int .u8 2, .int .i64 0, .int .i64 0, .int .i64 0, .int .i64 0, .int .i64 0, .int .i64 255] 48)).heap.size ≤ a ∧ a < w1.heap.size) = F1 at s0
  generalize (fun a => (w1.alloc (Obj.cells #[Value.int .u8 1, .int .i64 0, .int .i64 0, .int .i64 0, .int .i64 128, .int .i64 0, .int .i64 0] 48)).heap.size ≤ a ∧ a < w2.heap.size) = F2 at s0
  have S0 := hid s0
  clear o1 o2 b1 b2 s0 HN HM kn
  go_wp2_with fail
  have q := S0.out.guess
  rw [gA0] at q
  unfold pt at q
  refine q.mono ?_
  rintro e w3 ⟨rfl, s1⟩
  have S1 := hid s1
  clear s1 q S0
  go_wp2_with fail
  have q := S1.out.guess2
  rw [gB0] at q
  unfold pt at q
  refine q.mono ?_
  rintro e w4 ⟨rfl, s2⟩
  have S2 := hid s2
  clear s2 q S1
  go_wp2_with fail
  have q := S2.out.learn true (by decide)
  rw [if_pos rfl] at q
  unfold pt at q
  refine q.mono ?_
  rintro e w5 ⟨rfl, s3⟩
  have S3 := hid s3
  clear s3 q S2
  go_wp2_with fail
  have q := S3.out.learn2 false (by decide)
  rw [if_neg (by decide)] at q
  unfold pt at q
  refine q.mono ?_
  rintro e w6 ⟨rfl, s4⟩
  have S4 := hid s4
  clear s4 q S3
  go_wp2_with fail
  have q := New_bad none 0 0 [] w6 (isP_nil w6 w6.heap.size) (by rw [r100]; decide)
  rw [r100] at q
  refine q.mono ?_
  rintro e w7 ⟨rfl, b7⟩
  have S5 := hid (S4.out.below b7)
  clear b7 q S4
  go_wp2_with fail
  have q := S5.out.guess
  rw [gA1] at q
  unfold pt at q
  refine q.mono ?_
  rintro e w8 ⟨rfl, s6⟩
  have S6 := hid s6
  clear s6 q S5
  go_wp2_with fail
  have q := stretch_any 3071 w8 S6.out.one.kn
  rw [stz_3071] at q
  refine q.mono ?_
  rintro e w9 ⟨rfl, b9⟩
  have S7 := hid (S6.out.below b9)
  clear b9 q S6
  go_wp2_with fail
  have q := squash_below 284 w9 S7.out.one.kn (by omega) (by omega)
  rw [sq_284] at q
  refine q.mono ?_
  rintro e w10 ⟨rfl, b10⟩
  have S8 := hid (S7.out.below b10)
  clear b10 q S7
  go_wp2_with fail
  have q := S8.out.guess2
  rw [gB1] at q
  unfold pt at q
  refine q.mono ?_
  rintro e w11 ⟨rfl, s9⟩
  have S9 := hid s9
  clear s9 q S8
  go_wp2_with fail
  have q := bl_bits S9.out.one.at_ S9.out.one.fit
  rw [iA1] at q
  unfold pt at q
  refine q.mono ?_
  rintro e w12 ⟨rfl, rfl⟩
  clear q
  go_wp2_with fail
  have q := bl_learn_bad S9.out.one.at_ 2 (by decide) (by decide)
  unfold pt at q
  refine q.mono ?_
  rintro e w12 ⟨rfl, rfl⟩
  clear q
  go_wp2_with fail
  have q := bl_ctx_bad S9.out.one.at_ (by rw [cA1]; decide) (.slice none 0 0)
  unfold pt at q
  refine q.mono ?_
  rintro e w12 ⟨rfl, rfl⟩
  clear q
  go_wp2_with fail
  go_ret
  exact ⟨rfl, S9.out.one.bel⟩
end Go.Proofs.YtkfdbibgjoaefaaDoor
