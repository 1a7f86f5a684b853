/-
  A file in memory: its struct, what the function in its field leads to; the contracts of isDisk, plain, made, Size, Plain.
-/
import Derived.Test.YtpeepohiajmhcaaZd
import Derived.Test.YtpeepohiajmhcaaZi
namespace Go.Proofs.Ytpeepohiajmhcaa
open Go.RowKit

/-- The one's, or the other's. -/
def U (S T : Nat → Prop) : Nat → Prop := fun i => S i ∨ T i
/-- What a file is encrypted with. -/
structure En where
  K : Nat → Nat
  non : List UInt8
/-- How many bytes of the disk stand ahead. -/
def ahd : Option En → Nat
  | none => 0
  | some _ => 32
/-- Bytes at a place of the disk, turned. -/
def trn : Option En → Nat → List UInt8 → List UInt8
  | none, _, l => l
  | some e, a, l => c.turnL e.K e.non a l
theorem trn_len (o : Option En) (a : Nat) (l : List UInt8) : (trn o a l).length = l.length := by
  cases o with
  | none => rfl
  | some e => exact c.turnL_len _ _ _ _
def fcells (h g : Nat) (ah : Nat) (fv : Value) : Array Value := #[.pointer (some ⟨h, 0, none⟩), .pointer (some ⟨g, 0, none⟩), .int .i64 (ah : Nat), fv]
/-- What an encrypted file's function leads to; X: the blocks that may turn. -/
structure TnAt (X : Nat → Prop) (w : World) (cb nb : Nat) (e : En) : Prop where
  ex : ∃ gc A cap, w.cell? ⟨cb, 0, none⟩ = some (.pointer (some ⟨gc, 0, none⟩)) ∧ w.cell? ⟨nb, 0, none⟩ = some (.slice A 8 cap) ∧ Out X w A 8 cap e.non ∧ c.Ci w gc e.K ∧ ¬ X gc
  ob : ¬ X cb
  on : ¬ X nb
  lo : ∀ j, j < 32 → e.K j < 256
def FvAt (X : Nat → Prop) (w : World) (fv : Value) : Option En → Prop
  | none => fv = .func (.func 48) #[] #[]
  | some e => ∃ cb nb, fv = .func (.func 50) #[] #[.pointer (some ⟨cb, 0, none⟩), .pointer (some ⟨nb, 0, none⟩)] ∧ TnAt X w cb nb e
/-- A file lies in block h, its disk in block g. -/
structure FlAt (X : Nat → Prop) (w : World) (h g : Nat) (o : Option En) : Prop where
  ex : ∃ fv, w.heap[h]? = some (.cells (fcells h g (ahd o) fv) 42 (0, 0)) ∧ FvAt X w fv o
  out : ¬ X h
theorem TnAt.stp {X X' : Nat → Prop} {w w' : World} {cb nb : Nat} {e : En} (t : TnAt X w cb nb e) (s : Stp X X' w w') : TnAt X' w' cb nb e := by
  obtain ⟨⟨gc, A, cap, h1, h2, h3, h4, h5⟩, ob, on, lo⟩ := t
  have q1 := lt_of_cell h1
  have q2 := lt_of_cell h2
  have q4 := h4.lt
  refine ⟨⟨gc, A, cap, s.but.cell h1 ob, s.but.cell h2 on, h3.stp s, (s.but.block gc q4 h5).trans h4, fun hx => ?_⟩, fun hx => ?_, fun hx => ?_, lo⟩
  · rcases s.new gc hx with h | h
    · exact h5 h
    · omega
  · rcases s.new cb hx with h | h
    · exact ob h
    · have : cb < w.heap.size := q1; omega
  · rcases s.new nb hx with h | h
    · exact on h
    · have : nb < w.heap.size := q2; omega
theorem FlAt.lt {X : Nat → Prop} {w : World} {h g : Nat} {o : Option En} (f : FlAt X w h g o) : h < w.heap.size := by
  obtain ⟨⟨fv, h1, _⟩, _⟩ := f
  exact lt_of_heap h1
theorem FlAt.stp {X X' : Nat → Prop} {w w' : World} {h g : Nat} {o : Option En} (f : FlAt X w h g o) (s : Stp X X' w w') : FlAt X' w' h g o := by
  have q := f.lt
  obtain ⟨⟨fv, h1, h2⟩, h3⟩ := f
  refine ⟨⟨fv, (s.but.block h q h3).trans h1, ?_⟩, fun hx => ?_⟩
  · cases o with
    | none => exact h2
    | some e =>
      obtain ⟨cb, nb, rfl, ht⟩ := h2
      exact ⟨cb, nb, rfl, ht.stp s⟩
  · rcases s.new h hx with h | h
    · exact h3 h
    · omega
theorem FlAt.below {X : Nat → Prop} {w w' : World} {h g : Nat} {o : Option En} (f : FlAt X w h g o) (b : Below w.heap.size w w') : FlAt X w' h g o := f.stp (.of_below b)
theorem FlAt.drewN {X : Nat → Prop} {w : World} {h g : Nat} {o : Option En} (f : FlAt X w h g o) (n : Nat) : FlAt X (w.drewN n) h g o := f.below (below_drewN (Below.refl _ w) n)
theorem out_less {X Y : Nat → Prop} {w : World} {A : Option Addr} {n cap : Nat} {l : List UInt8} (h : Out X w A n cap l) (hs : ∀ i, Y i → X i) : Out Y w A n cap l :=
  ⟨h.toIsB, fun hp ad e => ⟨fun hy => (h.ap hp ad e).1 (hs _ hy), (h.ap hp ad e).2⟩⟩
theorem FlAt.less {X Y : Nat → Prop} {w : World} {h g : Nat} {o : Option En} (f : FlAt X w h g o) (hs : ∀ i, Y i → X i) : FlAt Y w h g o := by
  obtain ⟨⟨fv, h1, h2⟩, h3⟩ := f
  refine ⟨⟨fv, h1, ?_⟩, fun hy => h3 (hs _ hy)⟩
  cases o with
  | none => exact h2
  | some e =>
    obtain ⟨cb, nb, rfl, ⟨gc, A, cap, a1, a2, a3, a4, a5⟩, ob, on, lo⟩ := h2
    exact ⟨cb, nb, rfl, ⟨gc, A, cap, a1, a2, out_less a3 hs, a4, fun hy => a5 (hs _ hy)⟩, fun hy => ob (hs _ hy), fun hy => on (hs _ hy), lo⟩
/-- The struct's cells. -/
theorem FlAt.cells {X : Nat → Prop} {w : World} {h g : Nat} {o : Option En} (f : FlAt X w h g o) : w.cell? ⟨h, 0, none⟩ = some (.pointer (some ⟨h, 0, none⟩)) ∧ w.cell? ⟨h, 1, none⟩ = some (.pointer (some ⟨g, 0, none⟩)) ∧ w.cell? ⟨h, 2, none⟩ = some (.int .i64 (ahd o : Nat)) ∧ ∃ fv, w.cell? ⟨h, 3, none⟩ = some fv ∧ FvAt X w fv o := by
  obtain ⟨⟨fv, h1, h2⟩, _⟩ := f
  exact ⟨row_cell h1 0, row_cell h1 1, row_cell h1 2, fv, row_cell h1 3, h2⟩
theorem Try.isPtr26 : Try.prog.underlying 26 = some (.pointer 42) := by kernel_rfl
theorem Try.has42 : (Try.prog.info? 42).isSome = true := by kernel_rfl
theorem fptr_self (a : Addr) (w : World) : (binOp BinOp.eql 26 (.pointer (some a)) (.pointer (some a))).run Try.prog w = .ok (.bool true) w := by
  obtain ⟨j, hj⟩ := Option.isSome_iff_exists.1 Try.has42
  exact run_eql_ptr_same w a Try.isPtr26 hj
theorem fptr_none (a : Addr) (w : World) : (binOp BinOp.eql 26 (.pointer none) (.pointer (some a))).run Try.prog w = .ok (.bool false) w := by kernel_rfl
set_option maxRecDepth 10000 in
set_option maxHeartbeats 1000000 in
theorem fmade_any {X : Nat → Prop} {w : World} {h g : Nat} {o : Option En} (f : FlAt X w h g o) :
    Calls Try.prog 33 #[.pointer (some ⟨h, 0, none⟩)] w fun r w' => r = .returned (.bool true) ∧ w = w' := by
  have c0 := f.cells.1
  have hp := fptr_self ⟨h, 0, none⟩
  clear f
  go_enter Try.func33, Try.ntmps33
  go_wp2_with fail
  go_ret
  exact ⟨rfl, rfl⟩
set_option maxRecDepth 10000 in
set_option maxHeartbeats 1000000 in
theorem fmade_nil (w : World) : Calls Try.prog 33 #[.pointer none] w fun r w' => r = .returned (.bool false) ∧ w = w' := by
  go_enter Try.func33, Try.ntmps33
  go_wp2_with fail
  go_ret
  exact ⟨rfl, rfl⟩
set_option maxRecDepth 10000 in
set_option maxHeartbeats 1000000 in
theorem fmade_zero (g : Nat) (w : World) (c0 : w.cell? ⟨g, 0, none⟩ = some (.pointer none)) : Calls Try.prog 33 #[.pointer (some ⟨g, 0, none⟩)] w fun r w' => r = .returned (.bool false) ∧ w = w' := by
  have hp := fptr_none ⟨g, 0, none⟩
  go_enter Try.func33, Try.ntmps33
  go_wp2_with fail
  go_ret
  exact ⟨rfl, rfl⟩
set_option maxRecDepth 10000 in
set_option maxHeartbeats 1000000 in
theorem Arm_neg {B : Nat} {S : Nat → Prop} {w : World} {g : Nat} {F L : Value} {d : Dk} {e : Int} (h : DkAt B S w g F L d e) :
    Calls Try.prog 38 #[.pointer (some ⟨g, 0, none⟩), .int .i64 (-1)] w fun r w' => r = .returned (.int .i64 2) ∧ w = w' := by
  have HM := hid (made_any h)
  clear h
  go_enter Try.func38, Try.ntmps38
  go_wp2_with (go_at_call 32; refine HM.out.mono ?_; rintro r w' ⟨rfl, rfl⟩)
  go_ret
  exact ⟨rfl, rfl⟩
/-- 'made' of a disk tells no. -/
def NoDk (w : World) (o : Option Addr) : Prop := Calls Try.prog 32 #[.pointer o] w fun r w' => r = .returned (.bool false) ∧ w = w'
set_option maxRecDepth 10000 in
set_option maxHeartbeats 1000000 in
theorem Arm_no {w : World} {o : Option Addr} (h : NoDk w o) :
    Calls Try.prog 38 #[.pointer o, .int .i64 (-1)] w fun r w' => r = .returned (.int .i64 1) ∧ w = w' := by
  have HM := hid h
  unfold NoDk at HM
  clear h
  go_enter Try.func38, Try.ntmps38
  go_wp2_with (go_at_call 32; refine HM.out.mono ?_; rintro r w' ⟨rfl, rfl⟩)
  go_ret
  exact ⟨rfl, rfl⟩
set_option maxRecDepth 10000 in
set_option maxHeartbeats 1000000 in
theorem isDisk_any {B : Nat} {S : Nat → Prop} {w : World} {g : Nat} {F L : Value} {d : Dk} {e : Int} (h : DkAt B S w g F L d e) :
    Calls Try.prog 27 #[.pointer (some ⟨g, 0, none⟩)] w fun r w' => r = .returned (.bool true) ∧ w = w' := by
  have HM := hid (Arm_neg h)
  clear h
  go_enter Try.func27, Try.ntmps27
  go_wp2_with (go_at_call 38; refine HM.out.mono ?_; rintro r w' ⟨rfl, rfl⟩)
  go_ret
  exact ⟨rfl, rfl⟩
set_option maxRecDepth 10000 in
set_option maxHeartbeats 1000000 in
theorem isDisk_no {w : World} {o : Option Addr} (h : NoDk w o) :
    Calls Try.prog 27 #[.pointer o] w fun r w' => r = .returned (.bool false) ∧ w = w' := by
  have HM := hid (Arm_no h)
  clear h
  go_enter Try.func27, Try.ntmps27
  go_wp2_with (go_at_call 38; refine HM.out.mono ?_; rintro r w' ⟨rfl, rfl⟩)
  go_ret
  exact ⟨rfl, rfl⟩
set_option maxRecDepth 10000 in
set_option maxHeartbeats 1000000 in
theorem fileOf_any (g ah K : Nat) (caps : Array Value) (w : World) :
    Calls Try.prog 47 #[.pointer (some ⟨g, 0, none⟩), .int .i64 (ah : Nat), .func (.func K) #[] caps] w fun r w' => r = .returned (.pointer (some ⟨w.heap.size, 0, none⟩)) ∧ w'.heap[w.heap.size]? = some (.cells (fcells w.heap.size g ah (.func (.func K) #[] caps)) 42 (0, 0)) ∧ Below w.heap.size w w' := by
  go_enter Try.func47, Try.ntmps47
  go_wp2_with fail
  go_ret
  exact ⟨rfl, heap_alloc_new w _, (Below.refl _ w).alloc (Nat.le_refl _) _⟩
set_option maxRecDepth 10000 in
set_option maxHeartbeats 1000000 in
theorem plain_any (X : Nat → Prop) (g : Nat) (w : World) (hX : ∀ i, X i → i < w.heap.size) :
    Calls Try.prog 28 #[.pointer (some ⟨g, 0, none⟩)] w fun r w' => ∃ h, r = .returned (.pointer (some ⟨h, 0, none⟩)) ∧ FlAt X w' h g none ∧ Below w.heap.size w w' ∧ w.heap.size ≤ h := by
  have HF := hid (fileOf_any g 0 48 #[] w)
  rw [show ((0 : Nat) : Int) = 0 from rfl] at HF
  have HX := hid hX
  clear hX
  go_enter Try.func28, Try.ntmps28
  go_wp2_with (go_at_call 47; refine HF.out.mono ?_; rintro r w1 ⟨rfl, h1, b1⟩; have H1 := hid h1; have HB := hid b1; clear h1 b1)
  go_ret
  exact ⟨_, rfl, ⟨⟨_, H1.out, rfl⟩, fun hx => Nat.lt_irrefl _ (HX.out _ hx)⟩, HB.out, Nat.le_refl _⟩
set_option maxRecDepth 10000 in
set_option maxHeartbeats 1000000 in
theorem Plain_any {X : Nat → Prop} {w : World} {h g : Nat} {o : Option En} (f : FlAt X w h g o) :
    Calls Try.prog 18 #[.pointer (some ⟨h, 0, none⟩)] w fun r w' => r = .returned (.bool o.isNone) ∧ w = w' := by
  have HM := hid (fmade_any f)
  have c2 := f.cells.2.2.1
  clear f
  cases o with
  | none =>
    rw [show ((ahd none : Nat) : Int) = 0 from rfl] at c2
    go_enter Try.func18, Try.ntmps18
    go_wp2_with (go_at_call 33; refine HM.out.mono ?_; rintro r w' ⟨rfl, rfl⟩)
    go_ret
    exact ⟨rfl, rfl⟩
  | some e =>
    rw [show ((ahd (some e) : Nat) : Int) = 32 from rfl] at c2
    go_enter Try.func18, Try.ntmps18
    go_wp2_with (go_at_call 33; refine HM.out.mono ?_; rintro r w' ⟨rfl, rfl⟩)
    go_ret
    exact ⟨rfl, rfl⟩
end Go.Proofs.Ytpeepohiajmhcaa
