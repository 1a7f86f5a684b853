/-
  A decoder in memory; the contracts of made, next, Read.
-/
import Derived.Test.YtbgbacajgaeooaaSfr
namespace Go.Proofs.Ytbgbacajgaeooaa
open Go.RowKit

theorem Try.isPtr44 : Try.prog.underlying 44 = some (.pointer 57) := by kernel_rfl
theorem Try.has57 : (Try.prog.info? 57).isSome = true := by kernel_rfl
theorem dptr_self (a : Addr) (w : World) : (binOp BinOp.eql 44 (.pointer (some a)) (.pointer (some a))).run Try.prog w = .ok (.bool true) w := by
  obtain ⟨j, hj⟩ := Option.isSome_iff_exists.1 Try.has57
  exact run_eql_ptr_same w a Try.isPtr44 hj
theorem dptr_none (a : Addr) (w : World) : (binOp BinOp.eql 44 (.pointer none) (.pointer (some a))).run Try.prog w = .ok (.bool false) w := by kernel_rfl
/-- The cells of a decoder. -/
def dcells (g x y z : Nat) (F : Value) (t : Nat) : Array Value := #[.pointer (some ⟨g, 0, none⟩), .int .u32 (x : Nat), .int .u32 (y : Nat), .int .u32 (z : Nat), F, .int .i64 (t : Nat)]
/-- A decoder lies in block g: R are the bytes from the first of its number on; N bytes there were. -/
structure DeAt (B : Nat) (S : Nat → Prop) (w : World) (g : Nat) (x y : Nat) (R : List UInt8) (N : Nat) (A : Option Addr) (n c : Nat) : Prop where
  row : w.heap[g]? = some (.cells (dcells g x y (z4 R) (.slice A n c) (N - n)) 57 (0, 0))
  rest : IsB w A n c (R.drop 4)
  low : 0 < n → ∀ ad, A = some ad → S ad.block ∧ ad.block ≠ g ∧ ad.block < w.heap.size
  sg : S g
  lt : ∀ i, S i → B ≤ i ∧ i < w.heap.size
  nN : n ≤ N
  sm : N ≤ 140737488355328
section
variable {B : Nat} {S T : Nat → Prop} {w w' : World} {g x y : Nat} {R : List UInt8} {N : Nat} {A : Option Addr} {n c : Nat}
theorem isB_but {X : Nat → Prop} {l : List UInt8} (h : IsB w A n c l) (hl : 0 < n → ∀ ad, A = some ad → ad.block < w.heap.size ∧ ¬ X ad.block) (b : But X w w') : IsB w' A n c l :=
  ⟨h.len, h.cap, h.max, h.small, fun hp => by
    obtain ⟨ad, e, hc⟩ := h.lies hp
    obtain ⟨h2, h1⟩ := hl (by rw [← h.len]; exact hp) ad e
    exact ⟨ad, e, fun j hj => (World.cell?_of_block (by rw [block_of_add]; exact b.block _ h2 h1)).trans (hc j hj)⟩⟩
theorem DeAt.but (h : DeAt B S w g x y R N A n c) (b : But T w w') (hT : ∀ i, S i → ¬ T i) : DeAt B S w' g x y R N A n c :=
  ⟨(b.block g (lt_of_heap h.row) (hT g h.sg)).trans h.row, isB_but h.rest (fun hp ad e => ⟨(h.low hp ad e).2.2, hT _ (h.low hp ad e).1⟩) b,
    fun hp ad e => ⟨(h.low hp ad e).1, (h.low hp ad e).2.1, Nat.lt_of_lt_of_le (h.low hp ad e).2.2 b.size⟩, h.sg, fun i hi => ⟨(h.lt i hi).1, Nat.lt_of_lt_of_le (h.lt i hi).2 b.size⟩, h.nN, h.sm⟩
theorem DeAt.below (h : DeAt B S w g x y R N A n c) (b : Below w.heap.size w w') : DeAt B S w' g x y R N A n c := h.but (T := fun _ => False) (.of_below b) (fun _ _ h => h)
theorem DeAt.drewN (h : DeAt B S w g x y R N A n c) (k : Nat) : DeAt B S (w.drewN k) g x y R N A n c := h.below (below_drewN (Below.refl _ w) k)
/-- The struct's cells turned, its bytes not. -/
theorem DeAt.turn {x' y' : Nat} (h : DeAt B S w g x y R N A n c) (b : But (· = g) w w') (hr : w'.heap[g]? = some (.cells (dcells g x' y' (z4 R) (.slice A n c) (N - n)) 57 (0, 0))) : DeAt B S w' g x' y' R N A n c :=
  ⟨hr, isB_but h.rest (fun hp ad e => ⟨(h.low hp ad e).2.2, (h.low hp ad e).2.1⟩) b,
    fun hp ad e => ⟨(h.low hp ad e).1, (h.low hp ad e).2.1, Nat.lt_of_lt_of_le (h.low hp ad e).2.2 b.size⟩, h.sg, fun i hi => ⟨(h.lt i hi).1, Nat.lt_of_lt_of_le (h.lt i hi).2 b.size⟩, h.nN, h.sm⟩
theorem DeAt.butg (h : DeAt B S w g x y R N A n c) (b : But (· = g) w w') : But S w w' := b.mono (fun i hi => by subst hi; exact .inl h.sg)
end
set_option maxRecDepth 10000 in
set_option maxHeartbeats 1000000 in
theorem dmade_yes (g : Nat) (w : World) (h : w.cell? ⟨g, 0, none⟩ = some (.pointer (some ⟨g, 0, none⟩))) :
    Calls Try.prog 35 #[.pointer (some ⟨g, 0, none⟩)] w fun r w' => r = .returned (.bool true) ∧ w = w' := by
  have hp := dptr_self ⟨g, 0, none⟩
  go_enter Try.func35, Try.ntmps35
  go_wp2_with fail
  go_ret
  exact ⟨rfl, rfl⟩
set_option maxRecDepth 10000 in
set_option maxHeartbeats 1000000 in
theorem dmade_nil (w : World) : Calls Try.prog 35 #[.pointer none] w fun r w' => r = .returned (.bool false) ∧ w = w' := by
  go_enter Try.func35, Try.ntmps35
  go_wp2_with fail
  go_ret
  exact ⟨rfl, rfl⟩
set_option maxRecDepth 10000 in
set_option maxHeartbeats 1000000 in
theorem dmade_zero (g : Nat) (w : World) (h : w.cell? ⟨g, 0, none⟩ = some (.pointer none)) :
    Calls Try.prog 35 #[.pointer (some ⟨g, 0, none⟩)] w fun r w' => r = .returned (.bool false) ∧ w = w' := by
  have hp := dptr_none ⟨g, 0, none⟩
  go_enter Try.func35, Try.ntmps35
  go_wp2_with fail
  go_ret
  exact ⟨rfl, rfl⟩
set_option maxRecDepth 10000 in
set_option maxHeartbeats 1000000 in
theorem Get_none (v : Value) (w : World) (h : Calls Try.prog 35 #[v] w fun r w' => r = .returned (.bool false) ∧ w = w') (p : Int) :
    Calls Try.prog 20 #[v, .int .i64 p] w fun r w' => r = .returned (.tuple #[.int .i64 0, .int .i64 1]) ∧ w = w' := by
  have HM := hid h
  clear h
  go_enter Try.func20, Try.ntmps20
  go_wp2_with (go_at_call 35; refine HM.out.mono ?_; rintro r w' ⟨rfl, rfl⟩)
  go_ret2
  exact ⟨rfl, rfl⟩
set_option maxRecDepth 10000 in
set_option maxHeartbeats 1000000 in
theorem Read_none (v : Value) (w : World) (h : Calls Try.prog 35 #[v] w fun r w' => r = .returned (.bool false) ∧ w = w') :
    Calls Try.prog 22 #[v] w fun r w' => r = .returned (.int .i64 0) ∧ w = w' := by
  have HM := hid h
  clear h
  go_enter Try.func22, Try.ntmps22
  go_wp2_with (go_at_call 35; refine HM.out.mono ?_; rintro r w' ⟨rfl, rfl⟩)
  go_ret
  exact ⟨rfl, rfl⟩
set_option maxRecDepth 10000 in
set_option maxHeartbeats 1000000 in
theorem Read_any {B : Nat} {S : Nat → Prop} {w : World} {g x y : Nat} {R : List UInt8} {N : Nat} {A : Option Addr} {n c : Nat} (h : DeAt B S w g x y R N A n c) :
    Calls Try.prog 22 #[.pointer (some ⟨g, 0, none⟩)] w fun r w' => r = .returned (.int .i64 ((N - n : Nat) : Int)) ∧ w = w' := by
  have HM := hid (dmade_yes g w (row_cell h.row 0))
  have c5 : w.cell? ⟨g, 5, none⟩ = some (.int .i64 ((N - n : Nat) : Int)) := row_cell h.row 5
  clear h
  generalize N - n = t at c5 ⊢
  go_enter Try.func22, Try.ntmps22
  go_wp2_with (go_at_call 35; refine HM.out.mono ?_; rintro r w' ⟨rfl, rfl⟩)
  go_ret
  exact ⟨rfl, rfl⟩
theorem drop_getD (R : List UInt8) (k : Nat) : (R.drop k).getD 0 0 = R.getD k 0 := by
  rw [List.getD_eq_getElem?_getD, List.getD_eq_getElem?_getD, List.getElem?_drop, Nat.add_zero]
theorem z4_end (R : List UInt8) (h : R.drop 4 = []) : z4 (R.drop 1) = z4 R * 256 % 4294967296 := by
  have e : (R.getD 4 0).toNat = 0 := by rw [← drop_getD, h]; rfl
  have t := z4_tail R
  generalize z4 R = a at t ⊢
  generalize z4 (R.drop 1) = b at t ⊢
  rw [e, Nat.add_zero] at t
  exact t
set_option maxRecDepth 10000 in
set_option maxHeartbeats 4000000 in
theorem next_any {B : Nat} {S : Nat → Prop} {w : World} {g x y : Nat} {R : List UInt8} {N : Nat} {A : Option Addr} {n c : Nat} (h : DeAt B S w g x y R N A n c) :
    Calls Try.prog 33 #[.pointer (some ⟨g, 0, none⟩)] w fun r w' => r = .returned noResult ∧ But (· = g) w w' ∧ ∃ A' n' c', DeAt B S w' g x y (R.drop 1) N A' n' c' := by
  have c3 : w.cell? ⟨g, 3, none⟩ = some (.int .u32 (z4 R : Nat)) := row_cell h.row 3
  have c4 : w.cell? ⟨g, 4, none⟩ = some (.slice A n c) := row_cell h.row 4
  have f3 := row_free h.row 3
  have zt := z4_tail R
  have hdd : (R.drop 1).drop 4 = (R.drop 4).drop 1 := by rw [List.drop_drop, List.drop_drop]
  have hlen := h.rest.len
  obtain ⟨z1, hz1⟩ : ∃ z1, z1 = z4 R * 256 % 4294967296 := ⟨_, rfl⟩
  have e1 : (z4 R : Int) * 256 % 4294967296 = (z1 : Int) := by omega
  have e2' : ∀ b : Nat, b < 256 → bits BinOp.or IntKind.u32 (z1 : Int) (b : Int) = ((z1 + b : Nat) : Int) := by
    intro b hb
    rw [← e1, or_byte _ _ hb, hz1]
  rcases Nat.eq_zero_or_pos n with hn | hn
  · subst hn
    have hnil : R.drop 4 = [] := List.eq_nil_of_length_eq_zero hlen
    have hz : z1 = z4 (R.drop 1) := hz1.trans (z4_end R hnil).symm
    have hb : But (· = g) w (w.setCell ⟨g, 3, none⟩ (.int .u32 (z1 : Nat))) := (But.refl _ w).set _ _ (.inl rfl)
    have HF : Hid (DeAt B S (w.setCell ⟨g, 3, none⟩ (.int .u32 (z1 : Nat))) g x y (R.drop 1) N A 0 c) := by
      refine ⟨?_, ⟨by rw [hdd, hnil]; rfl, h.rest.cap, h.rest.max, h.rest.small, fun hp => ?_⟩, fun hp => absurd hp (by omega), h.sg, fun i hi => ⟨(h.lt i hi).1, Nat.lt_of_lt_of_le (h.lt i hi).2 hb.size⟩, h.nN, h.sm⟩
      · have r0 := h.row
        rw [← hz]
        generalize z4 R = z0 at r0
        rw [row_set r0 3]; rfl
      · rw [hdd, hnil] at hp; simp at hp
    have HB := hid hb
    clear h zt hdd hlen hnil hz hb hz1 e2'
    generalize z4 R = z0 at c3 e1
    go_enter Try.func33, Try.ntmps33
    go_wp2_with fail
    go_end0
    exact ⟨rfl, HB.out, _, _, _, HF.out⟩
  · obtain ⟨ad, rfl, hcell⟩ := h.rest.lies (by omega)
    obtain ⟨l1, l2, l3⟩ := h.low hn ad rfl
    obtain ⟨A', hsl, hI, hbl⟩ := slice_from h.rest 1 hn
    have hsl1 : ∀ w' : World, (Instr.slice 30 (.slice (some ad) n c) (some (.int .i64 1)) none none).run Try.prog w' = .ok (.slice A' (n - 1) (c - 1)) w' := hsl
    clear hsl
    have hb0 : w.cell? (ad.add 0) = some (.int .u8 ((R.drop 4)[0].toNat : Int)) := hcell 0 (by omega)
    obtain ⟨b, hb⟩ : ∃ b, b = (R.drop 4)[0].toNat := ⟨_, rfl⟩
    rw [← hb] at hb0
    have hb256 : b < 256 := by rw [hb]; exact UInt8.toNat_lt _
    obtain ⟨z2, hz2⟩ : ∃ z2, z2 = z1 + b := ⟨_, rfl⟩
    have e2 : bits BinOp.or IntKind.u32 (z1 : Int) (b : Int) = (z2 : Int) := by rw [e2' b hb256, hz2]
    have e4 : IntKind.u32.wrap (b : Int) = (b : Int) := by rw [IntKind.wrap_u32]; omega
    have hz : z2 = z4 (R.drop 1) := by
      rw [zt, ← drop_getD, hz2, hz1, hb, List.getD_eq_getElem?_getD, List.getElem?_eq_getElem (by omega), Option.getD_some]
    have hn1 : (0 : Int) < (n : Int) := by omega
    have ha : ad.add 0 = ad := by simp [Addr.add]
    rw [ha] at hb0
    obtain ⟨t1, ht1⟩ : ∃ t1, t1 = N - n := ⟨_, rfl⟩
    have c5 : w.cell? ⟨g, 5, none⟩ = some (.int .i64 (t1 : Nat)) := by rw [ht1]; exact row_cell h.row 5
    have hnN := h.nN
    have hsm := h.sm
    obtain ⟨t2, ht2⟩ : ∃ t2, t2 = t1 + 1 := ⟨_, rfl⟩
    have e3 : IntKind.i64.wrap ((t1 : Int) + 1) = (t2 : Int) := by rw [IntKind.wrap_i64]; omega
    have f4 := row_free h.row 4
    have f5 := row_free h.row 5
    obtain ⟨W1, hW1⟩ : ∃ W1, W1 = w.setCell ⟨g, 3, none⟩ (.int .u32 (z1 : Nat)) := ⟨_, rfl⟩
    have hb1 : But (· = g) w W1 := by rw [hW1]; exact (But.refl _ w).set _ _ (.inl rfl)
    have r1 : W1.heap[g]? = some (.cells (dcells g x y z1 (.slice (some ad) n c) t1) 57 (0, 0)) := by (have r0 := h.row; rw [hW1, ht1]; generalize z4 R = z0 at r0; rw [row_set r0 3]; rfl)
    have d3 : W1.cell? ⟨g, 3, none⟩ = some (.int .u32 (z1 : Nat)) := row_cell r1 3
    have d4 : W1.cell? ⟨g, 4, none⟩ = some (.slice (some ad) n c) := row_cell r1 4
    have d5 : W1.cell? ⟨g, 5, none⟩ = some (.int .i64 (t1 : Nat)) := row_cell r1 5
    have db : W1.cell? ad = some (.int .u8 (b : Nat)) := (World.cell?_of_block (hb1.block _ l3 l2)).trans hb0
    have k3 := row_free r1 3
    have k4 := row_free r1 4
    have k5 := row_free r1 5
    have HF : Hid (But (· = g) w ((((W1.setCell ⟨g, 3, none⟩ (.int .u32 (z2 : Nat))).setCell ⟨g, 4, none⟩ (.slice A' (n - 1) (c - 1))).setCell ⟨g, 5, none⟩ (.int .i64 (t2 : Nat))).drew) ∧ DeAt B S ((((W1.setCell ⟨g, 3, none⟩ (.int .u32 (z2 : Nat))).setCell ⟨g, 4, none⟩ (.slice A' (n - 1) (c - 1))).setCell ⟨g, 5, none⟩ (.int .i64 (t2 : Nat))).drew) g x y (R.drop 1) N A' (n - 1) (c - 1)) := by
      have hbb : But (· = g) w ((((W1.setCell ⟨g, 3, none⟩ (.int .u32 (z2 : Nat))).setCell ⟨g, 4, none⟩ (.slice A' (n - 1) (c - 1))).setCell ⟨g, 5, none⟩ (.int .i64 (t2 : Nat))).drew) := (((hb1.set _ _ (.inl rfl)).set _ _ (.inl rfl)).set _ _ (.inl rfl)).drew
      refine ⟨hbb, ⟨?_, ?_, ?_, h.sg, fun i hi => ⟨(h.lt i hi).1, Nat.lt_of_lt_of_le (h.lt i hi).2 hbb.size⟩, by omega, hsm⟩⟩
      · have s1 := row_set r1 3 (.int .u32 (z2 : Nat))
        have s2 := row_set s1 4 (.slice A' (n - 1) (c - 1))
        have s3 := row_set s2 5 (.int .i64 (t2 : Nat))
        refine s3.trans ?_
        rw [← hz, show N - (n - 1) = t2 by omega]
        rfl
      · rw [hdd]
        exact isB_but hI (fun hp ad' e => by
          obtain ⟨a2, e2, e3⟩ := hbl (by rw [List.length_drop]; omega) ad' e
          cases e2
          rw [e3]
          exact ⟨l3, l2⟩) hbb
      · intro hp ad' e
        obtain ⟨a2, e2, e3⟩ := hbl (by rw [List.length_drop]; omega) ad' e
        cases e2
        rw [e3]
        exact ⟨l1, l2, Nat.lt_of_lt_of_le l3 hbb.size⟩
    have HW1 := hid hW1
    have hz0 : ∃ z0, z0 = z4 R := ⟨_, rfl⟩
    obtain ⟨z0, hz0⟩ := hz0
    rw [← hz0] at c3 e1
    clear h zt hdd hlen hcell l1 l2 l3 hI hbl hb hz2 hz hz0 hz1 hb256 ha hb0 ht1 hnN hsm ht2 hb1 r1 c5 f4 f5 e2' hn hW1
    go_enter Try.func33, Try.ntmps33
    go_wp2_with fail
    rw [← HW1.out]
    clear HW1 c3 c4 f3 e1
    go_region
    go_wp2_with fail
    go_end0
    exact ⟨rfl, HF.out.1, _, _, _, HF.out.2⟩
end Go.Proofs.Ytbgbacajgaeooaa
