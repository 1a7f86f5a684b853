/-
  The contract of 'encrypted'.
-/
import Derived.Test.YtpeepohiajmhcaaFap
import Derived.Test.YtpeepohiajmhcaaZg
import Derived.Test.YtpeepohiajmhcaaZi
import Derived.Test.YtpeepohiajmhcaaZb
namespace Go.Proofs.Ytpeepohiajmhcaa
open Go.RowKit

/-- What a password and a salt make. -/
def enOf (pw salt : List UInt8) : En := ⟨c.fnOf (d.pbk pw salt 4 32), salt.take 8⟩
theorem cut8 (ad : Addr) (m : Nat) (hm : 32 ≤ m) (w : World) : (Instr.slice 29 (.slice (some ad) 32 m) none (some (.int .i64 8)) none).run Try.prog w = .ok (.slice (some ad) 8 m) w := by
  have h := slice_cut (some ad) 32 m 8 (by omega) w
  rw [show ((8 : Nat) : Int) = 8 from rfl] at h
  exact h
theorem tn_make {X : Nat → Prop} {w w2 w4 : World} {gc cp : Nat} {A : Option Addr} {K : Nat → Nat} {non : List UInt8} (hX : ∀ i, X i → i < w.heap.size) (b2 : Below w.heap.size w w2) (hci : c.Ci w2 gc K) (hge : w.heap.size ≤ gc) (hk : ∀ j, j < 32 → K j < 256)
    (b4 : Below (w2.alloc (.cells #[.pointer (some ⟨gc, 0, none⟩)] 66)).heap.size (w2.alloc (.cells #[.pointer (some ⟨gc, 0, none⟩)] 66)) w4) (ho : w4.ownsRow w.heap.size 5 1 (.slice A 8 cp) 8 (non.map bv)) :
    TnAt X (w4.alloc (.cells #[.slice A 8 cp] 29)) w2.heap.size w4.heap.size ⟨K, non⟩ ∧ Below w.heap.size w (w4.alloc (.cells #[.slice A 8 cp] 29)) := by
  have s2 := b2.size
  have s4 := b4.size
  rw [World.size_alloc] at s4
  have a3 : Below w2.heap.size w2 (w2.alloc (.cells #[.pointer (some ⟨gc, 0, none⟩)] 66)) := (Below.refl _ w2).alloc (Nat.le_refl _) _
  have a5 : Below w4.heap.size w4 (w4.alloc (.cells #[.slice A 8 cp] 29)) := (Below.refl _ w4).alloc (Nat.le_refl _) _
  have b24 := bel_trans a3 b4
  have b25 := bel_trans b24 a5
  have r3 := heap_alloc_new w2 (.cells #[.pointer (some ⟨gc, 0, none⟩)] 66)
  have r5 := (a5.block w2.heap.size (by omega)).trans ((b4.block w2.heap.size (by rw [World.size_alloc]; omega)).trans r3)
  have hI : IsBB w4 w4.heap.size A 8 cp non := own_isB2 ho (by omega)
  refine ⟨⟨⟨gc, A, cp, row_cell r5 0, row_cell (heap_alloc_new w4 _) 0, (hI.on a5).out_new (fun hp ad e => ?_) hX, (b25.block gc hci.lt).trans hci, fun hx => by have := hX _ hx; omega⟩, fun hx => by have := hX _ hx; omega, fun hx => by have := hX _ hx; omega, hk⟩, bel_trans b2 b25⟩
  subst e
  rcases ho.2 with ⟨q, _⟩ | ⟨g', _, _, q, hg, _⟩
  · cases q
  · cases q; exact hg
set_option maxRecDepth 10000 in
set_option maxHeartbeats 2000000 in
theorem encrypted_any (X : Nat → Prop) (g : Nat) (A B : Option Addr) (n cap m : Nat) (pw salt : List UInt8) (w : World) (h1 : IsBB w w.heap.size A n cap pw) (h2 : IsBB w w.heap.size B 32 m salt) (hX : ∀ i, X i → i < w.heap.size) :
    Calls Try.prog 30 #[.pointer (some ⟨g, 0, none⟩), .slice A n cap, .slice B 32 m] w fun r w' => ∃ h, r = .returned (.tuple #[.pointer (some ⟨h, 0, none⟩), .int .i64 0]) ∧ FlAt X w' h g (some (enOf pw salt)) ∧ Below w.heap.size w w' ∧ w.heap.size ≤ h := by
  obtain ⟨i0, hi, hz0, hz1, hz2⟩ := info_parts Try.info5
  have HP := hid (d.Pbkdf2_yes A B pw salt n cap 32 m 4 32 w h1 h2 (by omega) (by omega) (by omega))
  rw [show ((4 : Nat) : Int) = 4 from rfl, show ((32 : Nat) : Int) = 32 from rfl] at HP
  obtain ⟨kl, hkl⟩ : ∃ kl, d.pbk pw salt 4 32 = kl := ⟨_, rfl⟩
  have hE : enOf pw salt = ⟨c.fnOf kl, salt.take 8⟩ := by unfold enOf; rw [hkl]
  rw [hE]
  rw [hkl] at HP
  have Hlo : Hid (∀ j, j < 32 → c.fnOf kl j < 256) := fun j _ => c.fnOf_lt kl j
  clear hE hkl
  obtain ⟨ad, rfl⟩ : ∃ ad, B = some ad := by
    obtain ⟨ad, e, _⟩ := h2.lies (by rw [h2.len]; omega)
    exact ⟨ad, e⟩
  have H8 := hid (take_isB h2 (show 8 ≤ 32 by omega))
  have HX := hid hX
  have hcm := h2.cap
  have hcut := cut8 ad m hcm
  have hl8 : (salt.take 8).length = 8 := H8.out.len
  clear h1 h2 hX
  go_enter Try.func30, Try.ntmps30
  go_wp2_with (first
    | (go_at_call 44; (with_reducible refine HP.out.mono ?_); rintro r w1 ⟨k, rfl, hk⟩; have HC := hid (c.New_any (some ⟨k, 0, none⟩) 32 kl w1 hk.isBB); have B1 := hid hk.bel; clear hk)
    | (go_at_call 45; (with_reducible refine HC.out.mono ?_); rintro r w2 ⟨gc, rfl, hci, b2, hge⟩; have Hci := hid hci; have B2 := hid (bel_trans B1.out b2); have Hge := hid (Nat.le_trans B1.out.size hge); have B3 := hid ((bel_trans B1.out b2).alloc (bel_trans B1.out b2).size (.cells #[.pointer (some ⟨gc, 0, none⟩)] 66)); clear hci b2 hge)
    | (at_builtin; go_loud (refine wpList_append_own _ rfl _ _ 29 rfl w.heap.size 5 i0 (.int .u8 0) 1 1 Try.underlying29 hi hz0 hz1 hz2 rfl (by decide) (.slice none 0 0) 0 [] rfl (World.ownsRow_nil _ _ _ _) ad 8 m ((salt.take 8).map bv) rfl ?c0 ?c1 (bv_one _) ?c3 ?c4 ?c5 ?_)))
  case c0 => rw [List.length_map, hl8]
  case c1 =>
    intro j u hu
    obtain ⟨ad', e', hc'⟩ := H8.out.src B3.out (by rw [List.length_map, hl8]; omega)
    cases e'
    exact hc' j u hu
  case c3 => unfold maxLen; omega
  case c4 => omega
  case c5 => exact B3.out.size
  intro v' w4 hown hgrow _
  obtain ⟨A', cp, rfl, _⟩ := own_isBB (l := salt.take 8) (by simpa using hown) (by omega)
  have HT := hid (tn_make (X := X) (K := c.fnOf kl) (non := salt.take 8) HX.out B2.out Hci.out Hge.out Hlo.out ((Below.refl _ _).grown hgrow (Nat.le_refl _) (fun k e => by cases e)) (by simpa using hown))
  have HF := hid (fileOf_any g 32 50 #[.pointer (some ⟨w2.heap.size, 0, none⟩), .pointer (some ⟨w4.heap.size, 0, none⟩)] (w4.alloc (.cells #[.slice A' 8 cp] 29)))
  rw [show ((32 : Nat) : Int) = 32 from rfl] at HF
  clear hown hgrow
  go_wp2_with (go_at_call 47; (with_reducible refine HF.out.mono ?_); rintro r w6 ⟨rfl, h6, b6⟩; have H6 := hid h6; have B6 := hid b6; clear h6 b6)
  go_ret2
  have q5 := HT.out.2.size
  have h6 := H6.out
  rw [World.size_alloc] at q5 h6
  exact ⟨_, rfl, ⟨⟨_, h6, _, _, rfl, HT.out.1.stp (.of_below B6.out)⟩, fun hx => by have := HX.out _ hx; omega⟩, bel_trans HT.out.2 B6.out, q5⟩
end Go.Proofs.Ytpeepohiajmhcaa
