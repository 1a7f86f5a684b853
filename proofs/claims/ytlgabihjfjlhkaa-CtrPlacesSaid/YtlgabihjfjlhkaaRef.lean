/-
  What refuses a part of a stream; who makes the closure.
-/
import Derived.Test.YtlgabihjfjlhkaaClo
namespace Go.Proofs.Ytlgabihjfjlhkaa
open Go.RowKit

/-- What may be asked. -/
def May (m : Nat) (a n : Int) : Prop := m = 8 ∧ 0 ≤ a ∧ a ≤ 1099511627776 ∧ 0 ≤ n ∧ n ≤ 4194304
set_option maxRecDepth 10000 in
set_option maxHeartbeats 1000000 in
theorem mayNot_any (gc : Nat) (K : Nat → Nat) (A : Option Addr) (m c : Nat) (a n : Int) (w : World) (hc : Ci w gc K) (h : ¬ May m a n) :
    Calls Try.prog 19 #[.pointer (some ⟨gc, 0, none⟩), .slice A m c, .int .i64 a, .int .i64 n] w fun e w' => e = .returned (.int .i64 2) ∧ w = w' := by
  have H := hid hc
  have Hm := hid h
  clear hc h
  by_cases h1 : m = 8
  · subst h1
    by_cases h2 : a < 0
    · clear Hm
      go_enter Try.func19, Try.ntmps19
      go_wp2_with (go_at_call 35; refine (made_any gc w _ H.out).mono ?_; rintro e w' ⟨rfl, rfl⟩)
      go_ret
      exact ⟨rfl, rfl⟩
    · by_cases h3 : (1099511627776 : Int) < a
      · clear Hm
        go_enter Try.func19, Try.ntmps19
        go_wp2_with (go_at_call 35; refine (made_any gc w _ H.out).mono ?_; rintro e w' ⟨rfl, rfl⟩)
        go_ret
        exact ⟨rfl, rfl⟩
      · by_cases h4 : n < 0
        · clear Hm
          go_enter Try.func19, Try.ntmps19
          go_wp2_with (go_at_call 35; refine (made_any gc w _ H.out).mono ?_; rintro e w' ⟨rfl, rfl⟩)
          go_ret
          exact ⟨rfl, rfl⟩
        · have h5 : (4194304 : Int) < n := by
            have := Hm.out
            unfold May at this
            omega
          clear Hm
          go_enter Try.func19, Try.ntmps19
          go_wp2_with (go_at_call 35; refine (made_any gc w _ H.out).mono ?_; rintro e w' ⟨rfl, rfl⟩)
          go_ret
          exact ⟨rfl, rfl⟩
  · have hz : ¬ ((m : Int) = 8) := by omega
    clear Hm
    go_enter Try.func19, Try.ntmps19
    go_wp2_with (go_at_call 35; refine (made_any gc w _ H.out).mono ?_; rintro e w' ⟨rfl, rfl⟩)
    go_ret
    exact ⟨rfl, rfl⟩
set_option maxRecDepth 10000 in
set_option maxHeartbeats 1000000 in
theorem may_any (gc : Nat) (K : Nat → Nat) (A : Option Addr) (m c : Nat) (a n : Int) (w : World) (hc : Ci w gc K) (h : May m a n) :
    Calls Try.prog 19 #[.pointer (some ⟨gc, 0, none⟩), .slice A m c, .int .i64 a, .int .i64 n] w fun e w' => e = .returned (.int .i64 0) ∧ w = w' := by
  have H := hid hc
  obtain ⟨rfl, h2, h3, h4, h5⟩ := h
  have e2 : ¬ a < 0 := by omega
  have e3 : ¬ (1099511627776 : Int) < a := by omega
  have e4 : ¬ n < 0 := by omega
  have e5 : ¬ (4194304 : Int) < n := by omega
  clear hc h2 h3 h4 h5
  go_enter Try.func19, Try.ntmps19
  go_wp2_with (go_at_call 35; refine (made_any gc w _ H.out).mono ?_; rintro e w' ⟨rfl, rfl⟩)
  go_ret
  exact ⟨rfl, rfl⟩
set_option maxRecDepth 10000 in
set_option maxHeartbeats 1000000 in
theorem mayNil_any (A : Option Addr) (m c : Nat) (a n : Int) (w : World) :
    Calls Try.prog 19 #[.pointer none, .slice A m c, .int .i64 a, .int .i64 n] w fun e w' => e = .returned (.int .i64 1) ∧ w = w' := by
  go_enter Try.func19, Try.ntmps19
  go_wp2_with (go_at_call 35; refine (made_nil w).mono ?_; rintro e w' ⟨rfl, rfl⟩)
  go_ret
  exact ⟨rfl, rfl⟩
set_option maxRecDepth 10000 in
set_option maxHeartbeats 1000000 in
theorem mayNone_any (g : Nat) (A : Option Addr) (m c : Nat) (a n : Int) (w : World) (cc : w.cell? ⟨g, 0, none⟩ = some (.bool false)) :
    Calls Try.prog 19 #[.pointer (some ⟨g, 0, none⟩), .slice A m c, .int .i64 a, .int .i64 n] w fun e w' => e = .returned (.int .i64 1) ∧ w = w' := by
  go_enter Try.func19, Try.ntmps19
  go_wp2_with (go_at_call 35; refine (made_not g w cc).mono ?_; rintro e w' ⟨rfl, rfl⟩)
  go_ret
  exact ⟨rfl, rfl⟩
theorem StAt.below {wr W : World} {h gc : Nat} {A : Option Addr} {c : Nat} {non : List UInt8} {K : Nat → Nat} {v : Value} {i : Nat} (s : StAt wr h gc A c non K v i) (b : Below wr.heap.size wr W) : StAt W h gc A c non K v i := by
  have l2 := lt_of_heap s.r2
  have l3 := lt_of_heap s.r3
  have hl := s.lt
  refine ⟨(b.block gc (by omega)).trans s.ci, (b.cell (p := ⟨h, 0, none⟩) (by show h < _; omega)).trans s.cp, ⟨s.no.toIsB.to fun ad e j => ?_, s.no.low⟩, (b.cell (p := ⟨h + 1, 0, none⟩) (by show h + 1 < _; omega)).trans s.np, (b.block _ (by omega)).trans s.r2, (b.block _ (by omega)).trans s.r3, ?_, hl⟩
  · have := s.no.low (by rw [s.no.len]; omega) ad e
    exact b.cell (by rw [block_of_add]; omega)
  · rcases s.bk with e | ⟨g, e, hg, hI⟩
    · exact .inl e
    · exact .inr ⟨g, e, hg, hI.on b⟩
theorem StAt.but {wr W : World} {h gc : Nat} {A : Option Addr} {c : Nat} {non : List UInt8} {K : Nat → Nat} {v : Value} {i : Nat} (s : StAt wr h gc A c non K v i) (b : But (h + 4) wr W) : StAt W h gc A c non K v i := by
  have l2 := lt_of_heap s.r2
  have l3 := lt_of_heap s.r3
  have hl := s.lt
  have ec : ∀ ad : Addr, ad.block < wr.heap.size → ad.block ≠ h + 4 → W.cell? ad = wr.cell? ad := fun ad h1 h2 => by
    unfold World.cell?
    rw [b.block _ h1 h2]
  refine ⟨(b.block gc (by omega) (by omega)).trans s.ci, (ec ⟨h, 0, none⟩ (by show h < _; omega) (by show h ≠ _; omega)).trans s.cp, ⟨s.no.toIsB.to fun ad e j => ?_, s.no.low⟩, (ec ⟨h + 1, 0, none⟩ (by show h + 1 < _; omega) (by show h + 1 ≠ _; omega)).trans s.np, (b.block _ (by omega) (by omega)).trans s.r2, (b.block _ (by omega) (by omega)).trans s.r3, ?_, hl⟩
  · have := s.no.low (by rw [s.no.len]; omega) ad e
    exact ec _ (by rw [block_of_add]; omega) (by rw [block_of_add]; omega)
  · rcases s.bk with e | ⟨g, e, hg, hI⟩
    · exact .inl e
    · have hlt := hI.low (by rw [blkS_len]; omega) _ rfl
      refine .inr ⟨g, e, hg, hI.toIsB.to fun ad e j => ?_, fun hp ad e => Nat.lt_of_lt_of_le (hI.low hp ad e) b.size⟩
      cases e
      exact ec _ (by rw [block_of_add]; exact hlt) (by rw [block_of_add]; show g ≠ h + 4; omega)
/-- The closure. -/
def cloV (h : Nat) : Value := .func (.func 36) #[] #[.pointer (some ⟨h + 2, 0, none⟩), .pointer (some ⟨h + 3, 0, none⟩), .pointer (some ⟨h, 0, none⟩), .pointer (some ⟨h + 1, 0, none⟩)]
theorem four_allocs (w : World) (a b c d : Obj) : ((((w.alloc a).alloc b).alloc c).alloc d).heap[w.heap.size]? = some a ∧ ((((w.alloc a).alloc b).alloc c).alloc d).heap[w.heap.size + 1]? = some b ∧ ((((w.alloc a).alloc b).alloc c).alloc d).heap[w.heap.size + 2]? = some c ∧
    ((((w.alloc a).alloc b).alloc c).alloc d).heap[w.heap.size + 3]? = some d ∧ Below w.heap.size w ((((w.alloc a).alloc b).alloc c).alloc d) ∧ ((((w.alloc a).alloc b).alloc c).alloc d).heap.size = w.heap.size + 4 := by
  have s1 : (w.alloc a).heap.size = w.heap.size + 1 := by simp
  have s2 : ((w.alloc a).alloc b).heap.size = w.heap.size + 2 := by simp
  have s3 : (((w.alloc a).alloc b).alloc c).heap.size = w.heap.size + 3 := by simp
  refine ⟨?_, ?_, ?_, ?_, ?_, by simp⟩
  · rw [heap_alloc_old _ _ (by omega), heap_alloc_old _ _ (by omega), heap_alloc_old _ _ (by omega), heap_alloc_new]
  · rw [heap_alloc_old _ _ (by omega), heap_alloc_old _ _ (by omega), ← s1, heap_alloc_new]
  · rw [heap_alloc_old _ _ (by omega), ← s2, heap_alloc_new]
  · rw [← s3, heap_alloc_new]
  · have b1 := (Below.refl w.heap.size w).alloc (Nat.le_refl _) a
    have b2 := b1.alloc b1.size b
    have b3 := b2.alloc b2.size c
    exact b3.alloc b3.size d
set_option maxRecDepth 10000 in
set_option maxHeartbeats 1000000 in
theorem streamOf_any (gc : Nat) (K : Nat → Nat) (A : Option Addr) (c : Nat) (non : List UInt8) (w : World) (hc : Ci w gc K) (hn : IsBB w w.heap.size A 8 c non) :
    Calls Try.prog 20 #[.pointer (some ⟨gc, 0, none⟩), .slice A 8 c] w fun e w' => e = .returned (cloV w.heap.size) ∧ StAt w' w.heap.size gc A c non K (.slice none 0 0) 0 ∧ Below w.heap.size w w' ∧ w'.heap.size = w.heap.size + 4 := by
  have HC := hid hc
  have HN := hid hn
  clear hc hn
  go_enter Try.func20, Try.ntmps20
  go_wp2_with fail
  go_ret
  obtain ⟨r0, r1, r2, r3, hb, hs⟩ := four_allocs w (.cells #[.pointer (some ⟨gc, 0, none⟩)] 22) (.cells #[.slice A 8 c] 26) (.cells #[.slice none 0 0] 26) (.cells #[.int .u64 0] 50)
  have hlt := HC.out.lt
  exact ⟨rfl, ⟨HC.out.onB hb hlt, by rw [row_cell r0 0]; rfl, HN.out.below hb, by rw [row_cell r1 0]; rfl, r2, r3, .inl rfl, hlt⟩, hb, hs⟩
end Go.Proofs.Ytlgabihjfjlhkaa
