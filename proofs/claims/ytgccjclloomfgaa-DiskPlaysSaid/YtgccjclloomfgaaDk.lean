/-
  A disk as plain data, after the document: the file, the old file, the floor; what an operation, and a crash, make of it.
-/
namespace Go.Proofs.Ytgccjclloomfgaa

/-- armed, fails: the number and 1; 0: not. -/
structure Dk where
  most : Nat
  now : List UInt8
  old : List UInt8
  floor : Nat
  down : Bool
  armed : Nat
  fails : Nat
  err : Nat
/-- May an operation be? The disk then, and 0 or the error. -/
def Dk.op (d : Dk) : Dk × Nat :=
  if d.down then (d, 11)
  else if d.armed = 1 then ({ d with down := true }, 11)
  else if d.fails = 2 then ({ d with armed := d.armed - 1, fails := 0 }, d.err)
  else ({ d with armed := d.armed - 1, fails := d.fails - (if d.fails > 2 then 1 else 0) }, 0)
def Dk.app (d : Dk) (b : List UInt8) : Dk × Nat :=
  if d.op.2 ≠ 0 then d.op
  else if d.now.length + b.length > d.most then (d.op.1, 5)
  else ({ d.op.1 with now := d.now ++ b }, 0)
def Dk.syn (d : Dk) : Dk × Nat :=
  if d.op.2 ≠ 0 then d.op else ({ d.op.1 with old := d.now, floor := d.now.length }, 0)
def Dk.trunc (d : Dk) (n : Nat) : Dk × Nat :=
  if d.now.length < n then (d, 2)
  else if d.op.2 ≠ 0 then d.op else ({ d.op.1 with now := d.now.take n, floor := min d.floor n }, 0)
/-- What a crash that keeps k bytes leaves of the file. -/
def leftK (now : List UInt8) (floor k : Nat) : List UInt8 := now.take (floor + k)
/-- Where the last sector's bytes from the floor on begin. -/
def junkFrom (floor len : Nat) : Nat := max floor (512 * ((len - 1) / 512))
def junked (l : List UInt8) (floor : Nat) (junk : List UInt8) : List UInt8 :=
  if junk.length = 0 then l
  else (List.range l.length).map (fun i => if junkFrom floor l.length ≤ i then junk.getD ((i - junkFrom floor l.length) % junk.length) 0 else l.getD i 0)
def Dk.crash (d : Dk) (keep : Int) (junk : List UInt8) : Dk :=
  let l := if keep < 0 then d.old else junked (leftK d.now d.floor keep.toNat) d.floor junk
  { d with now := l, old := l, floor := l.length, down := false, armed := 0, fails := 0 }
/-- The bytes below the floor are the same in both. -/
structure Dk.Ok (d : Dk) : Prop where
  fn : d.floor ≤ d.now.length
  fo : d.floor ≤ d.old.length
  same : d.now.take d.floor = d.old.take d.floor
  mx : d.now.length ≤ d.most
  mo : d.old.length ≤ d.most
  m4 : d.most ≤ 4194304
  fa : d.fails ≠ 1
theorem op_fails (d : Dk) (h : d.fails ≠ 1) : d.op.1.fails ≠ 1 := by
  unfold Dk.op
  split
  · exact h
  · split
    · exact h
    · split
      · show (0 : Nat) ≠ 1; decide
      · rename_i h2
        show d.fails - (if d.fails > 2 then 1 else 0) ≠ 1
        split <;> omega
theorem op_now (d : Dk) : d.op.1.now = d.now ∧ d.op.1.old = d.old ∧ d.op.1.floor = d.floor ∧ d.op.1.most = d.most := by
  unfold Dk.op
  split
  · exact ⟨rfl, rfl, rfl, rfl⟩
  · split
    · exact ⟨rfl, rfl, rfl, rfl⟩
    · split <;> exact ⟨rfl, rfl, rfl, rfl⟩
theorem Dk.Ok.op {d : Dk} (h : d.Ok) : d.op.1.Ok := by
  obtain ⟨e1, e2, e3, e4⟩ := op_now d
  exact ⟨by rw [e1, e3]; exact h.fn, by rw [e2, e3]; exact h.fo, by rw [e1, e2, e3]; exact h.same, by rw [e1, e4]; exact h.mx, by rw [e2, e4]; exact h.mo, by rw [e4]; exact h.m4, op_fails d h.fa⟩
theorem Dk.Ok.app {d : Dk} (h : d.Ok) (b : List UInt8) : (d.app b).1.Ok := by
  obtain ⟨e1, e2, e3, e4⟩ := op_now d
  unfold Dk.app
  split
  · exact h.op
  · split
    · exact h.op
    · rename_i _ hm
      refine ⟨?_, by show d.op.1.floor ≤ d.op.1.old.length; rw [e2, e3]; exact h.fo, ?_, ?_, by show d.op.1.old.length ≤ d.op.1.most; rw [e2, e4]; exact h.mo, by show d.op.1.most ≤ _; rw [e4]; exact h.m4, op_fails d h.fa⟩
      · show d.op.1.floor ≤ (d.now ++ b).length
        rw [e3, List.length_append]; have := h.fn; omega
      · show (d.now ++ b).take d.op.1.floor = d.op.1.old.take d.op.1.floor
        rw [e2, e3, List.take_append_of_le_length h.fn]; exact h.same
      · show (d.now ++ b).length ≤ d.op.1.most
        rw [e4, List.length_append]; omega
theorem Dk.Ok.syn {d : Dk} (h : d.Ok) : d.syn.1.Ok := by
  obtain ⟨e1, e2, e3, e4⟩ := op_now d
  unfold Dk.syn
  split
  · exact h.op
  · exact ⟨by show d.now.length ≤ d.op.1.now.length; rw [e1]; exact Nat.le_refl _, Nat.le_refl _, by show d.op.1.now.take _ = _; rw [e1], by show d.op.1.now.length ≤ d.op.1.most; rw [e1, e4]; exact h.mx, by show d.now.length ≤ d.op.1.most; rw [e4]; exact h.mx, by show d.op.1.most ≤ _; rw [e4]; exact h.m4, op_fails d h.fa⟩
theorem Dk.Ok.trunc {d : Dk} (h : d.Ok) (n : Nat) : (d.trunc n).1.Ok := by
  obtain ⟨e1, e2, e3, e4⟩ := op_now d
  unfold Dk.trunc
  split
  · exact h
  · split
    · exact h.op
    · rename_i hn _
      refine ⟨?_, ?_, ?_, ?_, by show d.op.1.old.length ≤ d.op.1.most; rw [e2, e4]; exact h.mo, by show d.op.1.most ≤ _; rw [e4]; exact h.m4, op_fails d h.fa⟩
      · show min d.floor n ≤ (d.now.take n).length
        rw [List.length_take]; have := h.fn; omega
      · show min d.floor n ≤ d.op.1.old.length
        rw [e2]; have := h.fo; omega
      · show (d.now.take n).take (min d.floor n) = d.op.1.old.take (min d.floor n)
        rw [e2, List.take_take, show min (min d.floor n) n = min (min d.floor n) d.floor by omega, ← List.take_take, h.same, List.take_take]
        congr 1; omega
      · show (d.now.take n).length ≤ d.op.1.most
        rw [e4, List.length_take]; have := h.mx; omega
theorem junked_len (l : List UInt8) (floor : Nat) (junk : List UInt8) : (junked l floor junk).length = l.length := by
  unfold junked; split <;> simp
/-- A byte of what a crash leaves is the file's, but in the last sector, from the floor on. -/
theorem junked_get (l : List UInt8) (floor : Nat) (junk : List UInt8) (i : Nat) (h : i < (junked l floor junk).length) (hk : junk.length = 0 ∨ i < junkFrom floor l.length) : (junked l floor junk)[i] = l[i]'(by rw [junked_len] at h; exact h) := by
  have hl : i < l.length := by rw [junked_len] at h; exact h
  have e : (junked l floor junk)[i]? = l[i]? := by
    unfold junked
    split
    · rfl
    · rename_i hj
      rw [List.getElem?_map, List.getElem?_range hl]
      simp only [Option.map_some]
      rw [if_neg (by rcases hk with h0 | h0 <;> omega), List.getD_eq_getElem?_getD, List.getElem?_eq_getElem hl]
      rfl
  rw [List.getElem?_eq_getElem h, List.getElem?_eq_getElem hl] at e
  exact Option.some.inj e
theorem junk_place (floor len i : Nat) (hi : i < len) : (floor ≤ i ∧ i / 512 = (len - 1) / 512) ↔ junkFrom floor len ≤ i := by
  unfold junkFrom
  constructor
  · rintro ⟨h1, h2⟩; omega
  · intro h
    exact ⟨by omega, by omega⟩
theorem Dk.Ok.crash {d : Dk} (h : d.Ok) (k : Int) (j : List UInt8) : (d.crash k j).Ok := by
  have hl : (if k < 0 then d.old else junked (leftK d.now d.floor k.toNat) d.floor j).length ≤ d.most := by
    split
    · exact h.mo
    · rw [junked_len]; unfold leftK; rw [List.length_take]; have := h.mx; omega
  exact ⟨Nat.le_refl _, Nat.le_refl _, rfl, hl, hl, h.m4, by show (0 : Nat) ≠ 1; decide⟩
end Go.Proofs.Ytgccjclloomfgaa
