/-
  AES with 256-bit keys as plain functions: a block is told by its bytes' places (byte 4 c + r in row r, column c); a key's words; rounds; and that decrypting undoes encrypting.
-/
import Derived.Test.YtlgabihjfjlhkaaGf
namespace Go.Proofs.Ytlgabihjfjlhkaa

abbrev Blk16 := Nat → Nat
def Low (f : Blk16) : Prop := ∀ j, j < 16 → f j < 256
def Same (f g : Blk16) : Prop := ∀ j, j < 16 → f j = g j
def subsF (f : Blk16) : Blk16 := fun j => subN (f j)
def backsF (f : Blk16) : Blk16 := fun j => backN (f j)
def rowsF (f : Blk16) : Blk16 := fun j => f ((j + 4 * (j % 4)) % 16)
def unrowsF (f : Blk16) : Blk16 := fun j => f ((j + 12 * (j % 4)) % 16)
/-- The place of row r + d in the column of place j. -/
def inCol (j d : Nat) : Nat := 4 * (j / 4) + (j % 4 + d) % 4
def mixF (f : Blk16) : Blk16 := fun j => mixN (f j) (f (inCol j 1)) (f (inCol j 2)) (f (inCol j 3))
def unmixF (f : Blk16) : Blk16 := fun j => unmixN (f j) (f (inCol j 1)) (f (inCol j 2)) (f (inCol j 3))
def addF (f k : Blk16) : Blk16 := fun j => f j ^^^ k j

theorem inCol_lt (j d : Nat) (h : j < 16) : inCol j d < 16 := by unfold inCol; omega
theorem inCol_in (j d e : Nat) (_h : j < 16) : inCol (inCol j d) e = inCol j (d + e) := by unfold inCol; omega
theorem inCol_four (j : Nat) : inCol j 4 = j := by unfold inCol; omega
theorem inCol_mod (j d : Nat) : inCol j (d + 4) = inCol j d := by unfold inCol; omega
theorem Low.subs {f : Blk16} (h : Low f) : Low (subsF f) := fun j hj => sub_lt _ (h j hj)
theorem Low.backs {f : Blk16} (h : Low f) : Low (backsF f) := fun j hj => back_lt _ (h j hj)
theorem Low.rows {f : Blk16} (h : Low f) : Low (rowsF f) := fun j _ => h _ (by omega)
theorem Low.unrows {f : Blk16} (h : Low f) : Low (unrowsF f) := fun j _ => h _ (by omega)
theorem Low.mix {f : Blk16} (h : Low f) : Low (mixF f) := fun j hj => mixN_lt _ _ _ _ (h j hj) (h _ (inCol_lt j 1 hj)) (h _ (inCol_lt j 2 hj)) (h _ (inCol_lt j 3 hj))
theorem Low.unmix {f : Blk16} : Low (unmixF f) := fun _ _ => unmixN_lt _ _ _ _
theorem Low.add {f k : Blk16} (h : Low f) (hk : Low k) : Low (addF f k) := fun j hj => xor8 (h j hj) (hk j hj)
theorem Same.refl (f : Blk16) : Same f f := fun _ _ => rfl
theorem Same.symm {f g : Blk16} (h : Same f g) : Same g f := fun j hj => (h j hj).symm
theorem Same.trans {f g k : Blk16} (h : Same f g) (h2 : Same g k) : Same f k := fun j hj => (h j hj).trans (h2 j hj)
theorem Same.low {f g : Blk16} (h : Same f g) (hf : Low f) : Low g := fun j hj => by rw [← h j hj]; exact hf j hj
theorem Same.subs {f g : Blk16} (h : Same f g) : Same (subsF f) (subsF g) := fun j hj => by unfold subsF; rw [h j hj]
theorem Same.backs {f g : Blk16} (h : Same f g) : Same (backsF f) (backsF g) := fun j hj => by unfold backsF; rw [h j hj]
theorem Same.rows {f g : Blk16} (h : Same f g) : Same (rowsF f) (rowsF g) := fun j _ => h _ (by omega)
theorem Same.unrows {f g : Blk16} (h : Same f g) : Same (unrowsF f) (unrowsF g) := fun j _ => h _ (by omega)
theorem Same.mix {f g : Blk16} (h : Same f g) : Same (mixF f) (mixF g) := fun j hj => by
  unfold mixF; rw [h j hj, h _ (inCol_lt j 1 hj), h _ (inCol_lt j 2 hj), h _ (inCol_lt j 3 hj)]
theorem Same.unmix {f g : Blk16} (h : Same f g) : Same (unmixF f) (unmixF g) := fun j hj => by
  unfold unmixF; rw [h j hj, h _ (inCol_lt j 1 hj), h _ (inCol_lt j 2 hj), h _ (inCol_lt j 3 hj)]
theorem Same.add {f g : Blk16} (k : Blk16) (h : Same f g) : Same (addF f k) (addF g k) := fun j hj => by unfold addF; rw [h j hj]

theorem add_add (f k : Blk16) : Same (addF (addF f k) k) f := fun j _ => by
  show (f j ^^^ k j) ^^^ k j = f j
  rw [Nat.xor_assoc, Nat.xor_self, Nat.xor_zero]
theorem backs_subs {f : Blk16} (h : Low f) : Same (backsF (subsF f)) f := fun j hj => back_sub _ (h j hj)
theorem subs_backs {f : Blk16} (h : Low f) : Same (subsF (backsF f)) f := fun j hj => sub_back _ (h j hj)
theorem unrows_rows (f : Blk16) : Same (unrowsF (rowsF f)) f := fun j hj => by
  show f (((j + 12 * (j % 4)) % 16 + 4 * ((j + 12 * (j % 4)) % 16 % 4)) % 16) = f j
  congr 1; omega
theorem rows_unrows (f : Blk16) : Same (rowsF (unrowsF f)) f := fun j hj => by
  show f (((j + 4 * (j % 4)) % 16 + 12 * ((j + 4 * (j % 4)) % 16 % 4)) % 16) = f j
  congr 1; omega
theorem unmix_mixF {f : Blk16} (h : Low f) : Same (unmixF (mixF f)) f := fun j hj => by
  have e := unmix_mix (f j) (f (inCol j 1)) (f (inCol j 2)) (f (inCol j 3)) (h j hj) (h _ (inCol_lt j 1 hj)) (h _ (inCol_lt j 2 hj)) (h _ (inCol_lt j 3 hj))
  unfold unmixF mixF
  simp only [inCol_in j _ _ hj, Nat.reduceAdd, inCol_four, show inCol j 5 = inCol j 1 from inCol_mod j 1, show inCol j 6 = inCol j 2 from inCol_mod j 2]
  exact e
theorem mix_unmixF {f : Blk16} (h : Low f) : Same (mixF (unmixF f)) f := fun j hj => by
  have e := mix_unmix (f j) (f (inCol j 1)) (f (inCol j 2)) (f (inCol j 3)) (h j hj) (h _ (inCol_lt j 1 hj)) (h _ (inCol_lt j 2 hj)) (h _ (inCol_lt j 3 hj))
  unfold mixF unmixF
  simp only [inCol_in j _ _ hj, Nat.reduceAdd, inCol_four, show inCol j 5 = inCol j 1 from inCol_mod j 1, show inCol j 6 = inCol j 2 from inCol_mod j 2]
  exact e

/-- One round with mixing; and back. -/
def rndF (k f : Blk16) : Blk16 := addF (mixF (rowsF (subsF f))) k
def unrndF (k f : Blk16) : Blk16 := backsF (unrowsF (unmixF (addF f k)))
theorem unrnd_rnd {k f : Blk16} (h : Low f) : Same (unrndF k (rndF k f)) f :=
  (((((add_add (mixF (rowsF (subsF f))) k).unmix).trans (unmix_mixF h.subs.rows)).unrows).trans (unrows_rows _)).backs.trans (backs_subs h)
theorem rnd_unrnd {k f : Blk16} (h : Low f) (hk : Low k) : Same (rndF k (unrndF k f)) f := by
  have h1 : Low (addF f k) := h.add hk
  have h2 : Low (unmixF (addF f k)) := Low.unmix
  have e1 : Same (rowsF (subsF (unrndF k f))) (unmixF (addF f k)) := (subs_backs h2.unrows).rows.trans (rows_unrows _)
  exact ((e1.mix.trans (mix_unmixF h1)).add k).trans (add_add f k)
/-- r rounds with mixing, by round keys 1 to r. -/
def rndsF (k : Nat → Blk16) (f : Blk16) : Nat → Blk16
  | 0 => f
  | r + 1 => rndF (k (r + 1)) (rndsF k f r)
/-- Back through rounds r to 1. -/
def unrndsF (k : Nat → Blk16) : Nat → Blk16 → Blk16
  | 0, f => f
  | r + 1, f => unrndsF k r (unrndF (k (r + 1)) f)
def encF (k : Nat → Blk16) (f : Blk16) : Blk16 := addF (rowsF (subsF (rndsF k (addF f (k 0)) 13))) (k 14)
def decF (k : Nat → Blk16) (f : Blk16) : Blk16 := addF (unrndsF k 13 (backsF (unrowsF (addF f (k 14))))) (k 0)
theorem Same.rnd {f g : Blk16} (k : Blk16) (h : Same f g) : Same (rndF k f) (rndF k g) := (h.subs.rows.mix).add k
theorem Same.unrnd {f g : Blk16} (k : Blk16) (h : Same f g) : Same (unrndF k f) (unrndF k g) := ((h.add k).unmix.unrows).backs
theorem Same.rnds {f g : Blk16} (k : Nat → Blk16) (h : Same f g) : ∀ r, Same (rndsF k f r) (rndsF k g r)
  | 0 => h
  | r + 1 => (Same.rnds k h r).rnd _
theorem Same.unrnds {k : Nat → Blk16} : ∀ (r : Nat) {f g : Blk16}, Same f g → Same (unrndsF k r f) (unrndsF k r g)
  | 0, _, _, h => h
  | r + 1, _, _, h => Same.unrnds r (h.unrnd _)
theorem Low.rnd {k f : Blk16} (h : Low f) (hk : Low k) : Low (rndF k f) := h.subs.rows.mix.add hk
theorem Low.unrnd {k f : Blk16} : Low (unrndF k f) := (Low.unmix.unrows).backs
theorem Low.rnds {k : Nat → Blk16} {f : Blk16} (h : Low f) (hk : ∀ r, Low (k r)) : ∀ r, Low (rndsF k f r)
  | 0 => h
  | r + 1 => (Low.rnds h hk r).rnd (hk _)
theorem Low.unrnds {k : Nat → Blk16} : ∀ (r : Nat) {f : Blk16}, Low f → Low (unrndsF k r f)
  | 0, _, h => h
  | r + 1, _, _ => Low.unrnds r Low.unrnd
theorem unrnds_rnds {k : Nat → Blk16} {f : Blk16} (h : Low f) (hk : ∀ r, Low (k r)) : ∀ r, Same (unrndsF k r (rndsF k f r)) f
  | 0 => Same.refl f
  | r + 1 => (Same.unrnds r (unrnd_rnd (Low.rnds h hk r))).trans (unrnds_rnds h hk r)
theorem rnds_unrnds {k : Nat → Blk16} (hk : ∀ r, Low (k r)) : ∀ (r : Nat) {f : Blk16}, Low f → Same (rndsF k (unrndsF k r f) r) f
  | 0, f, _ => Same.refl f
  | r + 1, f, h => by
    show Same (rndF (k (r + 1)) (rndsF k (unrndsF k r (unrndF (k (r + 1)) f)) r)) f
    exact ((rnds_unrnds hk r (f := unrndF (k (r + 1)) f) Low.unrnd).rnd _).trans (rnd_unrnd h (hk _))
theorem Low.enc {k : Nat → Blk16} {f : Blk16} (h : Low f) (hk : ∀ r, Low (k r)) : Low (encF k f) := ((Low.rnds (h.add (hk 0)) hk 13).subs.rows).add (hk 14)
theorem Low.dec {k : Nat → Blk16} {f : Blk16} (h : Low f) (hk : ∀ r, Low (k r)) : Low (decF k f) := (Low.unrnds 13 ((h.add (hk 14)).unrows.backs)).add (hk 0)
theorem Same.enc {k : Nat → Blk16} {f g : Blk16} (h : Same f g) : Same (encF k f) (encF k g) := ((Same.rnds k (h.add _) 13).subs.rows).add _
theorem Same.dec {k : Nat → Blk16} {f g : Blk16} (h : Same f g) : Same (decF k f) (decF k g) := (Same.unrnds 13 ((h.add _).unrows.backs)).add _
/-- Decrypt undoes Encrypt. -/
theorem dec_enc {k : Nat → Blk16} {f : Blk16} (h : Low f) (hk : ∀ r, Low (k r)) : Same (decF k (encF k f)) f := by
  have h0 := Low.rnds (h.add (hk 0)) hk 13
  have e1 : Same (backsF (unrowsF (addF (encF k f) (k 14)))) (rndsF k (addF f (k 0)) 13) :=
    (((add_add (rowsF (subsF (rndsF k (addF f (k 0)) 13))) (k 14)).unrows).trans (unrows_rows _)).backs.trans (backs_subs h0)
  exact (((Same.unrnds 13 e1).trans (unrnds_rnds (h.add (hk 0)) hk 13)).add (k 0)).trans (add_add f (k 0))
/-- Encrypt undoes Decrypt. -/
theorem enc_dec {k : Nat → Blk16} {f : Blk16} (h : Low f) (hk : ∀ r, Low (k r)) : Same (encF k (decF k f)) f := by
  have hl : Low (backsF (unrowsF (addF f (k 14)))) := (h.add (hk 14)).unrows.backs
  have e1 : Same (rndsF k (addF (decF k f) (k 0)) 13) (backsF (unrowsF (addF f (k 14)))) :=
    (Same.rnds k (add_add _ (k 0)) 13).trans (rnds_unrnds hk 13 hl)
  have e2 : Same (rowsF (subsF (rndsF k (addF (decF k f) (k 0)) 13))) (addF f (k 14)) :=
    ((e1.subs.trans (subs_backs (h.add (hk 14)).unrows)).rows).trans (rows_unrows _)
  exact (e2.add (k 14)).trans (add_add f (k 14))
/-- Unlike blocks have unlike answers. -/
theorem enc_inj {k : Nat → Blk16} {f g : Blk16} (hf : Low f) (hg : Low g) (hk : ∀ r, Low (k r)) (h : Same (encF k f) (encF k g)) : Same f g :=
  (dec_enc hf hk).symm.trans ((Same.dec h).trans (dec_enc hg hk))

/-- 2 to the i by Times. -/
def powX : Nat → Nat
  | 0 => 1
  | i + 1 => xtN (powX i)
/-- Byte j of word i of a key of 32 bytes. -/
def nextW8 (key : Nat → Nat) (w : Nat → Nat → Nat) (i j : Nat) : Nat :=
  if i < 8 then key (4 * i + j)
  else w (i - 8) j ^^^ (if i % 8 = 0 then subN (w (i - 1) ((j + 1) % 4)) ^^^ (if j = 0 then powX (i / 8 - 1) else 0) else if i % 8 = 4 then subN (w (i - 1) j) else w (i - 1) j)
/-- The first n words, byte by byte. -/
def wordsF (key : Nat → Nat) : Nat → Nat → Nat → Nat
  | 0, _, _ => 0
  | n + 1, i, j => if i = n then nextW8 key (wordsF key n) n j else wordsF key n i j
def wordF (key : Nat → Nat) (i j : Nat) : Nat := wordsF key (i + 1) i j
theorem wordsF_stay (key : Nat → Nat) (i j : Nat) : ∀ n, i < n → wordsF key n i j = wordF key i j
  | 0, h => by omega
  | n + 1, h => by
    by_cases e : i = n
    · subst e; rfl
    · show (if i = n then _ else _) = _
      rw [if_neg e]
      exact wordsF_stay key i j n (by omega)
theorem wordF_low (key : Nat → Nat) (i j : Nat) (h : i < 8) : wordF key i j = key (4 * i + j) := by
  show (if i = i then _ else _) = _
  rw [if_pos rfl]
  unfold nextW8
  rw [if_pos h]
theorem wordF_high (key : Nat → Nat) (i j : Nat) (h : 8 ≤ i) :
    wordF key i j = wordF key (i - 8) j ^^^ (if i % 8 = 0 then subN (wordF key (i - 1) ((j + 1) % 4)) ^^^ (if j = 0 then powX (i / 8 - 1) else 0) else if i % 8 = 4 then subN (wordF key (i - 1) j) else wordF key (i - 1) j) := by
  show (if i = i then _ else _) = _
  rw [if_pos rfl]
  unfold nextW8
  rw [if_neg (by omega), wordsF_stay key (i - 8) j i (by omega), wordsF_stay key (i - 1) _ i (by omega), wordsF_stay key (i - 1) j i (by omega)]
def keyF (key : Nat → Nat) (r : Nat) : Blk16 := fun j => wordF key (4 * r + j / 4) (j % 4)
end Go.Proofs.Ytlgabihjfjlhkaa
