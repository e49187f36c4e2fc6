/-
  PROVED HERE: the plain parser's part in the steps of the document's own parser.
-/
import Derived.Test.YtafidabopcgkhaaDoorRSgn
namespace Go.Proofs.YtafidabopcgkhaaDoor
open Go.RowKit

theorem Pl.stay {s : ByteArray} {j : Nat} (h : Pl s j) : Go.Proofs.YtafidabopcgkhaaDoor.skip s j = j := by
  obtain ⟨p1, p2, p3⟩ := Pl.skip h.1
  rw [h.2] at p3
  have h1 := left_length s (Go.Proofs.YtafidabopcgkhaaDoor.skip s j)
  have h2 := left_length s j
  rw [p3, h2] at h1
  have := p1.1
  have := h.1
  omega
theorem rpart_name {s : ByteArray} {i : Nat} (h : i ≤ s.size) (alt : List UInt8 → Option (DataW Unit) × List UInt8) {c : UInt8} {q : List UInt8} (hl : left s (skip s i) = c :: q) (hc : letter c = true) {e : Nat} (he : e = skip s i + ((left s (skip s i)).takeWhile letter).length) :
    partL alt (left s i) = (some (signsL (node 1 (s.extract (skip s i) e) []) (left s e)).1, (signsL (node 1 (s.extract (skip s i) e) []) (left s e)).2) := by
  obtain ⟨P2, q2, q3⟩ := Pl.skip h
  have h1 : s.extract (skip s i) e = ⟨((left s (skip s i)).takeWhile letter).toArray⟩ := by
    have := extract_bts s (skip s i) ((left s (skip s i)).takeWhile letter).length
    rw [(take_while (p := letter) (left s (skip s i))).1] at this
    rw [he]
    have h3 := congrArg (fun l : List UInt8 => (⟨l.toArray⟩ : ByteArray)) this
    simpa only [of_bts] using h3
  have h2 : left s e = (left s (skip s i)).dropWhile letter := by
    rw [he, left_drop, (take_while (p := letter) (left s (skip s i))).2]
  rw [h1, h2, ← part_skip, ← q3]
  unfold partL
  rw [P2.2, hl]
  simp only [hc, if_true]
theorem rpart_open {s : ByteArray} {i n : Nat} (h : i ≤ s.size) {q : List UInt8} (hl : left s (skip s i) = 40 :: q) :
    partL (altN n) (left s i) = match altN n q with
      | (none, q') => (none, q')
      | (some _, []) => (none, [])
      | (some t, d :: q') => if d = 41 then (some (signsL t q').1, (signsL t q').2) else (none, d :: q') := by
  obtain ⟨P2, q2, q3⟩ := Pl.skip h
  rw [← part_skip, ← q3]
  unfold partL
  rw [P2.2, hl]
  simp only [show letter 40 = false from by decide, Bool.false_eq_true, if_false, if_true]
  rfl
theorem rpart_else {s : ByteArray} {i n : Nat} (h : i ≤ s.size) (hl : left s (skip s i) = [] ∨ ∃ c q, left s (skip s i) = c :: q ∧ letter c = false ∧ c ≠ 40) : partL (altN n) (left s i) = (none, left s (skip s i)) := by
  obtain ⟨P2, q2, q3⟩ := Pl.skip h
  rw [← part_skip, ← q3]
  unfold partL
  rw [P2.2]
  rcases hl with hl | ⟨c, q, hl, h1, h2⟩
  · rw [hl]
  · rw [hl]
    simp only [h1, Bool.false_eq_true, if_false, if_neg h2]
theorem rpart_shut {s : ByteArray} {i n j : Nat} (h : i ≤ s.size) {q : List UInt8} (hl : left s (skip s i) = 40 :: q) {t : DataW Unit} (ha : altN n q = (some t, left s j)) {q' : List UInt8} (hj : left s j = 41 :: q') : partL (altN n) (left s i) = (some (signsL t q').1, (signsL t q').2) := by
  rw [rpart_open h hl, ha, hj]
  simp only [if_true]
theorem rpart_none {s : ByteArray} {i n j : Nat} (h : i ≤ s.size) {q : List UInt8} (hl : left s (skip s i) = 40 :: q) (ha : altN n q = (none, left s j) ∨ ∃ t, altN n q = (some t, left s j) ∧ ∀ q', left s j ≠ 41 :: q') : partL (altN n) (left s i) = (none, left s j) := by
  rw [rpart_open h hl]
  rcases ha with ha | ⟨t, ha, hn⟩
  · rw [ha]
  · rw [ha]
    cases hj : left s j with
    | nil => rfl
    | cons d q' =>
      simp only
      rw [if_neg (by rintro rfl; exact hn q' hj)]
theorem max_one {c : UInt8} {n : Nat} (hn : 1 < n) (hn2 : n < 256) : (max (c.toNat : Int) 1 = n) ↔ c = UInt8.ofNat n := by
  constructor
  · intro h
    exact toNat_eq hn2 (by omega)
  · rintro rfl
    rw [UInt8.toNat_ofNat_of_lt' hn2]
    omega
end Go.Proofs.YtafidabopcgkhaaDoor
