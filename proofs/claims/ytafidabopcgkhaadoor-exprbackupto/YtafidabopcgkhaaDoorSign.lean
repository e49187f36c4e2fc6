/-
  PROVED HERE: the reader's part, where choices reads what stands in brackets: what it returns and leaves.
-/
import Derived.Test.YtafidabopcgkhaaDoorBare
namespace Go.Proofs.YtafidabopcgkhaaDoor
open Go.RowKit

theorem sign_ix (c : UInt8) : signIx (c.toNat : Int) = -1 ∧ signKind c = 0 ∨ 0 ≤ signIx (c.toNat : Int) ∧ signIx (c.toNat : Int) ≤ 2 ∧ signKind c = 4 + signIx (c.toNat : Int) ∧ signKind c ≠ 0 := by
  unfold signIx signKind
  by_cases h1 : c = 42
  · subst h1; decide
  by_cases h2 : c = 43
  · subst h2; decide
  by_cases h3 : c = 63
  · subst h3; decide
  have n1 : ¬ ((c.toNat : Int) = 42) := fun e => h1 (toNat_eq (n := 42) (by decide) e)
  have n2 : ¬ ((c.toNat : Int) = 43) := fun e => h2 (toNat_eq (n := 43) (by decide) e)
  have n3 : ¬ ((c.toNat : Int) = 63) := fun e => h3 (toNat_eq (n := 63) (by decide) e)
  rw [if_neg n1, if_neg n2, if_neg n3, if_neg h1, if_neg h2, if_neg h3]
  exact .inl ⟨rfl, rfl⟩
theorem sign_range (c : Int) : -1 ≤ signIx c ∧ signIx c ≤ 2 := by
  unfold signIx
  split
  · omega
  · split
    · omega
    · split <;> omega
theorem sign_stop {s : ByteArray} {j : Nat} (hj : Pl s j) (t : DataW Unit) (h : signIx (pk s j) < 0) : signsL t (left s j) = (t, left s j) := by
  rcases pk_left hj.1 with ⟨e, hk, _⟩ | ⟨c, q, e, hk, hq, hlt⟩
  · rw [e]; rfl
  · rw [hk] at h
    have hsk := hj.2
    rw [e] at hsk ⊢
    have h32 : c ≠ 32 := skipL_head _ c q hsk
    rw [signsL, if_neg h32]
    rcases sign_ix c with ⟨_, h0⟩ | ⟨h1, _⟩
    · rw [if_pos h0]
    · omega
theorem sign_step {s : ByteArray} {j : Nat} (hj : Pl s j) (t : DataW Unit) (h : ¬ signIx (pk s j) < 0) : j < s.size ∧ signsL t (left s j) = signsL (node (4 + signIx (pk s j)) ⟨#[]⟩ [t]) (left s (skip s (j + 1))) := by
  rcases pk_left hj.1 with ⟨e, hk, _⟩ | ⟨c, q, e, hk, hq, hlt⟩
  · rw [hk] at h
    exact absurd (by decide) h
  · refine ⟨hlt, ?_⟩
    obtain ⟨P2, q2, q3⟩ := Pl.skip (s := s) (i := j + 1) (by omega)
    have hsk := hj.2
    rw [hk] at h ⊢
    rw [q3, hq]
    rw [e] at hsk ⊢
    have h32 : c ≠ 32 := skipL_head _ c q hsk
    rw [signsL, if_neg h32, signs_skip]
    rcases sign_ix c with ⟨h0, _⟩ | ⟨_, _, h1, h2⟩
    · omega
    · rw [if_neg h2, h1]
/-- What the loop over signs holds. -/
structure Sgn (g : Nat) (s : ByteArray) (w wr : World) (Eb i j : Nat) (T : DataW Unit × List UInt8) (t : DataW Unit) (m : Nat) (k : Int) (nm : ByteArray) (a : Option Addr) (ln cp : Nat) : Prop where
  rat : RAt wr g s j
  pl : Pl s j
  signs : signsL t (left s j) = T
  good : Good t
  lt : i < j
  wid : (subs t).length + i ≤ j
  kept : Kept g w wr
  zero : wr.heap[w.heap.size]? = some (.cells #[.int .i64 0, .string ⟨#[]⟩, .slice none 0 0] 24 (0, 0))
  var : wr.heap[Eb]? = some (.cells #[.int .i64 k, .string nm, .slice a ln cp] 24 (0, 0))
  eb : w.heap.size < Eb
  ex : ExA (fun b => w.heap.size < b ∧ b ≠ Eb) wr m t (.agg #[.int .i64 k, .string nm, .slice a ln cp])
theorem Sgn.step {g : Nat} {s : ByteArray} {w wr : World} {Eb i j : Nat} {T : DataW Unit × List UInt8} {t : DataW Unit} {m : Nat} {k : Int} {nm : ByteArray} {a : Option Addr} {ln cp : Nat} (h : Sgn g s w wr Eb i j T t m k nm a ln cp) (hgw : g < w.heap.size) (hsg : ¬ signIx (pk s j) < 0) {W1 W2 : World} (hO1 : Only g wr W1)
    (hO2 : Only g ((W1.alloc (.cells #[.int .i64 k, .string nm, .slice a ln cp] 24)).setRow Eb #[.int .i64 (4 + signIx (pk s j)), .string ⟨#[]⟩, .slice (some ⟨W1.heap.size, 0, none⟩) 1 1]) W2) (hR : RAt W2 g s (skip s (j + 1))) :
    Sgn g s w W2 Eb i (skip s (j + 1)) T (node (4 + signIx (pk s j)) ⟨#[]⟩ [t]) (m + 1) (4 + signIx (pk s j)) ⟨#[]⟩ (some ⟨W1.heap.size, 0, none⟩) 1 1 := by
  obtain ⟨hj, hst⟩ := sign_step h.pl t hsg
  obtain ⟨P2, q2, q3⟩ := Pl.skip (s := s) (i := j + 1) (by omega)
  have hlt := h.lt
  have heb := h.eb
  have hbe : Eb < wr.heap.size := (Array.getElem?_eq_some_iff.1 h.var).1
  have hs1 := hO1.size
  have hs2 : W2.heap.size = W1.heap.size + 1 := by rw [hO2.size]; simp
  have hsg2 := sign_range (pk s j)
  have hblk : ∀ b, b < wr.heap.size → b ≠ g → b ≠ Eb → W2.heap[b]? = wr.heap[b]? := fun b h1 h2 h3 => by
    rw [hO2.block b h2, setRow_other _ _ _ _ h3, Below.heap_alloc W1 _ b (by omega), hO1.block b h2]
  have hnew : W2.heap[W1.heap.size]? = some (.cells #[.int .i64 k, .string nm, .slice a ln cp] 24 (0, 0)) := by
    rw [hO2.block _ (by omega), setRow_other _ _ _ _ (by omega)]
    exact heap_alloc_new W1 _
  refine ⟨hR, P2, by rw [← hst]; exact h.signs, Good.of (by intro h; omega), by omega, by rw [subs_node, List.length_cons, List.length_nil]; omega, ?_, ?_, ?_, heb, ?_⟩
  · have hk := h.kept
    have hks := hk.size
    exact ⟨hO2.os.trans (hO1.os.trans hk.os), hO2.tape.trans (hO1.tape.trans hk.tape), hO2.output.trans (hO1.output.trans hk.output), by omega, fun b hb hg => (hblk b (by omega) hg (by omega)).trans (hk.block b hb hg)⟩
  · exact (hblk _ (by have := h.kept.size; omega) (by omega) (by omega)).trans h.zero
  · rw [hO2.block _ (by omega)]
    exact setRow_heap _ _ _ _ _ _ ((Below.heap_alloc W1 _ Eb (by omega)).trans ((hO1.block _ (by omega)).trans h.var))
  · refine ⟨_, _, _, 1, 1, [t], rfl, rfl, rfl, by omega, .inr ⟨W1.heap.size, 0, rfl, by omega, ⟨by have := h.kept.size; omega, by omega⟩, fun i x hx => ?_⟩⟩
    cases i with
    | zero =>
      obtain rfl : t = x := by simpa using hx
      exact ⟨k, nm, a, ln, cp, cell_of_row W2 _ 0 _ _ _ hnew, cell_of_row W2 _ 1 _ _ _ hnew, cell_of_row W2 _ 2 _ _ _ hnew, ExA.kept (by omega) (fun b hb hA => ⟨hA, hblk b hb (by omega) hA.2⟩) _ _ _ h.ex⟩
    | succ i => simp at hx
end Go.Proofs.YtafidabopcgkhaaDoor
