/-
  PROVED HERE: what the document's own parser reads: signs behind a part, what holds.
-/
import Derived.Test.YtafidabopcgkhaaDoorRJoin
import Derived.Test.YtafidabopcgkhaaDoorSign
namespace Go.Proofs.YtafidabopcgkhaaDoor
open Go.RowKit

/-- What the document's parser answers. -/
def RSaid (g : Nat) (s : ByteArray) (lo i : Nat) (R : Option (DataW Unit) × List UInt8) (e : Ending) (w' : World) : Prop :=
  ∃ j t m r f, PAt w' g s j f ∧ Pl s j ∧ i ≤ j ∧ Good t ∧ kindT t ≠ 99 ∧ ExA (fun b => lo ≤ b) w' m t (rawV r) ∧ e = .returned (rawV r) ∧ ((f = false ∧ R = (some t, left s j) ∧ i < j ∧ (subs t).length + i ≤ j) ∨ (f = true ∧ R = (none, left s j) ∧ (subs t).length + i ≤ j + 1))
/-- What alt reads at every place with fewer than n bytes left. -/
def RCH (g : Nat) (s : ByteArray) (n : Nat) : Prop := ∀ W i, PAt W g s i false → i ≤ s.size → s.size - i < n → Calls Tryd.prog 21 #[.pointer (some ⟨g, 0, none⟩)] W fun e W' => Kept g W W' ∧ RSaid g s W.heap.size i (altN n (left s i)) e W'
theorem rk_left {s : ByteArray} {i : Nat} (h : i ≤ s.size) : (left s (skip s i) = [] ∧ peekC s (skip s i) false = 0) ∨ ∃ c q, left s (skip s i) = c :: q ∧ peekC s (skip s i) false = max (c.toNat : Int) 1 ∧ left s (skip s i + 1) = q ∧ skip s i < s.size := by
  have hl := skip_le h
  rcases Nat.lt_or_ge (skip s i) s.size with h1 | h1
  · exact .inr ⟨_, _, left_cons h1, peek_cons h1, rfl, h1⟩
  · have he : skip s i = s.size := by omega
    rw [he]
    exact .inl ⟨left_end s, (peek_nil (Nat.le_refl _)).2 (left_end s)⟩
/-- What the loop over signs holds. -/
structure SgnP (g : Nat) (s : ByteArray) (w wr : World) (Eb i j : Nat) (T : DataW Unit × List UInt8) (t : DataW Unit) (m : Nat) (k : Int) (nm : ByteArray) (a : Option Addr) (ln cp : Nat) : Prop where
  pat : PAt wr g s j false
  le : j ≤ s.size
  signs : signsL t (left s j) = T
  good : Good t
  kind : kindT t ≠ 99
  lt : i < j
  wid : (subs t).length + i ≤ j
  kept : Kept g w wr
  zero : wr.heap[w.heap.size]? = some (.cells #[.int .i64 0, .string ⟨#[]⟩, .slice none 0 0] 24 (0, 0))
  var : wr.heap[Eb]? = some (.cells #[.int .i64 k, .string nm, .slice a ln cp] 24 (0, 0))
  eb : w.heap.size < Eb
  ex : ExA (fun b => w.heap.size < b ∧ b ≠ Eb) wr m t (.agg #[.int .i64 k, .string nm, .slice a ln cp])
theorem signp_step {s : ByteArray} {j : Nat} (hj : j ≤ s.size) (t : DataW Unit) {c : UInt8} {q : List UInt8} (hl : left s (skip s j) = c :: q) (hk : signKind c ≠ 0) : signsL t (left s j) = signsL (node (signKind c) ⟨#[]⟩ [t]) q := by
  obtain ⟨P2, q2, q3⟩ := Pl.skip hj
  rw [← signs_skip, ← q3, hl]
  have h32 : c ≠ 32 := by
    have hsk := P2.2
    rw [hl] at hsk
    exact skipL_head _ c q hsk
  rw [signsL, if_neg h32, if_neg hk]
theorem signp_stop {s : ByteArray} {j : Nat} (hj : j ≤ s.size) (t : DataW Unit) (h : left s (skip s j) = [] ∨ ∃ c q, left s (skip s j) = c :: q ∧ signKind c = 0) : signsL t (left s j) = (t, left s (skip s j)) := by
  obtain ⟨P2, q2, q3⟩ := Pl.skip hj
  rw [← signs_skip, ← q3]
  rcases h with h | ⟨c, q, h, h0⟩
  · rw [h]; rfl
  · have h32 : c ≠ 32 := by
      have hsk := P2.2
      rw [h] at hsk
      exact skipL_head _ c q hsk
    rw [h, signsL, if_neg h32, if_pos h0]
theorem SgnP.step {g : Nat} {s : ByteArray} {w wr : World} {Eb i j : Nat} {T : DataW Unit × List UInt8} {t : DataW Unit} {m : Nat} {k : Int} {nm : ByteArray} {a : Option Addr} {ln cp : Nat} (h : SgnP g s w wr Eb i j T t m k nm a ln cp) (hgw : g < w.heap.size) {c : UInt8} {q : List UInt8} (hl : left s (skip s j) = c :: q) (hq : left s (skip s j + 1) = q) (hlt : skip s j < s.size) (hk : signKind c ≠ 0) (K : Int) (hK : signKind c = K) (hK2 : K = 4 ∨ K = 5 ∨ K = 6) {W1 : World} (hO1 : Only g wr W1) (hP1 : PAt W1 g s (skip s j) false) :
    SgnP g s w (((W1.setCell ⟨g, 1, none⟩ (.int .i64 ((skip s j : Nat) + 1))).alloc (.cells #[.int .i64 k, .string nm, .slice a ln cp] 24)).setRow Eb #[.int .i64 K, .string ⟨#[]⟩, .slice (some ⟨W1.heap.size, 0, none⟩) 1 1]) Eb i (skip s j + 1) T (node K ⟨#[]⟩ [t]) (m + 1) K ⟨#[]⟩ (some ⟨W1.heap.size, 0, none⟩) 1 1 := by
  obtain ⟨P2, q2, q3⟩ := Pl.skip h.le
  have hst := signp_step h.le t hl hk
  have hll := h.lt
  have heb := h.eb
  have hbe : Eb < wr.heap.size := (Array.getElem?_eq_some_iff.1 h.var).1
  have hs1 := hO1.size
  obtain ⟨W2, hW2⟩ : ∃ W2, W2 = W1.setCell ⟨g, 1, none⟩ (.int .i64 ((skip s j : Nat) + 1)) := ⟨_, rfl⟩
  have hP2 : PAt W2 g s (skip s j + 1) false := by rw [hW2]; exact hP1.next (skip s j + 1)
  have hs2 : W2.heap.size = W1.heap.size := by rw [hW2]; simp
  rw [← hW2]
  have hblk : ∀ b, b < wr.heap.size → b ≠ g → b ≠ Eb → ((W2.alloc (.cells #[.int .i64 k, .string nm, .slice a ln cp] 24)).setRow Eb #[.int .i64 K, .string ⟨#[]⟩, .slice (some ⟨W1.heap.size, 0, none⟩) 1 1]).heap[b]? = wr.heap[b]? := fun b h1 h2 h3 => by
    rw [setRow_other _ _ _ _ h3, Below.heap_alloc W2 _ b (by omega), hW2, Below.heap_setCell _ _ _ _ h2, hO1.block b h2]
  have hvar2 : (W2.alloc (.cells #[.int .i64 k, .string nm, .slice a ln cp] 24)).heap[Eb]? = some (.cells #[.int .i64 k, .string nm, .slice a ln cp] 24 (0, 0)) := by
    rw [Below.heap_alloc W2 _ Eb (by omega), hW2, Below.heap_setCell _ _ _ _ (by show Eb ≠ g; omega), hO1.block Eb (by omega)]
    exact h.var
  have hnew : ((W2.alloc (.cells #[.int .i64 k, .string nm, .slice a ln cp] 24)).setRow Eb #[.int .i64 K, .string ⟨#[]⟩, .slice (some ⟨W1.heap.size, 0, none⟩) 1 1]).heap[W1.heap.size]? = some (.cells #[.int .i64 k, .string nm, .slice a ln cp] 24 (0, 0)) := by
    rw [setRow_other _ _ _ _ (by omega), ← hs2]
    exact heap_alloc_new W2 _
  have hks := h.kept.size
  refine ⟨(hP2.alloc _).setRow _ _ (by omega), by omega, ?_, Good.of (by intro h; omega), by rw [kindT_node]; omega, by omega, by rw [subs_node, List.length_cons, List.length_nil]; omega, ?_, ?_, ?_, heb, ?_⟩
  · rw [hq, ← hK, ← hst]
    exact h.signs
  · refine ⟨?_, ?_, ?_, by simp; omega, fun b hb hg => (hblk b (by omega) hg (by omega)).trans (h.kept.block b hb hg)⟩
    · rw [hW2]; exact hO1.os.trans h.kept.os
    · rw [hW2]; exact hO1.tape.trans h.kept.tape
    · rw [hW2]; exact hO1.output.trans h.kept.output
  · exact (hblk _ (by omega) (by omega) (by omega)).trans h.zero
  · exact setRow_heap _ _ _ _ _ _ hvar2
  · refine ⟨_, _, _, 1, 1, [t], rfl, rfl, rfl, by omega, .inr ⟨W1.heap.size, 0, rfl, by simp; omega, ⟨by omega, by omega⟩, fun i x hx => ?_⟩⟩
    cases i with
    | zero =>
      obtain rfl : t = x := by simpa using hx
      exact ⟨k, nm, a, ln, cp, cell_of_row _ _ 0 _ _ _ hnew, cell_of_row _ _ 1 _ _ _ hnew, cell_of_row _ _ 2 _ _ _ hnew, ExA.kept (by simp; omega) (fun b hb hA => ⟨hA, hblk b hb (by omega) hA.2⟩) _ _ _ h.ex⟩
    | succ i => simp at hx
end Go.Proofs.YtafidabopcgkhaaDoor
