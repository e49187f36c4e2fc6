/-
  PROVED HERE: the plain parser's rows in the steps of the document's own parser, and its join at the end of one.
-/
import Derived.Test.YtafidabopcgkhaaDoorRHeld
namespace Go.Proofs.YtafidabopcgkhaaDoor
open Go.RowKit

/-- What is left to read of parts. -/
def SQ (s : ByteArray) (P : List UInt8 → Option (DataW Unit) × List UInt8) (R : Option (DataW Unit) × List UInt8) (f : Bool) (l : List (DataW Unit)) (j : Nat) : Prop :=
  (f = false ∧ ∃ F, (left s j).length < F ∧ mapJ 2 (seqLoop P F l (left s j)) = R) ∨ (f = true ∧ R = (none, left s j))
/-- What is left to read of choices. -/
def SA (s : ByteArray) (P : List UInt8 → Option (DataW Unit) × List UInt8) (R : Option (DataW Unit) × List UInt8) (f : Bool) (l : List (DataW Unit)) (j : Nat) : Prop :=
  (f = false ∧ ∃ F, (left s j).length < F ∧ mapJ 3 (altLoop P F l (left s j)) = R) ∨ (f = true ∧ R = (none, left s j))
/-- What one step reads. -/
def Step (s : ByteArray) (R : Option (DataW Unit) × List UInt8) (f : Bool) (t : DataW Unit) (i j : Nat) : Prop := (f = false ∧ R = (some t, left s j) ∧ i < j ∧ (subs t).length + i ≤ j) ∨ (f = true ∧ R = (none, left s j) ∧ (subs t).length + i ≤ j + 1)
theorem Step.wid {s : ByteArray} {R : Option (DataW Unit) × List UInt8} {f : Bool} {t : DataW Unit} {i j : Nat} (h : Step s R f t i j) (hij : i ≤ j) : Wid f t i j := by
  rcases h with ⟨h1, _, h2, h3⟩ | ⟨h1, _, h3⟩
  · exact .inl ⟨h1, h2, h3⟩
  · exact .inr ⟨h1, hij, h3⟩
theorem SQ.first {s : ByteArray} {P : List UInt8 → Option (DataW Unit) × List UInt8} {f : Bool} {t : DataW Unit} {i j : Nat} (h : Step s (P (left s i)) f t i j) : SQ s P (seqL P (left s i)) f [t] j := by
  unfold seqL
  rcases h with ⟨h1, h2, _⟩ | ⟨h1, h2, _⟩
  · rw [h2]
    exact .inl ⟨h1, (left s j).length + 1, Nat.lt_succ_self _, rfl⟩
  · rw [h2]
    exact .inr ⟨h1, rfl⟩
theorem SQ.stop {s : ByteArray} {P : List UInt8 → Option (DataW Unit) × List UInt8} {R : Option (DataW Unit) × List UInt8} {l : List (DataW Unit)} {j : Nat} (h : SQ s P R false l j) (hs : left s j = [] ∨ ∃ c q, left s j = c :: q ∧ (c = 124 ∨ c = 41)) : R = (some (joinT 2 l), left s j) := by
  rcases h with ⟨_, F, hF, h⟩ | ⟨h, _⟩
  · rw [← h]
    cases F with
    | zero => omega
    | succ F =>
      rcases hs with hs | ⟨c, q, hs, hc⟩
      · rw [hs, seqLoop]; rfl
      · rw [hs, seqLoop, if_pos hc]; rfl
  · cases h
theorem SQ.next {s : ByteArray} {P : List UInt8 → Option (DataW Unit) × List UInt8} {R : Option (DataW Unit) × List UInt8} {l : List (DataW Unit)} {j j' : Nat} {f : Bool} {t : DataW Unit} (h : SQ s P R false l j) {c : UInt8} {q : List UInt8} (hs : left s j = c :: q) (hc : ¬ (c = 124 ∨ c = 41)) (hst : Step s (P (left s j)) f t j j') : SQ s P R f (l ++ [t]) j' := by
  rcases h with ⟨_, F, hF, h⟩ | ⟨h, _⟩
  · cases F with
    | zero => omega
    | succ F =>
      rw [hs, seqLoop, if_neg hc, ← hs] at h
      rcases hst with ⟨h1, h2, h3, _⟩ | ⟨h1, h2, _⟩
      · rw [h2] at h
        refine .inl ⟨h1, F, ?_, h⟩
        have e1 := left_length s j
        have e2 := left_length s j'
        have e3 : 0 < (left s j).length := by rw [hs]; exact Nat.succ_pos _
        omega
      · rw [h2] at h
        exact .inr ⟨h1, h.symm⟩
  · cases h
theorem SA.first {s : ByteArray} {P : List UInt8 → Option (DataW Unit) × List UInt8} {f : Bool} {t : DataW Unit} {i j : Nat} (h : Step s (P (left s i)) f t i j) : SA s P (altL P (left s i)) f [t] j := by
  unfold altL
  rcases h with ⟨h1, h2, _⟩ | ⟨h1, h2, _⟩
  · rw [h2]
    exact .inl ⟨h1, (left s j).length + 1, Nat.lt_succ_self _, rfl⟩
  · rw [h2]
    exact .inr ⟨h1, rfl⟩
theorem SA.stop {s : ByteArray} {P : List UInt8 → Option (DataW Unit) × List UInt8} {R : Option (DataW Unit) × List UInt8} {l : List (DataW Unit)} {j : Nat} (h : SA s P R false l j) (hs : left s j = [] ∨ ∃ c q, left s j = c :: q ∧ c ≠ 124) : R = (some (joinT 3 l), left s j) := by
  rcases h with ⟨_, F, hF, h⟩ | ⟨h, _⟩
  · rw [← h]
    cases F with
    | zero => omega
    | succ F =>
      rcases hs with hs | ⟨c, q, hs, hc⟩
      · rw [hs, altLoop]; rfl
      · rw [hs, altLoop, if_neg hc]; rfl
  · cases h
theorem SA.next {s : ByteArray} {P : List UInt8 → Option (DataW Unit) × List UInt8} {R : Option (DataW Unit) × List UInt8} {l : List (DataW Unit)} {j j' : Nat} {f : Bool} {t : DataW Unit} (h : SA s P R false l j) (hs : left s j = 124 :: left s (j + 1)) (hst : Step s (P (left s (j + 1))) f t (j + 1) j') : SA s P R f (l ++ [t]) j' := by
  rcases h with ⟨_, F, hF, h⟩ | ⟨h, _⟩
  · cases F with
    | zero => omega
    | succ F =>
      rw [hs, altLoop, if_pos rfl] at h
      rcases hst with ⟨h1, h2, h3, _⟩ | ⟨h1, h2, _⟩
      · rw [h2] at h
        refine .inl ⟨h1, F, ?_, h⟩
        have e1 := left_length s j
        have e2 := left_length s j'
        have e3 : 0 < (left s j).length := by rw [hs]; exact Nat.succ_pos _
        omega
      · rw [h2] at h
        exact .inr ⟨h1, h.symm⟩
  · cases h
/-- The end of a row: its join, laid into the cell of what is returned. -/
theorem HeldQ.ends {kd : Int} (hkd : kd = 2 ∨ kd = 3) {g : Nat} {s : ByteArray} {f : Bool} {w wr : World} {i0 i : Nat} {l : List (DataW Unit)} {v : Value} {n : Nat} (h : HeldQ kd g s f w wr i0 i l v n) (hgw : g < w.heap.size) (hs : s.size ≤ 200) (hP : Pl s i) (hi : i0 ≤ i) {R : Option (DataW Unit) × List UInt8} (hR : (f = false ∧ R = (some (joinT kd l), left s i)) ∨ (f = true ∧ R = (none, left s i))) :
    Calls Tryd.prog 34 #[.int .i64 kd, v] wr fun e w' => ∃ r, e = .returned (rawV r) ∧ w'.heap[w.heap.size]? = some (.cells #[.int .i64 0, .string ⟨#[]⟩, .slice none 0 0] 24 (0, 0)) ∧ ∀ cs, Kept g w (w'.setRow w.heap.size cs) ∧ RSaid g s w.heap.size i0 R (.returned (rawV r)) (w'.setRow w.heap.size cs) := by
  refine (h.joins hkd hgw (Nat.le_trans hP.1 hs)).mono ?_
  rintro e w' ⟨hK, hPA, hz, hbg, r, m', rfl, hX, hG, h99, hw1, hw2⟩
  refine ⟨r, rfl, hz, fun cs => ⟨hK.setRow _ _ (Nat.le_refl _), i, joinT kd l, m', r, f, hPA.setRow _ _ (by omega), hP, hi, hG, h99, ?_, rfl, ?_⟩⟩
  · exact ExA.kept (by rw [size_setRow]; omega) (fun b hb hA => ⟨by omega, setRow_other _ _ _ _ (by omega)⟩) _ _ _ hX
  · rcases hR with ⟨h1, h2⟩ | ⟨h1, h2⟩
    · exact .inl ⟨h1, h2, (hw2 h1).2, (hw2 h1).1⟩
    · exact .inr ⟨h1, h2, hw1⟩
end Go.Proofs.YtafidabopcgkhaaDoor
