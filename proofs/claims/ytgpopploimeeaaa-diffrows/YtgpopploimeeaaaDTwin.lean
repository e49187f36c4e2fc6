/-
  PROVED HERE: the law's own comparison of two steps that are the same; the document's Rows where one is no document; rows in memory.
-/
import Derived.Test.YtgpopploimeeaaaPStep
import Derived.Test.YtgpopploimeeaaaRRows
import Derived.Test.YtgpopploimeeaaaPRun
import Derived.Test.YtgpopploimeeaaaLAlike
namespace Go.Proofs.Ytgpopploimeeaaa
open Go.RowKit

set_option maxRecDepth 100000 in
set_option maxHeartbeats 2000000 in
theorem twin_calls (f t : Int) (a1 a2 : Option Addr) (len c1 c2 : Nat) (l : List Tok) (w : World) (h1 : Toks w a1 len l) (h2 : Toks w a2 len l) (hsz : len ≤ 2048) :
    Calls Try.prog 23 #[.agg (stepC f t a1 len c1), .agg (stepC f t a2 len c2)] w fun e w' => e = .returned (.bool true) ∧ Below w.heap.size w w' := by
  have hB : Below w.heap.size w ((w.alloc (.cells (stepC f t a1 len c1) 54)).alloc (.cells (stepC f t a2 len c2) 54)) := ((Below.refl _ w).alloc (Nat.le_refl _) _).alloc (by rw [World.size_alloc]; omega) _
  have HAL := hide_ (alike_calls a1 a2 len len c1 c2 l l _ (h1.below hB) (h2.below hB) (by omega) (by omega))
  rw [(eqL_iff l l).2 rfl] at HAL
  have HB := hide_ hB
  clear h1 h2 hB
  simp only [stepC] at HAL HB ⊢
  go_enter Try.func23, Try.ntmps23
  go_wp2_with fail
  refine HAL.out.mono ?_
  rintro e W1 ⟨rfl, b1⟩
  have B1 := hide_ (HB.out.trans (b1.mono HB.out.size))
  clear b1 HAL HB
  go_wp2
  go_ret
  exact ⟨rfl, B1.out⟩

set_option maxRecDepth 100000 in
theorem rrows_no (a1 a2 : Option Addr) (n m c1 c2 : Nat) (l1 l2 : List Tok) (w : World) (h1 : Toks w a1 n l1) (h2 : Toks w a2 m l2) (hn : n ≤ 200) (hm : m ≤ 200) (hb : bothP l1 l2 ≠ 0) :
    Calls Try.prog 20 #[.slice a1 n c1, .slice a2 m c2] w fun e w' => e = .returned (.tuple #[.slice none 0 0, .int .i64 (bothP l1 l2)]) ∧ Below w.heap.size w w' := by
  have HC := both_calls a1 a2 n m c1 c2 l1 l2 w h1 h2 (by omega) (by omega)
  generalize bothP l1 l2 = y at *
  have hyb : (y == 0) = false := by simpa using hb
  clear h1 h2
  go_enter Try.func20, Try.ntmps20
  go_wp2_with fail
  refine HC.mono ?_
  rintro e W1 ⟨rfl, b1⟩
  have B1 := hide_ b1
  clear b1 HC
  go_wp2
  go_ret2
  exact ⟨rfl, B1.out⟩

/-- A slice's elements are the rows R. -/
def RowsIn (W : World) (a : Option Addr) (R : List (Int × Int × Int)) : Prop :=
  ∀ k r, R[k]? = some r → ∃ b, a = some ⟨b, 0, none⟩ ∧ b < W.heap.size ∧ ∀ X : World, Below W.heap.size W X → X.cell? ⟨b, k * 3, none⟩ = some (.int .i64 r.1) ∧ X.cell? ⟨b, k * 3 + 1, none⟩ = some (.int .i64 r.2.1) ∧ X.cell? ⟨b, k * 3 + 2, none⟩ = some (.int .i64 r.2.2)
theorem RowsIn.below {W W' : World} {a : Option Addr} {R : List (Int × Int × Int)} (h : RowsIn W a R) (hB : Below W.heap.size W W') : RowsIn W' a R := fun k r hk => by
  obtain ⟨b, hb, hlt, hc⟩ := h k r hk
  exact ⟨b, hb, Nat.lt_of_lt_of_le hlt hB.size, fun X hX => hc X (hB.trans (hX.mono hB.size))⟩
theorem rowsIn_of {W : World} {base : Nat} {e : TypeId} {v : Value} {R : List (Int × Int × Int)} (h : W.ownsRow base e 3 v R.length (rowV R)) : ∃ a cap, v = .slice a R.length cap ∧ RowsIn W a R := by
  rcases Nat.eq_zero_or_pos R.length with h0 | h0
  · rw [h0] at h
    obtain ⟨a, cap, rfl⟩ := owns_none h
    exact ⟨a, cap, by rw [h0], fun k r hk => by have := (List.getElem?_eq_some_iff.1 hk).1; omega⟩
  · obtain ⟨g, cap, rfl, hg, hc⟩ := owns_cell h h0
    refine ⟨_, cap, rfl, fun k r hk => ⟨g, rfl, hg, fun X hX => ?_⟩⟩
    have hkl := (List.getElem?_eq_some_iff.1 hk).1
    obtain ⟨p0, p1, p2⟩ := rowV_at R k r hk
    have e0 := hc (3 * k) _ (by omega) p0
    have e1 := hc (3 * k + 1) _ (by omega) p1
    have e2 := hc (3 * k + 2) _ (by omega) p2
    rw [Nat.zero_add, Nat.mul_comm] at e0 e1 e2
    exact ⟨(hX.cell (p := ⟨g, _, none⟩) hg).trans e0, (hX.cell (p := ⟨g, _, none⟩) hg).trans e1, (hX.cell (p := ⟨g, _, none⟩) hg).trans e2⟩
end Go.Proofs.Ytgpopploimeeaaa
