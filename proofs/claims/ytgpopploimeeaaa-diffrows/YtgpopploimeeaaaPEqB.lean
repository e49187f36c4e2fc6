/-
  PROVED HERE: the program's own comparison of two blocks; blocks in memory.
-/
import Derived.Test.YtgpopploimeeaaaPBlk
import Derived.Test.YtgpopploimeeaaaFSame
namespace Go.Proofs.Ytgpopploimeeaaa
open Go.RowKit

/-- A document, in memory. -/
def Doc (w : World) (a : Option Addr) (n c : Nat) (l : List Tok) : Prop := Toks w a n l ∧ goes l 0 = some 0 ∧ n ≤ 2048 ∧ n ≤ c
theorem Doc.below {w W : World} {a : Option Addr} {n c : Nat} {l : List Tok} (h : Doc w a n c l) (hB : Below w.heap.size w W) : Doc W a n c l := ⟨h.1.below hB, h.2⟩
/-- Its blocks. -/
def Blks (w : World) (a : Option Addr) (c : Nat) (l : List Tok) (d : Option Addr) (len : Nat) : Prop :=
  (tops l).length = len ∧ (len = 0 ∨ ∃ g, d = some ⟨g, 0, none⟩ ∧ g < w.heap.size ∧ ∀ (i k : Nat), (tops l)[i]? = some k → w.cell? ⟨g, i * 2, none⟩ = some (.int .i64 (k : Int)) ∧ w.cell? ⟨g, i * 2 + 1, none⟩ = some (.slice (partA a c k) (endE l k - k) (c - k)))
theorem Blks.below {w W : World} {a : Option Addr} {c : Nat} {l : List Tok} {d : Option Addr} {len : Nat} (h : Blks w a c l d len) (hB : Below w.heap.size w W) : Blks W a c l d len := by
  obtain ⟨h1, h2⟩ := h
  refine ⟨h1, ?_⟩
  rcases h2 with h2 | ⟨g, rfl, hg, hc⟩
  · exact .inl h2
  · exact .inr ⟨g, rfl, Nat.lt_of_lt_of_le hg hB.size, fun i k hk => ⟨(hB.cell (p := ⟨g, _, none⟩) hg).trans (hc i k hk).1, (hB.cell (p := ⟨g, _, none⟩) hg).trans (hc i k hk).2⟩⟩
theorem Blks.at {w : World} {a : Option Addr} {c : Nat} {l : List Tok} {d : Option Addr} {len : Nat} (h : Blks w a c l d len) {i : Nat} (hi : i < len) :
    ∃ g k, d = some ⟨g, 0, none⟩ ∧ g < w.heap.size ∧ (tops l)[i]? = some k ∧ ∀ W : World, Below w.heap.size w W → W.cell? ⟨g, i * 2, none⟩ = some (.int .i64 (k : Int)) ∧ W.cell? ⟨g, i * 2 + 1, none⟩ = some (.slice (partA a c k) (endE l k - k) (c - k)) := by
  obtain ⟨h1, h2⟩ := h
  rcases h2 with h2 | ⟨g, rfl, hg, hc⟩
  · omega
  · have hk : (tops l)[i]? = some ((tops l)[i]'(by omega)) := List.getElem?_eq_getElem (by omega)
    exact ⟨g, _, rfl, hg, hk, fun W hB => ⟨(hB.cell (p := ⟨g, _, none⟩) hg).trans (hc i _ hk).1, (hB.cell (p := ⟨g, _, none⟩) hg).trans (hc i _ hk).2⟩⟩
theorem Blks_of_owns {W : World} {base : Nat} {v : Value} {a : Option Addr} {c : Nat} {l : List Tok} (h : W.ownsRow base 74 2 v (tops l).length (blkV a c l (tops l))) : ∃ d e, v = .slice d (tops l).length e ∧ Blks W a c l d (tops l).length := by
  obtain ⟨hlen, ⟨rfl, h2⟩ | ⟨g, cap, cur, rfl, hb, hg, hc1, hc2, hc3, hc4⟩⟩ := h
  · have h0 : (tops l).length = 0 := by
      rw [h2] at hlen
      simp at hlen
      omega
    rw [h0]
    exact ⟨none, 0, rfl, h0, .inl rfl⟩
  · refine ⟨_, cap, rfl, rfl, .inr ⟨g, rfl, (Array.getElem?_eq_some_iff.1 hg).1, fun i k hk => ?_⟩⟩
    have hi : i < (tops l).length := (List.getElem?_eq_some_iff.1 hk).1
    have hp := blkV_at a c l (tops l) i k hk
    rw [← hc4, List.getElem?_take, List.getElem?_take, if_pos (by omega), if_pos (by omega), Nat.mul_comm] at hp
    refine ⟨?_, ?_⟩
    · simp only [World.cell?]
      rw [hg]
      show cur[_]? = _
      rw [← Array.getElem?_toList]
      exact hp.1
    · simp only [World.cell?]
      rw [hg]
      show cur[_]? = _
      rw [← Array.getElem?_toList]
      exact hp.2
theorem tops_in {l : List Tok} (h : goes l 0 = some 0) {i k : Nat} (hk : (tops l)[i]? = some k) : k ≤ endE l k ∧ endE l k ≤ l.length := by
  obtain ⟨a1, a2, _⟩ := tops_next h hk
  obtain ⟨b1, b2, _⟩ := block_end h a1 a2
  omega

set_option maxRecDepth 100000 in
set_option maxHeartbeats 2000000 in
theorem peqB_calls (a1 a2 : Option Addr) (n1 n2 c1 c2 : Nat) (l1 l2 : List Tok) (x y : Nat) (W : World) (t1 : Doc W a1 n1 c1 l1) (t2 : Doc W a2 n2 c2 l2) (hx : x ≤ endE l1 x ∧ endE l1 x ≤ l1.length) (hy : y ≤ endE l2 y ∧ endE l2 y ≤ l2.length) :
    Calls Try.prog 30 #[.agg #[.int .i64 (x : Int), .slice (partA a1 c1 x) (endE l1 x - x) (c1 - x)], .agg #[.int .i64 (y : Int), .slice (partA a2 c2 y) (endE l2 y - y) (c2 - y)]] W fun e W' => e = .returned (.bool (eqL (blkAt l1 x) (blkAt l2 y))) ∧ Below W.heap.size W W' := by
  have T1 := t1.1.partA t1.2.2.2 x (endE l1 x - x) (by have := t1.1.1; omega)
  have T2 := t2.1.partA t2.2.2.2 y (endE l2 y - y) (by have := t2.1.1; omega)
  have HS := fun V (hV : Below W.heap.size W V) => fsame_calls _ _ _ _ (c1 - x) (c2 - y) _ _ V (T1.below hV) (T2.below hV) (by have := t1.2.2.1; have := t1.1.1; omega) (by have := t2.2.2.1; have := t2.1.1; omega)
  have hB : Below W.heap.size W ((W.alloc (.cells #[.int .i64 (x : Int), .slice (partA a1 c1 x) (endE l1 x - x) (c1 - x)] 74)).alloc (.cells #[.int .i64 (y : Int), .slice (partA a2 c2 y) (endE l2 y - y) (c2 - y)] 74)) := ((Below.refl _ W).alloc (Nat.le_refl _) _).alloc (by rw [World.size_alloc]; omega) _
  have HC := hide_ (HS _ hB)
  have HB := hide_ hB
  show Calls _ _ _ _ fun e W' => e = .returned (.bool (eqL ((l1.drop x).take (endE l1 x - x)) ((l2.drop y).take (endE l2 y - y)))) ∧ _
  clear HS hB T1 T2 t1 t2 hx hy
  generalize eqL ((l1.drop x).take (endE l1 x - x)) ((l2.drop y).take (endE l2 y - y)) = d at *
  generalize partA a1 c1 x = p1 at *
  generalize partA a2 c2 y = p2 at *
  generalize endE l1 x - x = m1 at *
  generalize endE l2 y - y = m2 at *
  generalize c1 - x = f1 at *
  generalize c2 - y = f2 at *
  go_enter Try.func30, Try.ntmps30
  go_wp2_with fail
  refine HC.out.mono ?_
  rintro e W1 ⟨rfl, h⟩
  have HB2 := hide_ (HB.out.trans (h.mono HB.out.size))
  clear h HC HB
  go_wp2
  go_ret
  exact ⟨rfl, HB2.out⟩
end Go.Proofs.Ytgpopploimeeaaa
