/-
  PROVED HERE: what the texts PEqB, PGs, Tak say (each has its own words below).
-/
import Derived.Test.YtgpopploimeeaaaCB11
import Derived.Test.YtgpopploimeeaaaProg
import Derived.WalkKit
import Derived.Below
import Derived.Deep.Light
import Derived.BigQuiet
import Derived.Deep.QuietTactic
import Derived.RegionTactic
import Derived.BigRegion
import Derived.Deep.RegionWith
import Derived.Deep.RegionHeld3
/- PEqB: the program's own comparison of two blocks; blocks in memory. -/
namespace Go.Proofs.Ytgpopploimeeaaa
open Go.RowKit

/-- A document, in memory. -/
def Doc (w : World) (a : Option Addr) (n c : Nat) (l : List Tok) : Prop := Toks w a n l ∧ goes l 0 = some 0 ∧ n ≤ 2048 ∧ n ≤ c
theorem Doc.below {w W : World} {a : Option Addr} {n c : Nat} {l : List Tok} (h : Doc w a n c l) (hB : Below w.heap.size w W) : Doc W a n c l := ⟨h.1.below hB, h.2⟩
/-- Its blocks. -/
def Blks (w : World) (a : Option Addr) (c : Nat) (l : List Tok) (d : Option Addr) (len : Nat) : Prop :=
  (tops l).length = len ∧ (len = 0 ∨ ∃ g, d = some ⟨g, 0, none⟩ ∧ g < w.heap.size ∧ ∀ (i k : Nat), (tops l)[i]? = some k → w.cell? ⟨g, i * 2, none⟩ = some (.int .i64 (k : Int)) ∧ w.cell? ⟨g, i * 2 + 1, none⟩ = some (.slice (partA a c k) (endE l k - k) (c - k)))
theorem Blks.below {w W : World} {a : Option Addr} {c : Nat} {l : List Tok} {d : Option Addr} {len : Nat} (h : Blks w a c l d len) (hB : Below w.heap.size w W) : Blks W a c l d len := by
  obtain ⟨h1, h2⟩ := h
  refine ⟨h1, ?_⟩
  rcases h2 with h2 | ⟨g, rfl, hg, hc⟩
  · exact .inl h2
  · exact .inr ⟨g, rfl, Nat.lt_of_lt_of_le hg hB.size, fun i k hk => ⟨(hB.cell (p := ⟨g, _, none⟩) hg).trans (hc i k hk).1, (hB.cell (p := ⟨g, _, none⟩) hg).trans (hc i k hk).2⟩⟩
theorem Blks.at {w : World} {a : Option Addr} {c : Nat} {l : List Tok} {d : Option Addr} {len : Nat} (h : Blks w a c l d len) {i : Nat} (hi : i < len) :
    ∃ g k, d = some ⟨g, 0, none⟩ ∧ g < w.heap.size ∧ (tops l)[i]? = some k ∧ ∀ W : World, Below w.heap.size w W → W.cell? ⟨g, i * 2, none⟩ = some (.int .i64 (k : Int)) ∧ W.cell? ⟨g, i * 2 + 1, none⟩ = some (.slice (partA a c k) (endE l k - k) (c - k)) := by
  obtain ⟨h1, h2⟩ := h
  rcases h2 with h2 | ⟨g, rfl, hg, hc⟩
  · omega
  · have hk : (tops l)[i]? = some ((tops l)[i]'(by omega)) := List.getElem?_eq_getElem (by omega)
    exact ⟨g, _, rfl, hg, hk, fun W hB => ⟨(hB.cell (p := ⟨g, _, none⟩) hg).trans (hc i _ hk).1, (hB.cell (p := ⟨g, _, none⟩) hg).trans (hc i _ hk).2⟩⟩
theorem Blks_of_owns {W : World} {base : Nat} {v : Value} {a : Option Addr} {c : Nat} {l : List Tok} (h : W.ownsRow base 74 2 v (tops l).length (blkV a c l (tops l))) : ∃ d e, v = .slice d (tops l).length e ∧ Blks W a c l d (tops l).length := by
  obtain ⟨hlen, ⟨rfl, h2⟩ | ⟨g, cap, cur, rfl, hb, hg, hc1, hc2, hc3, hc4⟩⟩ := h
  · have h0 : (tops l).length = 0 := by
      rw [h2] at hlen
      simp at hlen
      omega
    rw [h0]
    exact ⟨none, 0, rfl, h0, .inl rfl⟩
  · refine ⟨_, cap, rfl, rfl, .inr ⟨g, rfl, (Array.getElem?_eq_some_iff.1 hg).1, fun i k hk => ?_⟩⟩
    have hi : i < (tops l).length := (List.getElem?_eq_some_iff.1 hk).1
    have hp := blkV_at a c l (tops l) i k hk
    rw [← hc4, List.getElem?_take, List.getElem?_take, if_pos (by omega), if_pos (by omega), Nat.mul_comm] at hp
    refine ⟨?_, ?_⟩
    · simp only [World.cell?]
      rw [hg]
      show cur[_]? = _
      rw [← Array.getElem?_toList]
      exact hp.1
    · simp only [World.cell?]
      rw [hg]
      show cur[_]? = _
      rw [← Array.getElem?_toList]
      exact hp.2
theorem tops_in {l : List Tok} (h : goes l 0 = some 0) {i k : Nat} (hk : (tops l)[i]? = some k) : k ≤ endE l k ∧ endE l k ≤ l.length := by
  obtain ⟨a1, a2, _⟩ := tops_next h hk
  obtain ⟨b1, b2, _⟩ := block_end h a1 a2
  omega

set_option maxRecDepth 100000 in
set_option maxHeartbeats 2000000 in
theorem peqB_calls (a1 a2 : Option Addr) (n1 n2 c1 c2 : Nat) (l1 l2 : List Tok) (x y : Nat) (W : World) (t1 : Doc W a1 n1 c1 l1) (t2 : Doc W a2 n2 c2 l2) (hx : x ≤ endE l1 x ∧ endE l1 x ≤ l1.length) (hy : y ≤ endE l2 y ∧ endE l2 y ≤ l2.length) :
    Calls Try.prog 30 #[.agg #[.int .i64 (x : Int), .slice (partA a1 c1 x) (endE l1 x - x) (c1 - x)], .agg #[.int .i64 (y : Int), .slice (partA a2 c2 y) (endE l2 y - y) (c2 - y)]] W fun e W' => e = .returned (.bool (eqL (blkAt l1 x) (blkAt l2 y))) ∧ Below W.heap.size W W' := by
  have T1 := t1.1.partA t1.2.2.2 x (endE l1 x - x) (by have := t1.1.1; omega)
  have T2 := t2.1.partA t2.2.2.2 y (endE l2 y - y) (by have := t2.1.1; omega)
  have HS := fun V (hV : Below W.heap.size W V) => fsame_calls _ _ _ _ (c1 - x) (c2 - y) _ _ V (T1.below hV) (T2.below hV) (by have := t1.2.2.1; have := t1.1.1; omega) (by have := t2.2.2.1; have := t2.1.1; omega)
  have hB : Below W.heap.size W ((W.alloc (.cells #[.int .i64 (x : Int), .slice (partA a1 c1 x) (endE l1 x - x) (c1 - x)] 74)).alloc (.cells #[.int .i64 (y : Int), .slice (partA a2 c2 y) (endE l2 y - y) (c2 - y)] 74)) := ((Below.refl _ W).alloc (Nat.le_refl _) _).alloc (by rw [World.size_alloc]; omega) _
  have HC := hide_ (HS _ hB)
  have HB := hide_ hB
  show Calls _ _ _ _ fun e W' => e = .returned (.bool (eqL ((l1.drop x).take (endE l1 x - x)) ((l2.drop y).take (endE l2 y - y)))) ∧ _
  clear HS hB T1 T2 t1 t2 hx hy
  generalize eqL ((l1.drop x).take (endE l1 x - x)) ((l2.drop y).take (endE l2 y - y)) = d at *
  generalize partA a1 c1 x = p1 at *
  generalize partA a2 c2 y = p2 at *
  generalize endE l1 x - x = m1 at *
  generalize endE l2 y - y = m2 at *
  generalize c1 - x = f1 at *
  generalize c2 - y = f2 at *
  go_enter Try.func30, Try.ntmps30
  go_wp2_with fail
  refine HC.out.mono ?_
  rintro e W1 ⟨rfl, h⟩
  have HB2 := hide_ (HB.out.trans (h.mono HB.out.size))
  clear h HC HB
  go_wp2
  go_ret
  exact ⟨rfl, HB2.out⟩
end Go.Proofs.Ytgpopploimeeaaa

/- PGs: rows of blocks that a closure gathers: what the call holds in memory, one row more, a counter set; plain: which rows they are. -/
namespace Go.Proofs.Ytgpopploimeeaaa
open Go.RowKit

def rowV (rs : List (Int × Int × Int)) : List Value := rs.flatMap fun r => [.int .i64 r.1, .int .i64 r.2.1, .int .i64 r.2.2]
theorem rowV_add (rs : List (Int × Int × Int)) (r : Int × Int × Int) : rowV (rs ++ [r]) = rowV rs ++ [.int .i64 r.1, .int .i64 r.2.1, .int .i64 r.2.2] := by
  unfold rowV
  rw [List.flatMap_append]
  rfl
/-- Those that go, d of them from i on; those that come. -/
def goA (ks : List Nat) (i : Nat) : Nat → List (Int × Int × Int)
  | 0 => []
  | d + 1 => goA ks i d ++ [(1, ((ks.getD (i + d) 0 : Nat) : Int), -1)]
def goB (ks : List Nat) (j : Nat) : Nat → List (Int × Int × Int)
  | 0 => []
  | d + 1 => goB ks j d ++ [(2, -1, ((ks.getD (j + d) 0 : Nat) : Int))]
theorem goA_length (ks : List Nat) (i : Nat) : ∀ d, (goA ks i d).length = d
  | 0 => rfl
  | d + 1 => by rw [goA, List.length_append, goA_length ks i d]; rfl
theorem goB_length (ks : List Nat) (j : Nat) : ∀ d, (goB ks j d).length = d
  | 0 => rfl
  | d + 1 => by rw [goB, List.length_append, goB_length ks j d]; rfl
/-- All rows, from the places i and j on. -/
def rowsP (k1 k2 : List Nat) : List (Nat × Nat) → Nat → Nat → List (Int × Int × Int)
  | [], i, j => goA k1 i (k1.length - i) ++ goB k2 j (k2.length - j)
  | x :: r, i, j => goA k1 i (x.1 - i) ++ (goB k2 j (x.2 - j) ++ ((0, ((k1.getD x.1 0 : Nat) : Int), ((k2.getD x.2 0 : Nat) : Int)) :: rowsP k1 k2 r (x.1 + 1) (x.2 + 1)))

theorem info_drow : (Try.prog.info? 48).map (fun i => (i.zero, i.size, i.bytes)) = some (some (.agg #[.int .i64 0, .int .i64 0, .int .i64 0]), 3, 24) := by kernel_rfl

/-- What lies in memory while rows are gathered. -/
structure Gs (w0 W : World) (bi ba bA bj bB : Nat) (v : Value) (rs : List (Int × Int × Int)) (i j : Nat) (vA vB : Value) : Prop where
  ci : W.heap[bi]? = some (.cells #[.int .i64 (i : Int)] 3 (0, 0))
  cj : W.heap[bj]? = some (.cells #[.int .i64 (j : Int)] 3 (0, 0))
  ca : W.heap[ba]? = some (.cells #[v] 42 (0, 0))
  cA : W.heap[bA]? = some (.cells #[vA] 70 (0, 0))
  cB : W.heap[bB]? = some (.cells #[vB] 70 (0, 0))
  own : W.ownsRow w0.heap.size 48 3 v rs.length (rowV rs)
  b : Below w0.heap.size w0 W
  oi : w0.heap.size ≤ bi
  oj : w0.heap.size ≤ bj
  oa : w0.heap.size ≤ ba
  ne : bi ≠ bj

theorem one_at {W : World} {b : Nat} {v : Value} {t : TypeId} (h : W.heap[b]? = some (.cells #[v] t (0, 0))) : W.cell? ⟨b, 0, none⟩ = some v ∧ W.frozen? ⟨b, 0, none⟩ = false := by
  refine ⟨?_, by simp [World.frozen?, h]⟩
  simp only [World.cell?]
  rw [h]
  rfl

section
variable {w0 W : World} {bi ba bA bj bB i j : Nat} {v vA vB : Value} {rs : List (Int × Int × Int)}
theorem Gs.kept {W' : World} (h : Gs w0 W bi ba bA bj bB v rs i j vA vB) (hB : Below W.heap.size W W') : Gs w0 W' bi ba bA bj bB v rs i j vA vB := by
  have k : ∀ {b : Nat} {o : Obj}, W.heap[b]? = some o → W'.heap[b]? = some o := fun hb => (hB.block _ (Array.getElem?_eq_some_iff.1 hb).1).trans hb
  exact ⟨k h.ci, k h.cj, k h.ca, k h.cA, k h.cB, owns_below h.own hB, h.b.trans (hB.mono h.b.size), h.oi, h.oj, h.oa, h.ne⟩
theorem own_ne {g : Nat} {w : Value} {t : TypeId} (h : Gs w0 W bi ba bA bj bB v rs i j vA vB) (hg : W.heap[g]? = some (.cells #[w] t (0, 0))) (ht : t ≠ 48) : v.ownBlock ≠ some g := fun e => by
  obtain ⟨_, ⟨rfl, _⟩ | ⟨g', cap', cur', rfl, _, hg', _⟩⟩ := h.own
  · cases e
  · obtain rfl : g' = g := by simpa [Value.ownBlock] using e
    rw [hg] at hg'
    injection hg' with hg'
    injection hg' with _ e2
    exact ht e2
/-- A counter set. -/
theorem Gs.setI (h : Gs w0 W bi ba bA bj bB v rs i j vA vB) (i' : Nat) : Gs w0 (W.setCell ⟨bi, 0, none⟩ (.int .i64 (i' : Int))) bi ba bA bj bB v rs i' j vA vB := by
  have ho : ∀ q, q ≠ bi → (W.setCell ⟨bi, 0, none⟩ (.int .i64 (i' : Int))).heap[q]? = W.heap[q]? := fun q hq => Below.heap_setCell _ _ _ _ hq
  have ht := heap_set_row W bi 0 _ _ (.int .i64 (i' : Int)) h.ci
  refine ⟨ht, (ho _ h.ne.symm).trans h.cj, (ho _ (fun e => by have := h.ca; rw [e, h.ci] at this; simp at this)).trans h.ca, (ho _ (fun e => by have := h.cA; rw [e, h.ci] at this; simp at this)).trans h.cA, (ho _ (fun e => by have := h.cB; rw [e, h.ci] at this; simp at this)).trans h.cB, ?_, h.b.setCell h.oi _, h.oi, h.oj, h.oa, h.ne⟩
  have hne := own_ne h h.ci (by decide)
  refine ⟨h.own.1, ?_⟩
  rcases h.own.2 with hn | ⟨g, cap, cur, rfl, hbb, hg, rest⟩
  · exact .inl hn
  · exact .inr ⟨g, cap, cur, rfl, hbb, (ho g (fun e => hne (by rw [e]; rfl))).trans hg, rest⟩
theorem Gs.setJ (h : Gs w0 W bi ba bA bj bB v rs i j vA vB) (j' : Nat) : Gs w0 (W.setCell ⟨bj, 0, none⟩ (.int .i64 (j' : Int))) bi ba bA bj bB v rs i j' vA vB := by
  have ho : ∀ q, q ≠ bj → (W.setCell ⟨bj, 0, none⟩ (.int .i64 (j' : Int))).heap[q]? = W.heap[q]? := fun q hq => Below.heap_setCell _ _ _ _ hq
  have ht := heap_set_row W bj 0 _ _ (.int .i64 (j' : Int)) h.cj
  refine ⟨(ho _ h.ne).trans h.ci, ht, (ho _ (fun e => by have := h.ca; rw [e, h.cj] at this; simp at this)).trans h.ca, (ho _ (fun e => by have := h.cA; rw [e, h.cj] at this; simp at this)).trans h.cA, (ho _ (fun e => by have := h.cB; rw [e, h.cj] at this; simp at this)).trans h.cB, ?_, h.b.setCell h.oj _, h.oi, h.oj, h.oa, h.ne⟩
  have hne := own_ne h h.cj (by decide)
  refine ⟨h.own.1, ?_⟩
  rcases h.own.2 with hn | ⟨g, cap, cur, rfl, hbb, hg, rest⟩
  · exact .inl hn
  · exact .inr ⟨g, cap, cur, rfl, hbb, (ho g (fun e => hne (by rw [e]; rfl))).trans hg, rest⟩
/-- Which blocks the reading of a region looks at stay as they are. -/
def Stays (W : World) (ba : Nat) (v : Value) (X : World) : Prop := ∀ k, k < W.heap.size → k ≠ ba → v.ownBlock ≠ some k → X.heap[k]? = W.heap[k]?
/-- One row more. -/
theorem Gs.push (h : Gs w0 W bi ba bA bj bB v rs i j vA vB) (hl : rs.length ≤ 3000) (r : Int × Int × Int) :
    ∃ v' g' cap' W1, v' = .slice (some ⟨g', 0, none⟩) (rs.length + 1) cap' ∧ (Builtin.append_ #[42, 42] 42 #[v, .slice (some ⟨W.heap.size, 0, none⟩) 1 1]).run Try.prog (W.alloc (.cells #[.int .i64 r.1, .int .i64 r.2.1, .int .i64 r.2.2] 48)).drew = .ok v' W1 ∧
      W1.cell? ⟨ba, 0, none⟩ = some v ∧ W1.frozen? ⟨ba, 0, none⟩ = false ∧ Stays W ba v W1 ∧ Stays W ba v (W1.setCell ⟨ba, 0, none⟩ v') ∧ Hid (Gs w0 (W1.setCell ⟨ba, 0, none⟩ v') bi ba bA bj bB v' (rs ++ [r]) i j vA vB) := by
  obtain ⟨i0, hi, hz⟩ := Option.map_eq_some_iff.1 info_drow
  simp only [Prod.mk.injEq] at hz
  obtain ⟨hz0, hz1, hz2⟩ := hz
  have hbase := h.b.size
  have hown2 := (h.own.alloc (.cells #[.int .i64 r.1, .int .i64 r.2.1, .int .i64 r.2.2] 48)).drew
  have hB2 := (h.b.alloc hbase (.cells #[.int .i64 r.1, .int .i64 r.2.1, .int .i64 r.2.2] 48)).drew
  have hk2 : ∀ k, k < W.heap.size → (W.alloc (.cells #[.int .i64 r.1, .int .i64 r.2.1, .int .i64 r.2.2] 48)).drew.heap[k]? = W.heap[k]? := fun k hk => Below.heap_alloc W _ k hk
  have hsz : (W.alloc (.cells #[.int .i64 r.1, .int .i64 r.2.1, .int .i64 r.2.2] 48)).drew.heap.size = W.heap.size + 1 := World.size_alloc W _
  have hnew : (W.alloc (.cells #[.int .i64 r.1, .int .i64 r.2.1, .int .i64 r.2.2] 48)).drew.heap[W.heap.size]? = some (.cells #[.int .i64 r.1, .int .i64 r.2.1, .int .i64 r.2.2] 48 (0, 0)) := World.alloc_heap_new W _
  generalize (W.alloc (.cells #[.int .i64 r.1, .int .i64 r.2.1, .int .i64 r.2.2] 48)).drew = V at *
  have q0 : V.cell? ⟨W.heap.size, 0, none⟩ = some (.int .i64 r.1) := by simp only [World.cell?]; rw [hnew]; rfl
  have q1 : V.cell? ⟨W.heap.size, 1, none⟩ = some (.int .i64 r.2.1) := by simp only [World.cell?]; rw [hnew]; rfl
  have q2 : V.cell? ⟨W.heap.size, 2, none⟩ = some (.int .i64 r.2.2) := by simp only [World.cell?]; rw [hnew]; rfl
  obtain ⟨v', W1, hrun, r1, r2, _, r3⟩ := run_append_own_at (P := Try.prog) V w0.heap.size 42 42 48 i0 (.agg #[.int .i64 0, .int .i64 0, .int .i64 0]) 3 24 Try.underlying42 hi hz0 hz1 hz2 rfl (by decide) v rs.length _ hown2 ⟨W.heap.size, 0, none⟩ 1 1 [.int .i64 r.1, .int .i64 r.2.1, .int .i64 r.2.2] (by simp) (fun j u hj => by
    match j, hj with
    | 0, hj => cases hj; exact q0
    | 1, hj => cases hj; exact q1
    | 2, hj => cases hj; exact q2
    | j + 3, hj => simp at hj) (by simp [Value.oneCell']) (by unfold maxLen; omega) (by omega) (by omega)
  have hk1 : Stays W ba v W1 := fun k h1 h2 h3 => (r2.block k (by omega) (fun e => h3 e.symm)).trans (hk2 k h1)
  have hlt : ∀ {b : Nat} {o : Obj}, W.heap[b]? = some o → b < W.heap.size := fun hb => (Array.getElem?_eq_some_iff.1 hb).1
  have hba : W1.heap[ba]? = some (.cells #[v] 42 (0, 0)) := (r2.block ba (by have := hlt h.ca; omega) (fun e => own_ne h h.ca (by decide) e.symm)).trans ((hk2 ba (hlt h.ca)).trans h.ca)
  have ho : ∀ q, q ≠ ba → (W1.setCell ⟨ba, 0, none⟩ v').heap[q]? = W1.heap[q]? := fun q hq => Below.heap_setCell _ _ _ _ hq
  have ht := heap_set_row W1 ba 0 _ _ v' hba
  have hst : Stays W ba v (W1.setCell ⟨ba, 0, none⟩ v') := fun k h1 h2 h3 => (ho k h2).trans (hk1 k h1 h2 h3)
  have ni : bi ≠ ba := fun e => by have := h.ca; rw [← e, h.ci] at this; simp at this
  have nj : bj ≠ ba := fun e => by have := h.ca; rw [← e, h.cj] at this; simp at this
  have nA : bA ≠ ba := fun e => by have := h.ca; rw [← e, h.cA] at this; simp at this
  have nB : bB ≠ ba := fun e => by have := h.ca; rw [← e, h.cB] at this; simp at this
  have hsh : ∃ g' cap', v' = .slice (some ⟨g', 0, none⟩) (rs.length + 1) cap' := by
    obtain ⟨_, ⟨_, e⟩ | ⟨g, cap, cur, e, _⟩⟩ := r1
    · simp at e
    · exact ⟨g, cap, e⟩
  obtain ⟨g', cap', hsh⟩ := hsh
  refine ⟨v', g', cap', W1, hsh, hrun, (one_at hba).1, (one_at hba).2, hk1, hst, ⟨(hst bi (hlt h.ci) ni (own_ne h h.ci (by decide))).trans h.ci, (hst bj (hlt h.cj) nj (own_ne h h.cj (by decide))).trans h.cj, ht, (hst bA (hlt h.cA) nA (own_ne h h.cA (by decide))).trans h.cA, (hst bB (hlt h.cB) nB (own_ne h h.cB (by decide))).trans h.cB, ?_, ?_, h.oi, h.oj, h.oa, h.ne⟩⟩
  · rw [rowV_add, List.length_append]
    have hne : ∀ g, v'.ownBlock = some g → g ≠ ba := fun g e e2 => by
      subst e2
      rcases r3 with r3 | r3
      · exact own_ne h h.ca (by decide) (r3 ▸ e)
      · rw [r3] at e
        cases e
        have := hlt h.ca
        omega
    refine ⟨r1.1, ?_⟩
    rcases r1.2 with hn | ⟨g, cap, cur, rfl, hbb, hg, rest⟩
    · exact .inl hn
    · exact .inr ⟨g, cap, cur, rfl, hbb, (ho g (hne g rfl)).trans hg, rest⟩
  · exact (hB2.grown r2 (by omega) (fun j e => (World.ownsRow.lt hown2 _ e).1)).setCell h.oa _
end
end Go.Proofs.Ytgpopploimeeaaa

/- Tak: how an operation of a region that draws its order is taken. -/
namespace Go.Proofs.Ytgpopploimeeaaa
open Go.RowKit

theorem hmx : Try.prog.follows .mixedOrders = true := by kernel_rfl
/-- Number i of the region is taken first; d: where it leaves what it yields. -/
theorem takeD {P : Program} {md : Region.Mode} {ops : Array Oper} {Q : Exit → Act → World → Prop} {S : World → Prop} {fuel : Nat} {listed : Array Bool} {a : Act} {w : World} (i : Nat) (d : Option Tmp) {oi : Oper} {v : Value} (hi : ops[i]? = some oi) (hd : oi.dst = d)
    (hs : Region.noSelect ops = true) (hf : Region.free md ops listed i = true) (hr : (Region.ready md ops listed).contains i = true) (hQ : ∀ c a w, Q (.panic c) (a.put d v) w → Q (.panic c) a w) (hy : YieldsIf P ops S oi v a) (hS : S w)
    (h : wpAnyH P md ops Q S fuel (listed.setIfInBounds i true) (a.put d v) w) : wpAnyH P md ops Q S (fuel + 1) listed a w := by
  subst hd
  exact wpAnyH_take hi hs hf hr hQ hy hS h
/-- Number i of the region comes up, and no other may. -/
theorem callD {P : Program} {md : Region.Mode} {ops : Array Oper} {Q : Exit → Act → World → Prop} {S : World → Prop} {fuel : Nat} {listed : Array Bool} {a : Act} {w : World} (i : Nat) {o : Oper} (hr : Region.ready md ops listed = [i]) (ho : ops[i]? = some o)
    (h : ∀ K' : Act → World → Prop, Shut (∀ a w, S w → (S w → wpAnyH P md ops Q S fuel (listed.setIfInBounds i true) a w) → K' a w) → if Region.wanted o (yielded ops a.tmps) = true then Oper.wp P o a w K' Q else K' (a.put o.dst undef) w) :
    wpAnyH P md ops Q S (fuel + 1) listed a w :=
  wpAnyH_ready hr (by simp) (AllReadyH.cons ho h AllReadyH.nil)
end Go.Proofs.Ytgpopploimeeaaa
