/-
  PROVED HERE: rows of blocks that a closure gathers: what the call holds in memory, one row more, a counter set; plain: which rows they are.
-/
import Derived.Test.YtgpopploimeeaaaPEqB
namespace Go.Proofs.Ytgpopploimeeaaa
open Go.RowKit

def rowV (rs : List (Int × Int × Int)) : List Value := rs.flatMap fun r => [.int .i64 r.1, .int .i64 r.2.1, .int .i64 r.2.2]
theorem rowV_add (rs : List (Int × Int × Int)) (r : Int × Int × Int) : rowV (rs ++ [r]) = rowV rs ++ [.int .i64 r.1, .int .i64 r.2.1, .int .i64 r.2.2] := by
  unfold rowV
  rw [List.flatMap_append]
  rfl
/-- Those that go, d of them from i on; those that come. -/
def goA (ks : List Nat) (i : Nat) : Nat → List (Int × Int × Int)
  | 0 => []
  | d + 1 => goA ks i d ++ [(1, ((ks.getD (i + d) 0 : Nat) : Int), -1)]
def goB (ks : List Nat) (j : Nat) : Nat → List (Int × Int × Int)
  | 0 => []
  | d + 1 => goB ks j d ++ [(2, -1, ((ks.getD (j + d) 0 : Nat) : Int))]
theorem goA_length (ks : List Nat) (i : Nat) : ∀ d, (goA ks i d).length = d
  | 0 => rfl
  | d + 1 => by rw [goA, List.length_append, goA_length ks i d]; rfl
theorem goB_length (ks : List Nat) (j : Nat) : ∀ d, (goB ks j d).length = d
  | 0 => rfl
  | d + 1 => by rw [goB, List.length_append, goB_length ks j d]; rfl
/-- All rows, from the places i and j on. -/
def rowsP (k1 k2 : List Nat) : List (Nat × Nat) → Nat → Nat → List (Int × Int × Int)
  | [], i, j => goA k1 i (k1.length - i) ++ goB k2 j (k2.length - j)
  | x :: r, i, j => goA k1 i (x.1 - i) ++ (goB k2 j (x.2 - j) ++ ((0, ((k1.getD x.1 0 : Nat) : Int), ((k2.getD x.2 0 : Nat) : Int)) :: rowsP k1 k2 r (x.1 + 1) (x.2 + 1)))

theorem info_drow : (Try.prog.info? 48).map (fun i => (i.zero, i.size, i.bytes)) = some (some (.agg #[.int .i64 0, .int .i64 0, .int .i64 0]), 3, 24) := by kernel_rfl

/-- What lies in memory while rows are gathered. -/
structure Gs (w0 W : World) (bi ba bA bj bB : Nat) (v : Value) (rs : List (Int × Int × Int)) (i j : Nat) (vA vB : Value) : Prop where
  ci : W.heap[bi]? = some (.cells #[.int .i64 (i : Int)] 3 (0, 0))
  cj : W.heap[bj]? = some (.cells #[.int .i64 (j : Int)] 3 (0, 0))
  ca : W.heap[ba]? = some (.cells #[v] 42 (0, 0))
  cA : W.heap[bA]? = some (.cells #[vA] 70 (0, 0))
  cB : W.heap[bB]? = some (.cells #[vB] 70 (0, 0))
  own : W.ownsRow w0.heap.size 48 3 v rs.length (rowV rs)
  b : Below w0.heap.size w0 W
  oi : w0.heap.size ≤ bi
  oj : w0.heap.size ≤ bj
  oa : w0.heap.size ≤ ba
  ne : bi ≠ bj

theorem one_at {W : World} {b : Nat} {v : Value} {t : TypeId} (h : W.heap[b]? = some (.cells #[v] t (0, 0))) : W.cell? ⟨b, 0, none⟩ = some v ∧ W.frozen? ⟨b, 0, none⟩ = false := by
  refine ⟨?_, by simp [World.frozen?, h]⟩
  simp only [World.cell?]
  rw [h]
  rfl

section
variable {w0 W : World} {bi ba bA bj bB i j : Nat} {v vA vB : Value} {rs : List (Int × Int × Int)}
theorem Gs.kept {W' : World} (h : Gs w0 W bi ba bA bj bB v rs i j vA vB) (hB : Below W.heap.size W W') : Gs w0 W' bi ba bA bj bB v rs i j vA vB := by
  have k : ∀ {b : Nat} {o : Obj}, W.heap[b]? = some o → W'.heap[b]? = some o := fun hb => (hB.block _ (Array.getElem?_eq_some_iff.1 hb).1).trans hb
  exact ⟨k h.ci, k h.cj, k h.ca, k h.cA, k h.cB, owns_below h.own hB, h.b.trans (hB.mono h.b.size), h.oi, h.oj, h.oa, h.ne⟩
theorem own_ne {g : Nat} {w : Value} {t : TypeId} (h : Gs w0 W bi ba bA bj bB v rs i j vA vB) (hg : W.heap[g]? = some (.cells #[w] t (0, 0))) (ht : t ≠ 48) : v.ownBlock ≠ some g := fun e => by
  obtain ⟨_, ⟨rfl, _⟩ | ⟨g', cap', cur', rfl, _, hg', _⟩⟩ := h.own
  · cases e
  · obtain rfl : g' = g := by simpa [Value.ownBlock] using e
    rw [hg] at hg'
    injection hg' with hg'
    injection hg' with _ e2
    exact ht e2
/-- A counter set. -/
theorem Gs.setI (h : Gs w0 W bi ba bA bj bB v rs i j vA vB) (i' : Nat) : Gs w0 (W.setCell ⟨bi, 0, none⟩ (.int .i64 (i' : Int))) bi ba bA bj bB v rs i' j vA vB := by
  have ho : ∀ q, q ≠ bi → (W.setCell ⟨bi, 0, none⟩ (.int .i64 (i' : Int))).heap[q]? = W.heap[q]? := fun q hq => Below.heap_setCell _ _ _ _ hq
  have ht := heap_set_row W bi 0 _ _ (.int .i64 (i' : Int)) h.ci
  refine ⟨ht, (ho _ h.ne.symm).trans h.cj, (ho _ (fun e => by have := h.ca; rw [e, h.ci] at this; simp at this)).trans h.ca, (ho _ (fun e => by have := h.cA; rw [e, h.ci] at this; simp at this)).trans h.cA, (ho _ (fun e => by have := h.cB; rw [e, h.ci] at this; simp at this)).trans h.cB, ?_, h.b.setCell h.oi _, h.oi, h.oj, h.oa, h.ne⟩
  have hne := own_ne h h.ci (by decide)
  refine ⟨h.own.1, ?_⟩
  rcases h.own.2 with hn | ⟨g, cap, cur, rfl, hbb, hg, rest⟩
  · exact .inl hn
  · exact .inr ⟨g, cap, cur, rfl, hbb, (ho g (fun e => hne (by rw [e]; rfl))).trans hg, rest⟩
theorem Gs.setJ (h : Gs w0 W bi ba bA bj bB v rs i j vA vB) (j' : Nat) : Gs w0 (W.setCell ⟨bj, 0, none⟩ (.int .i64 (j' : Int))) bi ba bA bj bB v rs i j' vA vB := by
  have ho : ∀ q, q ≠ bj → (W.setCell ⟨bj, 0, none⟩ (.int .i64 (j' : Int))).heap[q]? = W.heap[q]? := fun q hq => Below.heap_setCell _ _ _ _ hq
  have ht := heap_set_row W bj 0 _ _ (.int .i64 (j' : Int)) h.cj
  refine ⟨(ho _ h.ne).trans h.ci, ht, (ho _ (fun e => by have := h.ca; rw [e, h.cj] at this; simp at this)).trans h.ca, (ho _ (fun e => by have := h.cA; rw [e, h.cj] at this; simp at this)).trans h.cA, (ho _ (fun e => by have := h.cB; rw [e, h.cj] at this; simp at this)).trans h.cB, ?_, h.b.setCell h.oj _, h.oi, h.oj, h.oa, h.ne⟩
  have hne := own_ne h h.cj (by decide)
  refine ⟨h.own.1, ?_⟩
  rcases h.own.2 with hn | ⟨g, cap, cur, rfl, hbb, hg, rest⟩
  · exact .inl hn
  · exact .inr ⟨g, cap, cur, rfl, hbb, (ho g (fun e => hne (by rw [e]; rfl))).trans hg, rest⟩
/-- Which blocks the reading of a region looks at stay as they are. -/
def Stays (W : World) (ba : Nat) (v : Value) (X : World) : Prop := ∀ k, k < W.heap.size → k ≠ ba → v.ownBlock ≠ some k → X.heap[k]? = W.heap[k]?
/-- One row more. -/
theorem Gs.push (h : Gs w0 W bi ba bA bj bB v rs i j vA vB) (hl : rs.length ≤ 3000) (r : Int × Int × Int) :
    ∃ v' g' cap' W1, v' = .slice (some ⟨g', 0, none⟩) (rs.length + 1) cap' ∧ (Builtin.append_ #[42, 42] 42 #[v, .slice (some ⟨W.heap.size, 0, none⟩) 1 1]).run Try.prog (W.alloc (.cells #[.int .i64 r.1, .int .i64 r.2.1, .int .i64 r.2.2] 48)).drew = .ok v' W1 ∧
      W1.cell? ⟨ba, 0, none⟩ = some v ∧ W1.frozen? ⟨ba, 0, none⟩ = false ∧ Stays W ba v W1 ∧ Stays W ba v (W1.setCell ⟨ba, 0, none⟩ v') ∧ Hid (Gs w0 (W1.setCell ⟨ba, 0, none⟩ v') bi ba bA bj bB v' (rs ++ [r]) i j vA vB) := by
  obtain ⟨i0, hi, hz⟩ := Option.map_eq_some_iff.1 info_drow
  simp only [Prod.mk.injEq] at hz
  obtain ⟨hz0, hz1, hz2⟩ := hz
  have hbase := h.b.size
  have hown2 := (h.own.alloc (.cells #[.int .i64 r.1, .int .i64 r.2.1, .int .i64 r.2.2] 48)).drew
  have hB2 := (h.b.alloc hbase (.cells #[.int .i64 r.1, .int .i64 r.2.1, .int .i64 r.2.2] 48)).drew
  have hk2 : ∀ k, k < W.heap.size → (W.alloc (.cells #[.int .i64 r.1, .int .i64 r.2.1, .int .i64 r.2.2] 48)).drew.heap[k]? = W.heap[k]? := fun k hk => Below.heap_alloc W _ k hk
  have hsz : (W.alloc (.cells #[.int .i64 r.1, .int .i64 r.2.1, .int .i64 r.2.2] 48)).drew.heap.size = W.heap.size + 1 := World.size_alloc W _
  have hnew : (W.alloc (.cells #[.int .i64 r.1, .int .i64 r.2.1, .int .i64 r.2.2] 48)).drew.heap[W.heap.size]? = some (.cells #[.int .i64 r.1, .int .i64 r.2.1, .int .i64 r.2.2] 48 (0, 0)) := World.alloc_heap_new W _
  generalize (W.alloc (.cells #[.int .i64 r.1, .int .i64 r.2.1, .int .i64 r.2.2] 48)).drew = V at *
  have q0 : V.cell? ⟨W.heap.size, 0, none⟩ = some (.int .i64 r.1) := by simp only [World.cell?]; rw [hnew]; rfl
  have q1 : V.cell? ⟨W.heap.size, 1, none⟩ = some (.int .i64 r.2.1) := by simp only [World.cell?]; rw [hnew]; rfl
  have q2 : V.cell? ⟨W.heap.size, 2, none⟩ = some (.int .i64 r.2.2) := by simp only [World.cell?]; rw [hnew]; rfl
  obtain ⟨v', W1, hrun, r1, r2, _, r3⟩ := run_append_own_at (P := Try.prog) V w0.heap.size 42 42 48 i0 (.agg #[.int .i64 0, .int .i64 0, .int .i64 0]) 3 24 Try.underlying42 hi hz0 hz1 hz2 rfl (by decide) v rs.length _ hown2 ⟨W.heap.size, 0, none⟩ 1 1 [.int .i64 r.1, .int .i64 r.2.1, .int .i64 r.2.2] (by simp) (fun j u hj => by
    match j, hj with
    | 0, hj => cases hj; exact q0
    | 1, hj => cases hj; exact q1
    | 2, hj => cases hj; exact q2
    | j + 3, hj => simp at hj) (by simp [Value.oneCell']) (by unfold maxLen; omega) (by omega) (by omega)
  have hk1 : Stays W ba v W1 := fun k h1 h2 h3 => (r2.block k (by omega) (fun e => h3 e.symm)).trans (hk2 k h1)
  have hlt : ∀ {b : Nat} {o : Obj}, W.heap[b]? = some o → b < W.heap.size := fun hb => (Array.getElem?_eq_some_iff.1 hb).1
  have hba : W1.heap[ba]? = some (.cells #[v] 42 (0, 0)) := (r2.block ba (by have := hlt h.ca; omega) (fun e => own_ne h h.ca (by decide) e.symm)).trans ((hk2 ba (hlt h.ca)).trans h.ca)
  have ho : ∀ q, q ≠ ba → (W1.setCell ⟨ba, 0, none⟩ v').heap[q]? = W1.heap[q]? := fun q hq => Below.heap_setCell _ _ _ _ hq
  have ht := heap_set_row W1 ba 0 _ _ v' hba
  have hst : Stays W ba v (W1.setCell ⟨ba, 0, none⟩ v') := fun k h1 h2 h3 => (ho k h2).trans (hk1 k h1 h2 h3)
  have ni : bi ≠ ba := fun e => by have := h.ca; rw [← e, h.ci] at this; simp at this
  have nj : bj ≠ ba := fun e => by have := h.ca; rw [← e, h.cj] at this; simp at this
  have nA : bA ≠ ba := fun e => by have := h.ca; rw [← e, h.cA] at this; simp at this
  have nB : bB ≠ ba := fun e => by have := h.ca; rw [← e, h.cB] at this; simp at this
  have hsh : ∃ g' cap', v' = .slice (some ⟨g', 0, none⟩) (rs.length + 1) cap' := by
    obtain ⟨_, ⟨_, e⟩ | ⟨g, cap, cur, e, _⟩⟩ := r1
    · simp at e
    · exact ⟨g, cap, e⟩
  obtain ⟨g', cap', hsh⟩ := hsh
  refine ⟨v', g', cap', W1, hsh, hrun, (one_at hba).1, (one_at hba).2, hk1, hst, ⟨(hst bi (hlt h.ci) ni (own_ne h h.ci (by decide))).trans h.ci, (hst bj (hlt h.cj) nj (own_ne h h.cj (by decide))).trans h.cj, ht, (hst bA (hlt h.cA) nA (own_ne h h.cA (by decide))).trans h.cA, (hst bB (hlt h.cB) nB (own_ne h h.cB (by decide))).trans h.cB, ?_, ?_, h.oi, h.oj, h.oa, h.ne⟩⟩
  · rw [rowV_add, List.length_append]
    have hne : ∀ g, v'.ownBlock = some g → g ≠ ba := fun g e e2 => by
      subst e2
      rcases r3 with r3 | r3
      · exact own_ne h h.ca (by decide) (r3 ▸ e)
      · rw [r3] at e
        cases e
        have := hlt h.ca
        omega
    refine ⟨r1.1, ?_⟩
    rcases r1.2 with hn | ⟨g, cap, cur, rfl, hbb, hg, rest⟩
    · exact .inl hn
    · exact .inr ⟨g, cap, cur, rfl, hbb, (ho g (hne g rfl)).trans hg, rest⟩
  · exact (hB2.grown r2 (by omega) (fun j e => (World.ownsRow.lt hown2 _ e).1)).setCell h.oa _
end
end Go.Proofs.Ytgpopploimeeaaa
