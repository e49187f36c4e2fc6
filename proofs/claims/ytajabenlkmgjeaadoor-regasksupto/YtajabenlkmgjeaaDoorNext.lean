/-
  PROVED HERE: places in memory: what one way more from a place makes of a plan; a row of numbers that is new.
-/
import Derived.Test.YtajabenlkmgjeaaDoorFork
namespace Go.Proofs.YtajabenlkmgjeaaDoor
open Go.RowKit

theorem PlanIn.tight {A : Nat → Prop} {w : World} {B : Nat} {gv : Value} {L : List Place} (h : PlanIn A w B gv L) : PlanIn (fun b => A b ∧ b < w.heap.size) w B gv L := by
  obtain ⟨v, rs, h⟩ := h
  refine ⟨v, rs, h.plan, ⟨h.own, (Array.getElem?_eq_some_iff.1 h.plan).1⟩, h.row, fun g hg => ⟨h.rowA g hg, (owns_lt h.row hg).1⟩, h.len, fun i x hx => ?_, h.apart⟩
  obtain ⟨r, h1, h2, h3, h4, h5⟩ := h.each i x hx
  exact ⟨r, h1, h2, h3, h4, fun g hg => ⟨h5 g hg, (owns_lt h4 hg).1⟩⟩
theorem wf.least_le {L : List Place} (h : wf L) : ∀ p, leastAt L p ≤ p := by
  intro p
  induction p using Nat.strongRecOn with
  | _ p ih =>
    cases hx : L[p]? with
    | none => unfold leastAt; rw [hx]; exact Nat.zero_le _
    | some x =>
      rw [leastAt_some hx]
      rcases Nat.eq_zero_or_pos p with rfl | hp
      · rw [h.1] at hx
        cases hx
        exact Nat.le_refl _
      · rcases h.2 p x hp hx with ⟨_, q, _, hq, e⟩ | ⟨_, _, q, _, hq, e⟩
        · have := ih q hq
          omega
        · have := ih q hq
          omega
theorem wf.least_lt {L : List Place} (h : wf L) (p : Nat) : leastAt L p ≤ L.length := by
  rcases Nat.lt_or_ge p L.length with hp | hp
  · have := h.least_le p
    omega
  · unfold leastAt
    rw [List.getElem?_eq_none hp]
    exact Nat.zero_le _
/-- A row of numbers that was just made. -/
theorem owns_new1 (w : World) (q : Nat) : (w.alloc (.cells #[.int .i64 (q : Int)] 3)).ownsRow 0 3 1 (.slice (some ⟨w.heap.size, 0, none⟩) 1 1) 1 (numsV [q]) :=
  ⟨rfl, .inr ⟨w.heap.size, 1, #[.int .i64 (q : Int)], rfl, Nat.zero_le _, World.alloc_heap_new w _, Nat.le_refl _, by unfold maxLen; omega, rfl, rfl⟩⟩
theorem owns_new2 (w : World) (p q : Nat) : (w.alloc (.cells #[.int .i64 (p : Int), .int .i64 (q : Int)] 3)).ownsRow 0 3 1 (.slice (some ⟨w.heap.size, 0, none⟩) 2 2) 2 (numsV [p, q]) :=
  ⟨rfl, .inr ⟨w.heap.size, 2, #[.int .i64 (p : Int), .int .i64 (q : Int)], rfl, Nat.zero_le _, World.alloc_heap_new w _, Nat.le_refl _, by unfold maxLen; omega, rfl, rfl⟩⟩
theorem rowP_set : ∀ (rs : List RawP) (i : Nat) (r : RawP) (hv : Value), rs[i]? = some r → rowP (rs.set i (r.1, hv, r.2.2)) = (rowP rs).set (i * 3 + 1) hv := by
  intro rs
  induction rs with
  | nil => intro i r hv h; simp at h
  | cons y rs ih =>
    intro i r hv h
    cases i with
    | zero =>
      obtain rfl : y = r := by simpa using h
      rfl
    | succ i =>
      have := ih i r hv (by simpa using h)
      rw [show (i + 1) * 3 + 1 = i * 3 + 1 + 3 from by omega]
      simp only [List.set_cons_succ, rowP, this]
theorem owns_set {w : World} {e : TypeId} {sz g n cap : Nat} {xs : List Value} (h : w.ownsRow 0 e sz (.slice (some ⟨g, 0, none⟩) n cap) n xs) (k : Nat) (u : Value) (_hk : k < n * sz) : (w.setCell ⟨g, k, none⟩ u).ownsRow 0 e sz (.slice (some ⟨g, 0, none⟩) n cap) n (xs.set k u) := by
  obtain ⟨h1, h2⟩ := h
  refine ⟨by rw [List.length_set]; exact h1, ?_⟩
  rcases h2 with ⟨e1, _⟩ | ⟨g', cap', cur, e1, hb, hg, h3, h4, h5, h6⟩
  · cases e1
  · cases e1
    refine .inr ⟨g, cap, cur.setIfInBounds k u, rfl, hb, heap_setCell_same w g k cur e u hg, h3, h4, by simpa using h5, ?_⟩
    rw [Array.toList_setIfInBounds, List.take_set, h6]
/-- One way more from a place, in memory. -/
theorem plan_next {A : Nat → Prop} {W : World} {B : Nat} {gv : Value} {g cap : Nat} {rs : List RawP} {L : List Place} (h : PlanAt A W B gv (.slice (some ⟨g, 0, none⟩) L.length cap) rs L) (i q : Nat) (x : Place) (hi : L[i]? = some x) (hlen : x.2.1.length ≤ 1048576)
    (b bc : Nat) (hc : ∀ j u, [Value.int .i64 (q : Int)][j]? = some u → W.cell? ((⟨b, 0, none⟩ : Addr).add j) = some u) :
    ∃ hv v' W1 A', W.cell? ⟨g, i * 3 + 1, none⟩ = some hv ∧ (Builtin.append_ #[26, 26] 26 #[hv, .slice (some ⟨b, 0, none⟩) 1 bc]).run Tryd.prog W = .ok v' W1 ∧ (∃ a n c, v' = .slice a n c) ∧ W1.heap[B]? = W.heap[B]? ∧ W1.heap[g]? = W.heap[g]? ∧
      PlanIn A' (W1.setCell ⟨g, i * 3 + 1, none⟩ v') B gv (addNext L i q) ∧ Fr A W A' (W1.setCell ⟨g, i * 3 + 1, none⟩ v') := by
  obtain ⟨i0, hI, hz0, hz1, hz2⟩ := info_parts infoInt
  obtain ⟨r, h1, h2, h3, h4, h5⟩ := h.each i x hi
  obtain ⟨v', W1, hrun, r1, r2, _, r4⟩ := run_append_own_at (P := Tryd.prog) W 0 26 26 3 i0 _ 1 8 Tryd.underlying26 hI hz0 hz1 hz2 rfl (by decide) r.2.1 x.2.1.length _ h4 ⟨b, 0, none⟩ 1 bc [.int .i64 (q : Int)] rfl hc (fun u hu => by
    simp at hu
    subst hu
    rfl) (by unfold maxLen; omega) (by omega) (Nat.zero_le _)
  have hiL : i < L.length := (List.getElem?_eq_some_iff.1 hi).1
  have hg : ∃ cur, W.heap[g]? = some (.cells cur 59 (0, 0)) := (owns_lt h.row (g := g) rfl).2
  obtain ⟨cur, hcur⟩ := hg
  have hglt : g < W.heap.size := (Array.getElem?_eq_some_iff.1 hcur).1
  have hBlt : B < W.heap.size := (Array.getElem?_eq_some_iff.1 h.plan).1
  have hgB : g ≠ B := fun e => by subst e; rw [h.plan] at hcur; cases hcur
  have hrnum : ∀ k, r.2.1.ownBlock = some k → k ≠ g ∧ k ≠ B := fun k hk => by
    obtain ⟨_, c, hc⟩ := owns_lt h4 hk
    exact ⟨fun e => (by subst e; rw [hcur] at hc; cases hc), fun e => (by subst e; rw [h.plan] at hc; cases hc)⟩
  have hsame : ∀ k, k < W.heap.size → r.2.1.ownBlock ≠ some k → W1.heap[k]? = W.heap[k]? := fun k hk hne => r2.block k hk (fun e => hne e.symm)
  have hB1 : W1.heap[B]? = W.heap[B]? := hsame B hBlt (fun e => (hrnum B e).2 rfl)
  have hg1 : W1.heap[g]? = W.heap[g]? := hsame g hglt (fun e => (hrnum g e).1 rfl)
  have hset : ∀ k, k ≠ g → (W1.setCell ⟨g, i * 3 + 1, none⟩ v').heap[k]? = W1.heap[k]? := fun k hk => Below.heap_setCell W1 _ _ k hk
  have hv'g : ∀ k, v'.ownBlock = some k → k ≠ g := fun k hk e => by
    rcases r4 with e1 | e1
    · rw [e1] at hk
      exact (hrnum k hk).1 e
    · rw [e1] at hk
      cases hk
      omega
  have hvs : ∃ a n c, v' = .slice a n c := by
    rcases r1.2 with ⟨e, _⟩ | ⟨g', c', _, e, _⟩
    · exact ⟨_, _, _, e⟩
    · exact ⟨_, _, _, e⟩
  obtain ⟨f0, f1, f2⟩ := rowP_at rs i r h1
  obtain ⟨g2, cap2, e2, hcells⟩ := owns_cell h.row (by omega)
  cases e2
  refine ⟨r.2.1, v', W1, fun k => A k ∨ v'.ownBlock = some k, hcells _ _ f1, hrun, hvs, hB1, hg1, ⟨.slice (some ⟨g, 0, none⟩) L.length cap, rs.set i (r.1, v', r.2.2), ?_, .inl h.own, ?_, fun k hk => .inl (h.rowA k hk), ?_, fun j y hy => ?_, ?_⟩, ⟨?_, fun k hk hn => ?_, fun k hk => ?_⟩⟩
  · rw [hset B (Ne.symm hgB), hB1]
    exact h.plan
  · rw [addNext_length, rowP_set rs i r v' h1]
    exact owns_set (owns_same h.row fun k hk => by cases hk; exact hg1) _ _ (by omega)
  · rw [List.length_set, addNext_length]
    exact h.len
  · by_cases hji : j = i
    · subst hji
      rw [addNext_eq hi] at hy
      cases hy
      refine ⟨(r.1, v', r.2.2), ?_, h2, h3, ?_, fun k hk => .inr hk⟩
      · rw [List.getElem?_set]
        simp [h.len, hiL]
      · have := owns_same (w' := W1.setCell ⟨g, j * 3 + 1, none⟩ v') r1 fun k hk => hset k (hv'g k hk)
        simpa [numsV] using this
    · rw [addNext_ne hji] at hy
      obtain ⟨s, s1, s2, s3, s4, s5⟩ := h.each j y hy
      refine ⟨s, ?_, s2, s3, owns_same s4 fun k hk => ?_, fun k hk => .inl (s5 k hk)⟩
      · rw [List.getElem?_set]
        simp [Ne.symm hji, s1]
      · obtain ⟨hlt, c, hcc⟩ := owns_lt s4 hk
        rw [hset k (fun e => by subst e; rw [hcur] at hcc; cases hcc), hsame k hlt (fun e => hji (h.apart j i s r k s1 h1 hk e))]
  · have hget : ∀ (j : Nat) (s : RawP), (rs.set i (r.1, v', r.2.2))[j]? = some s → (j = i ∧ s = (r.1, v', r.2.2)) ∨ (j ≠ i ∧ rs[j]? = some s) := fun j s hs => by
      rw [List.getElem?_set] at hs
      by_cases hji : i = j
      · subst hji
        simp [h.len, hiL] at hs
        exact .inl ⟨rfl, hs.symm⟩
      · rw [if_neg hji] at hs
        exact .inr ⟨Ne.symm hji, hs⟩
    have hold : ∀ (j : Nat) (s : RawP) (k : Nat), j ≠ i → rs[j]? = some s → s.2.1.ownBlock = some k → v'.ownBlock ≠ some k := fun j s k hji hs hk e => by
      obtain ⟨y, hy⟩ : ∃ y, L[j]? = some y := ⟨_, List.getElem?_eq_getElem (by rw [← h.len]; exact (List.getElem?_eq_some_iff.1 hs).1)⟩
      obtain ⟨s', s1, _, _, s4, _⟩ := h.each j y hy
      rw [hs] at s1
      cases s1
      rcases r4 with e1 | e1
      · rw [e1] at e
        exact hji (h.apart j i s r k hs h1 hk e)
      · rw [e1] at e
        cases e
        have := (owns_lt s4 hk).1
        omega
    intro j l rj rl k hj hl gj gl
    rcases hget j rj hj with ⟨j1, rfl⟩ | ⟨j1, j2⟩ <;> rcases hget l rl hl with ⟨l1, rfl⟩ | ⟨l1, l2⟩
    · rw [j1, l1]
    · exact absurd gj (hold l rl k l1 l2 gl)
    · exact absurd gl (hold j rj k j1 j2 gj)
    · exact h.apart j l rj rl k j2 l2 gj gl
  · exact ⟨r2.os, r2.tape, r2.output, by have := r2.size; simpa using this, fun k hk => absurd hk (by omega)⟩
  · rw [hset k (fun e => hn (h.rowA k (by rw [e]; rfl)))]
    exact hsame k hk (fun e => hn (h5 k e))
  · rcases hk with hk | hk
    · exact .inl hk
    · rcases r4 with e | e
      · rw [e] at hk
        exact .inl (h5 k hk)
      · rw [e] at hk
        cases hk
        exact .inr (Nat.le_refl _)
end Go.Proofs.YtajabenlkmgjeaaDoor
