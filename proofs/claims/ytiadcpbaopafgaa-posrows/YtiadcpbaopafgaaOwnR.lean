/-
  PROVED HERE: ranges that a call owns, appended to.
-/
import Derived.Test.YtiadcpbaopafgaaHeld
import Derived.Deep.AppendSrc
import Derived.OwnWalkIn
import Derived.Maps.AppendAt
import Derived.ProofKit
import Derived.RangeFuncBox
namespace Go.Proofs.Ytiadcpbaopafgaa
open Go.RowKit

theorem infoR : (Try.prog.info? 60).map (fun i => (i.zero, i.size, i.bytes)) = some (some (.agg #[.int .i64 0, .int .i64 0, .int .i64 0]), 3, 24) := by kernel_rfl
/-- The cells of ranges. -/
def flatR : List Rng → List Value
  | [] => []
  | x :: r => .int .i64 x.a :: .int .i64 x.o :: .int .i64 x.n :: flatR r
theorem flatR_append (l m : List Rng) : flatR (l ++ m) = flatR l ++ flatR m := by
  induction l with
  | nil => rfl
  | cons x r ih => simp [flatR, ih]
theorem flatR_length (l : List Rng) : (flatR l).length = l.length * 3 := by
  induction l with
  | nil => rfl
  | cons x r ih => simp [flatR, ih]; omega
theorem flatR_one (l : List Rng) : ∀ u ∈ flatR l, u.oneCell' = true := by
  induction l with
  | nil => intro u hu; cases hu
  | cons x r ih =>
    intro u hu
    simp only [flatR, List.mem_cons] at hu
    rcases hu with rfl | rfl | rfl | hu
    · rfl
    · rfl
    · rfl
    · exact ih u hu
theorem flatR_at (l : List Rng) (i : Nat) (x : Rng) (h : l[i]? = some x) : (flatR l)[i * 3]? = some (.int .i64 x.a) ∧ (flatR l)[i * 3 + 1]? = some (.int .i64 x.o) ∧ (flatR l)[i * 3 + 2]? = some (.int .i64 x.n) := by
  induction l generalizing i with
  | nil => simp at h
  | cons y r ih =>
    cases i with
    | zero =>
      obtain rfl : y = x := by simpa using h
      exact ⟨rfl, rfl, rfl⟩
    | succ i =>
      have := ih i (by simpa using h)
      rw [show (i + 1) * 3 = i * 3 + 3 from by omega, show i * 3 + 3 + 1 = i * 3 + 1 + 3 from by omega, show i * 3 + 3 + 2 = i * 3 + 2 + 3 from by omega]
      exact this
/-- What a slice of ranges owns, read. -/
theorem rngs_of_owns {W : World} {base : Nat} {v : Value} {n : Nat} {l : List Rng} (h : W.ownsRow base 60 3 v n (flatR l)) :
    ∃ a cap, v = .slice a n cap ∧ Rngs W a n l ∧ n ≤ cap ∧ cap ≤ maxLen ∧ (a = none → cap = 0) ∧ (∀ z, a = some z → z.spot = none ∧ base ≤ z.block) := by
  obtain ⟨hl, ⟨rfl, rfl⟩ | ⟨g, cap, cur, rfl, hb, hg, hc1, hc2, hc3, hc4⟩⟩ := h
  · have hl' : l.length = 0 := by rw [flatR_length] at hl; omega
    exact ⟨none, 0, rfl, ⟨hl', .inl rfl⟩, Nat.le_refl _, Nat.zero_le _, fun _ => rfl, fun _ e => by cases e⟩
  · have hl' : l.length = n := by rw [flatR_length] at hl; omega
    refine ⟨_, cap, rfl, ⟨hl', .inr ⟨g, 0, rfl, (Array.getElem?_eq_some_iff.1 hg).1, fun i x hx => ?_⟩⟩, hc1, hc2, (fun e => by cases e), (fun z e => by cases e; exact ⟨rfl, hb⟩)⟩
    have hi : i < l.length := (List.getElem?_eq_some_iff.1 hx).1
    obtain ⟨f0, f1, f2⟩ := flatR_at l i x hx
    have key : ∀ j u, (flatR l)[j]? = some u → W.cell? ⟨g, 0 + j, none⟩ = some u := by
      intro j u hj
      have hjl : j < n * 3 := by
        have := (List.getElem?_eq_some_iff.1 hj).1
        rw [flatR_length] at this
        omega
      rw [← hc4, List.getElem?_take, if_pos hjl, Array.getElem?_toList] at hj
      simp [World.cell?, hg, hj]
    exact ⟨key _ _ f0, key _ _ f1, key _ _ f2⟩
/-- append of one range to what the call owns. -/
theorem rng_append1 (base : Nat) (v : Value) (n : Nat) (xs : List Rng) (W : World) (hown : W.ownsRow base 60 3 v n (flatR xs)) (hbase : base ≤ W.heap.size) (x : Rng) (gB c : Nat) (hg : W.heap[gB]? = some (.cells #[.int .i64 x.a, .int .i64 x.o, .int .i64 x.n] 60 (0, 0))) (hn : n ≤ 100000) :
    ∃ v' W', (Builtin.append_ #[22, 22] 22 #[v, .slice (some ⟨gB, 0, none⟩) 1 c]).run Try.prog W = .ok v' W' ∧ W'.ownsRow base 60 3 v' (n + 1) (flatR (xs ++ [x])) ∧ W.grownBy W' v.ownBlock ∧ (v'.ownBlock = v.ownBlock ∨ v'.ownBlock = some W.heap.size) := by
  obtain ⟨i0, hi, hz0, hz1, hz2⟩ := info_parts infoR
  obtain ⟨v', W', h1, h2, h3, _, h5⟩ := run_append_own_at (P := Try.prog) (w := W) base 22 22 60 i0 _ 3 24 Try.underlying22 hi hz0 hz1 hz2 rfl (by decide) v n _ hown ⟨gB, 0, none⟩ 1 c (flatR [x]) rfl
    (fun j u hj => by
      have hc := cell_of_row W gB j _ _ _ hg
      have e : (⟨gB, 0, none⟩ : Addr).add j = ⟨gB, j, none⟩ := by unfold Addr.add; split <;> simp_all
      rw [e, hc]
      simpa [flatR] using hj) (flatR_one _) (by unfold maxLen; omega) (by omega) hbase
  rw [← flatR_append] at h2
  exact ⟨v', W', h1, h2, h3, h5⟩
/-- A built-in append whose run is known, in a walk. -/
theorem wp_app_run {o : Oper} {a : Act} {w : World} {K : Act → World → Prop} {Q : Exit → Act → World → Prop} (s x : Operand) (t : TypeId) (ho : o.op = .call { callee := .builtin .append, args := #[s, x], argTypes := #[t, t] })
    (v u v' : Value) (w' : World) (hs : a.eval s = v) (hx : a.eval x = u) (hr : (Builtin.append_ #[t, t] o.type #[v, u]).run Try.prog w = .ok v' w') (h : K (a.put o.dst v') w') : o.wp Try.prog a w K Q := by
  unfold Oper.wp execOp
  simp only [ho, resolve, invoke, builtin, Sem.run_bind, Sem.run_pure, Result.andThen_ok, List.map_toArray, List.map_cons, List.map_nil, hs, hx, hr]
  exact h
/-- What a row that a call owns is, in a later world. -/
theorem owns_keep {W W' : World} {base n size : Nat} {e : TypeId} {v : Value} {xs : List Value} (h : W.ownsRow base e size v n xs) (hs : ∀ g, v.ownBlock = some g → W'.heap[g]? = W.heap[g]?) : W'.ownsRow base e size v n xs := by
  obtain ⟨hl, h1 | ⟨g, cap, cur, rfl, hb, hg, hc1, hc2, hc3, hc4⟩⟩ := h
  · exact ⟨hl, .inl h1⟩
  · exact ⟨hl, .inr ⟨g, cap, cur, rfl, hb, (hs g rfl).trans hg, hc1, hc2, hc3, hc4⟩⟩
theorem owns_block {W : World} {base n size : Nat} {e : TypeId} {v : Value} {xs : List Value} (h : W.ownsRow base e size v n xs) {g : Nat} (hg : v.ownBlock = some g) : base ≤ g ∧ g < W.heap.size ∧ ∃ c, W.heap[g]? = some (.cells c e (0, 0)) := by
  obtain ⟨hl, ⟨rfl, _⟩ | ⟨g', cap, cur, rfl, hb, hg', _⟩⟩ := h
  · cases hg
  · obtain rfl : g' = g := by simpa [Value.ownBlock] using hg
    exact ⟨hb, (Array.getElem?_eq_some_iff.1 hg').1, cur, hg'⟩
end Go.Proofs.Ytiadcpbaopafgaa
