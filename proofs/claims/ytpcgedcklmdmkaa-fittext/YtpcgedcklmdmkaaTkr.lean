/-
  PROVED HERE: tokens that a call owns, from none on: one appended; read; kept.
-/
import Derived.Test.YtpcgedcklmdmkaaOwn
import Derived.Test.YtpcgedcklmdmkaaRow
namespace Go.Proofs.Ytpcgedcklmdmkaa
open Go.RowKit

/-- append of one token to what the call owns. -/
theorem tok_append1 (base : Nat) (v : Value) (n : Nat) (xs : List Tok) (W : World) (hown : W.ownsRow base 35 4 v n (flat xs)) (hbase : base ≤ W.heap.size) (x : Tok) (gB c : Nat) (hg : W.heap[gB]? = some (.cells #[.int .i64 x.k, .int .i64 x.t, .int .i64 x.n, .int .i64 x.m] 35 (0, 0))) (hn : n + 1 ≤ 4398046511104) :
    ∃ v' W', (Builtin.append_ #[22, 22] 22 #[v, .slice (some ⟨gB, 0, none⟩) 1 c]).run Try.prog W = .ok v' W' ∧ W'.ownsRow base 35 4 v' (n + 1) (flat (xs ++ [x])) ∧ W.grownBy W' v.ownBlock ∧ (v'.ownBlock = v.ownBlock ∨ v'.ownBlock = some W.heap.size) := by
  obtain ⟨i0, hi, hz0, hz1, hz2⟩ := info_parts info23
  obtain ⟨v', W', h1, h2, h3, _, h5⟩ := run_append_own_at (P := Try.prog) (w := W) base 22 22 35 i0 _ 4 32 Try.underlying22 hi hz0 hz1 hz2 rfl (by decide) v n _ hown ⟨gB, 0, none⟩ 1 c (flat [x]) rfl
    (fun j u hj => by
      have hc := cell_of_row W gB j _ _ _ hg
      have e : (⟨gB, 0, none⟩ : Addr).add j = ⟨gB, j, none⟩ := by unfold Addr.add; split <;> simp_all
      rw [e, hc]
      simpa [flat] using hj) (flat_one _) (by unfold maxLen; omega) (by omega) hbase
  rw [← flat_append] at h2
  exact ⟨v', W', h1, h2, h3, h5⟩
/-- What a row that a call owns is, in a later world. -/
theorem owns_keep {W W' : World} {base n size : Nat} {e : TypeId} {v : Value} {xs : List Value} (h : W.ownsRow base e size v n xs) (hs : ∀ g, v.ownBlock = some g → W'.heap[g]? = W.heap[g]?) : W'.ownsRow base e size v n xs := by
  obtain ⟨hl, h1 | ⟨g, cap, cur, rfl, hb, hg, hc1, hc2, hc3, hc4⟩⟩ := h
  · exact ⟨hl, .inl h1⟩
  · exact ⟨hl, .inr ⟨g, cap, cur, rfl, hb, (hs g rfl).trans hg, hc1, hc2, hc3, hc4⟩⟩
theorem owns_block {W : World} {base n size : Nat} {e : TypeId} {v : Value} {xs : List Value} (h : W.ownsRow base e size v n xs) {g : Nat} (hg : v.ownBlock = some g) : base ≤ g ∧ g < W.heap.size ∧ ∃ c, W.heap[g]? = some (.cells c e (0, 0)) := by
  obtain ⟨hl, ⟨rfl, _⟩ | ⟨g', cap, cur, rfl, hb, hg', _⟩⟩ := h
  · cases hg
  · obtain rfl : g' = g := by simpa [Value.ownBlock] using hg
    exact ⟨hb, (Array.getElem?_eq_some_iff.1 hg').1, cur, hg'⟩
theorem owns_later {W W' : World} {base n size : Nat} {e : TypeId} {v : Value} {xs : List Value} (h : W.ownsRow base e size v n xs) (hB : Below W.heap.size W W') : W'.ownsRow base e size v n xs :=
  owns_keep h fun g hg => hB.block g (owns_block h hg).2.1
theorem owns_alloc {W : World} {base n size : Nat} {e : TypeId} {v : Value} {xs : List Value} (h : W.ownsRow base e size v n xs) (o : Obj) : (W.alloc o).ownsRow base e size v n xs :=
  owns_later h ((Below.refl _ W).alloc (Nat.le_refl _) o)
/-- What a slice of tokens owns, or none, read. -/
theorem toks_of_own {W : World} {base : Nat} {v : Value} {n : Nat} {l : List Tok} (h : W.ownsRow base 35 4 v n (flat l)) :
    ∃ a cap, v = .slice a n cap ∧ Toks W a n l ∧ n ≤ cap ∧ cap ≤ maxLen := by
  by_cases hv : v = .slice none 0 0
  · subst hv
    obtain ⟨hl, ⟨_, rfl⟩ | ⟨g, cap, cur, e, _⟩⟩ := h
    · exact ⟨none, 0, rfl, ⟨by rw [flat_length] at hl; omega, .inl rfl⟩, Nat.le_refl _, Nat.zero_le _⟩
    · simp at e
  · obtain ⟨g, cap, rfl, _, h1, h2, h3⟩ := toks_of_owns h hv
    exact ⟨_, cap, rfl, h3, h1, h2⟩
theorem below_app {base : Nat} {w W W' : World} {size n : Nat} {v : Value} {xs : List Value} {e : TypeId} (hB : Below base w W) (hrow : W.ownsRow base e size v n xs) (hgr : W.grownBy W' v.ownBlock) (hbase : base ≤ W.heap.size) : Below base w W' :=
  hB.grown hgr hbase (fun _ eg => (owns_block hrow eg).1)
/-- One token more, out of a new block. -/
theorem app1 {base : Nat} {v : Value} {n : Nat} {xs : List Tok} {W w : World} (hown : W.ownsRow base 35 4 v n (flat xs)) (hB : Below base w W) (hb : base ≤ w.heap.size) (x : Tok) (gB : Nat) (hgB : gB = W.heap.size) (hn : n + 1 ≤ 4398046511104) :
    ∃ g cap X, (Builtin.append_ #[22, 22] 22 #[v, .slice (some ⟨gB, 0, none⟩) 1 1]).run Try.prog (W.alloc (.cells #[.int .i64 x.k, .int .i64 x.t, .int .i64 x.n, .int .i64 x.m] 35)) = .ok (.slice (some ⟨g, 0, none⟩) (n + 1) cap) X ∧
      X.ownsRow base 35 4 (.slice (some ⟨g, 0, none⟩) (n + 1) cap) (n + 1) (flat (xs ++ [x])) ∧ Below base w X := by
  subst hgB
  have hbW : base ≤ W.heap.size := Nat.le_trans hb hB.size
  obtain ⟨v', X, h1, h2, h3, _⟩ := tok_append1 base v n xs (W.alloc (.cells #[.int .i64 x.k, .int .i64 x.t, .int .i64 x.n, .int .i64 x.m] 35)) (owns_alloc hown _) (by simp; omega) x W.heap.size 1 (World.alloc_heap_new W _) hn
  have h4 : Below base w X := below_app (hB.alloc hbW _) (owns_alloc hown _) h3 (by simp; omega)
  have h5 := h2
  obtain ⟨_, ⟨_, e⟩ | ⟨g, cap, cur, rfl, _⟩⟩ := h5
  · omega
  · exact ⟨g, cap, X, h1, h2, h4⟩
/-- Many more, out of another slice. -/
theorem app_all {base : Nat} {v : Value} {n m c g : Nat} {xs bs : List Tok} {W w : World} (hown : W.ownsRow base 35 4 v n (flat xs)) (hB : Below base w W) (hb : base ≤ w.heap.size) (hr : Toks W (some ⟨g, 0, none⟩) m bs) (hn : n + m ≤ 4398046511104) :
    ∃ a cap X, (Builtin.append_ #[22, 22] 22 #[v, .slice (some ⟨g, 0, none⟩) m c]).run Try.prog W = .ok (.slice a (n + m) cap) X ∧ Toks X a (n + m) (xs ++ bs) ∧ Below base w X := by
  obtain ⟨i0, hi, hz0, hz1, hz2⟩ := info_parts info23
  have hbW : base ≤ W.heap.size := Nat.le_trans hb hB.size
  have hc : ∀ j u, (flat bs)[j]? = some u → W.cell? ((⟨g, 0, none⟩ : Addr).add j) = some u := by
    intro j u hj
    obtain ⟨hl, h | ⟨b', o', e, _, hc⟩⟩ := hr
    · obtain rfl : bs = [] := List.length_eq_zero_iff.1 (by omega)
      simp [flat] at hj
    · cases e
      rw [add_none]
      exact flat_cells bs 0 hc j u hj
  obtain ⟨v', X, h1, h2, h3, _⟩ := run_append_own (P := Try.prog) W base 22 22 35 i0 _ 4 32 Try.underlying22 hi hz0 hz1 hz2 rfl (by decide) v n _ hown ⟨g, 0, none⟩ m c (flat bs) (by rw [flat_length, hr.1]) hc (flat_one bs) (by unfold maxLen; omega) (by omega) hbW
  rw [← flat_append] at h2
  obtain ⟨a, cap, rfl, h4, _⟩ := toks_of_own h2
  exact ⟨a, cap, X, h1, h4, below_app hB hown h3 hbW⟩
/-- A new token, in memory. -/
theorem new_toks (w : World) (x : Tok) : Toks (w.alloc (.cells #[.int .i64 x.k, .int .i64 x.t, .int .i64 x.n, .int .i64 x.m] 35)) (some ⟨w.heap.size, 0, none⟩) 1 [x] := by
  refine ⟨rfl, .inr ⟨_, 0, rfl, by simp, fun i y hy => ?_⟩⟩
  match i, hy with
  | 0, hy =>
    obtain rfl : x = y := by simpa using hy
    have hg := heap_alloc_new w (.cells #[.int .i64 x.k, .int .i64 x.t, .int .i64 x.n, .int .i64 x.m] 35)
    have hc := fun j => cell_of_row _ w.heap.size j _ _ _ hg
    exact ⟨hc 0, hc 1, hc 2, hc 3⟩
  | (i + 1), hy => simp at hy
end Go.Proofs.Ytpcgedcklmdmkaa
