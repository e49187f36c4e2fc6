/-
  PROVED HERE: tokens that a call owns, appended to; parts of tokens.
-/
import Derived.Test.YtgpopploimeeaaaTok
import Derived.Deep.AppendSrc
import Derived.OwnWalkIn
import Derived.Maps.AppendAt
import Derived.ProofKit
import Derived.RangeFuncRecord
namespace Go.Proofs.Ytgpopploimeeaaa
open Go.RowKit

theorem info23 : (Try.prog.info? 62).map (fun i => (i.zero, i.size, i.bytes)) = some (some (.agg #[.int .i64 0, .int .i64 0, .int .i64 0, .int .i64 0]), 4, 32) := by kernel_rfl
/-- The cells of tokens. -/
def flat : List Tok → List Value
  | [] => []
  | x :: r => .int .i64 x.k :: .int .i64 x.t :: .int .i64 x.n :: .int .i64 x.m :: flat r
theorem flat_append (l m : List Tok) : flat (l ++ m) = flat l ++ flat m := by
  induction l with
  | nil => rfl
  | cons x r ih => simp [flat, ih]
theorem flat_length (l : List Tok) : (flat l).length = l.length * 4 := by
  induction l with
  | nil => rfl
  | cons x r ih => simp [flat, ih]; omega
theorem flat_one (l : List Tok) : ∀ u ∈ flat l, u.oneCell' = true := by
  induction l with
  | nil => intro u hu; cases hu
  | cons x r ih =>
    intro u hu
    simp only [flat, List.mem_cons] at hu
    rcases hu with rfl | rfl | rfl | rfl | hu
    · rfl
    · rfl
    · rfl
    · rfl
    · exact ih u hu
theorem flat_at (l : List Tok) (i : Nat) (x : Tok) (h : l[i]? = some x) : (flat l)[i * 4]? = some (.int .i64 x.k) ∧ (flat l)[i * 4 + 1]? = some (.int .i64 x.t) ∧ (flat l)[i * 4 + 2]? = some (.int .i64 x.n) ∧ (flat l)[i * 4 + 3]? = some (.int .i64 x.m) := by
  induction l generalizing i with
  | nil => simp at h
  | cons y r ih =>
    cases i with
    | zero =>
      obtain rfl : y = x := by simpa using h
      exact ⟨rfl, rfl, rfl, rfl⟩
    | succ i =>
      have := ih i (by simpa using h)
      rw [show (i + 1) * 4 = i * 4 + 4 from by omega, show i * 4 + 4 + 1 = i * 4 + 1 + 4 from by omega, show i * 4 + 4 + 2 = i * 4 + 2 + 4 from by omega, show i * 4 + 4 + 3 = i * 4 + 3 + 4 from by omega]
      exact this
theorem flat_cells {w : World} {b : Nat} (l : List Tok) (o : Nat) (h : ∀ i x, l[i]? = some x → w.cell? ⟨b, o + i * 4, none⟩ = some (.int .i64 x.k) ∧ w.cell? ⟨b, o + i * 4 + 1, none⟩ = some (.int .i64 x.t) ∧
    w.cell? ⟨b, o + i * 4 + 2, none⟩ = some (.int .i64 x.n) ∧ w.cell? ⟨b, o + i * 4 + 3, none⟩ = some (.int .i64 x.m)) : ∀ j u, (flat l)[j]? = some u → w.cell? ⟨b, o + j, none⟩ = some u := by
  intro j u hj
  have hjl : j < l.length * 4 := by
    have := (List.getElem?_eq_some_iff.1 hj).1
    rwa [flat_length] at this
  obtain ⟨x, hx⟩ : ∃ x, l[j / 4]? = some x := ⟨_, List.getElem?_eq_getElem (by omega)⟩
  obtain ⟨f0, f1, f2, f3⟩ := flat_at l (j / 4) x hx
  obtain ⟨c0, c1, c2, c3⟩ := h (j / 4) x hx
  rcases (show j = j / 4 * 4 ∨ j = j / 4 * 4 + 1 ∨ j = j / 4 * 4 + 2 ∨ j = j / 4 * 4 + 3 from by omega) with e | e | e | e
  · rw [e] at hj ⊢
    rw [f0] at hj
    exact c0.trans hj
  · rw [e] at hj ⊢
    rw [f1] at hj
    exact c1.trans hj
  · rw [e] at hj ⊢
    rw [f2] at hj
    exact c2.trans hj
  · rw [e] at hj ⊢
    rw [f3] at hj
    exact c3.trans hj
theorem add_none (b o i : Nat) : (⟨b, o, none⟩ : Addr).add i = ⟨b, o + i, none⟩ := by unfold Addr.add; split <;> simp_all

/-- What a slice of tokens owns, read. -/
theorem toks_of_owns {W : World} {base : Nat} {v : Value} {n : Nat} {l : List Tok} (h : W.ownsRow base 62 4 v n (flat l)) (hv : v ≠ .slice none 0 0) :
    ∃ g cap, v = .slice (some ⟨g, 0, none⟩) n cap ∧ base ≤ g ∧ n ≤ cap ∧ cap ≤ maxLen ∧ Toks W (some ⟨g, 0, none⟩) n l := by
  obtain ⟨hl, ⟨h1, _⟩ | ⟨g, cap, cur, rfl, hb, hg, hc1, hc2, hc3, hc4⟩⟩ := h
  · exact absurd h1 hv
  · have hl' : l.length = n := by rw [flat_length] at hl; omega
    refine ⟨g, cap, rfl, hb, hc1, hc2, hl', .inr ⟨g, 0, rfl, (Array.getElem?_eq_some_iff.1 hg).1, fun i x hx => ?_⟩⟩
    have hi : i < l.length := (List.getElem?_eq_some_iff.1 hx).1
    obtain ⟨f0, f1, f2, f3⟩ := flat_at l i x hx
    have key : ∀ j u, (flat l)[j]? = some u → W.cell? ⟨g, 0 + j, none⟩ = some u := by
      intro j u hj
      have hjl : j < n * 4 := by
        have := (List.getElem?_eq_some_iff.1 hj).1
        rw [flat_length] at this
        omega
      rw [← hc4, List.getElem?_take, if_pos hjl, Array.getElem?_toList] at hj
      simp [World.cell?, hg, hj]
    exact ⟨key _ _ f0, key _ _ f1, key _ _ f2, key _ _ f3⟩

/-- append of tokens to what the call owns. -/
theorem tok_append_own (base : Nat) (v : Value) (n : Nat) (xs : List Tok) (W : World) (hown : W.ownsRow base 62 4 v n (flat xs)) (hv : v ≠ .slice none 0 0) (hbase : base ≤ W.heap.size) (a : Option Addr) (len cap : Nat) (bs : List Tok) (hr : Toks W a len bs) (hsz : n + len ≤ 4398046511104) :
    ∃ v' W1, (Builtin.append_ #[22, 22] 22 #[v, .slice a len cap]).run Try.prog W = .ok v' W1 ∧ W1.ownsRow base 62 4 v' (n + len) (flat (xs ++ bs)) ∧ v' ≠ .slice none 0 0 ∧ Below base W W1 := by
  obtain ⟨i0, hi, hz0, hz1, hz2⟩ := info_parts info23
  have hown0 := hown
  obtain ⟨hl0, ⟨h1, _⟩ | ⟨g, c, cur, rfl, hbg, hg, hc1, hc2, hc3, hc4⟩⟩ := hown0
  · exact absurd h1 hv
  · rcases Nat.eq_zero_or_pos len with h0 | h0
    · subst h0
      obtain rfl : bs = [] := List.length_eq_zero_iff.1 hr.1
      have hs : Src Try.prog i0.size 22 (.slice a 0 cap) 0 [] W := by
        cases a with
        | none => exact Src.ofNil _ Try.underlying22 cap
        | some p => exact Src.ofSlice _ Try.underlying22 p 0 cap [] (by simp) (by simp) (by simp)
      have h3 := run_append_room_src (P := Try.prog) W 22 22 22 62 i0 Try.underlying22 hi g 0 n c _ 0 [] hs (by omega) (by simp) (by simp)
      exact ⟨_, _, h3, by rw [List.append_nil]; exact hown, by simp, Below.refl base W⟩
    · obtain ⟨hl, h1 | ⟨b, o, rfl, hlt, hc⟩⟩ := hr
      · omega
      · obtain ⟨v', W1, hrun, r1, r2, r3⟩ := run_append_own (P := Try.prog) W base 22 22 62 i0 _ 4 32 Try.underlying22 hi hz0 hz1 hz2 rfl (by decide) _ n _ hown ⟨b, o, none⟩ len cap (flat bs) (by rw [flat_length, hl])
          (fun j u hj => by rw [add_none]; exact flat_cells bs o hc j u hj) (flat_one bs) (by unfold maxLen; omega) (by omega) hbase
        rw [← flat_append] at r1
        exact ⟨_, _, hrun, r1, fun e => by have := r3.1 e; simp at this, (Below.refl base W).grown r2 hbase (fun k e => by simp [Value.ownBlock] at e; omega)⟩

/-- append([]api.Token{}, l...): a copy that the call owns. -/
theorem tok_clone_own (a : Option Addr) (len cap : Nat) (bs : List Tok) (w : World) (hr : Toks w a len bs) (hsz : len ≤ 4398046511104) :
    ∃ v W1, (Builtin.append_ #[22, 22] 22 #[.slice (some ⟨w.heap.size, 0, none⟩) 0 0, .slice a len cap]).run Try.prog (w.alloc (.cells #[] 62)) = .ok v W1 ∧ W1.ownsRow w.heap.size 62 4 v len (flat bs) ∧ v ≠ .slice none 0 0 ∧ Below w.heap.size w W1 := by
  have hB : Below w.heap.size w (w.alloc (.cells #[] 62)) := (Below.refl _ w).alloc (Nat.le_refl _) _
  have hg : (w.alloc (.cells #[] 62)).heap[w.heap.size]? = some (.cells #[] 62 (0, 0)) := World.alloc_heap_new w _
  have hown : (w.alloc (.cells #[] 62)).ownsRow w.heap.size 62 4 (.slice (some ⟨w.heap.size, 0, none⟩) 0 0) 0 (flat []) := ⟨rfl, .inr ⟨_, _, _, rfl, Nat.le_refl _, hg, Nat.le_refl _, Nat.zero_le _, rfl, rfl⟩⟩
  obtain ⟨v', W1, h1, h2, h3, h4⟩ := tok_append_own w.heap.size _ 0 [] _ hown (by simp) (by simp) a len cap bs (hr.below hB) (by omega)
  rw [Nat.zero_add, List.nil_append] at h2
  exact ⟨v', W1, h1, h2, h3, hB.trans h4⟩

/-- A part of tokens. -/
theorem Toks.sub {w : World} {b o : Nat} {len : Nat} {l : List Tok} (h : Toks w (some ⟨b, o, none⟩) len l) (f n : Nat) (hf : f + n ≤ len) : Toks w (some ⟨b, o + f * 4, none⟩) n ((l.drop f).take n) := by
  obtain ⟨h1, h2⟩ := h
  refine ⟨by rw [List.length_take, List.length_drop]; omega, ?_⟩
  rcases Nat.eq_zero_or_pos n with h0 | h0
  · exact .inl h0
  · rcases h2 with h2 | ⟨b', o', e, hlt, hc⟩
    · omega
    · cases e
      refine .inr ⟨b, _, rfl, hlt, fun i x hx => ?_⟩
      rw [List.getElem?_take] at hx
      split at hx
      · rw [List.getElem?_drop] at hx
        have := hc (f + i) x hx
        rw [show o + f * 4 + i * 4 = o + (f + i) * 4 from by omega]
        exact this
      · cases hx

theorem Toks.part {w : World} {b o : Nat} {len : Nat} {l : List Tok} (h : Toks w (some ⟨b, o, none⟩) len l) (f n cap : Nat) (hf : f + n ≤ len) (hc : len ≤ cap) : Toks w (if cap = f then some ⟨b, o, none⟩ else some ⟨b, o + f * 4, none⟩) n ((l.drop f).take n) := by
  split
  · obtain rfl : n = 0 := by omega
    exact ⟨by simp, .inl rfl⟩
  · exact h.sub f n hf

/-- A built-in append whose run is known, in a walk. -/
theorem wp_tok_run {o : Oper} {a : Act} {w : World} {K : Act → World → Prop} {Q : Exit → Act → World → Prop} (s x : Operand) (t : TypeId) (ho : o.op = .call { callee := .builtin .append, args := #[s, x], argTypes := #[t, t] })
    (v u v' : Value) (w' : World) (hs : a.eval s = v) (hx : a.eval x = u) (hr : (Builtin.append_ #[t, t] o.type #[v, u]).run Try.prog w = .ok v' w') (h : K (a.put o.dst v') w') : o.wp Try.prog a w K Q := by
  unfold Oper.wp execOp
  simp only [ho, resolve, invoke, builtin, Sem.run_bind, Sem.run_pure, Result.andThen_ok, List.map_toArray, List.map_cons, List.map_nil, hs, hx, hr]
  exact h
theorem wpList_tok_run {ops : Array Oper} {rest : List Oper} {o : Oper} {a : Act} {w : World} {Q : Exit → Act → World → Prop} (hgd : o.guard = none) (s x : Operand) (t : TypeId) (ho : o.op = .call { callee := .builtin .append, args := #[s, x], argTypes := #[t, t] })
    (v u v' : Value) (w' : World) (hs : a.eval s = v) (hx : a.eval x = u) (hr : (Builtin.append_ #[t, t] o.type #[v, u]).run Try.prog w = .ok v' w') (h : wpList Try.prog ops Q rest (a.put o.dst v') w') : wpList Try.prog ops Q (o :: rest) a w :=
  wpList_plain hgd fun _ hK => wp_tok_run s x t ho v u v' w' hs hx hr (hK _ _ h)

def cut (l : List Tok) (f t : Int) : List Tok := if f < 0 ∨ t < f ∨ (l.length : Int) < t then [] else (l.drop f.toNat).take (t - f).toNat
def cutE (l : List Tok) (f t : Int) : Int := if f < 0 ∨ t < f ∨ (l.length : Int) < t then 1 else 0
end Go.Proofs.Ytgpopploimeeaaa
