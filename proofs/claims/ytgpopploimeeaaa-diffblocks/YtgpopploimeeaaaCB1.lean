/-
  PROVED HERE: what the texts Tok, Own, Args, DArgs say (each has its own words below).
-/
import Derived.Test.YtgpopploimeeaaaProg
import Derived.WalkKit
import Derived.Below
import Derived.Deep.Light
import Derived.Deep.AppendSrc
import Derived.OwnWalkIn
import Derived.Maps.AppendAt
import Derived.ProofKit
import Derived.RangeFuncRecord
import Derived.Deep.Slices
import Derived.ChangeSame
import Derived.ChangeArms
import Derived.Test.YtgpopploimeeaaaRows
import Derived.OpenShut
import Derived.DataShut
import Derived.SizedLaws
import Derived.Carry
/- Tok: tokens as plain data, and in a slice; plain functions on them. -/
namespace Go.Proofs.Ytgpopploimeeaaa
open Go.RowKit

structure Tok where
  k : Int
  t : Int
  n : Int
  m : Int

/-- The same token, the same tokens. -/
def tokEq (x y : Tok) : Bool := x.k == y.k && (x.t == y.t && (x.n == y.n && x.m == y.m))
theorem tokEq_iff (x y : Tok) : tokEq x y = true ↔ x = y := by
  obtain ⟨a, b, c, d⟩ := x
  obtain ⟨a', b', c', d'⟩ := y
  simp [tokEq]
def eqL : List Tok → List Tok → Bool
  | [], [] => true
  | x :: r, y :: s => tokEq x y && eqL r s
  | [], _ :: _ => false
  | _ :: _, [] => false
theorem eqL_iff (l m : List Tok) : eqL l m = true ↔ l = m := by
  induction l generalizing m with
  | nil => cases m <;> simp [eqL]
  | cons x r ih =>
    cases m with
    | nil => simp [eqL]
    | cons y s => rw [eqL, Bool.and_eq_true, tokEq_iff, ih, List.cons.injEq]
theorem eqL_false {l m : List Tok} (h : l ≠ m) : eqL l m = false := by
  cases e : eqL l m with
  | false => rfl
  | true => exact absurd ((eqL_iff l m).1 e) h
theorem tokEq_false {x y : Tok} (h : x ≠ y) : tokEq x y = false := by
  cases e : tokEq x y with
  | false => rfl
  | true => exact absurd ((tokEq_iff x y).1 e) h

def tokV (x : Tok) : Value := .agg #[.int .i64 x.k, .int .i64 x.t, .int .i64 x.n, .int .i64 x.m]

def point (n : Int) : Bool := decide (0 ≤ n) && decide (n ≤ 1114111) && (decide (n < 55296) || decide (57343 < n))
def rightM (s : Int) : Bool := decide (0 ≤ s) && decide (s ≤ 4)
def rightT (x : Tok) : Bool :=
  if x.k = 0 then x.t == 0 && point x.n && rightM x.m
  else if x.k = 1 ∨ x.k = 3 then decide (1 ≤ x.t) && decide (x.t < 16) && decide (0 ≤ x.n) && decide (x.n ≤ 15) && x.m == 0
  else if x.k = 2 then x.t == 0 && x.n == 0 && x.m == 0
  else false

/-- A slice's elements are the tokens l. -/
def Toks (w : World) (a : Option Addr) (len : Nat) (l : List Tok) : Prop :=
  l.length = len ∧ (len = 0 ∨ ∃ b o, a = some ⟨b, o, none⟩ ∧ b < w.heap.size ∧ ∀ i x, l[i]? = some x → w.cell? ⟨b, o + i * 4, none⟩ = some (.int .i64 x.k) ∧ w.cell? ⟨b, o + i * 4 + 1, none⟩ = some (.int .i64 x.t) ∧
    w.cell? ⟨b, o + i * 4 + 2, none⟩ = some (.int .i64 x.n) ∧ w.cell? ⟨b, o + i * 4 + 3, none⟩ = some (.int .i64 x.m))

theorem Toks.below {w w' : World} {a : Option Addr} {len : Nat} {l : List Tok} (h : Toks w a len l) (hb : Below w.heap.size w w') : Toks w' a len l := by
  obtain ⟨h1, h2⟩ := h
  refine ⟨h1, ?_⟩
  rcases h2 with h2 | ⟨b, o, rfl, hlt, hc⟩
  · exact .inl h2
  · refine .inr ⟨b, o, rfl, Nat.lt_of_lt_of_le hlt hb.size, fun i x hx => ?_⟩
    obtain ⟨c0, c1, c2, c3⟩ := hc i x hx
    exact ⟨(hb.cell (p := ⟨b, _, none⟩) hlt).trans c0, (hb.cell (p := ⟨b, _, none⟩) hlt).trans c1, (hb.cell (p := ⟨b, _, none⟩) hlt).trans c2, (hb.cell (p := ⟨b, _, none⟩) hlt).trans c3⟩

/-- The tokens from the k-th on, d open: what is told. -/
def checkL : List Tok → Nat → Int → Int × Int
  | [], i, d => if 0 < d then (i, 3) else (i, 0)
  | x :: r, i, d =>
    if (!rightT x || (x.k == 2 && d == 0)) = true then (i, 4)
    else if 32 < (if x.k = 1 then d + 1 else if x.k = 2 then d - 1 else d) then (i, 8)
    else checkL r (i + 1) (if x.k = 1 then d + 1 else if x.k = 2 then d - 1 else d)
def check (l : List Tok) : Int × Int := if 2048 < l.length then (0, 2) else checkL l 0 0

theorem drop_getD {l : List Tok} {k : Nat} (h : k < l.length) : ∃ x, l[k]? = some x ∧ l.drop k = x :: l.drop (k + 1) := ⟨l[k], List.getElem?_eq_getElem h, List.drop_eq_getElem_cons h⟩

/-- The k-th token lies where it lay, in every later world. -/
theorem Toks.token {w : World} {a : Option Addr} {len : Nat} {l : List Tok} (h : Toks w a len l) {k : Nat} (hk : k < len) : ∃ b o x, a = some ⟨b, o, none⟩ ∧ b < w.heap.size ∧ l[k]? = some x ∧ ∀ W : World, Below w.heap.size w W →
    W.cell? ⟨b, o + k * 4, none⟩ = some (.int .i64 x.k) ∧ W.cell? ⟨b, o + k * 4 + 1, none⟩ = some (.int .i64 x.t) ∧ W.cell? ⟨b, o + k * 4 + 2, none⟩ = some (.int .i64 x.n) ∧ W.cell? ⟨b, o + k * 4 + 3, none⟩ = some (.int .i64 x.m) := by
  obtain ⟨h1, h2 | ⟨b, o, rfl, hlt, hc⟩⟩ := h
  · omega
  · have hx : l[k]? = some (l[k]'(by omega)) := List.getElem?_eq_getElem (by omega)
    refine ⟨b, o, _, rfl, hlt, hx, fun W hb => ?_⟩
    obtain ⟨c0, c1, c2, c3⟩ := hc k _ hx
    exact ⟨(hb.cell (p := ⟨b, _, none⟩) hlt).trans c0, (hb.cell (p := ⟨b, _, none⟩) hlt).trans c1, (hb.cell (p := ⟨b, _, none⟩) hlt).trans c2, (hb.cell (p := ⟨b, _, none⟩) hlt).trans c3⟩
end Go.Proofs.Ytgpopploimeeaaa

/- Own: tokens that a call owns, appended to; parts of tokens. -/
namespace Go.Proofs.Ytgpopploimeeaaa
open Go.RowKit

theorem info23 : (Try.prog.info? 62).map (fun i => (i.zero, i.size, i.bytes)) = some (some (.agg #[.int .i64 0, .int .i64 0, .int .i64 0, .int .i64 0]), 4, 32) := by kernel_rfl
/-- The cells of tokens. -/
def flat : List Tok → List Value
  | [] => []
  | x :: r => .int .i64 x.k :: .int .i64 x.t :: .int .i64 x.n :: .int .i64 x.m :: flat r
theorem flat_append (l m : List Tok) : flat (l ++ m) = flat l ++ flat m := by
  induction l with
  | nil => rfl
  | cons x r ih => simp [flat, ih]
theorem flat_length (l : List Tok) : (flat l).length = l.length * 4 := by
  induction l with
  | nil => rfl
  | cons x r ih => simp [flat, ih]; omega
theorem flat_one (l : List Tok) : ∀ u ∈ flat l, u.oneCell' = true := by
  induction l with
  | nil => intro u hu; cases hu
  | cons x r ih =>
    intro u hu
    simp only [flat, List.mem_cons] at hu
    rcases hu with rfl | rfl | rfl | rfl | hu
    · rfl
    · rfl
    · rfl
    · rfl
    · exact ih u hu
theorem flat_at (l : List Tok) (i : Nat) (x : Tok) (h : l[i]? = some x) : (flat l)[i * 4]? = some (.int .i64 x.k) ∧ (flat l)[i * 4 + 1]? = some (.int .i64 x.t) ∧ (flat l)[i * 4 + 2]? = some (.int .i64 x.n) ∧ (flat l)[i * 4 + 3]? = some (.int .i64 x.m) := by
  induction l generalizing i with
  | nil => simp at h
  | cons y r ih =>
    cases i with
    | zero =>
      obtain rfl : y = x := by simpa using h
      exact ⟨rfl, rfl, rfl, rfl⟩
    | succ i =>
      have := ih i (by simpa using h)
      rw [show (i + 1) * 4 = i * 4 + 4 from by omega, show i * 4 + 4 + 1 = i * 4 + 1 + 4 from by omega, show i * 4 + 4 + 2 = i * 4 + 2 + 4 from by omega, show i * 4 + 4 + 3 = i * 4 + 3 + 4 from by omega]
      exact this
theorem flat_cells {w : World} {b : Nat} (l : List Tok) (o : Nat) (h : ∀ i x, l[i]? = some x → w.cell? ⟨b, o + i * 4, none⟩ = some (.int .i64 x.k) ∧ w.cell? ⟨b, o + i * 4 + 1, none⟩ = some (.int .i64 x.t) ∧
    w.cell? ⟨b, o + i * 4 + 2, none⟩ = some (.int .i64 x.n) ∧ w.cell? ⟨b, o + i * 4 + 3, none⟩ = some (.int .i64 x.m)) : ∀ j u, (flat l)[j]? = some u → w.cell? ⟨b, o + j, none⟩ = some u := by
  intro j u hj
  have hjl : j < l.length * 4 := by
    have := (List.getElem?_eq_some_iff.1 hj).1
    rwa [flat_length] at this
  obtain ⟨x, hx⟩ : ∃ x, l[j / 4]? = some x := ⟨_, List.getElem?_eq_getElem (by omega)⟩
  obtain ⟨f0, f1, f2, f3⟩ := flat_at l (j / 4) x hx
  obtain ⟨c0, c1, c2, c3⟩ := h (j / 4) x hx
  rcases (show j = j / 4 * 4 ∨ j = j / 4 * 4 + 1 ∨ j = j / 4 * 4 + 2 ∨ j = j / 4 * 4 + 3 from by omega) with e | e | e | e
  · rw [e] at hj ⊢
    rw [f0] at hj
    exact c0.trans hj
  · rw [e] at hj ⊢
    rw [f1] at hj
    exact c1.trans hj
  · rw [e] at hj ⊢
    rw [f2] at hj
    exact c2.trans hj
  · rw [e] at hj ⊢
    rw [f3] at hj
    exact c3.trans hj
theorem add_none (b o i : Nat) : (⟨b, o, none⟩ : Addr).add i = ⟨b, o + i, none⟩ := by unfold Addr.add; split <;> simp_all

/-- What a slice of tokens owns, read. -/
theorem toks_of_owns {W : World} {base : Nat} {v : Value} {n : Nat} {l : List Tok} (h : W.ownsRow base 62 4 v n (flat l)) (hv : v ≠ .slice none 0 0) :
    ∃ g cap, v = .slice (some ⟨g, 0, none⟩) n cap ∧ base ≤ g ∧ n ≤ cap ∧ cap ≤ maxLen ∧ Toks W (some ⟨g, 0, none⟩) n l := by
  obtain ⟨hl, ⟨h1, _⟩ | ⟨g, cap, cur, rfl, hb, hg, hc1, hc2, hc3, hc4⟩⟩ := h
  · exact absurd h1 hv
  · have hl' : l.length = n := by rw [flat_length] at hl; omega
    refine ⟨g, cap, rfl, hb, hc1, hc2, hl', .inr ⟨g, 0, rfl, (Array.getElem?_eq_some_iff.1 hg).1, fun i x hx => ?_⟩⟩
    have hi : i < l.length := (List.getElem?_eq_some_iff.1 hx).1
    obtain ⟨f0, f1, f2, f3⟩ := flat_at l i x hx
    have key : ∀ j u, (flat l)[j]? = some u → W.cell? ⟨g, 0 + j, none⟩ = some u := by
      intro j u hj
      have hjl : j < n * 4 := by
        have := (List.getElem?_eq_some_iff.1 hj).1
        rw [flat_length] at this
        omega
      rw [← hc4, List.getElem?_take, if_pos hjl, Array.getElem?_toList] at hj
      simp [World.cell?, hg, hj]
    exact ⟨key _ _ f0, key _ _ f1, key _ _ f2, key _ _ f3⟩

/-- append of tokens to what the call owns. -/
theorem tok_append_own (base : Nat) (v : Value) (n : Nat) (xs : List Tok) (W : World) (hown : W.ownsRow base 62 4 v n (flat xs)) (hv : v ≠ .slice none 0 0) (hbase : base ≤ W.heap.size) (a : Option Addr) (len cap : Nat) (bs : List Tok) (hr : Toks W a len bs) (hsz : n + len ≤ 4398046511104) :
    ∃ v' W1, (Builtin.append_ #[22, 22] 22 #[v, .slice a len cap]).run Try.prog W = .ok v' W1 ∧ W1.ownsRow base 62 4 v' (n + len) (flat (xs ++ bs)) ∧ v' ≠ .slice none 0 0 ∧ Below base W W1 := by
  obtain ⟨i0, hi, hz0, hz1, hz2⟩ := info_parts info23
  have hown0 := hown
  obtain ⟨hl0, ⟨h1, _⟩ | ⟨g, c, cur, rfl, hbg, hg, hc1, hc2, hc3, hc4⟩⟩ := hown0
  · exact absurd h1 hv
  · rcases Nat.eq_zero_or_pos len with h0 | h0
    · subst h0
      obtain rfl : bs = [] := List.length_eq_zero_iff.1 hr.1
      have hs : Src Try.prog i0.size 22 (.slice a 0 cap) 0 [] W := by
        cases a with
        | none => exact Src.ofNil _ Try.underlying22 cap
        | some p => exact Src.ofSlice _ Try.underlying22 p 0 cap [] (by simp) (by simp) (by simp)
      have h3 := run_append_room_src (P := Try.prog) W 22 22 22 62 i0 Try.underlying22 hi g 0 n c _ 0 [] hs (by omega) (by simp) (by simp)
      exact ⟨_, _, h3, by rw [List.append_nil]; exact hown, by simp, Below.refl base W⟩
    · obtain ⟨hl, h1 | ⟨b, o, rfl, hlt, hc⟩⟩ := hr
      · omega
      · obtain ⟨v', W1, hrun, r1, r2, r3⟩ := run_append_own (P := Try.prog) W base 22 22 62 i0 _ 4 32 Try.underlying22 hi hz0 hz1 hz2 rfl (by decide) _ n _ hown ⟨b, o, none⟩ len cap (flat bs) (by rw [flat_length, hl])
          (fun j u hj => by rw [add_none]; exact flat_cells bs o hc j u hj) (flat_one bs) (by unfold maxLen; omega) (by omega) hbase
        rw [← flat_append] at r1
        exact ⟨_, _, hrun, r1, fun e => by have := r3.1 e; simp at this, (Below.refl base W).grown r2 hbase (fun k e => by simp [Value.ownBlock] at e; omega)⟩

/-- append([]api.Token{}, l...): a copy that the call owns. -/
theorem tok_clone_own (a : Option Addr) (len cap : Nat) (bs : List Tok) (w : World) (hr : Toks w a len bs) (hsz : len ≤ 4398046511104) :
    ∃ v W1, (Builtin.append_ #[22, 22] 22 #[.slice (some ⟨w.heap.size, 0, none⟩) 0 0, .slice a len cap]).run Try.prog (w.alloc (.cells #[] 62)) = .ok v W1 ∧ W1.ownsRow w.heap.size 62 4 v len (flat bs) ∧ v ≠ .slice none 0 0 ∧ Below w.heap.size w W1 := by
  have hB : Below w.heap.size w (w.alloc (.cells #[] 62)) := (Below.refl _ w).alloc (Nat.le_refl _) _
  have hg : (w.alloc (.cells #[] 62)).heap[w.heap.size]? = some (.cells #[] 62 (0, 0)) := World.alloc_heap_new w _
  have hown : (w.alloc (.cells #[] 62)).ownsRow w.heap.size 62 4 (.slice (some ⟨w.heap.size, 0, none⟩) 0 0) 0 (flat []) := ⟨rfl, .inr ⟨_, _, _, rfl, Nat.le_refl _, hg, Nat.le_refl _, Nat.zero_le _, rfl, rfl⟩⟩
  obtain ⟨v', W1, h1, h2, h3, h4⟩ := tok_append_own w.heap.size _ 0 [] _ hown (by simp) (by simp) a len cap bs (hr.below hB) (by omega)
  rw [Nat.zero_add, List.nil_append] at h2
  exact ⟨v', W1, h1, h2, h3, hB.trans h4⟩

/-- A part of tokens. -/
theorem Toks.sub {w : World} {b o : Nat} {len : Nat} {l : List Tok} (h : Toks w (some ⟨b, o, none⟩) len l) (f n : Nat) (hf : f + n ≤ len) : Toks w (some ⟨b, o + f * 4, none⟩) n ((l.drop f).take n) := by
  obtain ⟨h1, h2⟩ := h
  refine ⟨by rw [List.length_take, List.length_drop]; omega, ?_⟩
  rcases Nat.eq_zero_or_pos n with h0 | h0
  · exact .inl h0
  · rcases h2 with h2 | ⟨b', o', e, hlt, hc⟩
    · omega
    · cases e
      refine .inr ⟨b, _, rfl, hlt, fun i x hx => ?_⟩
      rw [List.getElem?_take] at hx
      split at hx
      · rw [List.getElem?_drop] at hx
        have := hc (f + i) x hx
        rw [show o + f * 4 + i * 4 = o + (f + i) * 4 from by omega]
        exact this
      · cases hx

theorem Toks.part {w : World} {b o : Nat} {len : Nat} {l : List Tok} (h : Toks w (some ⟨b, o, none⟩) len l) (f n cap : Nat) (hf : f + n ≤ len) (hc : len ≤ cap) : Toks w (if cap = f then some ⟨b, o, none⟩ else some ⟨b, o + f * 4, none⟩) n ((l.drop f).take n) := by
  split
  · obtain rfl : n = 0 := by omega
    exact ⟨by simp, .inl rfl⟩
  · exact h.sub f n hf

/-- A built-in append whose run is known, in a walk. -/
theorem wp_tok_run {o : Oper} {a : Act} {w : World} {K : Act → World → Prop} {Q : Exit → Act → World → Prop} (s x : Operand) (t : TypeId) (ho : o.op = .call { callee := .builtin .append, args := #[s, x], argTypes := #[t, t] })
    (v u v' : Value) (w' : World) (hs : a.eval s = v) (hx : a.eval x = u) (hr : (Builtin.append_ #[t, t] o.type #[v, u]).run Try.prog w = .ok v' w') (h : K (a.put o.dst v') w') : o.wp Try.prog a w K Q := by
  unfold Oper.wp execOp
  simp only [ho, resolve, invoke, builtin, Sem.run_bind, Sem.run_pure, Result.andThen_ok, List.map_toArray, List.map_cons, List.map_nil, hs, hx, hr]
  exact h
theorem wpList_tok_run {ops : Array Oper} {rest : List Oper} {o : Oper} {a : Act} {w : World} {Q : Exit → Act → World → Prop} (hgd : o.guard = none) (s x : Operand) (t : TypeId) (ho : o.op = .call { callee := .builtin .append, args := #[s, x], argTypes := #[t, t] })
    (v u v' : Value) (w' : World) (hs : a.eval s = v) (hx : a.eval x = u) (hr : (Builtin.append_ #[t, t] o.type #[v, u]).run Try.prog w = .ok v' w') (h : wpList Try.prog ops Q rest (a.put o.dst v') w') : wpList Try.prog ops Q (o :: rest) a w :=
  wpList_plain hgd fun _ hK => wp_tok_run s x t ho v u v' w' hs hx hr (hK _ _ h)

def cut (l : List Tok) (f t : Int) : List Tok := if f < 0 ∨ t < f ∨ (l.length : Int) < t then [] else (l.drop f.toNat).take (t - f).toNat
def cutE (l : List Tok) (f t : Int) : Int := if f < 0 ∨ t < f ∨ (l.length : Int) < t then 1 else 0
end Go.Proofs.Ytgpopploimeeaaa

/- Args: how a slice of tokens, and a token, that came in is read. -/
namespace Go.Proofs.Ytgpopploimeeaaa
open Go.ChangeShapes Go.WideShapes Go.ChangeAt Go.RowKit

/-- Each number of a token fits. -/
def TokFits (x : Tok) : Prop := (Lit.int .i64 x.k).wf = true ∧ (Lit.int .i64 x.t).wf = true ∧ (Lit.int .i64 x.n).wf = true ∧ (Lit.int .i64 x.m).wf = true
theorem tok_of_cells {H : Type} {enc : TypeId × Value → H} {w : World} {base : Nat} {spare : Nat → Bool} {held : Bool} {fuel : Nat} {cs : List Value} {x : DataW H × List MemPlace} (h : DataW.trod enc Try.prog w base spare held fuel 62 cs = some x) :
    ∃ y : Tok, cs = [.int .i64 y.k, .int .i64 y.t, .int .i64 y.n, .int .i64 y.m] ∧ TokFits y ∧ x = (.agg [.lit (.int .i64 y.k), .lit (.int .i64 y.t), .lit (.int .i64 y.n), .lit (.int .i64 y.m)], []) := by
  obtain ⟨xs, k, _, hxy, hlen, hxl, hf⟩ := DataW.trod_struct Try.underlying62 h
  rw [show Try.prog.cellsOf 62 = 4 from by kernel_rfl] at hlen
  match xs, hxl, cs, hlen with
  | [y0, y1, y2, y3], _, [v0, v1, v2, v3], _ =>
    have c3 : Try.prog.cellsOf 3 = 1 := by kernel_rfl
    have g0 := hf 0 _ rfl
    have g1 := hf 1 _ rfl
    have g2 := hf 2 _ rfl
    have g3 := hf 3 _ rfl
    simp [c3] at g0 g1 g2 g3
    obtain ⟨n0, e0, d0, f0⟩ := DataW.trod_int Try.underlying3 g0
    obtain ⟨n1, e1, d1, f1⟩ := DataW.trod_int Try.underlying3 g1
    obtain ⟨n2, e2, d2, f2⟩ := DataW.trod_int Try.underlying3 g2
    obtain ⟨n3, e3, d3, f3⟩ := DataW.trod_int Try.underlying3 g3
    simp at e0 e1 e2 e3
    subst e0 e1 e2 e3 d0 d1 d2 d3
    exact ⟨⟨n0, n1, n2, n3⟩, rfl, ⟨f0, f1, f2, f3⟩, by rw [hxy]; rfl⟩

/-- A slice of tokens that came in. -/
theorem open_toks {H : Type} {enc : TypeId × Value → H} {W : World} {a : Option Addr} {len cap : Nat} {d : DataW H} {p : List MemPlace} (h : DataW.Trod enc Try.prog W 0 (fun _ => true) true 22 (.slice a len cap) d p) :
    ∃ l : List Tok, Toks W a len l ∧ (∀ x ∈ l, TokFits x) ∧ len ≤ cap ∧ cap ≤ maxLen ∧ (a = none → cap = 0) ∧ (∀ x, a = some x → 0 < cap → x.spot = none) ∧ (len = 0 ∨ ∃ elems spare, d = .slice elems spare ∧ len ≤ elems.length ∧ cap ≤ elems.length + spare.length) := by
  obtain ⟨fuel, hf⟩ := h
  have hc4 : Try.prog.cellsOf 62 = 4 := by kernel_rfl
  rcases Deep.open_slice Try.underlying22 hf with ⟨hcs, hx⟩ | ⟨x, l, c, m, n, D, Pl, hcs, _, hl, hm, hmm, hx, hD⟩
  · simp [Value.cells] at hcs
    obtain ⟨rfl, rfl, rfl⟩ := hcs
    exact ⟨[], ⟨rfl, .inl rfl⟩, by simp, Nat.le_refl _, Nat.zero_le _, fun _ => rfl, fun _ _ h => absurd h (by omega), .inl rfl⟩
  · simp [Value.cells] at hcs
    obtain ⟨rfl, rfl, rfl⟩ := hcs
    simp only [if_true] at hmm
    subst hmm
    rw [hc4] at hD
    have each : ∀ i, i < m → ∃ y : Tok, TokFits y ∧ W.cell? (x.add (i * 4)) = some (.int .i64 y.k) ∧ W.cell? ((x.add (i * 4)).add 1) = some (.int .i64 y.t) ∧ W.cell? ((x.add (i * 4)).add 2) = some (.int .i64 y.n) ∧ W.cell? ((x.add (i * 4)).add 3) = some (.int .i64 y.m) := by
      intro i hi
      obtain ⟨cs', h1, h2⟩ := hD i hi
      obtain ⟨_, _, hcell⟩ := World.cells?_some h1
      obtain ⟨y, rfl, hy, _⟩ := tok_of_cells h2
      refine ⟨y, hy, ?_, hcell 1 (by omega), hcell 2 (by omega), hcell 3 (by omega)⟩
      have := hcell 0 (by omega)
      rw [show (x.add (i * 4)).add 0 = x.add (i * 4) from by obtain ⟨b, o, s⟩ := x; cases s <;> simp [Addr.add]] at this
      exact this
    haveI : Inhabited Tok := ⟨⟨0, 0, 0, 0⟩⟩
    obtain ⟨Y, hY⟩ := Deep.choose_lt each
    have hspot : 0 < m → x.spot = none := by
      intro h0
      have := World.cell?_spot (hY 0 h0).2.1
      obtain ⟨b, o, s⟩ := x
      simpa [Addr.add] using this
    refine ⟨(List.range len).map Y, ⟨by simp, ?_⟩, ?_, hl, hm, (fun e => by cases e), (fun z e h0 => by cases e; exact hspot h0), .inr ⟨_, _, congrArg Prod.fst hx, by simp, by simp; omega⟩⟩
    · rcases Nat.eq_zero_or_pos len with h0 | h0
      · exact .inl h0
      · obtain ⟨b, o, s⟩ := x
        obtain rfl : s = none := hspot (by omega)
        refine .inr ⟨b, o, rfl, ?_, fun i y hy => ?_⟩
        · have := (hY 0 (by omega)).2.1
          rw [add_none] at this
          rcases Nat.lt_or_ge b W.heap.size with hlt | hge
          · exact hlt
          · simp [World.cell?, Array.getElem?_eq_none hge] at this
        · have hi : i < len := by
            have := (List.getElem?_eq_some_iff.1 hy).1
            simpa using this
          obtain rfl : Y i = y := by simpa [List.getElem?_map, List.getElem?_range hi] using hy
          have := (hY i (by omega)).2
          simp only [add_none] at this
          exact this
    · intro y hy
      obtain ⟨i, hi, rfl⟩ := List.mem_map.1 hy
      exact (hY i (by have := List.mem_range.1 hi; omega)).1
end Go.Proofs.Ytgpopploimeeaaa

/- DArgs: how long a slice of tokens that came in may be; by the reach, and by the bulk. -/
namespace Go.Proofs.Ytgpopploimeeaaa
open Go.ChangeShapes Go.WideShapes Go.ChangeAt Go.RowKit

theorem toks_sized {H : Type} {ts : List TypeId} {ds : List (DataW H)} (h : (DataW.weightsEach Try.prog ts ds).all (· ≤ reachBytes) = true) {j : Nat} {d : DataW H} {len cap : Nat} (ht : ts[j]? = some 22) (hd : ds[j]? = some d)
    (hh : len = 0 ∨ ∃ elems spare, d = .slice elems spare ∧ len ≤ elems.length ∧ cap ≤ elems.length + spare.length) : len ≤ 4398046511104 := by
  rcases hh with h0 | ⟨elems, spare, rfl, hl, hc⟩
  · omega
  · have := sized_slice h ht hd Try.underlying22
    rw [show Try.prog.bytesOf 62 = 32 from by kernel_rfl] at this
    have h2 : reachBytes ≤ 140737488351232 := by decide
    omega
/-- What is read of many is at least as much as there are. -/
theorem bulk_all {H : Type} (ds : List (DataW H)) : ds.length ≤ Rows.uptoBulkAll ds := by
  induction ds with
  | nil => exact Nat.zero_le _
  | cons d r ih =>
    have : 1 ≤ Rows.uptoBulk d := by
      cases d with
      | lit x => cases x <;> simp [Rows.uptoBulk]
      | _ => simp [Rows.uptoBulk]
    rw [Rows.uptoBulkAll, List.length_cons]
    omega
theorem toks_bulk {H : Type} {d : DataW H} {len cap : Nat} (hh : len = 0 ∨ ∃ elems spare, d = .slice elems spare ∧ len ≤ elems.length ∧ cap ≤ elems.length + spare.length) : len ≤ Rows.uptoBulk d := by
  rcases hh with h0 | ⟨elems, spare, rfl, hl, _⟩
  · omega
  · have := bulk_all elems
    rw [Rows.uptoBulk]
    omega
end Go.Proofs.Ytgpopploimeeaaa
