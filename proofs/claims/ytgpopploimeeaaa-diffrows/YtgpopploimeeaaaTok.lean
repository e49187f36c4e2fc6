/-
  PROVED HERE: tokens as plain data, and in a slice; plain functions on them.
-/
import Derived.Test.YtgpopploimeeaaaProg
import Derived.WalkKit
import Derived.Below
import Derived.Deep.Light
namespace Go.Proofs.Ytgpopploimeeaaa
open Go.RowKit

structure Tok where
  k : Int
  t : Int
  n : Int
  m : Int

/-- The same token, the same tokens. -/
def tokEq (x y : Tok) : Bool := x.k == y.k && (x.t == y.t && (x.n == y.n && x.m == y.m))
theorem tokEq_iff (x y : Tok) : tokEq x y = true ↔ x = y := by
  obtain ⟨a, b, c, d⟩ := x
  obtain ⟨a', b', c', d'⟩ := y
  simp [tokEq]
def eqL : List Tok → List Tok → Bool
  | [], [] => true
  | x :: r, y :: s => tokEq x y && eqL r s
  | [], _ :: _ => false
  | _ :: _, [] => false
theorem eqL_iff (l m : List Tok) : eqL l m = true ↔ l = m := by
  induction l generalizing m with
  | nil => cases m <;> simp [eqL]
  | cons x r ih =>
    cases m with
    | nil => simp [eqL]
    | cons y s => rw [eqL, Bool.and_eq_true, tokEq_iff, ih, List.cons.injEq]
theorem eqL_false {l m : List Tok} (h : l ≠ m) : eqL l m = false := by
  cases e : eqL l m with
  | false => rfl
  | true => exact absurd ((eqL_iff l m).1 e) h
theorem tokEq_false {x y : Tok} (h : x ≠ y) : tokEq x y = false := by
  cases e : tokEq x y with
  | false => rfl
  | true => exact absurd ((tokEq_iff x y).1 e) h

def tokV (x : Tok) : Value := .agg #[.int .i64 x.k, .int .i64 x.t, .int .i64 x.n, .int .i64 x.m]

def point (n : Int) : Bool := decide (0 ≤ n) && decide (n ≤ 1114111) && (decide (n < 55296) || decide (57343 < n))
def rightM (s : Int) : Bool := decide (0 ≤ s) && decide (s ≤ 4)
def rightT (x : Tok) : Bool :=
  if x.k = 0 then x.t == 0 && point x.n && rightM x.m
  else if x.k = 1 ∨ x.k = 3 then decide (1 ≤ x.t) && decide (x.t < 16) && decide (0 ≤ x.n) && decide (x.n ≤ 15) && x.m == 0
  else if x.k = 2 then x.t == 0 && x.n == 0 && x.m == 0
  else false

/-- A slice's elements are the tokens l. -/
def Toks (w : World) (a : Option Addr) (len : Nat) (l : List Tok) : Prop :=
  l.length = len ∧ (len = 0 ∨ ∃ b o, a = some ⟨b, o, none⟩ ∧ b < w.heap.size ∧ ∀ i x, l[i]? = some x → w.cell? ⟨b, o + i * 4, none⟩ = some (.int .i64 x.k) ∧ w.cell? ⟨b, o + i * 4 + 1, none⟩ = some (.int .i64 x.t) ∧
    w.cell? ⟨b, o + i * 4 + 2, none⟩ = some (.int .i64 x.n) ∧ w.cell? ⟨b, o + i * 4 + 3, none⟩ = some (.int .i64 x.m))

theorem Toks.below {w w' : World} {a : Option Addr} {len : Nat} {l : List Tok} (h : Toks w a len l) (hb : Below w.heap.size w w') : Toks w' a len l := by
  obtain ⟨h1, h2⟩ := h
  refine ⟨h1, ?_⟩
  rcases h2 with h2 | ⟨b, o, rfl, hlt, hc⟩
  · exact .inl h2
  · refine .inr ⟨b, o, rfl, Nat.lt_of_lt_of_le hlt hb.size, fun i x hx => ?_⟩
    obtain ⟨c0, c1, c2, c3⟩ := hc i x hx
    exact ⟨(hb.cell (p := ⟨b, _, none⟩) hlt).trans c0, (hb.cell (p := ⟨b, _, none⟩) hlt).trans c1, (hb.cell (p := ⟨b, _, none⟩) hlt).trans c2, (hb.cell (p := ⟨b, _, none⟩) hlt).trans c3⟩

/-- The tokens from the k-th on, d open: what is told. -/
def checkL : List Tok → Nat → Int → Int × Int
  | [], i, d => if 0 < d then (i, 3) else (i, 0)
  | x :: r, i, d =>
    if (!rightT x || (x.k == 2 && d == 0)) = true then (i, 4)
    else if 32 < (if x.k = 1 then d + 1 else if x.k = 2 then d - 1 else d) then (i, 8)
    else checkL r (i + 1) (if x.k = 1 then d + 1 else if x.k = 2 then d - 1 else d)
def check (l : List Tok) : Int × Int := if 2048 < l.length then (0, 2) else checkL l 0 0

theorem drop_getD {l : List Tok} {k : Nat} (h : k < l.length) : ∃ x, l[k]? = some x ∧ l.drop k = x :: l.drop (k + 1) := ⟨l[k], List.getElem?_eq_getElem h, List.drop_eq_getElem_cons h⟩

/-- The k-th token lies where it lay, in every later world. -/
theorem Toks.token {w : World} {a : Option Addr} {len : Nat} {l : List Tok} (h : Toks w a len l) {k : Nat} (hk : k < len) : ∃ b o x, a = some ⟨b, o, none⟩ ∧ b < w.heap.size ∧ l[k]? = some x ∧ ∀ W : World, Below w.heap.size w W →
    W.cell? ⟨b, o + k * 4, none⟩ = some (.int .i64 x.k) ∧ W.cell? ⟨b, o + k * 4 + 1, none⟩ = some (.int .i64 x.t) ∧ W.cell? ⟨b, o + k * 4 + 2, none⟩ = some (.int .i64 x.n) ∧ W.cell? ⟨b, o + k * 4 + 3, none⟩ = some (.int .i64 x.m) := by
  obtain ⟨h1, h2 | ⟨b, o, rfl, hlt, hc⟩⟩ := h
  · omega
  · have hx : l[k]? = some (l[k]'(by omega)) := List.getElem?_eq_getElem (by omega)
    refine ⟨b, o, _, rfl, hlt, hx, fun W hb => ?_⟩
    obtain ⟨c0, c1, c2, c3⟩ := hc k _ hx
    exact ⟨(hb.cell (p := ⟨b, _, none⟩) hlt).trans c0, (hb.cell (p := ⟨b, _, none⟩) hlt).trans c1, (hb.cell (p := ⟨b, _, none⟩) hlt).trans c2, (hb.cell (p := ⟨b, _, none⟩) hlt).trans c3⟩
end Go.Proofs.Ytgpopploimeeaaa
