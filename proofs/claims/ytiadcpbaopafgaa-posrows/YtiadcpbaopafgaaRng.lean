/-
  PROVED HERE: maps as plain data, and in a slice; plain functions on them.
-/
import Derived.Test.YtiadcpbaopafgaaProg
import Derived.WalkKit
import Derived.Below
import Derived.Deep.Light
import Derived.Laws.Rows
import Derived.RangeFuncRecord
namespace Go.Proofs.Ytiadcpbaopafgaa
open Go.RowKit

/-- A range of a map: where, how many go, how many come. -/
structure Rng where
  a : Int
  o : Int
  n : Int
/-- A spot. -/
structure Spt where
  at' : Int
  gone : Bool
  inn : Int
  off : Int

def rngV (x : Rng) : Value := .agg #[.int .i64 x.a, .int .i64 x.o, .int .i64 x.n]
def spotV (s : Spt) : Value := .agg #[.int .i64 s.at', .bool s.gone, .int .i64 s.inn, .int .i64 s.off]
def partV (x : Rng) (i d : Int) : Value := .agg #[.int .i64 x.a, .int .i64 x.o, .int .i64 x.n, .int .i64 i, .int .i64 d]

def within (n : Int) : Bool := decide (0 ≤ n) && decide (n ≤ 65536)
/-- One range, the last one's end e. -/
def rightR (x : Rng) (e : Int) : Bool := within x.a && (within x.o && (within x.n && decide (e ≤ x.a)))
def rightL : List Rng → Int → Bool
  | [], _ => true
  | x :: r, e => rightR x e && rightL r (x.a + x.o)
def right (l : List Rng) : Bool := decide (l.length ≤ 4) && rightL l 0

theorem within_iff (n : Int) : within n = true ↔ 0 ≤ n ∧ n ≤ 65536 := by simp [within]
theorem rightR_iff (x : Rng) (e : Int) : rightR x e = true ↔ (0 ≤ x.a ∧ x.a ≤ 65536) ∧ (0 ≤ x.o ∧ x.o ≤ 65536) ∧ (0 ≤ x.n ∧ x.n ≤ 65536) ∧ e ≤ x.a := by
  simp [rightR, within]
theorem rightL_cons {x : Rng} {r : List Rng} {e : Int} (h : rightL (x :: r) e = true) : rightR x e = true ∧ rightL r (x.a + x.o) = true := by
  rw [rightL, Bool.and_eq_true] at h
  exact h

/-- New less Old of all. -/
def shiftL : List Rng → Int
  | [] => 0
  | x :: r => (x.n - x.o) + shiftL r
theorem shiftL_snoc (l : List Rng) (x : Rng) : shiftL (l ++ [x]) = shiftL l + x.n - x.o := by
  induction l with
  | nil => simp [shiftL]
  | cons y r ih => simp only [List.cons_append, shiftL, ih]; omega

def inner (x : Rng) (p : Int) : Bool := decide (x.a < p) && decide (p < x.a + x.o)
def outer (x : Rng) (p side : Int) : Bool := if side < 0 then p == x.a else p == x.a + x.o
def goal (x : Rng) (d p side : Int) : Int :=
  if x.o = 0 ∨ inner x p = true then (if side < 0 then x.a + d else x.a + d + x.n) else if p = x.a + x.o then x.a + d + x.n else x.a + d
def spotR (x : Rng) (i d p side : Int) : Spt := ⟨goal x d p side, inner x p, if outer x p side then -1 else i, if outer x p side then 0 else p - x.a⟩
/-- Where p goes: the ranges from the i-th on, d the sum ahead of them. -/
def sendL : List Rng → Nat → Int → Int → Int → Spt
  | [], _, d, p, _ => ⟨p + d, false, -1, 0⟩
  | x :: r, i, d, p, side => if p < x.a then ⟨p + d, false, -1, 0⟩ else if p ≤ x.a + x.o then spotR x i d p side else sendL r (i + 1) (d + x.n - x.o) p side
def zeroS : Spt := ⟨0, false, 0, 0⟩
def mapA (l : List Rng) (p side : Int) : Spt := if right l = false then zeroS else if within p = false then zeroS else sendL l 0 0 p side
def mapE (l : List Rng) (p : Int) : Int := if right l = false then 4 else if within p = false then 1 else 0

/-- A slice's elements are the ranges l. -/
def Rngs (w : World) (a : Option Addr) (len : Nat) (l : List Rng) : Prop :=
  l.length = len ∧ (len = 0 ∨ ∃ b o, a = some ⟨b, o, none⟩ ∧ b < w.heap.size ∧ ∀ i x, l[i]? = some x → w.cell? ⟨b, o + i * 3, none⟩ = some (.int .i64 x.a) ∧ w.cell? ⟨b, o + i * 3 + 1, none⟩ = some (.int .i64 x.o) ∧
    w.cell? ⟨b, o + i * 3 + 2, none⟩ = some (.int .i64 x.n))

/-- What lay in the slice's block lies there. -/
theorem Rngs.same {w w' : World} {a : Option Addr} {len : Nat} {l : List Rng} (h : Rngs w a len l) (hs : 0 < len → ∀ b o, a = some ⟨b, o, none⟩ → w'.heap[b]? = w.heap[b]?) : Rngs w' a len l := by
  obtain ⟨h1, h2⟩ := h
  refine ⟨h1, ?_⟩
  rcases h2 with h2 | ⟨b, o, rfl, hlt, hc⟩
  · exact .inl h2
  · rcases Nat.eq_zero_or_pos len with h0 | h0
    · exact .inl h0
    · have hb := hs h0 b o rfl
      have hlt' : b < w'.heap.size := by
        have h3 := hb.trans (Array.getElem?_eq_getElem hlt)
        exact (Array.getElem?_eq_some_iff.1 h3).1
      refine .inr ⟨b, o, rfl, hlt', fun i x hx => ?_⟩
      obtain ⟨c0, c1, c2⟩ := hc i x hx
      exact ⟨(World.cell?_of_block (w := w) (a := ⟨b, _, none⟩) hb).trans c0, (World.cell?_of_block (w := w) (a := ⟨b, _, none⟩) hb).trans c1, (World.cell?_of_block (w := w) (a := ⟨b, _, none⟩) hb).trans c2⟩

theorem Rngs.below {w w' : World} {a : Option Addr} {len : Nat} {l : List Rng} (h : Rngs w a len l) (hb : Below w.heap.size w w') : Rngs w' a len l := by
  obtain ⟨h1, h2⟩ := h
  refine ⟨h1, ?_⟩
  rcases h2 with h2 | ⟨b, o, rfl, hlt, hc⟩
  · exact .inl h2
  · refine .inr ⟨b, o, rfl, Nat.lt_of_lt_of_le hlt hb.size, fun i x hx => ?_⟩
    obtain ⟨c0, c1, c2⟩ := hc i x hx
    exact ⟨(hb.cell (p := ⟨b, _, none⟩) hlt).trans c0, (hb.cell (p := ⟨b, _, none⟩) hlt).trans c1, (hb.cell (p := ⟨b, _, none⟩) hlt).trans c2⟩

theorem drop_getR {l : List Rng} {k : Nat} (h : k < l.length) : ∃ x, l[k]? = some x ∧ l.drop k = x :: l.drop (k + 1) := ⟨l[k], List.getElem?_eq_getElem h, List.drop_eq_getElem_cons h⟩

/-- The k-th range lies where it lay, in every later world. -/
theorem Rngs.range {w : World} {a : Option Addr} {len : Nat} {l : List Rng} (h : Rngs w a len l) {k : Nat} (hk : k < len) : ∃ b o x, a = some ⟨b, o, none⟩ ∧ b < w.heap.size ∧ l[k]? = some x ∧ l.drop k = x :: l.drop (k + 1) ∧ ∀ W : World, Below w.heap.size w W →
    W.cell? ⟨b, o + k * 3, none⟩ = some (.int .i64 x.a) ∧ W.cell? ⟨b, o + k * 3 + 1, none⟩ = some (.int .i64 x.o) ∧ W.cell? ⟨b, o + k * 3 + 2, none⟩ = some (.int .i64 x.n) := by
  obtain ⟨h1, h2 | ⟨b, o, rfl, hlt, hc⟩⟩ := h
  · omega
  · obtain ⟨x, hx, hd⟩ := drop_getR (l := l) (k := k) (by omega)
    refine ⟨b, o, x, rfl, hlt, hx, hd, fun W hb => ?_⟩
    obtain ⟨c0, c1, c2⟩ := hc k _ hx
    exact ⟨(hb.cell (p := ⟨b, _, none⟩) hlt).trans c0, (hb.cell (p := ⟨b, _, none⟩) hlt).trans c1, (hb.cell (p := ⟨b, _, none⟩) hlt).trans c2⟩

/-- A right map: each range right behind those before it. -/
theorem right_len {l : List Rng} (h : right l = true) : l.length ≤ 4 ∧ rightL l 0 = true := by
  rw [right, Bool.and_eq_true, decide_eq_true_iff] at h
  exact h
theorem rightL_all {l : List Rng} {e : Int} (h : rightL l e = true) : ∀ x ∈ l, (0 ≤ x.a ∧ x.a ≤ 65536) ∧ (0 ≤ x.o ∧ x.o ≤ 65536) ∧ (0 ≤ x.n ∧ x.n ≤ 65536) ∧ e ≤ x.a := by
  induction l generalizing e with
  | nil => intro x hx; cases hx
  | cons y r ih =>
    obtain ⟨h1, h2⟩ := rightL_cons h
    have hy := (rightR_iff y e).1 h1
    intro x hx
    rcases List.mem_cons.1 hx with rfl | hx
    · exact hy
    · have := ih h2 x hx
      omega
theorem rightL_drop {l : List Rng} : ∀ {e : Int} (k : Nat), rightL l e = true → ∃ e', rightL (l.drop k) e' = true := by
  induction l with
  | nil => intro e k h; exact ⟨e, by simpa using h⟩
  | cons y r ih =>
    intro e k h
    cases k with
    | zero => exact ⟨e, h⟩
    | succ k => exact ih k (rightL_cons h).2
theorem shiftL_bound {l : List Rng} {e : Int} (h : rightL l e = true) : -65536 * (l.length : Int) ≤ shiftL l ∧ shiftL l ≤ 65536 * (l.length : Int) := by
  induction l generalizing e with
  | nil => simp [shiftL]
  | cons y r ih =>
    obtain ⟨h1, h2⟩ := rightL_cons h
    have hy := (rightR_iff y e).1 h1
    have := ih h2
    simp only [shiftL, List.length_cons]
    omega
theorem rightL_take {l : List Rng} : ∀ {e : Int} (k : Nat), rightL l e = true → rightL (l.take k) e = true := by
  induction l with
  | nil => intro e k h; simpa using h
  | cons y r ih =>
    intro e k h
    cases k with
    | zero => rfl
    | succ k =>
      obtain ⟨h1, h2⟩ := rightL_cons h
      rw [List.take_succ_cons, rightL, h1, ih k h2]
      rfl
/-- The sum of the first k. -/
theorem shift_take {l : List Rng} (h : right l = true) (k : Nat) : -262144 ≤ shiftL (l.take k) ∧ shiftL (l.take k) ≤ 262144 := by
  obtain ⟨h1, h2⟩ := right_len h
  have := shiftL_bound (rightL_take k h2)
  rw [List.length_take] at this
  omega
theorem shift_succ {l : List Rng} {k : Nat} {x : Rng} (h : l[k]? = some x) : shiftL (l.take (k + 1)) = shiftL (l.take k) + x.n - x.o := by
  rw [List.take_add_one, h, Option.toList_some, shiftL_snoc]

theorem cells5 {w : World} {B : Nat} {a b c d e : Value} {t : TypeId} (h : w.heap[B]? = some (.cells #[a, b, c, d, e] t (0, 0))) : w.cell? ⟨B, 0, none⟩ = some a ∧ w.cell? ⟨B, 1, none⟩ = some b ∧ w.cell? ⟨B, 2, none⟩ = some c ∧ w.cell? ⟨B, 3, none⟩ = some d ∧ w.cell? ⟨B, 4, none⟩ = some e := by
  have hc := fun j => cell_of_row w B j _ _ _ h
  exact ⟨hc 0, hc 1, hc 2, hc 3, hc 4⟩
theorem cells4 {w : World} {B : Nat} {a b c d : Value} {t : TypeId} (h : w.heap[B]? = some (.cells #[a, b, c, d] t (0, 0))) : w.cell? ⟨B, 0, none⟩ = some a ∧ w.cell? ⟨B, 1, none⟩ = some b ∧ w.cell? ⟨B, 2, none⟩ = some c ∧ w.cell? ⟨B, 3, none⟩ = some d := by
  have hc := fun j => cell_of_row w B j _ _ _ h
  exact ⟨hc 0, hc 1, hc 2, hc 3⟩
theorem cells1 {w : World} {B : Nat} {a : Value} {t : TypeId} (h : w.heap[B]? = some (.cells #[a] t (0, 0))) : w.cell? ⟨B, 0, none⟩ = some a ∧ w.frozen? ⟨B, 0, none⟩ = false := ⟨cell_of_row w B 0 _ _ _ h, by simp [World.frozen?, h]⟩
end Go.Proofs.Ytiadcpbaopafgaa
