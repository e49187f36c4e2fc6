/-
  PROVED HERE: what the texts DBP8Order, DBCaretP, DBCaretM, DBCaretS say (each has its own words below).
-/
import Derived.Test.YtbkpehfaofhmaaaGreatDoorCB7
import Derived.Test.YtbkpehfaofhmaaaGreatDoorProg
import Derived.WalkKit
import Derived.Test.YtbkpehfaofhmaaaGreatDoorCB10
import Derived.Test.YtbkpehfaofhmaaaGreatDoorCB3
import Derived.Below
import Derived.Deep.Light
/- DBP8Order: plain mathematics: places keep their order through a right map; to the left is never behind to the right. -/
namespace Go.Proofs.YtbkpehfaofhmaaaGreatDoor
theorem goal_bounds {x : Rng} {e : Int} (h : rightR x e = true) (d p side : Int) : x.a + d <= goal x d p side /\ goal x d p side <= x.a + d + x.n := by
 have hx := (rightR_iff x e).1 h
 unfold goal
 split
 ·split <;> omega
 ·split <;> omega
theorem goal_mono {x : Rng} {e : Int} (h : rightR x e = true) (d side : Int) {p q : Int} (hpq : p <= q) (_h1 : x.a <= p) (h2 : q <= x.a + x.o) : goal x d p side <= goal x d q side := by
 have hx := (rightR_iff x e).1 h
 unfold goal inner
 by_cases h0 : x.o = 0
 ·simp [h0]
 ·by_cases hs : side < 0
  ·simp only [hs, h0, false_or, Bool.and_eq_true, decide_eq_true_eq, if_true]
   repeat' split
   all_goals omega
  ·simp only [hs, h0, false_or, Bool.and_eq_true, decide_eq_true_eq, if_false]
   repeat' split
   all_goals omega
theorem goal_side {x : Rng} {e : Int} (h : rightR x e = true) (d p : Int) : goal x d p (-1) <= goal x d p 1 := by
 have hx := (rightR_iff x e).1 h
 unfold goal
 simp only [show ((-1 : Int) < 0) from by omega, show ¬ ((1 : Int) < 0) from by omega, if_true, if_false]
 repeat' split
 all_goals omega
theorem send_low : ∀ (l : List Rng) (e : Int) (i : Nat) (d q side : Int), rightL l e = true -> e <= q -> e + d <= (sendL l i d q side).at' := by
 intro l
 induction l with
 | nil => intro e i d q side _ h; simp only [sendL]; omega
 | cons x r ih =>
  intro e i d q side h hq
  obtain ⟨h1, h2⟩ := rightL_cons h
  have hx := (rightR_iff x e).1 h1
  rw [sendL]
  split
  ·simp only; omega
  ·split
   ·have := (goal_bounds h1 d q side).1
    simp only [spotR]
    omega
   ·have := ih (x.a + x.o) (i + 1) (d + x.n - x.o) q side h2 (by omega)
    omega
theorem send_mono : ∀ (l : List Rng) (e : Int) (i : Nat) (d p q side : Int), rightL l e = true -> p <= q -> (sendL l i d p side).at' <= (sendL l i d q side).at' := by
 intro l
 induction l with
 | nil => intro e i d p q side _ h; simp only [sendL]; omega
 | cons x r ih =>
  intro e i d p q side h hpq
  obtain ⟨h1, h2⟩ := rightL_cons h
  have hx := (rightR_iff x e).1 h1
  rw [sendL, sendL]
  by_cases a1 : p < x.a
  ·rw [if_pos a1]
   by_cases b1 : q < x.a
   ·rw [if_pos b1]
    simp only
    omega
   ·rw [if_neg b1]
    by_cases b2 : q <= x.a + x.o
    ·rw [if_pos b2]
     have := (goal_bounds h1 d q side).1
     simp only [spotR]
     omega
    ·rw [if_neg b2]
     have := send_low r (x.a + x.o) (i + 1) (d + x.n - x.o) q side h2 (by omega)
     simp only
     omega
  ·rw [if_neg a1, if_neg (show ¬ q < x.a by omega)]
   by_cases a2 : p <= x.a + x.o
   ·rw [if_pos a2]
    by_cases b2 : q <= x.a + x.o
    ·rw [if_pos b2]
     exact goal_mono h1 d side hpq (by omega) b2
    ·rw [if_neg b2]
     have h3 := send_low r (x.a + x.o) (i + 1) (d + x.n - x.o) q side h2 (by omega)
     have h4 := (goal_bounds h1 d p side).2
     simp only [spotR]
     omega
   ·rw [if_neg a2, if_neg (show ¬ q <= x.a + x.o by omega)]
    exact ih _ _ _ _ _ _ h2 hpq
theorem send_side : ∀ (l : List Rng) (e : Int) (i : Nat) (d p : Int), rightL l e = true -> (sendL l i d p (-1)).at' <= (sendL l i d p 1).at' /\ (sendL l i d p (-1)).gone = (sendL l i d p 1).gone := by
 intro l
 induction l with
 | nil => intro e i d p _; exact ⟨Int.le_refl _, rfl⟩
 | cons x r ih =>
  intro e i d p h
  obtain ⟨h1, h2⟩ := rightL_cons h
  rw [sendL, sendL]
  split
  ·exact ⟨Int.le_refl _, rfl⟩
  ·split
   ·exact ⟨goal_side h1 d p, rfl⟩
   ·exact ih _ _ _ _ h2
theorem map_ok {l : List Rng} {p : Int} (h : mapE l p = 0) : right l = true /\ withinP p = true := by
 unfold mapE at h
 cases h1 : right l with
 | false => rw [h1] at h; simp at h
 | true =>
  cases h2 : withinP p with
  | false => rw [h1, h2] at h; simp at h
  | true => exact ⟨rfl, rfl⟩
theorem map_send {l : List Rng} {p : Int} (h1 : right l = true) (h2 : withinP p = true) (side : Int) : mapA l p side = sendL l 0 0 p side := by
 unfold mapA
 rw [h1, h2]
 simp
theorem order_all {l : List Rng} {p q : Int} (side : Int) (h1 : mapE l p = 0) (h2 : mapE l q = 0) (hpq : p <= q) : (mapA l p side).at' <= (mapA l q side).at' := by
 obtain ⟨r1, r2⟩ := map_ok h1
 obtain ⟨_, r3⟩ := map_ok h2
 rw [map_send r1 r2, map_send r1 r3]
 exact send_mono l 0 0 0 p q side (right_len r1).2 hpq
theorem order_side {l : List Rng} {p : Int} (h1 : mapE l p = 0) : (mapA l p (-1)).at' <= (mapA l p 1).at' /\ (mapA l p (-1)).gone = (mapA l p 1).gone := by
 obtain ⟨r1, r2⟩ := map_ok h1
 rw [map_send r1 r2, map_send r1 r2]
 exact send_side l 0 0 0 p (right_len r1).2
end Go.Proofs.YtbkpehfaofhmaaaGreatDoor

/- DBCaretP: plain facts of places: those outwards, those beyond one, what is nearest, where one moves to. -/
namespace Go.Proofs.YtbkpehfaofhmaaaGreatDoor
open Go.RowKit
theorem hidC {p : Prop} (h : p) : Hid p := h
def isPl (n : Nat) (p : Int) : Bool := decide (0 <= p) && decide (p <= (n : Int))
theorem isPl_iff {n : Nat} {p : Int} : isPl n p = true ↔ 0 <= p /\ p <= (n : Int) := by simp [isPl]
def wayD (s : Int) : Int := if s < 0 then -1 else 1
theorem wayD_or (s : Int) : wayD s = 1 \/ wayD s = -1 := by unfold wayD; split <;> simp
def pairL (n : Nat) (a y : Int) (k : Nat) : List Int := [a + y * ((k : Int) + 1), a - y * ((k : Int) + 1)].filter (isPl n)
def outK (n : Nat) (a y : Int) (k : Nat) : List Int := a :: (List.range k).flatMap (pairL n a y)
theorem outK_succ (n : Nat) (a y : Int) (k : Nat) : outK n a y (k + 1) = outK n a y k ++ pairL n a y k := by
 unfold outK
 rw [List.range_succ, List.flatMap_append, List.flatMap_singleton, List.cons_append]
def nearD (F : Int -> Bool) (n : Nat) (a y : Int) : Int × Int := match (outK n a y n).find? F with
 | some p => (p, 0)
 | none => (0, 6)
theorem outK_le (n : Nat) (a y : Int) {k m : Nat} (h : k <= m) : ∃ r, outK n a y m = outK n a y k ++ r := by
 induction m with
 | zero =>
  obtain rfl : k = 0 := by omega
  exact ⟨[], by simp⟩
 | succ m ih =>
  by_cases e : k = m + 1
  ·subst e; exact ⟨[], by simp⟩
  ·obtain ⟨r, hr⟩ := ih (by omega)
   rw [outK_succ, hr, List.append_assoc]
   exact ⟨_, rfl⟩
theorem mem_outK {n : Nat} {a y : Int} (hy : y = 1 \/ y = -1) {k : Nat} {r : Int} (h : r ∈ outK n a y k) : (r - a <= (k : Int) /\ a - r <= (k : Int)) /\ (r = a \/ isPl n r = true) := by
 induction k with
 | zero =>
  have : r = a := by simpa [outK] using h
  subst this
  exact ⟨by omega, .inl rfl⟩
 | succ k ih =>
  rw [outK_succ, List.mem_append] at h
  rcases h with h | h
  ·obtain ⟨h1, h2⟩ := ih h
   exact ⟨by omega, h2⟩
  ·unfold pairL at h
   rw [List.mem_filter] at h
   refine ⟨?_, .inr h.2⟩
   have h1 := h.1
   simp only [List.mem_cons, List.not_mem_nil, or_false] at h1
   rcases hy with rfl | rfl <;> rcases h1 with rfl | rfl <;> omega
theorem outK_has {n : Nat} {a y : Int} (hy : y = 1 \/ y = -1) {q : Int} (hq : isPl n q = true) : ∀ {k : Nat}, q - a <= (k : Int) -> a - q <= (k : Int) -> q ∈ outK n a y k := by
 intro k
 induction k with
 | zero =>
  intro h1 h2
  obtain rfl : q = a := by omega
  exact List.mem_cons_self ..
 | succ k ih =>
  intro h1 h2
  rw [outK_succ, List.mem_append]
  by_cases h3 : q - a <= (k : Int) /\ a - q <= (k : Int)
  ·exact .inl (ih h3.1 h3.2)
  ·refine .inr ?_
   unfold pairL
   rw [List.mem_filter]
   refine ⟨?_, hq⟩
   simp only [List.mem_cons, List.not_mem_nil, or_false]
   rcases hy with rfl | rfl <;> omega
theorem nearD_none_nearer {F : Int -> Bool} {n : Nat} {a y : Int} (hy : y = 1 \/ y = -1) (ha : isPl n a = true) (h : (nearD F n a y).2 = 0) : isPl n (nearD F n a y).1 = true /\ F (nearD F n a y).1 = true ∧
  ∀ q, isPl n q = true -> q - a < max ((nearD F n a y).1 - a) (a - (nearD F n a y).1) -> a - q < max ((nearD F n a y).1 - a) (a - (nearD F n a y).1) -> F q = false := by
 unfold nearD at *
 cases e : (outK n a y n).find? F with
 | none => rw [e] at h; exact absurd h (by decide)
 | some p =>
  simp only
  have hp := List.mem_of_find?_eq_some e
  have hF : F p = true := List.find?_some e
  obtain ⟨hd, hpl⟩ := mem_outK hy hp
  have hpp : isPl n p = true := by rcases hpl with rfl | h; exact ha; exact h
  refine ⟨hpp, hF, fun q hq h1 h2 => ?_⟩
  obtain ⟨k, hk⟩ : ∃ k : Nat, (k : Int) = max (q - a) (a - q) := ⟨(max (q - a) (a - q)).toNat, by omega⟩
  have ha' := isPl_iff.1 ha
  have hq' := isPl_iff.1 hq
  obtain ⟨r, hr⟩ := outK_le n a y (k := k) (m := n) (by omega)
  have hm := outK_has (a := a) hy hq (k := k) (by omega) (by omega)
  rw [hr, List.find?_append] at e
  cases e2 : (outK n a y k).find? F with
  | none => simpa using List.find?_eq_none.1 e2 q hm
  | some r2 =>
   rw [e2, Option.some_or] at e
   obtain rfl := Option.some.inj e
   have := (mem_outK hy (List.mem_of_find?_eq_some e2)).1
   omega
def beyR (y : Int) : Nat -> Int -> List Int
 | 0, _ => []
 | k + 1, p => (p + y) :: beyR y k (p + y)
theorem beyR_add (y : Int) : ∀ (i k : Nat) (p : Int), beyR y (i + k) p = beyR y i p ++ beyR y k (p + y * (i : Int))
 | 0, k, p => by simp [beyR]
 | i + 1, k, p => by
  rw [show i + 1 + k = (i + k) + 1 by omega, beyR, beyR, beyR_add y i k (p + y), List.cons_append, show p + y * ((i + 1 : Nat) : Int) = p + y + y * (i : Int) by rw [Int.natCast_add, Int.mul_add]; omega]
theorem beyR_succ (y : Int) (k : Nat) (p : Int) : beyR y (k + 1) p = beyR y k p ++ [p + y * ((k : Int) + 1)] := by
 rw [beyR_add y k 1 p, beyR, beyR, show p + y * (k : Int) + y = p + y * ((k : Int) + 1) by rw [Int.mul_add]; omega]
theorem beyR_length (y : Int) : ∀ (k : Nat) (p : Int), (beyR y k p).length = k
 | 0, _ => rfl
 | k + 1, p => by rw [beyR, List.length_cons, beyR_length y k]
def beyN (n : Nat) (a y : Int) : Nat := if y < 0 then a.toNat else n - a.toNat
def stepM (F : Int -> Bool) (y : Int) (s : Int × Int) (p : Int) : Int × Int := if s.2 = 0 then s else if F p = true then (p, s.2 - y) else s
def moveS (F : Int -> Bool) (n : Nat) (a y b : Int) : Int × Int := (beyR y (beyN n a y) a).foldl (stepM F y) (a, b)
def moveW (F : Int -> Bool) (n : Nat) (a y b : Int) : Int := (moveS F n a y b).1
theorem fold_zero (F : Int -> Bool) (y : Int) : ∀ (l : List Int) (a : Int), l.foldl (stepM F y) (a, 0) = (a, 0)
 | [], _ => rfl
 | x :: l, a => by rw [List.foldl_cons, show stepM F y (a, 0) x = (a, 0) from by simp [stepM], fold_zero F y l a]
theorem moveW_zero (F : Int -> Bool) (n : Nat) (a y : Int) : moveW F n a y 0 = a := by unfold moveW moveS; rw [fold_zero]
theorem fold_quiet (F : Int -> Bool) (y : Int) : ∀ (k : Nat) (p : Int) (s : Int × Int), (∀ j : Nat, j < k -> F (p + y * ((j : Int) + 1)) = false) -> (beyR y k p).foldl (stepM F y) s = s
 | 0, _, _, _ => rfl
 | k + 1, p, s, h => by
  have h0 := h 0 (by omega)
  simp only [Int.natCast_zero, Int.zero_add, Int.mul_one] at h0
  rw [beyR, List.foldl_cons, show stepM F y s (p + y) = s from by unfold stepM; rw [h0]; simp]
  refine fold_quiet F y k (p + y) s (fun j hj => ?_)
  have := h (j + 1) (by omega)
  rw [show p + y * (((j + 1 : Nat) : Int) + 1) = p + y + y * ((j : Int) + 1) by rw [Int.natCast_add, Int.mul_add, Int.mul_add, Int.mul_add]; omega] at this
  exact this
theorem least_of (P : Nat -> Bool) : ∀ N : Nat, (∀ j, j < N -> P j = false) \/ ∃ i, i < N /\ P i = true /\ ∀ j, j < i -> P j = false
 | 0 => .inl fun j h => by omega
 | N + 1 => by
  rcases least_of P N with h | ⟨i, h1, h2, h3⟩
  ·cases e : P N with
   | false =>
    refine .inl fun j hj => ?_
    by_cases c : j = N
    ·subst c; exact e
    ·exact h j (by omega)
   | true => exact .inr ⟨N, by omega, e, h⟩
  ·exact .inr ⟨i, by omega, h2, h3⟩
theorem next_of (F : Int -> Bool) (n : Nat) (a y : Int) : (∀ j : Nat, j < beyN n a y -> F (a + y * ((j : Int) + 1)) = false) \/ ∃ i : Nat, i < beyN n a y /\ F (a + y * ((i : Int) + 1)) = true /\ ∀ j : Nat, j < i -> F (a + y * ((j : Int) + 1)) = false :=
 least_of (fun j => F (a + y * ((j : Int) + 1))) _
theorem move_none {F : Int -> Bool} {n : Nat} {a y : Int} (h : ∀ j : Nat, j < beyN n a y -> F (a + y * ((j : Int) + 1)) = false) (b : Int) : moveW F n a y b = a := by unfold moveW moveS; rw [fold_quiet F y _ a _ h]
theorem beyN_at {n : Nat} {a y : Int} (hy : y = 1 \/ y = -1) (ha : isPl n a = true) {i : Nat} (h : i < beyN n a y) : isPl n (a + y * ((i : Int) + 1)) = true /\ beyN n a y = i + 1 + beyN n (a + y * ((i : Int) + 1)) y := by
 rw [isPl_iff] at ha ⊢
 unfold beyN at *
 rcases hy with rfl | rfl
 ·rw [if_neg (by decide)] at h ⊢; rw [if_neg (by decide)]; omega
 ·rw [if_pos (by decide)] at h ⊢; rw [if_pos (by decide)]; omega
theorem move_some {F : Int -> Bool} {n : Nat} {a y : Int} (hy : y = 1 \/ y = -1) (ha : isPl n a = true) {i : Nat} (h : i < beyN n a y) (h1 : F (a + y * ((i : Int) + 1)) = true) (h2 : ∀ j : Nat, j < i -> F (a + y * ((j : Int) + 1)) = false) {b : Int} (hb : b ≠ 0) :
  moveW F n a y b = moveW F n (a + y * ((i : Int) + 1)) y (b - y) := by
 unfold moveW moveS
 rw [(beyN_at hy ha h).2, beyR_add, beyR_succ, List.foldl_append, List.foldl_append, fold_quiet F y i a _ h2, List.foldl_cons, List.foldl_nil]
 unfold stepM
 simp only
 rw [if_neg hb, if_pos h1, show ((i + 1 : Nat) : Int) = (i : Int) + 1 by omega]
theorem moveW_pl {F : Int -> Bool} {n : Nat} {y : Int} (hy : y = 1 \/ y = -1) {a : Int} (ha : isPl n a = true) : isPl n (moveW F n a y y) = true := by
 rcases next_of F n a y with h | ⟨i, h, h1, h2⟩
 ·rw [move_none h]; exact ha
 ·rw [move_some hy ha h h1 h2 (by omega), Int.sub_self, moveW_zero]
  exact (beyN_at hy ha h).1
theorem move_step {F : Int -> Bool} {n : Nat} {y : Int} (hy : y = 1 \/ y = -1) {a : Int} (ha : isPl n a = true) (m : Nat) : moveW F n a y (y * ((m : Int) + 1)) = moveW F n (moveW F n a y y) y (y * (m : Int)) := by
 rcases next_of F n a y with h | ⟨i, h, h1, h2⟩
 ·rw [move_none h, move_none h, move_none h]
 ·have hb : y * ((m : Int) + 1) ≠ 0 := by rcases hy with rfl | rfl <;> omega
  rw [move_some hy ha h h1 h2 hb, move_some hy ha h h1 h2 (by omega), Int.sub_self, moveW_zero, show y * ((m : Int) + 1) - y = y * (m : Int) by rw [Int.mul_add, Int.mul_one, Int.add_sub_cancel]]
def iterM (F : Int -> Bool) (n : Nat) (y : Int) : Nat -> Int -> Int
 | 0, a => a
 | k + 1, a => moveW F n (iterM F n y k a) y y
theorem iterM_pl {F : Int -> Bool} {n : Nat} {y : Int} (hy : y = 1 \/ y = -1) {a : Int} (ha : isPl n a = true) : ∀ k, isPl n (iterM F n y k a) = true
 | 0 => ha
 | k + 1 => moveW_pl hy (iterM_pl hy ha k)
theorem iterM_succ (F : Int -> Bool) (n : Nat) (y : Int) : ∀ k a, iterM F n y (k + 1) a = iterM F n y k (moveW F n a y y)
 | 0, _ => rfl
 | k + 1, a => by rw [iterM, iterM_succ F n y k a]; rfl
theorem move_iter {F : Int -> Bool} {n : Nat} {y : Int} (hy : y = 1 \/ y = -1) : ∀ (m : Nat) {a : Int}, isPl n a = true -> moveW F n a y (y * (m : Int)) = iterM F n y m a
 | 0, a, _ => by rw [Int.natCast_zero, Int.mul_zero, moveW_zero]; rfl
 | m + 1, a, ha => by rw [Int.natCast_add, Int.natCast_one, move_step hy ha, iterM_succ, move_iter hy m (moveW_pl hy ha)]
theorem move_back {F : Int -> Bool} {n : Nat} {p : Int} (hp : isPl n p = true) (hF : F p = true) : moveW F n p 1 1 = p \/ moveW F n (moveW F n p 1 1) (-1) (-1) = p := by
 rcases next_of F n p 1 with h | ⟨i, h, h1, h2⟩
 ·exact .inl (move_none h _)
 ·refine .inr ?_
  rw [move_some (.inl rfl) hp h h1 h2 (by decide), Int.sub_self, moveW_zero]
  obtain ⟨q1, _⟩ := beyN_at (.inl rfl) hp h
  have hp' := isPl_iff.1 hp
  rw [move_some (.inr rfl) q1 (i := i) (by unfold beyN; rw [if_pos (by decide)]; omega) ?_ (fun j hj => ?_) (by decide), Int.sub_self, moveW_zero]
  ·omega
  ·rw [show p + 1 * ((i : Int) + 1) + -1 * ((i : Int) + 1) = p by omega]; exact hF
  ·have := h2 (i - 1 - j) (by omega)
   rw [show p + 1 * (((i - 1 - j : Nat) : Int) + 1) = p + 1 * ((i : Int) + 1) + -1 * ((j : Int) + 1) by omega] at this
   exact this
end Go.Proofs.YtbkpehfaofhmaaaGreatDoor

/- DBCaretM: caret.Send: what it returns; nothing that lay before is turned. -/
namespace Go.Proofs.YtbkpehfaofhmaaaGreatDoor
open Go.RowKit
def sendW (an hd : Int) : Int := if hd < an then 1 else -1
def sendC (l : List Rng) (an hd : Int) : Int × Int × Int := if mapE l an = 0 then if mapE l hd = 0 then ((mapA l an (sendW an hd)).at', (mapA l hd (-(sendW an hd))).at', 0) else (0, 0, mapE l hd) else (0, 0, mapE l an)
set_option maxRecDepth 100000 in
set_option maxHeartbeats 2000000 in
theorem csend_calls (a : Option Addr) (len cap : Nat) (l : List Rng) (an hd : Int) (w : World) (hl : Rngs w a len l) (hz : len <= 9223372036854775807) :
  Calls Tryz.prog 17 #[.slice a len cap, .int .i64 an, .int .i64 hd] w fun e w' => e = .returned (.tuple #[.int .i64 (sendC l an hd).1, .int .i64 (sendC l an hd).2.1, .int .i64 (sendC l an hd).2.2]) /\ Below w.heap.size w w' := by
 have HM : Hid (∀ (p s : Int) (X : World), Below w.heap.size w X -> Calls Tryz.prog 30 #[.slice a len cap, .int .i64 p, .int .i64 s] X fun e w' => e = .returned (.tuple #[spotV (mapA l p s), .int .i64 (mapE l p)]) /\ Below X.heap.size X w') := fun p s X hX => map_calls a len cap l p s X (hl.below hX) hz
 have hw1 : sendW an hd = 1 /\ decide (hd < an) = true \/ sendW an hd = -1 /\ decide (hd < an) = false := by
  unfold sendW
  by_cases h : hd < an
  ·exact .inl ⟨if_pos h, by simpa using h⟩
  ·exact .inr ⟨if_neg h, by simpa using h⟩
 unfold sendC
 have HBR := hidC (Below.refl w.heap.size w)
 generalize hwy : sendW an hd = y at *
 clear hwy
 unfold spotV at HM
 rcases hw1 with ⟨rfl, hd1⟩ | ⟨rfl, hd1⟩
 ·by_cases h1 : mapE l an = 0
  ·have HM1 := hidC (HM.out an (1) w HBR.out)
   have HM2 := hidC (HM.out hd (-1))
   clear HM
   rw [h1] at HM1
   rw [if_pos h1]
   by_cases h2 : mapE l hd = 0
   ·rw [if_pos h2]
    rw [h2] at HM2
    try rw [show -(-1 : Int) = 1 from rfl]
    generalize mapA l hd (-1) = S2 at *
    obtain ⟨t0, t1, t2, t3⟩ := S2
    generalize mapA l an (1) = S1 at *
    obtain ⟨s0, s1, s2, s3⟩ := S1
    go_enter Tryz.func17, Tryz.ntmps17
    go_wp2_with fail
    refine HM1.out.mono ?_
    rintro e X ⟨rfl, hX⟩
    have hXa : Below w.heap.size w (X.alloc (.cells #[.int .i64 s0, .bool s1, .int .i64 s2, .int .i64 s3] 72)) := hX.alloc hX.size _
    have HM3 := hidC (HM2.out _ hXa)
    have HXA := hidC hXa
    have HX0 := hidC (World.alloc_heap_new X (.cells #[.int .i64 s0, .bool s1, .int .i64 s2, .int .i64 s3] 72))
    clear HM1 HM2 hX hXa
    generalize hWW : X.alloc (.cells #[.int .i64 s0, .bool s1, .int .i64 s2, .int .i64 s3] 72) = WW at *
    have HWW := hidC hWW
    clear hWW
    go_wp2_with fail
    rw [HWW.out]
    refine HM3.out.mono ?_
    rintro e Y ⟨rfl, hY⟩
    have HBY := hidC (HXA.out.trans (hY.mono HXA.out.size))
    have hXl : X.heap.size < WW.heap.size := (Array.getElem?_eq_some_iff.1 HX0.out).1
    have b0 := (hY.block _ hXl).trans HX0.out
    have hYl : X.heap.size < Y.heap.size := (Array.getElem?_eq_some_iff.1 b0).1
    obtain ⟨V, hV⟩ : ∃ V, Y.alloc (.cells #[.int .i64 t0, .bool t1, .int .i64 t2, .int .i64 t3] 72) = V := ⟨_, rfl⟩
    have bV0 : V.heap[X.heap.size]? = some (.cells #[.int .i64 s0, .bool s1, .int .i64 s2, .int .i64 s3] 72 (0, 0)) := by rw [<- hV]; exact (Below.heap_alloc Y _ _ hYl).trans b0
    have bV1 : V.heap[Y.heap.size]? = some (.cells #[.int .i64 t0, .bool t1, .int .i64 t2, .int .i64 t3] 72 (0, 0)) := by rw [<- hV]; exact World.alloc_heap_new Y _
    have HVC : Hid (∀ Z, Below V.heap.size V Z -> Z.cell? ⟨X.heap.size, 0, none⟩ = some (.int .i64 s0) /\ Z.cell? ⟨Y.heap.size, 0, none⟩ = some (.int .i64 t0)) := fun Z hZ =>
     ⟨(cells4 ((hZ.block _ (Array.getElem?_eq_some_iff.1 bV0).1).trans bV0)).1, (cells4 ((hZ.block _ (Array.getElem?_eq_some_iff.1 bV1).1).trans bV1)).1⟩
    have HBV := hidC (show Below w.heap.size w V from by rw [<- hV]; exact HBY.out.alloc HBY.out.size _)
    have HV := hidC hV
    clear hY b0 hV HX0 HXA bV0 bV1
    go_wp2_with fail
    rw [HV.out]
    refine wp_region_held_drew (S := fun Z => Below V.heap.size V Z) mixed (Below.refl _ _).drew (fun hS => ?_)
    refine takeF 0 (some 37) (v := ?_) hS ?_ ?_
    rotate_left
    ·intro w hSw
     try go_simp
     with_reducible rfl
    try simp only [lay4]
    refine takeF 1 (some 38) (v := ?_) hS ?_ ?_
    rotate_left
    ·intro w hSw
     obtain ⟨z0, z1⟩ := HVC.out _ hSw
     try go_simp
     with_reducible rfl
    try simp only [lay4]
    refine takeF 2 (some 39) (v := ?_) hS ?_ ?_
    rotate_left
    ·intro w hSw
     try go_simp
     with_reducible rfl
    try simp only [lay4]
    refine takeF 3 (some 40) (v := ?_) hS ?_ ?_
    rotate_left
    ·intro w hSw
     obtain ⟨z0, z1⟩ := HVC.out _ hSw
     try go_simp
     with_reducible rfl
    try simp only [lay4]
    refine takeF 4 (some 6) (v := ?_) hS ?_ ?_
    rotate_left
    ·intro w hSw
     try go_simp
     with_reducible rfl
    try simp only [lay4]
    refine takeF 5 (some 7) (v := ?_) hS ?_ ?_
    rotate_left
    ·intro w hSw
     try go_simp
     with_reducible rfl
    try simp only [lay4]
    refine takeF 6 (some 8) (v := ?_) hS ?_ ?_
    rotate_left
    ·intro w hSw
     try go_simp
     with_reducible rfl
    try simp only [lay4]
    refine wpAnyH_done (by kernel_rfl) ?_ _
    go_wp2
    refine bodyPost_ret (results_tmp3 rfl _ _ _) rfl ?_
    exact ⟨rfl, HBV.out.drew⟩
   ·rw [if_neg h2]
    have hne : (mapE l hd != 0) = true := by simpa using h2
    generalize mapE l hd = E2 at *
    generalize mapA l hd (-1) = S2 at *
    obtain ⟨t0, t1, t2, t3⟩ := S2
    generalize mapA l an (1) = S1 at *
    obtain ⟨s0, s1, s2, s3⟩ := S1
    go_enter Tryz.func17, Tryz.ntmps17
    go_wp2_with fail
    refine HM1.out.mono ?_
    rintro e X ⟨rfl, hX⟩
    have hXa : Below w.heap.size w (X.alloc (.cells #[.int .i64 s0, .bool s1, .int .i64 s2, .int .i64 s3] 72)) := hX.alloc hX.size _
    have HM3 := hidC (HM2.out _ hXa)
    have HXA := hidC hXa
    have HX0 := hidC (World.alloc_heap_new X (.cells #[.int .i64 s0, .bool s1, .int .i64 s2, .int .i64 s3] 72))
    clear HM1 HM2 hX hXa
    generalize hWW : X.alloc (.cells #[.int .i64 s0, .bool s1, .int .i64 s2, .int .i64 s3] 72) = WW at *
    have HWW := hidC hWW
    clear hWW
    go_wp2_with fail
    rw [HWW.out]
    refine HM3.out.mono ?_
    rintro e Y ⟨rfl, hY⟩
    have HBY := hidC (HXA.out.trans (hY.mono HXA.out.size))
    clear hY
    go_wp2
    refine bodyPost_ret (results_tmp3 rfl _ _ _) rfl ?_
    exact ⟨rfl, HBY.out.alloc HBY.out.size _⟩
  ·rw [if_neg h1]
   have hne : (mapE l an != 0) = true := by simpa using h1
   have HM1 := hidC (HM.out an (1) w HBR.out)
   clear HM
   generalize mapE l an = E1 at *
   generalize mapA l an (1) = S1 at *
   obtain ⟨s0, s1, s2, s3⟩ := S1
   go_enter Tryz.func17, Tryz.ntmps17
   go_wp2_with fail
   refine HM1.out.mono ?_
   rintro e X ⟨rfl, hX⟩
   have HX := hidC hX
   clear hX HM1
   go_wp2
   refine bodyPost_ret (results_tmp3 rfl _ _ _) rfl ?_
   exact ⟨rfl, HX.out.alloc HX.out.size _⟩
 ·by_cases h1 : mapE l an = 0
  ·have HM1 := hidC (HM.out an (-1) w HBR.out)
   have HM2 := hidC (HM.out hd (1))
   clear HM
   rw [h1] at HM1
   rw [if_pos h1]
   by_cases h2 : mapE l hd = 0
   ·rw [if_pos h2]
    rw [h2] at HM2
    try rw [show -(-1 : Int) = 1 from rfl]
    generalize mapA l hd (1) = S2 at *
    obtain ⟨t0, t1, t2, t3⟩ := S2
    generalize mapA l an (-1) = S1 at *
    obtain ⟨s0, s1, s2, s3⟩ := S1
    go_enter Tryz.func17, Tryz.ntmps17
    go_wp2_with fail
    refine HM1.out.mono ?_
    rintro e X ⟨rfl, hX⟩
    have hXa : Below w.heap.size w (X.alloc (.cells #[.int .i64 s0, .bool s1, .int .i64 s2, .int .i64 s3] 72)) := hX.alloc hX.size _
    have HM3 := hidC (HM2.out _ hXa)
    have HXA := hidC hXa
    have HX0 := hidC (World.alloc_heap_new X (.cells #[.int .i64 s0, .bool s1, .int .i64 s2, .int .i64 s3] 72))
    clear HM1 HM2 hX hXa
    generalize hWW : X.alloc (.cells #[.int .i64 s0, .bool s1, .int .i64 s2, .int .i64 s3] 72) = WW at *
    have HWW := hidC hWW
    clear hWW
    go_wp2_with fail
    rw [HWW.out]
    refine HM3.out.mono ?_
    rintro e Y ⟨rfl, hY⟩
    have HBY := hidC (HXA.out.trans (hY.mono HXA.out.size))
    have hXl : X.heap.size < WW.heap.size := (Array.getElem?_eq_some_iff.1 HX0.out).1
    have b0 := (hY.block _ hXl).trans HX0.out
    have hYl : X.heap.size < Y.heap.size := (Array.getElem?_eq_some_iff.1 b0).1
    obtain ⟨V, hV⟩ : ∃ V, Y.alloc (.cells #[.int .i64 t0, .bool t1, .int .i64 t2, .int .i64 t3] 72) = V := ⟨_, rfl⟩
    have bV0 : V.heap[X.heap.size]? = some (.cells #[.int .i64 s0, .bool s1, .int .i64 s2, .int .i64 s3] 72 (0, 0)) := by rw [<- hV]; exact (Below.heap_alloc Y _ _ hYl).trans b0
    have bV1 : V.heap[Y.heap.size]? = some (.cells #[.int .i64 t0, .bool t1, .int .i64 t2, .int .i64 t3] 72 (0, 0)) := by rw [<- hV]; exact World.alloc_heap_new Y _
    have HVC : Hid (∀ Z, Below V.heap.size V Z -> Z.cell? ⟨X.heap.size, 0, none⟩ = some (.int .i64 s0) /\ Z.cell? ⟨Y.heap.size, 0, none⟩ = some (.int .i64 t0)) := fun Z hZ =>
     ⟨(cells4 ((hZ.block _ (Array.getElem?_eq_some_iff.1 bV0).1).trans bV0)).1, (cells4 ((hZ.block _ (Array.getElem?_eq_some_iff.1 bV1).1).trans bV1)).1⟩
    have HBV := hidC (show Below w.heap.size w V from by rw [<- hV]; exact HBY.out.alloc HBY.out.size _)
    have HV := hidC hV
    clear hY b0 hV HX0 HXA bV0 bV1
    go_wp2_with fail
    rw [HV.out]
    refine wp_region_held_drew (S := fun Z => Below V.heap.size V Z) mixed (Below.refl _ _).drew (fun hS => ?_)
    refine takeF 0 (some 37) (v := ?_) hS ?_ ?_
    rotate_left
    ·intro w hSw
     try go_simp
     with_reducible rfl
    try simp only [lay4]
    refine takeF 1 (some 38) (v := ?_) hS ?_ ?_
    rotate_left
    ·intro w hSw
     obtain ⟨z0, z1⟩ := HVC.out _ hSw
     try go_simp
     with_reducible rfl
    try simp only [lay4]
    refine takeF 2 (some 39) (v := ?_) hS ?_ ?_
    rotate_left
    ·intro w hSw
     try go_simp
     with_reducible rfl
    try simp only [lay4]
    refine takeF 3 (some 40) (v := ?_) hS ?_ ?_
    rotate_left
    ·intro w hSw
     obtain ⟨z0, z1⟩ := HVC.out _ hSw
     try go_simp
     with_reducible rfl
    try simp only [lay4]
    refine takeF 4 (some 6) (v := ?_) hS ?_ ?_
    rotate_left
    ·intro w hSw
     try go_simp
     with_reducible rfl
    try simp only [lay4]
    refine takeF 5 (some 7) (v := ?_) hS ?_ ?_
    rotate_left
    ·intro w hSw
     try go_simp
     with_reducible rfl
    try simp only [lay4]
    refine takeF 6 (some 8) (v := ?_) hS ?_ ?_
    rotate_left
    ·intro w hSw
     try go_simp
     with_reducible rfl
    try simp only [lay4]
    refine wpAnyH_done (by kernel_rfl) ?_ _
    go_wp2
    refine bodyPost_ret (results_tmp3 rfl _ _ _) rfl ?_
    exact ⟨rfl, HBV.out.drew⟩
   ·rw [if_neg h2]
    have hne : (mapE l hd != 0) = true := by simpa using h2
    generalize mapE l hd = E2 at *
    generalize mapA l hd (1) = S2 at *
    obtain ⟨t0, t1, t2, t3⟩ := S2
    generalize mapA l an (-1) = S1 at *
    obtain ⟨s0, s1, s2, s3⟩ := S1
    go_enter Tryz.func17, Tryz.ntmps17
    go_wp2_with fail
    refine HM1.out.mono ?_
    rintro e X ⟨rfl, hX⟩
    have hXa : Below w.heap.size w (X.alloc (.cells #[.int .i64 s0, .bool s1, .int .i64 s2, .int .i64 s3] 72)) := hX.alloc hX.size _
    have HM3 := hidC (HM2.out _ hXa)
    have HXA := hidC hXa
    have HX0 := hidC (World.alloc_heap_new X (.cells #[.int .i64 s0, .bool s1, .int .i64 s2, .int .i64 s3] 72))
    clear HM1 HM2 hX hXa
    generalize hWW : X.alloc (.cells #[.int .i64 s0, .bool s1, .int .i64 s2, .int .i64 s3] 72) = WW at *
    have HWW := hidC hWW
    clear hWW
    go_wp2_with fail
    rw [HWW.out]
    refine HM3.out.mono ?_
    rintro e Y ⟨rfl, hY⟩
    have HBY := hidC (HXA.out.trans (hY.mono HXA.out.size))
    clear hY
    go_wp2
    refine bodyPost_ret (results_tmp3 rfl _ _ _) rfl ?_
    exact ⟨rfl, HBY.out.alloc HBY.out.size _⟩
  ·rw [if_neg h1]
   have hne : (mapE l an != 0) = true := by simpa using h1
   have HM1 := hidC (HM.out an (-1) w HBR.out)
   clear HM
   generalize mapE l an = E1 at *
   generalize mapA l an (-1) = S1 at *
   obtain ⟨s0, s1, s2, s3⟩ := S1
   go_enter Tryz.func17, Tryz.ntmps17
   go_wp2_with fail
   refine HM1.out.mono ?_
   rintro e X ⟨rfl, hX⟩
   have HX := hidC hX
   clear hX HM1
   go_wp2
   refine bodyPost_ret (results_tmp3 rfl _ _ _) rfl ?_
   exact ⟨rfl, HX.out.alloc HX.out.size _⟩
end Go.Proofs.YtbkpehfaofhmaaaGreatDoor

/- DBCaretS: caret's small calls (wayOf, isPlace, check, Text): what they return; nothing that lay before is turned. -/
namespace Go.Proofs.YtbkpehfaofhmaaaGreatDoor
open Go.RowKit
set_option maxHeartbeats 400000 in
theorem wayof_calls (s : Int) (w : World) : Calls Tryz.prog 28 #[.int .i64 s] w fun e w' => e = .returned (.int .i64 (wayD s)) /\ w' = w := by
 unfold wayD
 by_cases h : s < 0
 ·rw [if_pos h]
  have hd : decide (s < 0) = true := by simpa using h
  go_enter Tryz.func28, Tryz.ntmps28
  go_wp2
  go_ret
  exact ⟨rfl, rfl⟩
 ·rw [if_neg h]
  have hd : decide (s < 0) = false := by simpa using h
  go_enter Tryz.func28, Tryz.ntmps28
  go_wp2
  go_ret
  exact ⟨rfl, rfl⟩
set_option maxHeartbeats 400000 in
theorem isplace_calls (n : Nat) (p : Int) (w : World) : Calls Tryz.prog 43 #[.int .i64 (n : Int), .int .i64 p] w fun e w' => e = .returned (.bool (isPl n p)) /\ w' = w := by
 unfold isPl
 cases h1 : decide (0 <= p)
 all_goals
  go_enter Tryz.func43, Tryz.ntmps43
  go_wp2
  go_ret
  exact ⟨rfl, rfl⟩
def CheckH (w : World) (B : Nat) (a : Option Addr) (len cap : Nat) (A E : Int) : Prop := ∀ X, Below w.heap.size w X -> Calls Tryz.prog 42 #[.pointer (some ⟨B, 0, none⟩), .slice a len cap] X fun e X' => e = .returned (.tuple #[.int .i64 A, .int .i64 E]) /\ Below X.heap.size X X'
def MayH (w : World) (B : Nat) (a : Option Addr) (len cap : Nat) (F : Int -> Bool) : Prop := ∀ X, Below w.heap.size w X -> ∀ p, Calls Tryz.prog 24 #[.pointer (some ⟨B, 0, none⟩), .slice a len cap, .int .i64 p, .int .i64 0] X fun e X' => e = .returned (.bool (F p)) /\ Below X.heap.size X X'
def chkE (E : Int) (n : Nat) (p : Int) : Int := if E = 0 then if isPl n p = true then 0 else 1 else E
set_option maxHeartbeats 800000 in
theorem ccheck_calls {w : World} {B : Nat} {a : Option Addr} {len cap : Nat} {A E : Int} (h : CheckH w B a len cap A E) (_hlen : (len : Int) <= 9223372036854775807) (p : Int) (X : World) (hX : Below w.heap.size w X) :
  Calls Tryz.prog 23 #[.pointer (some ⟨B, 0, none⟩), .slice a len cap, .int .i64 p] X fun e X' => e = .returned (.int .i64 (chkE E len p)) /\ Below X.heap.size X X' := by
 have HC := hidC (h X hX)
 have HP : Hid (∀ W : World, Calls Tryz.prog 43 #[.int .i64 (len : Int), .int .i64 p] W fun e w' => e = .returned (.bool (isPl len p)) /\ w' = W) := fun W => isplace_calls len p W
 unfold chkE
 clear h hX
 by_cases hE : E = 0
 ·subst hE
  rw [if_pos rfl]
  generalize isPl len p = q at *
  cases q with
  | true =>
   rw [if_pos rfl]
   go_enter Tryz.func23, Tryz.ntmps23
   go_wp2_with fail
   refine HC.out.mono ?_
   rintro e W ⟨rfl, hB⟩
   have HB := hidC hB
   clear hB HC
   go_wp2_with fail
   refine (HP.out _).mono ?_
   rintro e W' ⟨rfl, rfl⟩
   go_wp2
   go_ret
   exact ⟨rfl, HB.out⟩
  | false =>
   rw [if_neg (by decide)]
   go_enter Tryz.func23, Tryz.ntmps23
   go_wp2_with fail
   refine HC.out.mono ?_
   rintro e W ⟨rfl, hB⟩
   have HB := hidC hB
   clear hB HC
   go_wp2_with fail
   refine (HP.out _).mono ?_
   rintro e W' ⟨rfl, rfl⟩
   go_wp2
   go_ret
   exact ⟨rfl, HB.out⟩
 ·rw [if_neg hE]
  have hd : (E != 0) = true := by simpa using hE
  clear HP
  go_enter Tryz.func23, Tryz.ntmps23
  go_wp2_with fail
  refine HC.out.mono ?_
  rintro e W ⟨rfl, hB⟩
  have HB := hidC hB
  clear hB HC
  go_wp2
  go_ret
  exact ⟨rfl, HB.out⟩
def textD (F : Int -> Bool) (E : Int) (n : Nat) (p : Int) : Bool := if chkE E n p = 0 then F p else false
set_option maxHeartbeats 800000 in
theorem text_calls {w : World} {B : Nat} {a : Option Addr} {len cap : Nat} {A E : Int} {F : Int -> Bool} (h : CheckH w B a len cap A E) (hm : MayH w B a len cap F) (hlen : (len : Int) <= 9223372036854775807) (p : Int) (X : World) (hX : Below w.heap.size w X) :
  Calls Tryz.prog 11 #[.pointer (some ⟨B, 0, none⟩), .slice a len cap, .int .i64 p] X fun e X' => e = .returned (.tuple #[.bool (textD F E len p), .int .i64 (chkE E len p)]) /\ Below X.heap.size X X' := by
 have HC := hidC (ccheck_calls h hlen p X hX)
 have HM : Hid (∀ W, Below X.heap.size X W -> Calls Tryz.prog 24 #[.pointer (some ⟨B, 0, none⟩), .slice a len cap, .int .i64 p, .int .i64 0] W fun e X' => e = .returned (.bool (F p)) /\ Below W.heap.size W X') := fun W hW => hm W (hX.trans (hW.mono hX.size)) p
 unfold textD
 generalize chkE E len p = q at *
 generalize F p = f at *
 clear h hm hX
 by_cases hq : q = 0
 ·subst hq
  rw [if_pos rfl]
  go_enter Tryz.func11, Tryz.ntmps11
  go_wp2_with fail
  refine HC.out.mono ?_
  rintro e W ⟨rfl, hB⟩
  have HB := hidC hB
  have HM2 := hidC (HM.out W hB)
  clear hB HC HM
  go_wp2_with fail
  refine HM2.out.mono ?_
  rintro e W' ⟨rfl, hB2⟩
  have HB2 := hidC (HB.out.trans (hB2.mono HB.out.size))
  clear hB2
  go_wp2
  go_ret2
  exact ⟨rfl, HB2.out⟩
 ·rw [if_neg hq]
  have hd : (q != 0) = true := by simpa using hq
  clear HM
  go_enter Tryz.func11, Tryz.ntmps11
  go_wp2_with fail
  refine HC.out.mono ?_
  rintro e W ⟨rfl, hB⟩
  have HB := hidC hB
  clear hB HC
  go_wp2
  go_ret2
  exact ⟨rfl, HB.out⟩
end Go.Proofs.YtbkpehfaofhmaaaGreatDoor
