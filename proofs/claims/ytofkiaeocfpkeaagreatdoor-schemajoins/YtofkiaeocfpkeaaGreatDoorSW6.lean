/-
  PROVED HERE: what the texts Lays, Plan, Add, Args, Fork, Next, Loop, Box3 say (each has its own words below).
-/
import Derived.Test.YtofkiaeocfpkeaaGreatDoorSW5
import Derived.OwnWalkIn
import Derived.Maps.AppendAt
import Derived.ProofKit
import Derived.Laws.Tables
import Derived.Laws.CopyOwn
import Derived.Laws.ResultCell
import Derived.RangeFuncBox
import Derived.Test.YtofkiaeocfpkeaaGreatDoorRows
import Derived.WalkKit
import Derived.OpenShut
import Derived.Deep.Slices
import Derived.Deep.DeepHandedRow
import Derived.ChangeSlices
import Derived.ChangeSame
import Derived.ChangeArms
import Derived.ChangeMaps5
import Derived.DataShut
import Derived.SizedLaws
/- Lays: the places that are laid for a tree, as plain data: each is right. -/
namespace Go.Proofs.YtofkiaeocfpkeaaGreatDoor

section
variable {T : Type} (K : T → Int) (M : T → Nat) (U : T → List T)

def forkLeast (L : List Place) (ways : List Nat) : Nat := ways.foldl (fun m q => min m (leastAt L q)) (leastAt L (ways.headD 0))
def laySeq (f : T → Nat → List Place → List Place × Nat) : List T → Nat → List Place → List Place × Nat
  | [], next, L => (L, next)
  | x :: r, next, L => laySeq f r (f x next L).2 (f x next L).1
def layAlt (f : T → Nat → List Place → List Place × Nat) (next : Nat) : List T → List Place → List Nat → List Place × List Nat
  | [], L, ways => (L, ways)
  | x :: r, L, ways => layAlt f next r (f x next L).1 (ways ++ [(f x next L).2])
def forkL (L : List Place) (ways : List Nat) : List Place × Nat := (L ++ [(0, ways, forkLeast L ways)], L.length)
def layOpt (f : T → Nat → List Place → List Place × Nat) : List T → Nat → List Place → List Place × Nat
  | x :: _, next, L => forkL (f x next L).1 [next, (f x next L).2]
  | [], next, L => (L, next)
/-- Those of a loop, the place behind it, and the one where it begins. -/
def layLoop (f : T → Nat → List Place → List Place × Nat) : List T → Nat → List Place → List Place × Nat × Nat
  | x :: _, next, L => (addNext (f x L.length (forkL L [next]).1).1 L.length (f x L.length (forkL L [next]).1).2, L.length, (f x L.length (forkL L [next]).1).2)
  | [], next, L => (L, next, next)
/-- The places of a tree behind those of L, what comes behind it beginning at next; and where it begins. -/
def lay : Nat → T → Nat → List Place → List Place × Nat
  | 0, _, next, L => (L, next)
  | n + 1, t, next, L =>
    if K t = 1 then (L ++ [(M t, [next], leastAt L next + 1)], L.length)
    else if K t = 2 then laySeq (lay n) (U t).reverse next L
    else if K t = 3 then forkL (layAlt (lay n) next (U t) L []).1 (layAlt (lay n) next (U t) L []).2
    else if K t = 4 then ((layLoop (lay n) (U t) next L).1, (layLoop (lay n) (U t) next L).2.1)
    else if K t = 5 then ((layLoop (lay n) (U t) next L).1, (layLoop (lay n) (U t) next L).2.2)
    else if K t = 6 then layOpt (lay n) (U t) next L
    else (L, next)
/-- A tree all of whose names have types, whose choices have some, whose signs stand behind one. -/
def Sane : Nat → T → Prop
  | 0, _ => False
  | n + 1, t => (K t = 1 → M t ≠ 0) ∧ (K t = 2 ∨ K t = 3 → U t ≠ []) ∧ (K t = 4 ∨ K t = 5 ∨ K t = 6 → ∃ x, U t = [x]) ∧ ∀ x ∈ U t, Sane n x
/-- How many are in a tree. -/
def size : Nat → T → Nat
  | 0, _ => 0
  | n + 1, t => 1 + ((U t).map (size n)).sum

/-- Room that is enough while a tree is laid. -/
def need : Nat → T → Nat
  | 0, _ => 0
  | n + 1, t => (U t).length * ((U t).map (size U n)).sum + ((U t).map (need n)).sum + 3
theorem size_need (n : Nat) (t : T) : size U n t ≤ need U n t := by
  cases n with
  | zero => exact Nat.le_refl _
  | succ n =>
    rw [size, need]
    cases h : U t with
    | nil => simp
    | cons x r =>
      have : ((x :: r).map (size U n)).sum ≤ (x :: r).length * ((x :: r).map (size U n)).sum := Nat.le_mul_of_pos_left _ (by simp)
      omega
theorem sum_le_of {α : Type} {f : α → Nat} {c : Nat} {g : α → Nat} : ∀ (l : List α), (∀ x ∈ l, f x ≤ c * g x) → (l.map f).sum ≤ c * (l.map g).sum := by
  intro l
  induction l with
  | nil => intro _; simp
  | cons x r ih =>
    intro h
    have h1 := h x (List.mem_cons_self ..)
    have h2 := ih (fun y hy => h y (List.mem_cons_of_mem _ hy))
    simp only [List.map_cons, List.sum_cons]
    rw [Nat.mul_add]
    omega
theorem sum_ge_mem {α : Type} {f : α → Nat} {x : α} : ∀ (l : List α), x ∈ l → f x ≤ (l.map f).sum := by
  intro l
  induction l with
  | nil => intro h; cases h
  | cons y r ih =>
    intro h
    simp only [List.map_cons, List.sum_cons]
    rcases List.mem_cons.1 h with rfl | h
    · omega
    · have := ih h; omega
/-- A tree of at most 200 needs little room. -/
theorem need_le : ∀ (n : Nat) (t : T), size U n t ≤ 200 → (∀ m x, m < n → x ∈ U t → 1 ≤ size U m x ∨ True) → need U n t ≤ 40003 * size U n t := by
  intro n
  induction n with
  | zero => intro t _ _; exact Nat.zero_le _
  | succ n ih =>
    intro t h _
    have h' := h
    rw [size] at h
    have hs : ((U t).map (need U n)).sum ≤ 40003 * ((U t).map (size U n)).sum := sum_le_of (U t) fun x hx => ih x (by
      have := sum_ge_mem (f := size U n) (U t) hx
      omega) (fun _ _ _ _ => .inr trivial)
    have hlen : (U t).length ≤ 200 ∨ ((U t).map (size U n)).sum = 0 := by
      cases n with
      | zero =>
        right
        have : ∀ l : List T, (l.map (size U 0)).sum = 0 := by
          intro l
          induction l with
          | nil => rfl
          | cons x r ih => rw [List.map_cons, List.sum_cons, ih]; rfl
        exact this _
      | succ m =>
        left
        have : ∀ l : List T, l.length ≤ (l.map (size U (m + 1))).sum := by
          intro l
          induction l with
          | nil => exact Nat.le_refl _
          | cons x r ih =>
            have h1 : 1 ≤ size U (m + 1) x := by rw [size]; omega
            rw [List.map_cons, List.sum_cons, List.length_cons]
            omega
        have := this (U t)
        omega
    rw [need, size]
    have hm : (U t).length * ((U t).map (size U n)).sum ≤ 40000 := by
      rcases hlen with h1 | h1
      · exact Nat.le_trans (Nat.mul_le_mul h1 (by omega : ((U t).map (size U n)).sum ≤ 200)) (by decide)
      · rw [h1]; simp
    omega

/-- What laying one keeps. -/
def Good (f : T → Nat → List Place → List Place × Nat) (sz : T → Nat) (x : T) : Prop :=
  ∀ next L, wf L → next < L.length → wf (f x next L).1 ∧ (f x next L).2 < (f x next L).1.length ∧ L.length ≤ (f x next L).1.length ∧ (∀ p, p < L.length → (f x next L).1[p]? = L[p]?) ∧ leastAt L next ≤ leastAt (f x next L).1 (f x next L).2 ∧ (f x next L).1.length ≤ L.length + sz x

theorem foldl_min_le (L : List Place) : ∀ (ways : List Nat) (m : Nat), ways.foldl (fun m q => min m (leastAt L q)) m ≤ m ∧ (∀ q ∈ ways, ways.foldl (fun m q => min m (leastAt L q)) m ≤ leastAt L q) ∧ (ways.foldl (fun m q => min m (leastAt L q)) m = m ∨ ∃ q ∈ ways, ways.foldl (fun m q => min m (leastAt L q)) m = leastAt L q) := by
  intro ways
  induction ways with
  | nil => intro m; exact ⟨Nat.le_refl _, fun q hq => (by cases hq), .inl rfl⟩
  | cons a r ih =>
    intro m
    obtain ⟨h1, h2, h3⟩ := ih (min m (leastAt L a))
    simp only [List.foldl_cons]
    refine ⟨by omega, fun q hq => ?_, ?_⟩
    · rcases List.mem_cons.1 hq with rfl | hq
      · omega
      · exact h2 q hq
    · rcases h3 with h3 | ⟨q, hq, h3⟩
      · rw [h3]
        by_cases h : m ≤ leastAt L a
        · exact .inl (by omega)
        · exact .inr ⟨a, List.mem_cons_self .., by omega⟩
      · exact .inr ⟨q, List.mem_cons_of_mem _ hq, h3⟩
theorem forkLeast_ok (L : List Place) {ways : List Nat} (h : ways ≠ []) : (∀ q ∈ ways, forkLeast L ways ≤ leastAt L q) ∧ ∃ q ∈ ways, forkLeast L ways = leastAt L q := by
  obtain ⟨h1, h2, h3⟩ := foldl_min_le L ways (leastAt L (ways.headD 0))
  refine ⟨h2, ?_⟩
  rcases h3 with h3 | h3
  · cases ways with
    | nil => exact absurd rfl h
    | cons a r => exact ⟨a, List.mem_cons_self .., h3⟩
  · exact h3
theorem forkL_ok {L : List Place} (hL : wf L) {ways : List Nat} (h : ways ≠ []) (hw : ∀ q ∈ ways, q < L.length) {m : Nat} (hm : ∀ q ∈ ways, m ≤ leastAt L q) :
    wf (forkL L ways).1 ∧ (forkL L ways).2 < (forkL L ways).1.length ∧ (forkL L ways).1.length = L.length + 1 ∧ (∀ p, p < L.length → (forkL L ways).1[p]? = L[p]?) ∧ m ≤ leastAt (forkL L ways).1 (forkL L ways).2 := by
  obtain ⟨h1, h2⟩ := forkLeast_ok L h
  unfold forkL
  refine ⟨wf_add hL (.inr ⟨rfl, fun q hq => ⟨hw q hq, h1 q hq⟩, h2⟩), by simp, by simp, fun p hp => get_snoc_lt hp, ?_⟩
  rw [leastAt_some get_snoc_eq]
  obtain ⟨q, hq, e⟩ := h2
  show m ≤ forkLeast L ways
  rw [e]
  exact hm q hq

theorem laySeq_good {f : T → Nat → List Place → List Place × Nat} {sz : T → Nat} : ∀ (l : List T), (∀ x ∈ l, Good f sz x) → ∀ next L, wf L → next < L.length →
    wf (laySeq f l next L).1 ∧ (laySeq f l next L).2 < (laySeq f l next L).1.length ∧ L.length ≤ (laySeq f l next L).1.length ∧ (∀ p, p < L.length → (laySeq f l next L).1[p]? = L[p]?) ∧ leastAt L next ≤ leastAt (laySeq f l next L).1 (laySeq f l next L).2 ∧ (laySeq f l next L).1.length ≤ L.length + (l.map sz).sum := by
  intro l
  induction l with
  | nil => intro _ next L hL hn; exact ⟨hL, hn, Nat.le_refl _, fun _ _ => rfl, Nat.le_refl _, Nat.le_add_right _ _⟩
  | cons x r ih =>
    intro hg next L hL hn
    obtain ⟨a1, a2, a3, a4, a5, a6⟩ := hg x (List.mem_cons_self ..) next L hL hn
    obtain ⟨b1, b2, b3, b4, b5, b6⟩ := ih (fun y hy => hg y (List.mem_cons_of_mem _ hy)) (f x next L).2 (f x next L).1 a1 a2
    rw [laySeq]
    refine ⟨b1, b2, Nat.le_trans a3 b3, fun p hp => (b4 p (by omega)).trans (a4 p hp), Nat.le_trans a5 b5, ?_⟩
    simp only [List.map_cons, List.sum_cons]
    omega
theorem layAlt_good {f : T → Nat → List Place → List Place × Nat} {sz : T → Nat} (next : Nat) : ∀ (l : List T), (∀ x ∈ l, Good f sz x) → ∀ (L : List Place) (ways : List Nat), wf L → next < L.length → (∀ q ∈ ways, q < L.length ∧ leastAt L next ≤ leastAt L q) →
    wf (layAlt f next l L ways).1 ∧ (∀ q ∈ (layAlt f next l L ways).2, q < (layAlt f next l L ways).1.length ∧ leastAt L next ≤ leastAt (layAlt f next l L ways).1 q) ∧ L.length ≤ (layAlt f next l L ways).1.length ∧ (∀ p, p < L.length → (layAlt f next l L ways).1[p]? = L[p]?) ∧ (layAlt f next l L ways).1.length ≤ L.length + (l.map sz).sum ∧ (layAlt f next l L ways).2.length = ways.length + l.length := by
  intro l
  induction l with
  | nil => intro _ L ways hL hn hw; exact ⟨hL, hw, Nat.le_refl _, fun _ _ => rfl, Nat.le_add_right _ _, rfl⟩
  | cons x r ih =>
    intro hg L ways hL hn hw
    obtain ⟨a1, a2, a3, a4, a5, a6⟩ := hg x (List.mem_cons_self ..) next L hL hn
    have hkeep : ∀ q, q < L.length → leastAt (f x next L).1 q = leastAt L q := fun q hq => leastAt_congr (a4 q hq)
    obtain ⟨b1, b2, b3, b4, b5, b6⟩ := ih (fun y hy => hg y (List.mem_cons_of_mem _ hy)) (f x next L).1 (ways ++ [(f x next L).2]) a1 (by omega) (fun q hq => by
      rw [hkeep next hn]
      rcases List.mem_append.1 hq with hq | hq
      · obtain ⟨g1, g2⟩ := hw q hq
        exact ⟨by omega, by rw [hkeep q g1]; exact g2⟩
      · simp at hq
        subst hq
        exact ⟨a2, a5⟩)
    rw [hkeep next hn] at b2
    rw [layAlt]
    refine ⟨b1, b2, Nat.le_trans a3 b3, fun p hp => (b4 p (by omega)).trans (a4 p hp), ?_, ?_⟩
    · simp only [List.map_cons, List.sum_cons]
      omega
    · rw [b6]
      simp
      omega
theorem layLoop_good {f : T → Nat → List Place → List Place × Nat} {sz : T → Nat} {x : T} (hg : Good f sz x) {next : Nat} {L : List Place} (hL : wf L) (hn : next < L.length) :
    wf (layLoop f [x] next L).1 ∧ (layLoop f [x] next L).2.1 = L.length ∧ L.length < (layLoop f [x] next L).1.length ∧ (layLoop f [x] next L).2.2 < (layLoop f [x] next L).1.length ∧ (∀ p, p < L.length → (layLoop f [x] next L).1[p]? = L[p]?) ∧
    leastAt L next ≤ leastAt (layLoop f [x] next L).1 L.length ∧ leastAt L next ≤ leastAt (layLoop f [x] next L).1 (layLoop f [x] next L).2.2 ∧ (layLoop f [x] next L).1.length ≤ L.length + (1 + sz x) := by
  obtain ⟨c1, c2, c3, c4, c5⟩ := forkL_ok hL (ways := [next]) (by simp) (by simpa using hn) (m := leastAt L next) (by simp)
  have e2 : (forkL L [next]).2 = L.length := rfl
  rw [e2] at c5
  obtain ⟨a1, a2, a3, a4, a5, a6⟩ := hg L.length (forkL L [next]).1 c1 (by omega)
  rw [layLoop]
  generalize hf : f x L.length (forkL L [next]).1 = r at *
  have hat : (forkL L [next]).1[L.length]? = some (0, [next], forkLeast L [next]) := get_snoc_eq
  have hr : r.1[L.length]? = some (0, [next], forkLeast L [next]) := (a4 _ (by omega)).trans hat
  have hpos := hL.pos
  refine ⟨wf_next a1 hpos hr rfl a2 ?_, rfl, by rw [addNext_length]; omega, by rw [addNext_length]; exact a2, fun p hp => ?_, ?_, ?_, ?_⟩
  · rw [← leastAt_some hat]; exact a5
  · rw [addNext_ne (by omega), a4 p (by omega), c4 p hp]
  · rw [addNext_least, leastAt_congr (a4 L.length (by omega))]; exact c5
  · rw [addNext_least]; exact Nat.le_trans c5 (by rw [← leastAt_congr (a4 L.length (by omega))]; exact Nat.le_trans (by rw [leastAt_congr (a4 L.length (by omega))]; exact Nat.le_refl _) a5)
  · rw [addNext_length]; omega
theorem lay_good : ∀ (n : Nat) (t : T), Sane K M U n t → Good (lay K M U n) (size U n) t := by
  intro n
  induction n with
  | zero => intro t h; exact h.elim
  | succ n ih =>
    intro t ⟨s1, s3, s4, sk⟩ next L hL hn
    have hk : ∀ x ∈ U t, Good (lay K M U n) (size U n) x := fun x hx => ih x (sk x hx)
    rw [lay, size]
    by_cases k1 : K t = 1
    · rw [if_pos k1]
      refine ⟨wf_add hL (.inl ⟨s1 k1, next, rfl, hn, rfl⟩), by simp, by simp, fun p hp => get_snoc_lt hp, ?_, by simp⟩
      rw [leastAt_some get_snoc_eq]
      exact Nat.le_succ _
    rw [if_neg k1]
    by_cases k2 : K t = 2
    · rw [if_pos k2]
      obtain ⟨b1, b2, b3, b4, b5, b6⟩ := laySeq_good (U t).reverse (fun x hx => hk x (List.mem_reverse.1 hx)) next L hL hn
      refine ⟨b1, b2, b3, b4, b5, ?_⟩
      rw [List.map_reverse, List.sum_reverse] at b6
      omega
    rw [if_neg k2]
    by_cases k3 : K t = 3
    · rw [if_pos k3]
      obtain ⟨b1, b2, b3, b4, b5, b6⟩ := layAlt_good next (U t) hk L [] hL hn (fun q hq => by cases hq)
      have hne : (layAlt (lay K M U n) next (U t) L []).2 ≠ [] := by
        intro e
        rw [e] at b6
        have := List.length_pos_iff.2 (s3 (.inr k3))
        simp at b6
        simp [b6] at this
      obtain ⟨c1, c2, c3, c4, c5⟩ := forkL_ok b1 hne (fun q hq => (b2 q hq).1) (fun q hq => (b2 q hq).2)
      refine ⟨c1, c2, by omega, fun p hp => (c4 p (by omega)).trans (b4 p hp), c5, ?_⟩
      omega
    rw [if_neg k3]
    by_cases k4 : K t = 4
    · rw [if_pos k4]
      obtain ⟨x, hx⟩ := s4 (.inl k4)
      rw [hx]
      obtain ⟨a1, a2, a3, a4, a5, a6, a7, a8⟩ := layLoop_good (hk x (by rw [hx]; exact List.mem_singleton.2 rfl)) hL hn
      refine ⟨a1, by rw [a2]; exact a3, Nat.le_of_lt a3, a5, by rw [a2]; exact a6, ?_⟩
      simpa using a8
    rw [if_neg k4]
    by_cases k5 : K t = 5
    · rw [if_pos k5]
      obtain ⟨x, hx⟩ := s4 (.inr (.inl k5))
      rw [hx]
      obtain ⟨a1, a2, a3, a4, a5, a6, a7, a8⟩ := layLoop_good (hk x (by rw [hx]; exact List.mem_singleton.2 rfl)) hL hn
      refine ⟨a1, a4, Nat.le_of_lt a3, a5, a7, ?_⟩
      simpa using a8
    rw [if_neg k5]
    by_cases k6 : K t = 6
    · rw [if_pos k6]
      obtain ⟨x, hx⟩ := s4 (.inr (.inr k6))
      rw [hx, layOpt]
      obtain ⟨a1, a2, a3, a4, a5, a6⟩ := hk x (by rw [hx]; exact List.mem_singleton.2 rfl) next L hL hn
      have hkeep : leastAt (lay K M U n x next L).1 next = leastAt L next := leastAt_congr (a4 next hn)
      obtain ⟨c1, c2, c3, c4, c5⟩ := forkL_ok a1 (ways := [next, (lay K M U n x next L).2]) (by simp) (fun q hq => by
        simp at hq
        rcases hq with rfl | rfl
        · omega
        · exact a2) (m := leastAt L next) (fun q hq => by
        simp at hq
        rcases hq with rfl | rfl
        · rw [hkeep]; exact Nat.le_refl _
        · exact a5)
      refine ⟨c1, c2, by omega, fun p hp => (c4 p (by omega)).trans (a4 p hp), c5, ?_⟩
      simp
      omega
    rw [if_neg k6]
    exact ⟨hL, hn, Nat.le_refl _, fun _ _ => rfl, Nat.le_refl _, Nat.le_add_right _ _⟩
end
end Go.Proofs.YtofkiaeocfpkeaaGreatDoor

/- Plan: places in memory: a plan whose blocks all lie where A says; what a place more makes of it. -/
namespace Go.Proofs.YtofkiaeocfpkeaaGreatDoor
open Go.RowKit

/-- What lies of a place in three cells. -/
abbrev RawP : Type := Nat × Value × Nat
def rowP : List RawP → List Value
  | [] => []
  | x :: r => .int .u16 (x.1 : Int) :: x.2.1 :: .int .i64 (x.2.2 : Int) :: rowP r
theorem rowP_append (l m : List RawP) : rowP (l ++ m) = rowP l ++ rowP m := by
  induction l with
  | nil => rfl
  | cons x r ih => simp [rowP, ih]
theorem rowP_length (l : List RawP) : (rowP l).length = l.length * 3 := by
  induction l with
  | nil => rfl
  | cons x r ih => simp [rowP, ih]; omega
theorem rowP_at (l : List RawP) (i : Nat) (x : RawP) (h : l[i]? = some x) : (rowP l)[i * 3]? = some (.int .u16 (x.1 : Int)) ∧ (rowP l)[i * 3 + 1]? = some x.2.1 ∧ (rowP l)[i * 3 + 2]? = some (.int .i64 (x.2.2 : Int)) := by
  induction l generalizing i with
  | nil => simp at h
  | cons y r ih =>
    cases i with
    | zero =>
      obtain rfl : y = x := by simpa using h
      exact ⟨rfl, rfl, rfl⟩
    | succ i =>
      have := ih i (by simpa using h)
      rw [show (i + 1) * 3 = i * 3 + 3 from by omega, show i * 3 + 3 + 1 = i * 3 + 1 + 3 from by omega, show i * 3 + 3 + 2 = i * 3 + 2 + 3 from by omega]
      exact this
def numsV (l : List Nat) : List Value := l.map (fun q : Nat => Value.int .i64 (q : Int))
theorem numsV_length (l : List Nat) : (numsV l).length = l.length := by unfold numsV; simp
theorem numsV_append (l m : List Nat) : numsV (l ++ m) = numsV l ++ numsV m := by unfold numsV; simp
theorem numsV_at {l : List Nat} {i q : Nat} (h : l[i]? = some q) : (numsV l)[i]? = some (.int .i64 (q : Int)) := by unfold numsV; rw [List.getElem?_map, h]; rfl
/-- A row is as it was, where its block is. -/
theorem owns_same {w w' : World} {base : Nat} {e : TypeId} {sz : Nat} {v : Value} {n : Nat} {xs : List Value} (h : w.ownsRow base e sz v n xs) (hs : ∀ g, v.ownBlock = some g → w'.heap[g]? = w.heap[g]?) : w'.ownsRow base e sz v n xs := by
  obtain ⟨h1, h2⟩ := h
  refine ⟨h1, ?_⟩
  rcases h2 with h2 | ⟨g, cap, cur, rfl, hb, hg, hr⟩
  · exact .inl h2
  · exact .inr ⟨g, cap, cur, rfl, hb, (hs g rfl).trans hg, hr⟩
theorem owns_lt {w : World} {base : Nat} {e : TypeId} {sz : Nat} {v : Value} {n : Nat} {xs : List Value} (h : w.ownsRow base e sz v n xs) {g : Nat} (hg : v.ownBlock = some g) : g < w.heap.size ∧ ∃ cur, w.heap[g]? = some (.cells cur e (0, 0)) := by
  rcases h.2 with ⟨rfl, _⟩ | ⟨g', cap, cur, rfl, hb, hg', _⟩
  · cases hg
  · cases hg
    exact ⟨(Array.getElem?_eq_some_iff.1 hg').1, cur, hg'⟩
theorem owns_one {w : World} {base : Nat} {e : TypeId} {sz : Nat} {v : Value} {n : Nat} {xs : List Value} (h : w.ownsRow base e sz v n xs) : v.oneCell' = true := by
  rcases h.2 with ⟨rfl, _⟩ | ⟨g', cap, cur, rfl, _⟩ <;> rfl
/-- What lies at the k-th cell of a row that is owned. -/
theorem owns_cell {w : World} {base : Nat} {e : TypeId} {sz : Nat} {v : Value} {n : Nat} {xs : List Value} (h : w.ownsRow base e sz v n xs) (hn : 0 < n) : ∃ g cap, v = .slice (some ⟨g, 0, none⟩) n cap ∧ ∀ j u, xs[j]? = some u → w.cell? ⟨g, j, none⟩ = some u := by
  obtain ⟨h1, h2⟩ := h
  rcases h2 with ⟨_, rfl⟩ | ⟨g, cap, cur, rfl, hb, hg, _, _, _, hx⟩
  · omega
  · refine ⟨g, cap, rfl, fun j u hj => ?_⟩
    have hjl : j < n * sz := by
      have := (List.getElem?_eq_some_iff.1 hj).1
      omega
    rw [← hx, List.getElem?_take, if_pos hjl, Array.getElem?_toList] at hj
    simp [World.cell?, hg, hj]
/-- A plan: the groups, the places. -/
structure PlanAt (A : Nat → Prop) (w : World) (B : Nat) (gv v : Value) (rs : List RawP) (L : List Place) : Prop where
  plan : w.heap[B]? = some (.cells #[gv, v] 151 (0, 0))
  own : A B
  row : w.ownsRow 0 87 3 v L.length (rowP rs)
  rowA : ∀ g, v.ownBlock = some g → A g
  len : rs.length = L.length
  each : ∀ (i : Nat) (x : Place), L[i]? = some x → ∃ r, rs[i]? = some r ∧ r.1 = x.1 ∧ r.2.2 = x.2.2 ∧ w.ownsRow 0 3 1 r.2.1 x.2.1.length (numsV x.2.1) ∧ ∀ g, r.2.1.ownBlock = some g → A g
  apart : ∀ (i j : Nat) (ri rj : RawP) (g : Nat), rs[i]? = some ri → rs[j]? = some rj → ri.2.1.ownBlock = some g → rj.2.1.ownBlock = some g → i = j
def PlanIn (A : Nat → Prop) (w : World) (B : Nat) (gv : Value) (L : List Place) : Prop := ∃ v rs, PlanAt A w B gv v rs L
theorem PlanAt.kept {A A' : Nat → Prop} {w w' : World} {B : Nat} {gv v : Value} {rs : List RawP} {L : List Place} (h : PlanAt A w B gv v rs L) (hA : ∀ b, A b → A' b) (hs : ∀ b, b < w.heap.size → A b → w'.heap[b]? = w.heap[b]?) : PlanAt A' w' B gv v rs L := by
  refine ⟨(hs B (Array.getElem?_eq_some_iff.1 h.plan).1 h.own).trans h.plan, hA _ h.own, owns_same h.row fun g hg => hs g (owns_lt h.row hg).1 (h.rowA g hg), fun g hg => hA g (h.rowA g hg), h.len, fun i x hx => ?_, h.apart⟩
  obtain ⟨r, h1, h2, h3, h4, h5⟩ := h.each i x hx
  exact ⟨r, h1, h2, h3, owns_same h4 fun g hg => hs g (owns_lt h4 hg).1 (h5 g hg), fun g hg => hA g (h5 g hg)⟩
theorem PlanIn.kept {A A' : Nat → Prop} {w w' : World} {B : Nat} {gv : Value} {L : List Place} (h : PlanIn A w B gv L) (hA : ∀ b, A b → A' b) (hs : ∀ b, b < w.heap.size → A b → w'.heap[b]? = w.heap[b]?) : PlanIn A' w' B gv L := by
  obtain ⟨v, rs, h⟩ := h
  exact ⟨v, rs, h.kept hA hs⟩
/-- From w to w' only blocks of A are turned; those of A' are of A, or new. -/
structure Fr (A : Nat → Prop) (w : World) (A' : Nat → Prop) (w' : World) : Prop where
  below : Below 0 w w'
  same : ∀ b, b < w.heap.size → ¬ A b → w'.heap[b]? = w.heap[b]?
  sub : ∀ b, A' b → A b ∨ w.heap.size ≤ b
theorem Fr.refl (A : Nat → Prop) (w : World) : Fr A w A w := ⟨Below.refl _ _, fun _ _ _ => rfl, fun _ h => .inl h⟩
theorem Fr.trans {A A' A'' : Nat → Prop} {w w' w'' : World} (h : Fr A w A' w') (k : Fr A' w' A'' w'') : Fr A w A'' w'' := by
  have hs := h.below.size
  refine ⟨h.below.trans k.below, fun b hb hA => ?_, fun b hb => ?_⟩
  · rw [k.same b (by omega) (fun h' => by rcases h.sub b h' with h1 | h1; exact hA h1; omega), h.same b hb hA]
  · rcases k.sub b hb with h1 | h1
    · exact h.sub b h1
    · exact .inr (by omega)
theorem Fr.alloc {A A' : Nat → Prop} {w w' : World} (h : Fr A w A' w') (o : Obj) : Fr A w A' (w'.alloc o) :=
  ⟨h.below.alloc (Nat.zero_le _) o, fun b hb hA => (Below.heap_alloc w' o b (Nat.lt_of_lt_of_le hb h.below.size)).trans (h.same b hb hA), h.sub⟩
theorem Fr.drew {A A' : Nat → Prop} {w w' : World} (h : Fr A w A' w') : Fr A w A' w'.drew := ⟨h.below.drew, h.same, h.sub⟩
theorem Fr.toBelow {A A' : Nat → Prop} {w w' : World} (h : Fr A w A' w') {base : Nat} (hb : base ≤ w.heap.size) (hA : ∀ b, b < base → ¬ A b) : Below base w w' :=
  ⟨h.below.os, h.below.tape, h.below.output, h.below.size, fun b hlt => h.same b (by omega) (hA b hlt)⟩
/-- What is written in the call's own new blocks. -/
theorem Fr.of_below {A : Nat → Prop} {w w' : World} (h : Below w.heap.size w w') : Fr A w A w' := ⟨h.mono (Nat.zero_le _), fun b hb _ => h.block b hb, fun _ h => .inl h⟩
/-- Blocks that are new to w may be counted to A or not. -/
theorem Fr.less {A A1 A' : Nat → Prop} {w w' : World} (h : Fr A1 w A' w') (hA : ∀ b, A1 b → A b ∨ w.heap.size ≤ b) : Fr A w A' w' :=
  ⟨h.below, fun b hb hn => h.same b hb (fun h1 => by rcases hA b h1 with h2 | h2; exact hn h2; omega), fun b hb => by
    rcases h.sub b hb with h1 | h1
    · exact hA b h1
    · exact .inr h1⟩
theorem infoPlace : (Tryz.prog.info? 87).map (fun i => (i.zero, i.size, i.bytes)) = some (some (.agg #[.int .u16 0, .slice none 0 0, .int .i64 0]), 3, 40) := by kernel_rfl
theorem infoInt : (Tryz.prog.info? 3).map (fun i => (i.zero, i.size, i.bytes)) = some (some (.int .i64 0), 1, 8) := by kernel_rfl
theorem heap_setCell {w : World} {B : Nat} {c0 c1 : Value} {t : TypeId} (h : w.heap[B]? = some (.cells #[c0, c1] t (0, 0))) (u : Value) : (w.setCell ⟨B, 1, none⟩ u).heap[B]? = some (.cells #[c0, u] t (0, 0)) := by
  obtain ⟨hlt, hk⟩ := Array.getElem?_eq_some_iff.1 h
  show (w.heap.modify B _)[B]? = _
  rw [Array.getElem?_eq_getElem (by rw [Array.size_modify]; exact hlt), Array.getElem_modify_self, hk]
  rfl
/-- A place more. -/
theorem plan_push {A : Nat → Prop} {W : World} {B : Nat} {gv v : Value} {rs : List RawP} {L : List Place} (h : PlanAt A W B gv v rs L) (t l : Nat) (next : List Nat) (hv : Value) (hh : W.ownsRow 0 3 1 hv next.length (numsV next)) (hf : ∀ g, hv.ownBlock = some g → ¬ A g) (hlen : L.length ≤ 2000000000)
    (b cap : Nat) (hc : ∀ j u, (rowP [(t, hv, l)])[j]? = some u → W.cell? ((⟨b, 0, none⟩ : Addr).add j) = some u) :
    ∃ v' W1 A', (Builtin.append_ #[77, 77] 77 #[v, .slice (some ⟨b, 0, none⟩) 1 cap]).run Tryz.prog W = .ok v' W1 ∧ (∃ g' cap', v' = .slice (some ⟨g', 0, none⟩) (L.length + 1) cap') ∧ W1.heap[B]? = W.heap[B]? ∧
      (∀ k, k < W.heap.size → v.ownBlock ≠ some k → W1.heap[k]? = W.heap[k]?) ∧
      PlanAt A' (W1.setCell ⟨B, 1, none⟩ v') B gv v' (rs ++ [(t, hv, l)]) (L ++ [(t, next, l)]) ∧ Fr (fun k => A k ∨ hv.ownBlock = some k) W A' (W1.setCell ⟨B, 1, none⟩ v') := by
  obtain ⟨i0, hi, hz0, hz1, hz2⟩ := info_parts infoPlace
  obtain ⟨v', W1, hrun, r1, r2, _, r4⟩ := run_append_own_at (P := Tryz.prog) W 0 77 77 87 i0 _ 3 40 Tryz.underlying77 hi hz0 hz1 hz2 rfl (by decide) v L.length _ h.row ⟨b, 0, none⟩ 1 cap (rowP [(t, hv, l)]) (by rw [rowP_length]; rfl) hc (fun u hu => by
    simp only [rowP, List.mem_cons, List.not_mem_nil, or_false] at hu
    rcases hu with rfl | rfl | rfl
    · rfl
    · exact owns_one hh
    · rfl) (by unfold maxLen; omega) (by omega) (Nat.zero_le _)
  rw [← rowP_append] at r1
  have hBlt : B < W.heap.size := (Array.getElem?_eq_some_iff.1 h.plan).1
  have hBv : ∀ g, v.ownBlock = some g → B ≠ g := fun g hg e => by
    subst e
    obtain ⟨_, cur, hcur⟩ := owns_lt h.row hg
    rw [h.plan] at hcur
    cases hcur
  have hsame : ∀ k, k < W.heap.size → v.ownBlock ≠ some k → W1.heap[k]? = W.heap[k]? := fun k hk hne => r2.block k hk (fun e => hne e.symm)
  have hB1 : W1.heap[B]? = W.heap[B]? := hsame B hBlt (fun e => hBv B e rfl)
  have hset : ∀ k, k ≠ B → (W1.setCell ⟨B, 1, none⟩ v').heap[k]? = W1.heap[k]? := fun k hk => Below.heap_setCell W1 _ _ k hk
  have hv'B : ∀ g, v'.ownBlock = some g → g ≠ B := fun g hg e => by
    subst e
    rcases r4 with e | e
    · rw [e] at hg
      exact hBv g hg rfl
    · rw [e] at hg
      cases hg
      omega
  have hrowl : ∀ g, v.ownBlock = some g → ∃ cur, W.heap[g]? = some (.cells cur 87 (0, 0)) := fun g hg => (owns_lt h.row hg).2
  -- a row of numbers is as it was
  have hnum : ∀ (u : Value) (n : Nat) (xs : List Value), W.ownsRow 0 3 1 u n xs → (W1.setCell ⟨B, 1, none⟩ v').ownsRow 0 3 1 u n xs := fun u n xs ho => owns_same ho fun g hg => by
    obtain ⟨hlt, cur, hcur⟩ := owns_lt ho hg
    rw [hset g (fun e => by subst e; rw [h.plan] at hcur; cases hcur), hsame g hlt (fun e => by
      obtain ⟨cur', hcur'⟩ := hrowl g e
      rw [hcur] at hcur'
      cases hcur')]
  refine ⟨v', W1, fun k => (A k ∨ hv.ownBlock = some k) ∨ v'.ownBlock = some k, hrun, ?_, hB1, hsame, ⟨heap_setCell (hB1.trans h.plan) v', .inl (.inl h.own), ?_, fun g hg => .inr hg, by simp [h.len], fun i x hx => ?_, ?_⟩, ⟨?_, fun k hk hn => ?_, fun k hk => ?_⟩⟩
  · obtain ⟨g', cap', e, _⟩ := owns_cell r1 (by omega)
    exact ⟨g', cap', e⟩
  · have := owns_same (w' := W1.setCell ⟨B, 1, none⟩ v') r1 fun g hg => hset g (hv'B g hg)
    simpa using this
  · rcases Nat.lt_or_ge i L.length with hlt | hge
    · rw [get_snoc_lt hlt] at hx
      obtain ⟨r, h1, h2, h3, h4, h5⟩ := h.each i x hx
      refine ⟨r, ?_, h2, h3, hnum _ _ _ h4, fun g hg => .inl (.inl (h5 g hg))⟩
      rw [List.getElem?_append_left (by rw [h.len]; exact hlt)]
      exact h1
    · have hil : i = L.length := by
        have := (List.getElem?_eq_some_iff.1 hx).1
        simp at this
        omega
      subst hil
      rw [get_snoc_eq] at hx
      cases hx
      refine ⟨(t, hv, l), ?_, rfl, rfl, hnum _ _ _ hh, fun g hg => .inl (.inr hg)⟩
      rw [← h.len]
      simp
  · have hold : ∀ (i : Nat) (r : RawP) (g : Nat), i < rs.length → rs[i]? = some r → r.2.1.ownBlock = some g → A g := fun i r g hi hr hg => by
      obtain ⟨x, hx⟩ : ∃ x, L[i]? = some x := ⟨_, List.getElem?_eq_getElem (by rw [← h.len]; exact hi)⟩
      obtain ⟨r', h1, _, _, _, h5⟩ := h.each i x hx
      rw [hr] at h1
      cases h1
      exact h5 g hg
    have hcase : ∀ (i : Nat) (r : RawP), (rs ++ [((t, hv, l) : RawP)])[i]? = some r → (i < rs.length ∧ rs[i]? = some r) ∨ (i = rs.length ∧ r = (t, hv, l)) := fun i r hr => by
      rcases Nat.lt_or_ge i rs.length with hlt | hge
      · rw [List.getElem?_append_left hlt] at hr
        exact .inl ⟨hlt, hr⟩
      · have hil : i = rs.length := by
          have := (List.getElem?_eq_some_iff.1 hr).1
          simp at this
          omega
        subst hil
        simp at hr
        exact .inr ⟨rfl, hr.symm⟩
    intro i j ri rj g hi hj gi gj
    rcases hcase i ri hi with ⟨i1, i2⟩ | ⟨i1, rfl⟩ <;> rcases hcase j rj hj with ⟨j1, j2⟩ | ⟨j1, rfl⟩
    · exact h.apart i j ri rj g i2 j2 gi gj
    · exact absurd (hold i ri g i1 i2 gi) (hf g gj)
    · exact absurd (hold j rj g j1 j2 gj) (hf g gi)
    · rw [i1, j1]
  · exact ⟨r2.os, r2.tape, r2.output, by have := r2.size; simpa using this, fun k hk => absurd hk (by omega)⟩
  · have hkB : k ≠ B := fun e => hn (.inl (e ▸ h.own))
    rw [hset k hkB]
    exact hsame k hk (fun e => hn (.inl (h.rowA k e)))
  · rcases hk with hk | hk
    · exact .inl hk
    · rcases r4 with e | e
      · rw [e] at hk
        exact .inl (.inl (h.rowA k hk))
      · rw [e] at hk
        cases hk
        exact .inr (Nat.le_refl _)
end Go.Proofs.YtofkiaeocfpkeaaGreatDoor

/- Add: reg's add at every plan: what it returns and leaves; nothing else is turned. -/
namespace Go.Proofs.YtofkiaeocfpkeaaGreatDoor
open Go.RowKit

theorem hmx : Tryz.prog.follows .mixedOrders = true := by kernel_rfl
/-- A built-in append whose run is known, in a walk. -/
theorem wp_run_append {o : Oper} {a : Act} {w : World} {K : Act → World → Prop} {Q : Exit → Act → World → Prop} (s x : Operand) (t : TypeId) (ho : o.op = .call { callee := .builtin .append, args := #[s, x], argTypes := #[t, t] })
    (v u v' : Value) (w' : World) (hs : a.eval s = v) (hx : a.eval x = u) (hr : (Builtin.append_ #[t, t] o.type #[v, u]).run Tryz.prog w = .ok v' w') (h : K (a.put o.dst v') w') : o.wp Tryz.prog a w K Q := by
  unfold Oper.wp execOp
  simp only [ho, resolve, invoke, builtin, Sem.run_bind, Sem.run_pure, Result.andThen_ok, List.map_toArray, List.map_cons, List.map_nil, hs, hx, hr]
  exact h
theorem wpList_run_append {ops : Array Oper} {rest : List Oper} {o : Oper} {a : Act} {w : World} {Q : Exit → Act → World → Prop} (hgd : o.guard = none) (s x : Operand) (t : TypeId) (ho : o.op = .call { callee := .builtin .append, args := #[s, x], argTypes := #[t, t] })
    (v u v' : Value) (w' : World) (hs : a.eval s = v) (hx : a.eval x = u) (hr : (Builtin.append_ #[t, t] o.type #[v, u]).run Tryz.prog w = .ok v' w') (h : wpList Tryz.prog ops Q rest (a.put o.dst v') w') : wpList Tryz.prog ops Q (o :: rest) a w :=
  wpList_plain hgd fun _ hK => wp_run_append s x t ho v u v' w' hs hx hr (hK _ _ h)
theorem cells_plan {w : World} {B : Nat} {gv v : Value} (h : w.heap[B]? = some (.cells #[gv, v] 151 (0, 0))) : w.cell? ⟨B, 0, none⟩ = some gv ∧ w.cell? ⟨B, 1, none⟩ = some v ∧ w.frozen? ⟨B, 1, none⟩ = false := by
  have hc := fun j => cell_of_row w B j _ _ _ h
  refine ⟨hc 0, hc 1, ?_⟩
  simp [World.frozen?, h]
theorem three_new (w : World) (x0 x1 x2 : Value) (t : TypeId) : ∀ j u, [x0, x1, x2][j]? = some u → (w.alloc (.cells #[x0, x1, x2] t)).cell? ((⟨w.heap.size, 0, none⟩ : Addr).add j) = some u := by
  intro j u hj
  have hadd : (⟨w.heap.size, 0, none⟩ : Addr).add j = ⟨w.heap.size, j, none⟩ := by unfold Addr.add; split <;> simp_all
  rw [hadd]
  match j, hj with
  | 0, hj => simp at hj; subst hj; simp
  | 1, hj => simp at hj; subst hj; simp
  | 2, hj => simp at hj; subst hj; simp
set_option maxRecDepth 100000 in
set_option maxHeartbeats 2000000 in
theorem add_calls (A : Nat → Prop) (B : Nat) (gv : Value) (L : List Place) (w : World) (t l : Nat) (next : List Nat) (ha : Option Addr) (hn hc : Nat) (h : PlanIn A w B gv L) (hh : w.ownsRow 0 3 1 (.slice ha hn hc) next.length (numsV next)) (hf : ∀ g, (Value.slice ha hn hc).ownBlock = some g → ¬ A g) (hlen : L.length ≤ 2000000000) :
    Calls Tryz.prog 132 #[.pointer (some ⟨B, 0, none⟩), .agg #[.int .u16 (t : Int), .slice ha hn hc, .int .i64 (l : Int)]] w fun e w' => e = .returned (.int .i64 (L.length : Int)) ∧ ∃ A', PlanIn A' w' B gv (L ++ [(t, next, l)]) ∧ Fr (fun k => A k ∨ (Value.slice ha hn hc).ownBlock = some k) w A' w' := by
  obtain ⟨v, rs, h⟩ := h
  -- the worlds
  obtain ⟨w1, hw1⟩ : ∃ w1, w1 = w.alloc (.cells #[.int .u16 (t : Int), .slice ha hn hc, .int .i64 (l : Int)] 87) := ⟨_, rfl⟩
  have hb1 : Below w.heap.size w w1 := by rw [hw1]; exact (Below.refl _ w).alloc (Nat.le_refl _) _
  have hs1 : w1.heap.size = w.heap.size + 1 := by rw [hw1]; simp
  obtain ⟨W, hW⟩ : ∃ W, W = (w1.alloc (.cells #[.int .u16 (t : Int), .slice ha hn hc, .int .i64 (l : Int)] 87)).drew := ⟨_, rfl⟩
  have hb2 : Below w1.heap.size w1 W := by rw [hW]; exact ((Below.refl _ w1).alloc (Nat.le_refl _) _).drew
  have hbW : Below w.heap.size w W := hb1.trans (hb2.mono (by omega))
  have hPW : PlanAt A W B gv v rs L := h.kept (fun _ h => h) fun b hb _ => hbW.block b hb
  have hhW : W.ownsRow 0 3 1 (.slice ha hn hc) next.length (numsV next) := owns_same hh fun g hg => hbW.block g (owns_lt hh hg).1
  obtain ⟨v', W1, A', hrun, ⟨g', cap', rfl⟩, hB1, hkeep, hP', hF'⟩ := plan_push hPW t l next (.slice ha hn hc) hhW hf hlen (w.heap.size + 1) 1 (by rw [hW, ← hs1]; exact three_new w1 _ _ _ _)
  have hBlt : B < w.heap.size := (Array.getElem?_eq_some_iff.1 h.plan).1
  obtain ⟨p0, p1, pf⟩ := cells_plan h.plan
  obtain ⟨q0, q1, qf⟩ := cells_plan (hB1.trans hPW.plan)
  obtain ⟨z0, z1, zf⟩ := cells_plan hP'.plan
  have hbx : ∀ X : World, X.heap[w.heap.size]? = w1.heap[w.heap.size]? → X.cell? ⟨w.heap.size, 0, none⟩ = some (.int .u16 (t : Int)) ∧ X.cell? ⟨w.heap.size, 1, none⟩ = some (.slice ha hn hc) ∧ X.cell? ⟨w.heap.size, 2, none⟩ = some (.int .i64 (l : Int)) := fun X hX => by
    have : X.heap[w.heap.size]? = some (.cells #[.int .u16 (t : Int), .slice ha hn hc, .int .i64 (l : Int)] 87 (0, 0)) := by rw [hX, hw1]; exact World.alloc_heap_new w _
    have hc := fun j => cell_of_row X w.heap.size j _ _ _ this
    exact ⟨hc 0, hc 1, hc 2⟩
  have hvne : v.ownBlock ≠ some w.heap.size := fun e => by
    have := (owns_lt h.row e).1
    omega
  have hS1 : w1.drew.cell? ⟨w.heap.size, 0, none⟩ = some (.int .u16 (t : Int)) ∧ w1.drew.cell? ⟨w.heap.size, 1, none⟩ = some (.slice ha hn hc) ∧ w1.drew.cell? ⟨w.heap.size, 2, none⟩ = some (.int .i64 (l : Int)) := hbx w1 rfl
  have hSW : W.cell? ⟨w.heap.size, 0, none⟩ = some (.int .u16 (t : Int)) ∧ W.cell? ⟨w.heap.size, 1, none⟩ = some (.slice ha hn hc) ∧ W.cell? ⟨w.heap.size, 2, none⟩ = some (.int .i64 (l : Int)) := hbx W (hb2.block _ (by omega))
  have hSW1 := hbx W1 (by rw [hkeep _ (by have := hb2.size; omega) hvne, hb2.block _ (by omega)])
  have hSf := hbx (W1.setCell ⟨B, 1, none⟩ (.slice (some ⟨g', 0, none⟩) (L.length + 1) cap')) (by rw [Below.heap_setCell _ _ _ _ (by show w.heap.size ≠ B; omega), hkeep _ (by have := hb2.size; omega) hvne, hb2.block _ (by omega)])
  have c1 : w1.cell? ⟨B, 1, none⟩ = some v := (hb1.cell (p := ⟨B, 1, none⟩) hBlt).trans p1
  have cW : W.cell? ⟨B, 1, none⟩ = some v := (hbW.cell (p := ⟨B, 1, none⟩) hBlt).trans p1
  have HP : Hid (PlanIn A' (W1.setCell ⟨B, 1, none⟩ (.slice (some ⟨g', 0, none⟩) (L.length + 1) cap')) B gv (L ++ [(t, next, l)])) := ⟨_, _, hP'⟩
  have HF : Hid (Fr (fun k => A k ∨ (Value.slice ha hn hc).ownBlock = some k) w A' (W1.setCell ⟨B, 1, none⟩ (.slice (some ⟨g', 0, none⟩) (L.length + 1) cap'))) := (Fr.of_below hbW).trans hF'
  have HW : Hid ((w1.alloc (.cells #[.int .u16 (t : Int), .slice ha hn hc, .int .i64 (l : Int)] 87)).drew = W) := hW.symm
  clear hPW hhW hP' hF' h hh hf p0 p1 pf q0 hB1 hkeep hbx hvne hb2 hbW hW hb1 z0 zf
  go_enter Tryz.func132, Tryz.ntmps132
  go_wp2_with fail
  rw [← hw1]
  clear hw1
  refine wp_region_held_drew (S := fun X => X.cell? ⟨w.heap.size, 0, none⟩ = some (.int .u16 (t : Int)) ∧ X.cell? ⟨w.heap.size, 1, none⟩ = some (.slice ha hn hc) ∧ X.cell? ⟨w.heap.size, 2, none⟩ = some (.int .i64 (l : Int))) hmx hS1 (fun hS => ?_)
  refine takeD 0 (some 5) (v := ?_) rfl rfl (by kernel_rfl) (by kernel_rfl) (by kernel_rfl) (fun _ _ _ h => h) (Or.inl ⟨by rfl, ?_⟩) hS ?_
  rotate_left
  · intro w hSw
    obtain ⟨s1, s2, s3⟩ := hSw
    try go_simp
    with_reducible rfl
  try simp only [Act.put, List.setIfInBounds_toArray, List.set_cons_zero, List.set_cons_succ]
  refine takeD 1 (some 6) (v := ?_) rfl rfl (by kernel_rfl) (by kernel_rfl) (by kernel_rfl) (fun _ _ _ h => h) (Or.inl ⟨by rfl, ?_⟩) hS ?_
  rotate_left
  · intro w hSw
    obtain ⟨s1, s2, s3⟩ := hSw
    try go_simp
    with_reducible rfl
  try simp only [Act.put, List.setIfInBounds_toArray, List.set_cons_zero, List.set_cons_succ]
  refine takeD 2 (some 7) (v := ?_) rfl rfl (by kernel_rfl) (by kernel_rfl) (by kernel_rfl) (fun _ _ _ h => h) (Or.inl ⟨by rfl, ?_⟩) hS ?_
  rotate_left
  · intro w hSw
    obtain ⟨s1, s2, s3⟩ := hSw
    go_simp
    with_reducible rfl
  try simp only [Act.put, List.setIfInBounds_toArray, List.set_cons_zero, List.set_cons_succ]
  refine takeD 3 (some 8) (v := ?_) rfl rfl (by kernel_rfl) (by kernel_rfl) (by kernel_rfl) (fun _ _ _ h => h) (Or.inl ⟨by rfl, ?_⟩) hS ?_
  rotate_left
  · intro w hSw
    obtain ⟨s1, s2, s3⟩ := hSw
    go_simp
    with_reducible rfl
  try simp only [Act.put, List.setIfInBounds_toArray, List.set_cons_zero, List.set_cons_succ]
  refine takeD 5 (some 10) (v := ?_) rfl rfl (by kernel_rfl) (by kernel_rfl) (by kernel_rfl) (fun _ _ _ h => h) (Or.inl ⟨by rfl, ?_⟩) hS ?_
  rotate_left
  · intro w hSw
    obtain ⟨s1, s2, s3⟩ := hSw
    go_simp
    with_reducible rfl
  try simp only [Act.put, List.setIfInBounds_toArray, List.set_cons_zero, List.set_cons_succ]
  refine wpAnyH_ready (rs := [4, 6]) (by kernel_rfl) (by simp) (AllReadyH.cons rfl (fun K hK => ?_) (AllReadyH.cons rfl (fun K hK => ?_) AllReadyH.nil))
  · go_simp
    refine hK.out _ _ hS1 (fun _ => ?_)
    clear hK K
    try simp only [Act.put, List.setIfInBounds_toArray, List.set_cons_zero, List.set_cons_succ]
    refine callD 6 (by kernel_rfl) rfl (fun K hK => ?_)
    go_simp
    rw [HW.out]
    refine hK.out _ _ hSW (fun _ => ?_)
    clear hK K
    try simp only [Act.put, List.setIfInBounds_toArray, List.set_cons_zero, List.set_cons_succ]
    refine callD 7 (by kernel_rfl) rfl (fun K hK => ?_)
    rw [if_pos (by rfl)]
    refine wp_run_append _ _ 77 rfl _ _ (.slice (some ⟨g', 0, none⟩) (L.length + 1) cap') W1 rfl rfl hrun ?_
    refine hK.out _ _ hSW1 (fun _ => ?_)
    clear hK K
    try simp only [Act.put, List.setIfInBounds_toArray]
    refine takeD 8 (some 13) (v := ?_) rfl rfl (by kernel_rfl) (by kernel_rfl) (by kernel_rfl) (fun _ _ _ h => h) (Or.inl ⟨by rfl, ?_⟩) hSW1 ?_
    rotate_left
    · intro w hSw
      obtain ⟨s1, s2, s3⟩ := hSw
      go_simp
      with_reducible rfl
    try simp only [Act.put]
    refine takeD 9 (some 14) (v := ?_) rfl rfl (by kernel_rfl) (by kernel_rfl) (by kernel_rfl) (fun _ _ _ h => h) (Or.inl ⟨by rfl, ?_⟩) hSW1 ?_
    rotate_left
    · intro w hSw
      obtain ⟨s1, s2, s3⟩ := hSw
      go_simp
      with_reducible rfl
    try simp only [Act.put]
    refine callD 10 (by kernel_rfl) rfl (fun K hK => ?_)
    rw [if_pos (by rfl)]
    go_simp
    refine hK.out _ _ hSf (fun _ => ?_)
    clear hK K
    try simp only [Act.put, List.setIfInBounds_toArray, List.set_cons_zero, List.set_cons_succ]
    refine wpAnyH_done (by kernel_rfl) ?_ _
    go_wp2
    go_ret
    exact ⟨by first | rfl | (congr 2; omega), A', HP.out, HF.out⟩
  · go_simp
    rw [HW.out]
    refine hK.out _ _ hSW (fun _ => ?_)
    clear hK K
    try simp only [Act.put, List.setIfInBounds_toArray, List.set_cons_zero, List.set_cons_succ]
    refine callD 4 (by kernel_rfl) rfl (fun K hK => ?_)
    go_simp
    refine hK.out _ _ hSW (fun _ => ?_)
    clear hK K
    try simp only [Act.put, List.setIfInBounds_toArray, List.set_cons_zero, List.set_cons_succ]
    refine callD 7 (by kernel_rfl) rfl (fun K hK => ?_)
    rw [if_pos (by rfl)]
    refine wp_run_append _ _ 77 rfl _ _ (.slice (some ⟨g', 0, none⟩) (L.length + 1) cap') W1 rfl rfl hrun ?_
    refine hK.out _ _ hSW1 (fun _ => ?_)
    clear hK K
    try simp only [Act.put, List.setIfInBounds_toArray]
    refine takeD 8 (some 13) (v := ?_) rfl rfl (by kernel_rfl) (by kernel_rfl) (by kernel_rfl) (fun _ _ _ h => h) (Or.inl ⟨by rfl, ?_⟩) hSW1 ?_
    rotate_left
    · intro w hSw
      obtain ⟨s1, s2, s3⟩ := hSw
      go_simp
      with_reducible rfl
    try simp only [Act.put]
    refine takeD 9 (some 14) (v := ?_) rfl rfl (by kernel_rfl) (by kernel_rfl) (by kernel_rfl) (fun _ _ _ h => h) (Or.inl ⟨by rfl, ?_⟩) hSW1 ?_
    rotate_left
    · intro w hSw
      obtain ⟨s1, s2, s3⟩ := hSw
      go_simp
      with_reducible rfl
    try simp only [Act.put]
    refine callD 10 (by kernel_rfl) rfl (fun K hK => ?_)
    rw [if_pos (by rfl)]
    go_simp
    refine hK.out _ _ hSf (fun _ => ?_)
    clear hK K
    try simp only [Act.put, List.setIfInBounds_toArray, List.set_cons_zero, List.set_cons_succ]
    refine wpAnyH_done (by kernel_rfl) ?_ _
    go_wp2
    go_ret
    exact ⟨by first | rfl | (congr 2; omega), A', HP.out, HF.out⟩
end Go.Proofs.YtofkiaeocfpkeaaGreatDoor

/- Args: how slices of integers, groups and trees that came in are read. -/
namespace Go.Proofs.YtofkiaeocfpkeaaGreatDoor
open Go.ChangeShapes Go.WideShapes Go.ChangeAt Go.RowKit

theorem add_none (b o i : Nat) : (⟨b, o, none⟩ : Addr).add i = ⟨b, o + i, none⟩ := by unfold Addr.add; split <;> simp_all
theorem open_intsF {H : Type} {enc : TypeId × Value → H} {W : World} {sp : Nat → Bool} {hd : Bool} {fuel : Nat} {cs : List Value} {x : DataW H × List MemPlace} (h : DataW.trod enc Tryz.prog W 0 sp hd fuel 23 cs = some x) : ∃ a len cap zs, cs = [.slice a len cap] ∧ Ints W a len zs := by
  rcases open_ints Tryz.underlying23 Tryz.underlying3 (by kernel_rfl) h with ⟨hcs, hx⟩ | ⟨y, l, c, zs, hcs, _, hl, hm, hz, hx, hcell, hwz⟩
  · exact ⟨none, 0, 0, [], hcs, rfl, by omega, .inl rfl⟩
  · have hlz : l ≤ zs.length := by rw [hz]; split <;> omega
    refine ⟨some y, l, c, zs.take l, hcs, by rw [List.length_take]; omega, by unfold maxLen at hm; omega, ?_⟩
    rcases Nat.eq_zero_or_pos l with h0 | h0
    · exact .inl h0
    · obtain ⟨b, o, sp⟩ := y
      have hc0 := hcell 0 (by omega)
      have hspot : sp = none := by simpa [Addr.add] using World.cell?_spot hc0
      subst hspot
      refine .inr ⟨b, o, rfl, ?_, fun i z hz => ?_⟩
      · rw [add_none] at hc0
        rcases Nat.lt_or_ge b W.heap.size with hlt | hge
        · exact hlt
        · simp [World.cell?, Array.getElem?_eq_none hge] at hc0
      · have hi : i < l := by
          have := (List.getElem?_eq_some_iff.1 hz).1
          rw [List.length_take] at this
          omega
        have := hcell i (by omega)
        rw [add_none] at this
        rw [this]
        rw [List.getElem?_take, if_pos hi] at hz
        simp [List.getD_eq_getElem?_getD, hz]
theorem open_row {H : Type} {enc : TypeId × Value → H} {W : World} {a : Option Addr} {len cap : Nat} {d : DataW H} {p : List MemPlace} (h : DataW.Trod enc Tryz.prog W 0 (fun _ => true) true 23 (.slice a len cap) d p) : ∃ zs : List Int, Ints W a len zs := by
  obtain ⟨fuel, hf⟩ := h
  obtain ⟨a', len', cap', zs, hcs, hI⟩ := open_intsF hf
  simp [Value.cells] at hcs
  obtain ⟨rfl, rfl, rfl⟩ := hcs
  exact ⟨zs, hI⟩
set_option maxRecDepth 100000 in
theorem open_groups {H : Type} {enc : TypeId × Value → H} {W : World} {a : Option Addr} {len cap : Nat} {d : DataW H} {p : List MemPlace} (h : DataW.Trod enc Tryz.prog W 0 (fun _ => true) true 22 (.slice a len cap) d p) : ∃ gs : List Grp, Groups W a len gs := by
  have c9 : Tryz.prog.cellsOf 9 = 1 := by kernel_rfl
  have c26 : Tryz.prog.cellsOf 23 = 1 := by kernel_rfl
  have c37 : Tryz.prog.cellsOf 73 = 2 := by kernel_rfl
  obtain ⟨fuel, hf⟩ := h
  rcases DataW.trod_slice Tryz.underlying22 hf with ⟨e2, d2⟩ | ⟨y, l, c, elems, rest, n', hn, e2, d2, _, hlc, hcm, hel, hes, _, _⟩
  · simp [Value.cells] at e2
    obtain ⟨rfl, rfl, rfl⟩ := e2
    exact ⟨[], rfl, by omega, .inl rfl⟩
  · simp [Value.cells] at e2
    obtain ⟨rfl, rfl, rfl⟩ := e2
    have each : ∀ i, i < len → ∃ (g : Grp) (a' : Option Addr) (len' cap' : Nat), W.cell? (y.add (i * 2)) = some (.string g.1) ∧ W.cell? ((y.add (i * 2)).add 1) = some (.slice a' len' cap') ∧ Ints W a' len' g.2 := by
      intro i hi
      have hq := hes i hi
      rw [List.getElem?_eq_getElem (by omega), c37] at hq
      obtain ⟨cs', q1, q2⟩ := Option.bind_eq_some_iff.1 hq
      obtain ⟨_, _, hcell⟩ := World.cells?_some q1
      obtain ⟨xs, m, _, hxy, hlen, hxl, hfi⟩ := DataW.trod_struct Tryz.underlying73 q2
      rw [c37] at hlen
      match xs, hxl, cs', hlen with
      | [y0, y1], _, [v0, v1], _ =>
        have g0 := hfi 0 _ rfl
        have g1 := hfi 1 _ rfl
        simp [c9, c26] at g0 g1
        obtain ⟨s, e0, _, _⟩ := DataW.trod_string Tryz.underlying9 g0
        obtain ⟨a', len', cap', zs, e1, hI⟩ := open_intsF g1
        simp at e0 e1
        subst e0 e1
        have m0 := hcell 0 (by omega)
        rw [show (y.add (i * 2)).add 0 = y.add (i * 2) from by obtain ⟨b, o, sp⟩ := y; cases sp <;> simp [Addr.add]] at m0
        exact ⟨(s, zs), a', len', cap', m0, hcell 1 (by omega), hI⟩
    haveI : Inhabited Grp := ⟨(⟨#[]⟩, [])⟩
    obtain ⟨Y, hY⟩ := Deep.choose_lt each
    refine ⟨(List.range len).map Y, by simp, by unfold maxLen at hcm; omega, ?_⟩
    rcases Nat.eq_zero_or_pos len with h0 | h0
    · exact .inl h0
    · obtain ⟨b, o, sp⟩ := y
      obtain rfl : sp = none := by
        obtain ⟨_, _, _, q, _⟩ := hY 0 h0
        have := World.cell?_spot q
        simpa [Addr.add] using this
      refine .inr ⟨b, o, rfl, ?_, fun i g hg => ?_⟩
      · obtain ⟨_, _, _, q, _⟩ := hY 0 h0
        rw [add_none] at q
        rcases Nat.lt_or_ge b W.heap.size with hlt | hge
        · exact hlt
        · simp [World.cell?, Array.getElem?_eq_none hge] at q
      · have hi : i < len := by
          have := (List.getElem?_eq_some_iff.1 hg).1
          simpa using this
        obtain rfl : Y i = g := by simpa [List.getElem?_map, List.getElem?_range hi] using hg
        obtain ⟨a', len', cap', q0, q1, q2⟩ := hY i hi
        simp only [add_none] at q0 q1
        exact ⟨a', len', cap', q0, q1, q2⟩
theorem Ex.more {w : World} : ∀ (n m : Nat) (t : DataW Unit) (v : Value), n ≤ m → Ex w n t v → Ex w m t v := by
  intro n
  induction n with
  | zero => intro m t v _ h; exact h.elim
  | succ n ih =>
    intro m t v hm h
    obtain ⟨m, rfl⟩ : ∃ m', m = m' + 1 := ⟨m - 1, by omega⟩
    obtain ⟨k, s, a, len, cap, ts, h1, h2, h3, h4, h5⟩ := h
    refine ⟨k, s, a, len, cap, ts, h1, h2, h3, h4, ?_⟩
    rcases h5 with h5 | ⟨b, o, e, hlt, hc⟩
    · exact .inl h5
    · refine .inr ⟨b, o, e, hlt, fun i x hx => ?_⟩
      obtain ⟨k', s', a', len', cap', c0, c1, c2, c3⟩ := hc i x hx
      exact ⟨k', s', a', len', cap', c0, c1, c2, ih m x _ (by omega) c3⟩
/-- Trees whose names are not too long, whatever the fuel. -/
theorem named_more {w : World} : ∀ (n m : Nat) (t : DataW Unit) (v : Value), n ≤ m → Ex w n t v → named n t → named m t := by
  intro n
  induction n with
  | zero => intro m t v _ h; exact h.elim
  | succ n ih =>
    intro m t v hm h hN
    obtain ⟨m, rfl⟩ : ∃ m', m = m' + 1 := ⟨m - 1, by omega⟩
    obtain ⟨k, s, a, len, cap, ts, rfl, h2, h3, h4, h5⟩ := h
    refine ⟨hN.1, fun x hx => ?_⟩
    rw [subs_node] at hx
    obtain ⟨i, hi, rfl⟩ := List.getElem_of_mem hx
    have hxi : ts[i]? = some ts[i] := List.getElem?_eq_getElem hi
    rcases h5 with h5 | ⟨b, o, e, hlt, hc⟩
    · omega
    · obtain ⟨k', s', a', len', cap', c0, c1, c2, c3⟩ := hc i _ hxi
      exact ih m _ _ (by omega) c3 (hN.2 _ (by rw [subs_node]; exact hx))
set_option maxRecDepth 100000 in
/-- A tree that came in. -/
theorem open_exprF {H : Type} {enc : TypeId × Value → H} {W : World} {sp : Nat → Bool} {hd : Bool} : ∀ (fuel : Nat) (cs : List Value) (x : DataW H × List MemPlace), DataW.trod enc Tryz.prog W 0 sp hd fuel 26 cs = some x →
      ∃ (t : DataW Unit) (k : Int) (s : ByteArray) (a : Option Addr) (len cap : Nat), cs = [.int .i64 k, .string s, .slice a len cap] ∧ Ex W fuel t (.agg #[.int .i64 k, .string s, .slice a len cap]) ∧ named fuel t := by
  have c3 : Tryz.prog.cellsOf 3 = 1 := by kernel_rfl
  have c9 : Tryz.prog.cellsOf 9 = 1 := by kernel_rfl
  have c22 : Tryz.prog.cellsOf 24 = 1 := by kernel_rfl
  have c24 : Tryz.prog.cellsOf 26 = 3 := by kernel_rfl
  intro fuel
  induction fuel using Nat.strongRecOn with
  | _ fuel ih =>
    intro cs x h
    obtain ⟨xs, n, rfl, hxy, hlen, hxl, hf⟩ := DataW.trod_struct Tryz.underlying26 h
    rw [c24] at hlen
    match xs, hxl, cs, hlen with
    | [y0, y1, y2], _, [v0, v1, v2], _ =>
      have g0 := hf 0 _ rfl
      have g1 := hf 1 _ rfl
      have g2 := hf 2 _ rfl
      simp [c3, c9, c22] at g0 g1 g2
      obtain ⟨k, e0, d0, _⟩ := DataW.trod_int Tryz.underlying3 g0
      obtain ⟨s, e1, d1, hsz⟩ := DataW.trod_string Tryz.underlying9 g1
      simp at e0 e1
      subst e0 e1 d0 d1
      rcases DataW.trod_slice Tryz.underlying24 g2 with ⟨e2, d2⟩ | ⟨a, len, cap, elems, rest, n', hn, e2, d2, _, hlc, hcm, hel, hes, _, _⟩
      · simp at e2
        subst e2 d2
        refine ⟨node k s [], k, s, none, 0, 0, rfl, ⟨k, s, none, 0, 0, [], rfl, rfl, rfl, by omega, .inl rfl⟩, ?_, fun x hx => by cases hx⟩
        rw [nameT_node]
        unfold maxLen at hsz
        omega
      · simp at e2
        subst e2 d2
        have each : ∀ i, i < len → ∃ (t : DataW Unit) (k' : Int) (s' : ByteArray) (a' : Option Addr) (len' cap' : Nat), W.cell? (a.add (i * 3)) = some (.int .i64 k') ∧ W.cell? ((a.add (i * 3)).add 1) = some (.string s') ∧ W.cell? ((a.add (i * 3)).add 2) = some (.slice a' len' cap') ∧ Ex W n t (.agg #[.int .i64 k', .string s', .slice a' len' cap']) ∧ named n t := by
          intro i hi
          have hq := hes i hi
          rw [List.getElem?_eq_getElem (by omega), c24] at hq
          obtain ⟨cs', q1, q2⟩ := Option.bind_eq_some_iff.1 hq
          obtain ⟨_, _, hcell⟩ := World.cells?_some q1
          obtain ⟨t, k', s', a', len', cap', rfl, hE, hN⟩ := ih n' (by omega) cs' _ q2
          have m0 := hcell 0 (by omega)
          rw [show (a.add (i * 3)).add 0 = a.add (i * 3) from by obtain ⟨b, o, sp⟩ := a; cases sp <;> simp [Addr.add]] at m0
          exact ⟨t, k', s', a', len', cap', m0, hcell 1 (by omega), hcell 2 (by omega), Ex.more _ _ _ _ (by omega) hE, named_more _ _ _ _ (by omega) hE hN⟩
        haveI : Inhabited (DataW Unit) := ⟨.nil⟩
        obtain ⟨Y, hY⟩ := Deep.choose_lt each
        refine ⟨node k s ((List.range len).map Y), k, s, some a, len, cap, rfl, ⟨k, s, some a, len, cap, (List.range len).map Y, rfl, rfl, by simp, by unfold maxLen at hcm; omega, ?_⟩, ?_, fun x hx => ?_⟩
        · rcases Nat.eq_zero_or_pos len with h0 | h0
          · exact .inl h0
          · obtain ⟨b, o, sp⟩ := a
            obtain rfl : sp = none := by
              obtain ⟨_, _, _, _, _, q, _⟩ := hY 0 h0
              have := World.cell?_spot q
              simpa [Addr.add] using this
            refine .inr ⟨b, o, rfl, ?_, fun i y hy => ?_⟩
            · obtain ⟨_, _, _, _, _, q, _⟩ := hY 0 h0
              rw [add_none] at q
              rcases Nat.lt_or_ge b W.heap.size with hlt | hge
              · exact hlt
              · simp [World.cell?, Array.getElem?_eq_none hge] at q
            · have hi : i < len := by
                have := (List.getElem?_eq_some_iff.1 hy).1
                simpa using this
              obtain rfl : Y i = y := by simpa [List.getElem?_map, List.getElem?_range hi] using hy
              obtain ⟨k', s', a', len', cap', q0, q1, q2, q3, _⟩ := hY i hi
              simp only [add_none] at q0 q1 q2
              exact ⟨k', s', a', len', cap', q0, q1, q2, q3⟩
        · rw [nameT_node]
          unfold maxLen at hsz
          omega
        · rw [subs_node] at hx
          obtain ⟨i, hi, rfl⟩ := List.mem_map.1 hx
          obtain ⟨_, _, _, _, _, _, _, _, _, hN⟩ := hY i (List.mem_range.1 hi)
          exact hN
set_option maxRecDepth 100000 in
theorem open_tree {H : Type} {enc : TypeId × Value → H} {W : World} {base : Nat} {v : Value} {d : DataW H} {p : List MemPlace} (hv : Value.okWide Tryz.prog W .any base 26 v) (h : DataW.Trod enc Tryz.prog W 0 (fun _ => true) true 26 v d p) :
    ∃ n t k nm a ln cp, v = .agg #[.int .i64 k, .string nm, .slice a ln cp] ∧ Ex W n t (.agg #[.int .i64 k, .string nm, .slice a ln cp]) ∧ named n t := by
  obtain ⟨cs, rfl, _⟩ := okWide_struct Tryz.underlying26 hv
  obtain ⟨fuel, hf⟩ := h
  obtain ⟨t, k, nm, a, ln, cp, hcs, hX, hN⟩ := open_exprF fuel _ (d, p) hf
  refine ⟨fuel, t, k, nm, a, ln, cp, ?_, hX, hN⟩
  rw [show cs = cs.toList.toArray from by simp, show cs.toList = _ from hcs]
theorem own : ownKnob Tryz.prog.godebug = none := by kernel_rfl
theorem laidOut : laidOutB Tryz.prog = true := by kernel_rfl
end Go.Proofs.YtofkiaeocfpkeaaGreatDoor

/- Fork: reg's fork at every plan: what it returns and leaves; nothing else is turned. -/
namespace Go.Proofs.YtofkiaeocfpkeaaGreatDoor
open Go.RowKit

theorem PlanAt.cells {A : Nat → Prop} {w : World} {B : Nat} {gv v : Value} {rs : List RawP} {L : List Place} (h : PlanAt A w B gv v rs L) (h0 : 0 < L.length) : ∃ g cap, v = .slice (some ⟨g, 0, none⟩) L.length cap ∧ ∀ (i : Nat) (x : Place), L[i]? = some x →
    w.cell? ⟨g, i * 3, none⟩ = some (.int .u16 (x.1 : Int)) ∧ w.cell? ⟨g, i * 3 + 2, none⟩ = some (.int .i64 (x.2.2 : Int)) ∧ ∃ hv, w.cell? ⟨g, i * 3 + 1, none⟩ = some hv ∧ w.ownsRow 0 3 1 hv x.2.1.length (numsV x.2.1) := by
  obtain ⟨g, cap, e, hc⟩ := owns_cell h.row h0
  refine ⟨g, cap, e, fun i x hx => ?_⟩
  obtain ⟨r, h1, h2, h3, h4, _⟩ := h.each i x hx
  obtain ⟨f0, f1, f2⟩ := rowP_at rs i r h1
  rw [h2] at f0
  rw [h3] at f2
  exact ⟨hc _ _ f0, hc _ _ f2, r.2.1, hc _ _ f1, h4⟩
theorem Fr.drewN0 (A : Nat → Prop) (w : World) (q : Nat) : Fr A w A (w.drewN q) := ⟨⟨rfl, rfl, rfl, Nat.le_refl _, fun _ _ => rfl⟩, fun _ _ _ => rfl, fun _ h => .inl h⟩
theorem leastAt_get {L : List Place} {p : Nat} (h : p < L.length) : ∃ x, L[p]? = some x ∧ x.2.2 = leastAt L p := ⟨L[p], List.getElem?_eq_getElem h, by rw [leastAt_some (List.getElem?_eq_getElem h)]⟩
theorem fold_take (f : Nat → Nat → Nat) (m : Nat) {l : List Nat} {j q : Nat} (h : l[j]? = some q) : (l.take (j + 1)).foldl f m = f ((l.take j).foldl f m) q := by
  rw [List.take_add_one, h, List.foldl_append]
  rfl
set_option maxRecDepth 100000 in
set_option maxHeartbeats 400000 in
theorem fork_calls (A : Nat → Prop) (B : Nat) (gv : Value) (L : List Place) (w : World) (ways : List Nat) (wa : Option Addr) (wn wc : Nat) (h : PlanIn A w B gv L) (hh : w.ownsRow 0 3 1 (.slice wa wn wc) ways.length (numsV ways)) (hf : ∀ g, (Value.slice wa wn wc).ownBlock = some g → ¬ A g) (hlen : L.length ≤ 2000000000)
    (hw0 : ways ≠ []) (hw : ∀ q ∈ ways, q < L.length) (hwl : ways.length ≤ 2000000000) (hll : ∀ p, leastAt L p ≤ 2000000000) :
    Calls Tryz.prog 135 #[.pointer (some ⟨B, 0, none⟩), .slice wa wn wc] w fun e w' => e = .returned (.int .i64 ((forkL L ways).2 : Int)) ∧ ∃ A', PlanIn A' w' B gv (forkL L ways).1 ∧ Fr (fun k => A k ∨ (Value.slice wa wn wc).ownBlock = some k) w A' w' := by
  have HA : Hid (∀ (q l : Nat), Calls Tryz.prog 132 #[.pointer (some ⟨B, 0, none⟩), .agg #[.int .u16 0, .slice wa wn wc, .int .i64 (l : Int)]] (w.drewN q) fun e w' => e = .returned (.int .i64 (L.length : Int)) ∧ ∃ A', PlanIn A' w' B gv (L ++ [(0, ways, l)]) ∧ Fr (fun k => A k ∨ (Value.slice wa wn wc).ownBlock = some k) (w.drewN q) A' w') :=
    fun q l => add_calls A B gv L (w.drewN q) 0 l ways wa wn wc (h.kept (fun _ h => h) fun _ _ _ => rfl) (owns_same hh fun _ _ => rfl) hf hlen
  obtain ⟨v, rs, hP⟩ := h
  obtain ⟨p0, p1, pf⟩ := cells_plan hP.plan
  have hw1 : 0 < ways.length := List.length_pos_iff.2 hw0
  obtain ⟨q0, hq0⟩ : ∃ q, ways[0]? = some q := ⟨_, List.getElem?_eq_getElem hw1⟩
  have hL0 : 0 < L.length := by have := hw q0 (List.mem_of_getElem? hq0); omega
  obtain ⟨g, cap, rfl, hc⟩ := hP.cells hL0
  obtain ⟨wg, wcap, e, hwc⟩ := owns_cell hh hw1
  cases e
  have hhead : ways.headD 0 = q0 := by cases ways with | nil => cases hq0 | cons a r => simp at hq0; exact hq0
  have HG : Hid (∀ q, q < L.length → w.cell? ⟨g, q * 3 + 2, none⟩ = some (.int .i64 (leastAt L q : Int))) := fun q hq => by
    obtain ⟨x, hx, e⟩ := leastAt_get hq
    rw [← e]
    exact (hc q x hx).2.1
  have hq0L := hw q0 (List.mem_of_getElem? hq0)
  have c2 := HG.out q0 hq0L
  have c3 : w.cell? ⟨wg, 0, none⟩ = some (.int .i64 (q0 : Int)) := hwc 0 _ (numsV_at hq0)
  have HWC : Hid (∀ (j q : Nat), ways[j]? = some q → w.cell? ⟨wg, j, none⟩ = some (.int .i64 (q : Int)) ∧ q < L.length) := fun j q hq => ⟨hwc j _ (numsV_at hq), hw q (List.mem_of_getElem? hq)⟩
  have HFL : Hid (forkL L ways = (L ++ [(0, ways, ways.foldl (fun m q => min m (leastAt L q)) (leastAt L q0))], L.length)) := by
    show _ = _
    unfold forkL forkLeast
    rw [hhead]
  have hb0 := hll q0
  have HLL : Hid (∀ p, leastAt L p ≤ 2000000000) := hll
  have HFo : Hid (∀ j, (ways.take j).foldl (fun m q => min m (leastAt L q)) (leastAt L q0) ≤ leastAt L q0) := fun j => (foldl_min_le L (ways.take j) (leastAt L q0)).1
  obtain ⟨m0, hm0⟩ : ∃ m0, leastAt L q0 = m0 := ⟨_, rfl⟩
  rw [hm0] at c2 HFL HFo hb0
  obtain ⟨Z, hZ⟩ : ∃ Z, ways.foldl (fun m q => min m (leastAt L q)) m0 = Z := ⟨_, rfl⟩
  rw [HFL.out, hZ]
  have HZ : Hid (ways.foldl (fun m q => min m (leastAt L q)) m0 = Z) := hZ
  clear hZ HFL
  have HNt : Hid (ways.take ways.length = ways) := by show _ = _; rw [List.take_of_length_le (Nat.le_refl _)]
  have HNl : Hid (∀ j, j < ways.length → ∃ q, ways[j]? = some q) := fun j hj => ⟨_, List.getElem?_eq_getElem hj⟩
  generalize ways.length = N at *
  have hq0i : (q0 : Int) < (L.length : Int) := by omega
  have hN0 : (0 : Int) < (N : Int) := by omega
  have hq0n : (0 : Int) ≤ (q0 : Int) := by omega
  clear hP hc hwc hw hh hhead hq0 hf hm0 hll
  go_enter Tryz.func135, Tryz.ntmps135
  go_wp2_with fail
  go_quiet (fail)
  go_wp2_with fail
  go_loop [5, 20] (fun m i => ∃ j : Nat, j ≤ N ∧ i = .int .i64 (j : Int) ∧ m = .int .i64 (((ways.take j).foldl (fun m q => min m (leastAt L q)) m0 : Nat) : Int)) (fun _ i => N - (intOf i).toNat)
  case atStart => exact ⟨0, by omega, rfl, rfl⟩
  case round =>
    obtain ⟨j, hj, rfl, rfl⟩ := hrel
    have hfo := HFo.out j
    by_cases hlt : j < N
    · obtain ⟨q, hq⟩ := HNl.out j hlt
      obtain ⟨d1, hqL⟩ := HWC.out j q hq
      have d2 := HG.out q hqL
      have hst := fold_take (fun m q => min m (leastAt L q)) m0 hq
      have hbq := HLL.out q
      have HS : Hid ((ways.take (j + 1)).foldl (fun m q => min m (leastAt L q)) m0 = min ((ways.take j).foldl (fun m q => min m (leastAt L q)) m0) (leastAt L q)) := hst
      have hqi : (q : Int) < (L.length : Int) := by omega
      have hji : (j : Int) < (N : Int) := by omega
      clear hst hq
      generalize (ways.take j).foldl (fun m q => min m (leastAt L q)) m0 = z at *
      generalize leastAt L q = y at *
      go_wp2
      all_goals
        go_round
        case rel => exact ⟨j + 1, by omega, rfl, by rw [HS.out]; congr 1; first | omega | (split <;> omega)⟩
        case measure => simp [intOf]; omega
    · obtain rfl : j = N := by omega
      rw [HNt.out, HZ.out]
      go_wp2_with fail
      refine (HA.out _ Z).mono ?_
      rintro e W ⟨rfl, A', hP', hF'⟩
      go_wp2
      go_ret
      exact ⟨rfl, A', hP', (Fr.drewN0 _ _ _).trans hF'⟩
end Go.Proofs.YtofkiaeocfpkeaaGreatDoor

/- Next: places in memory: what one way more from a place makes of a plan; a row of numbers that is new. -/
namespace Go.Proofs.YtofkiaeocfpkeaaGreatDoor
open Go.RowKit

theorem PlanIn.tight {A : Nat → Prop} {w : World} {B : Nat} {gv : Value} {L : List Place} (h : PlanIn A w B gv L) : PlanIn (fun b => A b ∧ b < w.heap.size) w B gv L := by
  obtain ⟨v, rs, h⟩ := h
  refine ⟨v, rs, h.plan, ⟨h.own, (Array.getElem?_eq_some_iff.1 h.plan).1⟩, h.row, fun g hg => ⟨h.rowA g hg, (owns_lt h.row hg).1⟩, h.len, fun i x hx => ?_, h.apart⟩
  obtain ⟨r, h1, h2, h3, h4, h5⟩ := h.each i x hx
  exact ⟨r, h1, h2, h3, h4, fun g hg => ⟨h5 g hg, (owns_lt h4 hg).1⟩⟩
theorem wf.least_le {L : List Place} (h : wf L) : ∀ p, leastAt L p ≤ p := by
  intro p
  induction p using Nat.strongRecOn with
  | _ p ih =>
    cases hx : L[p]? with
    | none => unfold leastAt; rw [hx]; exact Nat.zero_le _
    | some x =>
      rw [leastAt_some hx]
      rcases Nat.eq_zero_or_pos p with rfl | hp
      · rw [h.1] at hx
        cases hx
        exact Nat.le_refl _
      · rcases h.2 p x hp hx with ⟨_, q, _, hq, e⟩ | ⟨_, _, q, _, hq, e⟩
        · have := ih q hq
          omega
        · have := ih q hq
          omega
theorem wf.least_lt {L : List Place} (h : wf L) (p : Nat) : leastAt L p ≤ L.length := by
  rcases Nat.lt_or_ge p L.length with hp | hp
  · have := h.least_le p
    omega
  · unfold leastAt
    rw [List.getElem?_eq_none hp]
    exact Nat.zero_le _
/-- A row of numbers that was just made. -/
theorem owns_new1 (w : World) (q : Nat) : (w.alloc (.cells #[.int .i64 (q : Int)] 3)).ownsRow 0 3 1 (.slice (some ⟨w.heap.size, 0, none⟩) 1 1) 1 (numsV [q]) :=
  ⟨rfl, .inr ⟨w.heap.size, 1, #[.int .i64 (q : Int)], rfl, Nat.zero_le _, World.alloc_heap_new w _, Nat.le_refl _, by unfold maxLen; omega, rfl, rfl⟩⟩
theorem owns_new2 (w : World) (p q : Nat) : (w.alloc (.cells #[.int .i64 (p : Int), .int .i64 (q : Int)] 3)).ownsRow 0 3 1 (.slice (some ⟨w.heap.size, 0, none⟩) 2 2) 2 (numsV [p, q]) :=
  ⟨rfl, .inr ⟨w.heap.size, 2, #[.int .i64 (p : Int), .int .i64 (q : Int)], rfl, Nat.zero_le _, World.alloc_heap_new w _, Nat.le_refl _, by unfold maxLen; omega, rfl, rfl⟩⟩
theorem rowP_set : ∀ (rs : List RawP) (i : Nat) (r : RawP) (hv : Value), rs[i]? = some r → rowP (rs.set i (r.1, hv, r.2.2)) = (rowP rs).set (i * 3 + 1) hv := by
  intro rs
  induction rs with
  | nil => intro i r hv h; simp at h
  | cons y rs ih =>
    intro i r hv h
    cases i with
    | zero =>
      obtain rfl : y = r := by simpa using h
      rfl
    | succ i =>
      have := ih i r hv (by simpa using h)
      rw [show (i + 1) * 3 + 1 = i * 3 + 1 + 3 from by omega]
      simp only [List.set_cons_succ, rowP, this]
theorem owns_set {w : World} {e : TypeId} {sz g n cap : Nat} {xs : List Value} (h : w.ownsRow 0 e sz (.slice (some ⟨g, 0, none⟩) n cap) n xs) (k : Nat) (u : Value) (_hk : k < n * sz) : (w.setCell ⟨g, k, none⟩ u).ownsRow 0 e sz (.slice (some ⟨g, 0, none⟩) n cap) n (xs.set k u) := by
  obtain ⟨h1, h2⟩ := h
  refine ⟨by rw [List.length_set]; exact h1, ?_⟩
  rcases h2 with ⟨e1, _⟩ | ⟨g', cap', cur, e1, hb, hg, h3, h4, h5, h6⟩
  · cases e1
  · cases e1
    refine .inr ⟨g, cap, cur.setIfInBounds k u, rfl, hb, heap_setCell_same w g k cur e u hg, h3, h4, by simpa using h5, ?_⟩
    rw [Array.toList_setIfInBounds, List.take_set, h6]
/-- One way more from a place, in memory. -/
theorem plan_next {A : Nat → Prop} {W : World} {B : Nat} {gv : Value} {g cap : Nat} {rs : List RawP} {L : List Place} (h : PlanAt A W B gv (.slice (some ⟨g, 0, none⟩) L.length cap) rs L) (i q : Nat) (x : Place) (hi : L[i]? = some x) (hlen : x.2.1.length ≤ 1048576)
    (b bc : Nat) (hc : ∀ j u, [Value.int .i64 (q : Int)][j]? = some u → W.cell? ((⟨b, 0, none⟩ : Addr).add j) = some u) :
    ∃ hv v' W1 A', W.cell? ⟨g, i * 3 + 1, none⟩ = some hv ∧ (Builtin.append_ #[23, 23] 23 #[hv, .slice (some ⟨b, 0, none⟩) 1 bc]).run Tryz.prog W = .ok v' W1 ∧ (∃ a n c, v' = .slice a n c) ∧ W1.heap[B]? = W.heap[B]? ∧ W1.heap[g]? = W.heap[g]? ∧
      PlanIn A' (W1.setCell ⟨g, i * 3 + 1, none⟩ v') B gv (addNext L i q) ∧ Fr A W A' (W1.setCell ⟨g, i * 3 + 1, none⟩ v') := by
  obtain ⟨i0, hI, hz0, hz1, hz2⟩ := info_parts infoInt
  obtain ⟨r, h1, h2, h3, h4, h5⟩ := h.each i x hi
  obtain ⟨v', W1, hrun, r1, r2, _, r4⟩ := run_append_own_at (P := Tryz.prog) W 0 23 23 3 i0 _ 1 8 Tryz.underlying23 hI hz0 hz1 hz2 rfl (by decide) r.2.1 x.2.1.length _ h4 ⟨b, 0, none⟩ 1 bc [.int .i64 (q : Int)] rfl hc (fun u hu => by
    simp at hu
    subst hu
    rfl) (by unfold maxLen; omega) (by omega) (Nat.zero_le _)
  have hiL : i < L.length := (List.getElem?_eq_some_iff.1 hi).1
  have hg : ∃ cur, W.heap[g]? = some (.cells cur 87 (0, 0)) := (owns_lt h.row (g := g) rfl).2
  obtain ⟨cur, hcur⟩ := hg
  have hglt : g < W.heap.size := (Array.getElem?_eq_some_iff.1 hcur).1
  have hBlt : B < W.heap.size := (Array.getElem?_eq_some_iff.1 h.plan).1
  have hgB : g ≠ B := fun e => by subst e; rw [h.plan] at hcur; cases hcur
  have hrnum : ∀ k, r.2.1.ownBlock = some k → k ≠ g ∧ k ≠ B := fun k hk => by
    obtain ⟨_, c, hc⟩ := owns_lt h4 hk
    exact ⟨fun e => (by subst e; rw [hcur] at hc; cases hc), fun e => (by subst e; rw [h.plan] at hc; cases hc)⟩
  have hsame : ∀ k, k < W.heap.size → r.2.1.ownBlock ≠ some k → W1.heap[k]? = W.heap[k]? := fun k hk hne => r2.block k hk (fun e => hne e.symm)
  have hB1 : W1.heap[B]? = W.heap[B]? := hsame B hBlt (fun e => (hrnum B e).2 rfl)
  have hg1 : W1.heap[g]? = W.heap[g]? := hsame g hglt (fun e => (hrnum g e).1 rfl)
  have hset : ∀ k, k ≠ g → (W1.setCell ⟨g, i * 3 + 1, none⟩ v').heap[k]? = W1.heap[k]? := fun k hk => Below.heap_setCell W1 _ _ k hk
  have hv'g : ∀ k, v'.ownBlock = some k → k ≠ g := fun k hk e => by
    rcases r4 with e1 | e1
    · rw [e1] at hk
      exact (hrnum k hk).1 e
    · rw [e1] at hk
      cases hk
      omega
  have hvs : ∃ a n c, v' = .slice a n c := by
    rcases r1.2 with ⟨e, _⟩ | ⟨g', c', _, e, _⟩
    · exact ⟨_, _, _, e⟩
    · exact ⟨_, _, _, e⟩
  obtain ⟨f0, f1, f2⟩ := rowP_at rs i r h1
  obtain ⟨g2, cap2, e2, hcells⟩ := owns_cell h.row (by omega)
  cases e2
  refine ⟨r.2.1, v', W1, fun k => A k ∨ v'.ownBlock = some k, hcells _ _ f1, hrun, hvs, hB1, hg1, ⟨.slice (some ⟨g, 0, none⟩) L.length cap, rs.set i (r.1, v', r.2.2), ?_, .inl h.own, ?_, fun k hk => .inl (h.rowA k hk), ?_, fun j y hy => ?_, ?_⟩, ⟨?_, fun k hk hn => ?_, fun k hk => ?_⟩⟩
  · rw [hset B (Ne.symm hgB), hB1]
    exact h.plan
  · rw [addNext_length, rowP_set rs i r v' h1]
    exact owns_set (owns_same h.row fun k hk => by cases hk; exact hg1) _ _ (by omega)
  · rw [List.length_set, addNext_length]
    exact h.len
  · by_cases hji : j = i
    · subst hji
      rw [addNext_eq hi] at hy
      cases hy
      refine ⟨(r.1, v', r.2.2), ?_, h2, h3, ?_, fun k hk => .inr hk⟩
      · rw [List.getElem?_set]
        simp [h.len, hiL]
      · have := owns_same (w' := W1.setCell ⟨g, j * 3 + 1, none⟩ v') r1 fun k hk => hset k (hv'g k hk)
        simpa [numsV] using this
    · rw [addNext_ne hji] at hy
      obtain ⟨s, s1, s2, s3, s4, s5⟩ := h.each j y hy
      refine ⟨s, ?_, s2, s3, owns_same s4 fun k hk => ?_, fun k hk => .inl (s5 k hk)⟩
      · rw [List.getElem?_set]
        simp [Ne.symm hji, s1]
      · obtain ⟨hlt, c, hcc⟩ := owns_lt s4 hk
        rw [hset k (fun e => by subst e; rw [hcur] at hcc; cases hcc), hsame k hlt (fun e => hji (h.apart j i s r k s1 h1 hk e))]
  · have hget : ∀ (j : Nat) (s : RawP), (rs.set i (r.1, v', r.2.2))[j]? = some s → (j = i ∧ s = (r.1, v', r.2.2)) ∨ (j ≠ i ∧ rs[j]? = some s) := fun j s hs => by
      rw [List.getElem?_set] at hs
      by_cases hji : i = j
      · subst hji
        simp [h.len, hiL] at hs
        exact .inl ⟨rfl, hs.symm⟩
      · rw [if_neg hji] at hs
        exact .inr ⟨Ne.symm hji, hs⟩
    have hold : ∀ (j : Nat) (s : RawP) (k : Nat), j ≠ i → rs[j]? = some s → s.2.1.ownBlock = some k → v'.ownBlock ≠ some k := fun j s k hji hs hk e => by
      obtain ⟨y, hy⟩ : ∃ y, L[j]? = some y := ⟨_, List.getElem?_eq_getElem (by rw [← h.len]; exact (List.getElem?_eq_some_iff.1 hs).1)⟩
      obtain ⟨s', s1, _, _, s4, _⟩ := h.each j y hy
      rw [hs] at s1
      cases s1
      rcases r4 with e1 | e1
      · rw [e1] at e
        exact hji (h.apart j i s r k hs h1 hk e)
      · rw [e1] at e
        cases e
        have := (owns_lt s4 hk).1
        omega
    intro j l rj rl k hj hl gj gl
    rcases hget j rj hj with ⟨j1, rfl⟩ | ⟨j1, j2⟩ <;> rcases hget l rl hl with ⟨l1, rfl⟩ | ⟨l1, l2⟩
    · rw [j1, l1]
    · exact absurd gj (hold l rl k l1 l2 gl)
    · exact absurd gl (hold j rj k j1 j2 gj)
    · exact h.apart j l rj rl k j2 l2 gj gl
  · exact ⟨r2.os, r2.tape, r2.output, by have := r2.size; simpa using this, fun k hk => absurd hk (by omega)⟩
  · rw [hset k (fun e => hn (h.rowA k (by rw [e]; rfl)))]
    exact hsame k hk (fun e => hn (h5 k e))
  · rcases hk with hk | hk
    · exact .inl hk
    · rcases r4 with e | e
      · rw [e] at hk
        exact .inl (h5 k hk)
      · rw [e] at hk
        cases hk
        exact .inr (Nat.le_refl _)
end Go.Proofs.YtofkiaeocfpkeaaGreatDoor

/- Loop: reg's loop at every plan, if lay does as it should with the tree that is handed in: what it returns and leaves; nothing else is turned. -/
namespace Go.Proofs.YtofkiaeocfpkeaaGreatDoor
open Go.RowKit

/-- The places of a tree with these groups. -/
def layD (gs : List Grp) : Nat → DataW Unit → Nat → List Place → List Place × Nat := lay kindT (fun t => maskG gs (nameT t)) subs
def SaneD (gs : List Grp) : Nat → DataW Unit → Prop := Sane kindT (fun t => maskG gs (nameT t)) subs
theorem layD_good (gs : List Grp) (n : Nat) (t : DataW Unit) (h : SaneD gs n t) : Good (layD gs n) (size subs n) t := lay_good _ _ _ n t h
/-- What lay owes at trees of at most n within one another. -/
def LayC (W0 : World) (gs : List Grp) (ga : Option Addr) (gl gc : Nat) (n : Nat) : Prop :=
  ∀ (t : DataW Unit) (v : Value) (w : World) (next : Nat) (A : Nat → Prop) (B : Nat) (L : List Place), Ex W0 n t v → SaneD gs n t → Below W0.heap.size W0 w → (∀ b, A b → W0.heap.size ≤ b) → PlanIn A w B (.slice ga gl gc) L → wf L → next < L.length → L.length + need subs n t ≤ 1000000000 →
    Calls Tryz.prog 89 #[.pointer (some ⟨B, 0, none⟩), v, .int .i64 (next : Int)] w fun e w' => e = .returned (.int .i64 ((layD gs n t next L).2 : Int)) ∧ ∃ A', PlanIn A' w' B (.slice ga gl gc) (layD gs n t next L).1 ∧ Fr A w A' w'
theorem own_some {g n c k : Nat} (h : (Value.slice (some ⟨g, 0, none⟩) n c).ownBlock = some k) : k = g := (Option.some.inj h).symm
theorem Fr.wide {A A1 A' : Nat → Prop} {w w' : World} (h : Fr A1 w A' w') (hA : ∀ b, A1 b → A b) : Fr A w A' w' := h.less fun b hb => .inl (hA b hb)
set_option maxRecDepth 100000 in
set_option maxHeartbeats 1000000 in
theorem loop_calls (W0 : World) (gs : List Grp) (ga : Option Addr) (gl gc n : Nat) (hlay : LayC W0 gs ga gl gc n) (t : DataW Unit) (v : Value) (w : World) (next : Nat) (A : Nat → Prop) (B : Nat) (L : List Place) (hE : Ex W0 n t v) (hS : SaneD gs n t) (hB : Below W0.heap.size W0 w) (hA : ∀ b, A b → W0.heap.size ≤ b)
    (hP : PlanIn A w B (.slice ga gl gc) L) (hwf : wf L) (hn : next < L.length) (hlen : L.length + (1 + need subs n t) ≤ 1000000000) :
    Calls Tryz.prog 136 #[.pointer (some ⟨B, 0, none⟩), v, .int .i64 (next : Int)] w fun e w' => e = .returned (.tuple #[.int .i64 ((layLoop (layD gs n) [t] next L).2.1 : Int), .int .i64 ((layLoop (layD gs n) [t] next L).2.2 : Int)]) ∧ ∃ A', PlanIn A' w' B (.slice ga gl gc) (layLoop (layD gs n) [t] next L).1 ∧ Fr A w A' w' := by
  obtain ⟨k, s, a, len, cap, rfl⟩ : ∃ k s a len cap, v = .agg #[.int .i64 k, .string s, .slice a len cap] := by
    cases n with
    | zero => exact hE.elim
    | succ n => obtain ⟨k, s, a, len, cap, ts, _, rfl, _⟩ := hE; exact ⟨k, s, a, len, cap, rfl⟩
  obtain ⟨w1, hw1⟩ : ∃ w1, w1 = w.alloc (.cells #[.int .i64 k, .string s, .slice a len cap] 26) := ⟨_, rfl⟩
  have hb1 : Below w.heap.size w w1 := by rw [hw1]; exact (Below.refl _ w).alloc (Nat.le_refl _) _
  have hs1 : w1.heap.size = w.heap.size + 1 := by rw [hw1]; simp
  obtain ⟨w2, hw2⟩ : ∃ w2, w2 = w1.alloc (.cells #[.int .i64 (next : Int)] 3) := ⟨_, rfl⟩
  have hb2 : Below w1.heap.size w1 w2 := by rw [hw2]; exact (Below.refl _ w1).alloc (Nat.le_refl _) _
  have hs2 : w2.heap.size = w.heap.size + 2 := by rw [hw2]; simp [hs1]
  have hbw2 : Below w.heap.size w w2 := hb1.trans (hb2.mono (by omega))
  have hbase := hB.size
  have hP2 : PlanIn (fun b => A b ∧ b < w.heap.size) w2 B (.slice ga gl gc) L := hP.tight.kept (fun _ h => h) fun b hb _ => hbw2.block b hb
  have hrow : w2.ownsRow 0 3 1 (.slice (some ⟨w.heap.size + 1, 0, none⟩) 1 1) [next].length (numsV [next]) := by rw [hw2, ← hs1]; exact owns_new1 w1 next
  have hfork := fork_calls (fun b => A b ∧ b < w.heap.size) B (.slice ga gl gc) L w2 [next] _ 1 1 hP2 hrow (fun g hg h => by have := own_some hg; have := h.2; omega) (by omega) (by simp) (by simpa using hn) (by simp) (fun p => by have := hwf.least_lt p; omega)
  obtain ⟨c1, c2, c3, c4, c5⟩ := forkL_ok hwf (ways := [next]) (by simp) (by simpa using hn) (m := leastAt L next) (by simp)
  obtain ⟨a1, a2, a3, a4, a5, a6⟩ := layD_good gs n t hS L.length (forkL L [next]).1 c1 (by omega)
  have hrl : (layD gs n t L.length (forkL L [next]).1).1[L.length]? = some (0, [next], forkLeast L [next]) := (a4 _ (by omega)).trans get_snoc_eq
  have e2 : (forkL L [next]).2 = L.length := rfl
  rw [e2] at hfork
  have HX : Hid (∀ (W3 : World) (A1 : Nat → Prop), PlanIn A1 W3 B (.slice ga gl gc) (forkL L [next]).1 → Fr (fun k => (A k ∧ k < w.heap.size) ∨ (Value.slice (some ⟨w.heap.size + 1, 0, none⟩) 1 1).ownBlock = some k) w2 A1 W3 →
      W3.cell? ⟨w.heap.size, 0, none⟩ = some (.int .i64 k) ∧ W3.cell? ⟨w.heap.size, 1, none⟩ = some (.string s) ∧ W3.cell? ⟨w.heap.size, 2, none⟩ = some (.slice a len cap) ∧ (∀ b, A1 b → W0.heap.size ≤ b) ∧ Below W0.heap.size W0 W3 ∧ Fr A w A1 W3) := by
    intro W3 A1 hP3 hF3
    have hnb : ¬ ((A w.heap.size ∧ w.heap.size < w.heap.size) ∨ (Value.slice (some ⟨w.heap.size + 1, 0, none⟩) 1 1).ownBlock = some w.heap.size) := by
      rintro (h | h)
      · omega
      · have := own_some h
        omega
    have hbk : W3.heap[w.heap.size]? = some (.cells #[.int .i64 k, .string s, .slice a len cap] 26 (0, 0)) := by
      rw [hF3.same _ (by omega) hnb, hb2.block _ (by omega), hw1]
      exact World.alloc_heap_new w _
    have hc := fun j => cell_of_row W3 w.heap.size j _ _ _ hbk
    have hge : ∀ b, (A b ∧ b < w.heap.size) ∨ (Value.slice (some ⟨w.heap.size + 1, 0, none⟩) 1 1).ownBlock = some b → W0.heap.size ≤ b := by
      rintro b (h | h)
      · exact hA b h.1
      · have := own_some h
        omega
    have hFw : Fr A w A1 W3 := ((Fr.of_below hbw2).trans hF3).less (by
      rintro b (h | h)
      · exact .inl h.1
      · have := own_some h
        exact .inr (by omega))
    refine ⟨hc 0, hc 1, hc 2, fun b hb => ?_, hB.trans (hFw.toBelow hbase (fun b hb h => by have := hA b h; omega)), hFw⟩
    rcases hFw.sub b hb with h | h
    · exact hA b h
    · omega
  have HL : Hid (∀ (W3 : World) (A1 : Nat → Prop), PlanIn A1 W3 B (.slice ga gl gc) (forkL L [next]).1 → (∀ b, A1 b → W0.heap.size ≤ b) → Below W0.heap.size W0 W3 → Calls Tryz.prog 89 #[.pointer (some ⟨B, 0, none⟩), .agg #[.int .i64 k, .string s, .slice a len cap], .int .i64 (L.length : Int)] W3 fun e w' => e = .returned (.int .i64 ((layD gs n t L.length (forkL L [next]).1).2 : Int)) ∧ ∃ A', PlanIn A' w' B (.slice ga gl gc) (layD gs n t L.length (forkL L [next]).1).1 ∧ Fr A1 W3 A' w') :=
    fun W3 A1 h1 h2 h3 => hlay t _ W3 L.length A1 B _ hE hS h3 h2 h1 c1 (by omega) (by omega)
  rw [layLoop]
  generalize hr : layD gs n t L.length (forkL L [next]).1 = r at *
  obtain ⟨R, f⟩ := r
  simp only at *
  have hsn := size_need subs n t
  have hRL : L.length < R.length := by omega
  have HN : Hid (∀ (W4 : World) (A2 : Nat → Prop), PlanIn A2 W4 B (.slice ga gl gc) R → ∃ v g cap, v = .slice (some ⟨g, 0, none⟩) R.length cap ∧ W4.cell? ⟨B, 1, none⟩ = some v ∧
      (∀ (X : World) (b bc : Nat), (∀ k, k < W4.heap.size → X.heap[k]? = W4.heap[k]?) → (∀ j u, [Value.int .i64 (f : Int)][j]? = some u → X.cell? ((⟨b, 0, none⟩ : Addr).add j) = some u) → X.cell? ⟨B, 1, none⟩ = some v ∧ ∃ hv a n c W1 A', X.cell? ⟨g, L.length * 3 + 1, none⟩ = some hv ∧ W4.cell? ⟨g, L.length * 3 + 1, none⟩ = some hv ∧ (Builtin.append_ #[23, 23] 23 #[hv, .slice (some ⟨b, 0, none⟩) 1 bc]).run Tryz.prog X = .ok (.slice a n c) W1 ∧ W1.cell? ⟨B, 1, none⟩ = some v ∧ (W1.setCell ⟨g, L.length * 3 + 1, none⟩ (.slice a n c)).cell? ⟨B, 1, none⟩ = some v ∧ (∃ u, W1.cell? ⟨g, L.length * 3 + 1, none⟩ = some u) ∧ W1.frozen? ⟨g, L.length * 3 + 1, none⟩ = false ∧
        PlanIn A' (W1.setCell ⟨g, L.length * 3 + 1, none⟩ (.slice a n c)) B (.slice ga gl gc) (addNext R L.length f) ∧ Fr A2 X A' (W1.setCell ⟨g, L.length * 3 + 1, none⟩ (.slice a n c)))) := by
    rintro W4 A2 ⟨v, rs, hP4⟩
    obtain ⟨g, cap4, rfl, hc4⟩ := hP4.cells (by omega)
    obtain ⟨_, p1, _⟩ := cells_plan hP4.plan
    refine ⟨_, g, cap4, rfl, p1, fun X b bc hX hcell => ?_⟩
    have hPX : PlanAt A2 X B (.slice ga gl gc) (.slice (some ⟨g, 0, none⟩) R.length cap4) rs R := hP4.kept (fun _ h => h) fun k hk _ => hX k hk
    obtain ⟨hv, v', W1, A', d1, d2, ⟨a', n', c', rfl⟩, d4, d5, d6, d7⟩ := plan_next hPX L.length f _ hrl (by simp) b bc hcell
    obtain ⟨_, x1, _⟩ := cells_plan hPX.plan
    obtain ⟨_, y1, _⟩ := cells_plan (d4.trans hPX.plan)
    obtain ⟨v6, rs6, hP6⟩ := d6
    obtain ⟨hglt, cur, hcur⟩ := owns_lt hPX.row (g := g) rfl
    have hgB : g ≠ B := fun e => by subst e; rw [hPX.plan] at hcur; cases hcur
    have hW4g : W4.heap[g]? = X.heap[g]? := (hX g (owns_lt hP4.row (g := g) rfl).1).symm
    refine ⟨x1, hv, a', n', c', W1, A', d1, ?_, d2, y1, ?_, ⟨hv, ?_⟩, ?_, ⟨v6, rs6, hP6⟩, d7⟩
    · rw [← d1]
      exact World.cell?_of_block (w := X) (a := ⟨g, L.length * 3 + 1, none⟩) hW4g
    · have : (W1.setCell ⟨g, L.length * 3 + 1, none⟩ (.slice a' n' c')).cell? ⟨B, 1, none⟩ = W1.cell? ⟨B, 1, none⟩ := World.cell?_of_block (w := W1) (a := ⟨B, 1, none⟩) (Below.heap_setCell W1 _ _ B (Ne.symm hgB))
      rw [this]
      exact y1
    · have : W1.cell? ⟨g, L.length * 3 + 1, none⟩ = X.cell? ⟨g, L.length * 3 + 1, none⟩ := World.cell?_of_block (w := X) (a := ⟨g, L.length * 3 + 1, none⟩) d5
      rw [this]
      exact d1
    · simp [World.frozen?, d5.trans hcur]
  have HFK : Hid (Calls Tryz.prog 135 #[.pointer (some ⟨B, 0, none⟩), .slice (some ⟨w.heap.size + 1, 0, none⟩) 1 1] w2 fun e w' => e = .returned (.int .i64 (L.length : Int)) ∧ ∃ A', PlanIn A' w' B (.slice ga gl gc) (forkL L [next]).1 ∧ Fr (fun k => (A k ∧ k < w.heap.size) ∨ (Value.slice (some ⟨w.heap.size + 1, 0, none⟩) 1 1).ownBlock = some k) w2 A' w') := hfork
  have HW2 : Hid ((w.alloc (.cells #[.int .i64 k, .string s, .slice a len cap] 26)).alloc (.cells #[.int .i64 (next : Int)] 3) = w2) := by show _ = _; rw [hw2, hw1]
  have hRi : (L.length : Int) < (R.length : Int) := by omega
  have hR1 : (R.length : Int) ≤ 2000000000 := by omega
  have hL0 : (0 : Int) ≤ (L.length : Int) := by omega
  clear hfork hP2 hrow hw1 hw2 hb1 hb2 hbw2 hP hE hS hlay hB hA hwf c1 c2 c3 c4 c5 a1 a2 a3 a4 a5 a6 hrl hr hs1 hs2
  go_enter Tryz.func136, Tryz.ntmps136
  go_wp2_with fail
  rw [HW2.out]
  refine HFK.out.mono ?_
  rintro e W3 ⟨rfl, A1, hP3, hF3⟩
  obtain ⟨x0, x1, x2, hA3, hB3, hFw⟩ := HX.out W3 A1 hP3 hF3
  have HFw : Hid (Fr A w A1 W3) := hFw
  go_wp2_with fail
  refine (HL.out W3 A1 hP3 hA3 hB3).mono ?_
  rintro e W4 ⟨rfl, A2, hP4, hF4⟩
  obtain ⟨v, g, cap4, hv, q1, hnx⟩ := HN.out W4 A2 hP4
  subst hv
  obtain ⟨X, hXd⟩ : ∃ X, X = (W4.alloc (.cells #[.int .i64 (f : Int)] 3)).drew := ⟨_, rfl⟩
  obtain ⟨xB, hv, a', n', c', W5, A3, xh, qh, hrun, y1, z1, ⟨yu, yh⟩, yf, hP5, hF5⟩ := hnx X W4.heap.size 1 (fun k hk => by rw [hXd]; exact Below.heap_alloc W4 _ k hk) (by rw [hXd]; exact cell_one_new W4 _ _)
  have HE : Hid (PlanIn A3 (W5.setCell ⟨g, L.length * 3 + 1, none⟩ (.slice a' n' c')) B (.slice ga gl gc) (addNext R L.length f) ∧ Fr A w A3 (W5.setCell ⟨g, L.length * 3 + 1, none⟩ (.slice a' n' c'))) := by
    refine ⟨hP5, HFw.out.trans (hF4.trans (Fr.trans (Fr.of_below ?_) hF5))⟩
    rw [hXd]
    exact ((Below.refl _ W4).alloc (Nat.le_refl _) _).drew
  have HXd : Hid ((W4.alloc (.cells #[.int .i64 (f : Int)] 3)).drew = X) := hXd.symm
  clear hP5 hF5 hnx HN HL HX HFK hP3 hF3 hA3 hB3 hFw hP4 hF4 hXd x0 x1 x2 HFw
  go_wp2_with fail
  refine wp_region_held_drew (S := fun X => X.cell? ⟨B, 1, none⟩ = some (.slice (some ⟨g, 0, none⟩) R.length cap4)) hmx q1 (fun hS => ?_)
  refine takeD 0 (some 18) (v := ?_) rfl rfl (by kernel_rfl) (by kernel_rfl) (by kernel_rfl) (fun _ _ _ h => h) (Or.inl ⟨by rfl, ?_⟩) hS ?_
  rotate_left
  · intro w hSw
    try go_simp
    with_reducible rfl
  try simp only [Act.put, List.setIfInBounds_toArray, List.set_cons_zero, List.set_cons_succ]
  refine takeD 1 (some 19) (v := ?_) rfl rfl (by kernel_rfl) (by kernel_rfl) (by kernel_rfl) (fun _ _ _ h => h) (Or.inl ⟨by rfl, ?_⟩) hS ?_
  rotate_left
  · intro w hSw
    go_simp
    with_reducible rfl
  try simp only [Act.put, List.setIfInBounds_toArray, List.set_cons_zero, List.set_cons_succ]
  refine takeD 2 (some 20) (v := ?_) rfl rfl (by kernel_rfl) (by kernel_rfl) (by kernel_rfl) (fun _ _ _ h => h) (Or.inl ⟨by rfl, ?_⟩) hS ?_
  rotate_left
  · intro w hSw
    go_simp
    with_reducible rfl
  try simp only [Act.put, List.setIfInBounds_toArray, List.set_cons_zero, List.set_cons_succ]
  refine takeD 3 (some 21) (v := ?_) rfl rfl (by kernel_rfl) (by kernel_rfl) (by kernel_rfl) (fun _ _ _ h => h) (Or.inl ⟨by rfl, ?_⟩) hS ?_
  rotate_left
  · intro w hSw
    go_simp
    with_reducible rfl
  try simp only [Act.put, List.setIfInBounds_toArray, List.set_cons_zero, List.set_cons_succ]
  refine takeD 4 (some 22) (v := ?_) rfl rfl (by kernel_rfl) (by kernel_rfl) (by kernel_rfl) (fun _ _ _ h => h) (Or.inl ⟨by rfl, ?_⟩) hS ?_
  rotate_left
  · intro w hSw
    try go_simp
    with_reducible rfl
  try simp only [Act.put, List.setIfInBounds_toArray, List.set_cons_zero, List.set_cons_succ]
  refine takeD 5 (some 23) (v := ?_) rfl rfl (by kernel_rfl) (by kernel_rfl) (by kernel_rfl) (fun _ _ _ h => h) (Or.inl ⟨by rfl, ?_⟩) hS ?_
  rotate_left
  · intro w hSw
    try go_simp
    with_reducible rfl
  try simp only [Act.put, List.setIfInBounds_toArray, List.set_cons_zero, List.set_cons_succ]
  refine takeD 6 (some 24) (v := ?_) rfl rfl (by kernel_rfl) (by kernel_rfl) (by kernel_rfl) (fun _ _ _ h => h) (Or.inl ⟨by rfl, ?_⟩) hS ?_
  rotate_left
  · intro w hSw
    go_simp
    with_reducible rfl
  try simp only [Act.put, List.setIfInBounds_toArray, List.set_cons_zero, List.set_cons_succ]
  refine takeD 7 (some 25) (v := ?_) rfl rfl (by kernel_rfl) (by kernel_rfl) (by kernel_rfl) (fun _ _ _ h => h) (Or.inl ⟨by rfl, ?_⟩) hS ?_
  rotate_left
  · intro w hSw
    go_simp
    with_reducible rfl
  try simp only [Act.put, List.setIfInBounds_toArray, List.set_cons_zero, List.set_cons_succ]
  refine takeD 8 (some 26) (v := ?_) rfl rfl (by kernel_rfl) (by kernel_rfl) (by kernel_rfl) (fun _ _ _ h => h) (Or.inl ⟨by rfl, ?_⟩) hS ?_
  rotate_left
  · intro w hSw
    go_simp
    with_reducible rfl
  try simp only [Act.put, List.setIfInBounds_toArray, List.set_cons_zero, List.set_cons_succ]
  refine takeD 9 (some 27) (v := ?_) rfl rfl (by kernel_rfl) (by kernel_rfl) (by kernel_rfl) (fun _ _ _ h => h) (Or.inl ⟨by rfl, ?_⟩) hS ?_
  rotate_left
  · intro w hSw
    try go_simp
    with_reducible rfl
  try simp only [Act.put, List.setIfInBounds_toArray, List.set_cons_zero, List.set_cons_succ]
  refine takeD 10 (some 28) (v := ?_) rfl rfl (by kernel_rfl) (by kernel_rfl) (by kernel_rfl) (fun _ _ _ h => h) (Or.inl ⟨by rfl, ?_⟩) hS ?_
  rotate_left
  · intro w hSw
    go_simp
    with_reducible rfl
  try simp only [Act.put, List.setIfInBounds_toArray, List.set_cons_zero, List.set_cons_succ]
  refine takeD 11 (some 29) (v := ?_) rfl rfl (by kernel_rfl) (by kernel_rfl) (by kernel_rfl) (fun _ _ _ h => h) (Or.inl ⟨by rfl, ?_⟩) hS ?_
  rotate_left
  · intro w hSw
    go_simp
    with_reducible rfl
  try simp only [Act.put, List.setIfInBounds_toArray, List.set_cons_zero, List.set_cons_succ]
  refine takeD 13 (some 31) (v := ?_) rfl rfl (by kernel_rfl) (by kernel_rfl) (by kernel_rfl) (fun _ _ _ h => h) (Or.inl ⟨by rfl, ?_⟩) hS ?_
  rotate_left
  · intro w hSw
    try go_simp
    with_reducible rfl
  try simp only [Act.put, List.setIfInBounds_toArray, List.set_cons_zero, List.set_cons_succ]
  refine wpAnyH_ready (rs := [12, 14]) (by kernel_rfl) (by simp) (AllReadyH.cons rfl (fun K hK => ?_) (AllReadyH.cons rfl (fun K hK => ?_) AllReadyH.nil))
  · go_simp
    refine hK.out _ _ q1 (fun _ => ?_)
    clear hK K
    try simp only [Act.put, List.setIfInBounds_toArray, List.set_cons_zero, List.set_cons_succ]
    refine callD 14 (by kernel_rfl) rfl (fun K hK => ?_)
    go_simp
    rw [HXd.out]
    refine hK.out _ _ xB (fun _ => ?_)
    clear hK K
    try simp only [Act.put, List.setIfInBounds_toArray, List.set_cons_zero, List.set_cons_succ]
    refine callD 15 (by kernel_rfl) rfl (fun K hK => ?_)
    rw [if_pos (by rfl)]
    refine wp_run_append _ _ 23 rfl _ _ (.slice a' n' c') W5 rfl rfl hrun ?_
    refine hK.out _ _ y1 (fun _ => ?_)
    clear hK K
    try simp only [Act.put, List.setIfInBounds_toArray]
    refine takeD 16 (some 34) (v := ?_) rfl rfl (by kernel_rfl) (by kernel_rfl) (by kernel_rfl) (fun _ _ _ h => h) (Or.inl ⟨by rfl, ?_⟩) y1 ?_
    rotate_left
    · intro w hSw
      go_simp
      with_reducible rfl
    try simp only [Act.put]
    refine takeD 17 (some 35) (v := ?_) rfl rfl (by kernel_rfl) (by kernel_rfl) (by kernel_rfl) (fun _ _ _ h => h) (Or.inl ⟨by rfl, ?_⟩) y1 ?_
    rotate_left
    · intro w hSw
      go_simp
      with_reducible rfl
    try simp only [Act.put]
    refine callD 18 (by kernel_rfl) rfl (fun K hK => ?_)
    rw [if_pos (by rfl)]
    go_simp
    refine hK.out _ _ z1 (fun _ => ?_)
    clear hK K
    try simp only [Act.put, List.setIfInBounds_toArray, List.set_cons_zero, List.set_cons_succ]
    refine wpAnyH_done (by kernel_rfl) ?_ _
    go_wp2
    go_ret2
    exact ⟨rfl, A3, HE.out.1, HE.out.2⟩
  · go_simp
    rw [HXd.out]
    refine hK.out _ _ xB (fun _ => ?_)
    clear hK K
    try simp only [Act.put, List.setIfInBounds_toArray, List.set_cons_zero, List.set_cons_succ]
    refine callD 12 (by kernel_rfl) rfl (fun K hK => ?_)
    go_simp
    refine hK.out _ _ xB (fun _ => ?_)
    clear hK K
    try simp only [Act.put, List.setIfInBounds_toArray, List.set_cons_zero, List.set_cons_succ]
    refine callD 15 (by kernel_rfl) rfl (fun K hK => ?_)
    rw [if_pos (by rfl)]
    refine wp_run_append _ _ 23 rfl _ _ (.slice a' n' c') W5 rfl rfl hrun ?_
    refine hK.out _ _ y1 (fun _ => ?_)
    clear hK K
    try simp only [Act.put, List.setIfInBounds_toArray]
    refine takeD 16 (some 34) (v := ?_) rfl rfl (by kernel_rfl) (by kernel_rfl) (by kernel_rfl) (fun _ _ _ h => h) (Or.inl ⟨by rfl, ?_⟩) y1 ?_
    rotate_left
    · intro w hSw
      go_simp
      with_reducible rfl
    try simp only [Act.put]
    refine takeD 17 (some 35) (v := ?_) rfl rfl (by kernel_rfl) (by kernel_rfl) (by kernel_rfl) (fun _ _ _ h => h) (Or.inl ⟨by rfl, ?_⟩) y1 ?_
    rotate_left
    · intro w hSw
      go_simp
      with_reducible rfl
    try simp only [Act.put]
    refine callD 18 (by kernel_rfl) rfl (fun K hK => ?_)
    rw [if_pos (by rfl)]
    go_simp
    refine hK.out _ _ z1 (fun _ => ?_)
    clear hK K
    try simp only [Act.put, List.setIfInBounds_toArray, List.set_cons_zero, List.set_cons_succ]
    refine wpAnyH_done (by kernel_rfl) ?_ _
    go_wp2
    go_ret2
    exact ⟨rfl, A3, HE.out.1, HE.out.2⟩
end Go.Proofs.YtofkiaeocfpkeaaGreatDoor

/- Box3: the three boxes that lay makes of its parameters. -/
namespace Go.Proofs.YtofkiaeocfpkeaaGreatDoor
open Go.RowKit

/-- The world behind lay's first steps: the three boxes of its parameters. -/
def laid3 (w : World) (B : Nat) (k : Int) (s : ByteArray) (a : Option Addr) (len cap next : Nat) : World :=
  ((w.alloc (.cells #[.pointer (some ⟨B, 0, none⟩)] 149)).alloc (.cells #[.int .i64 k, .string s, .slice a len cap] 26)).alloc (.cells #[.int .i64 (next : Int)] 3)
theorem laid3_size (w : World) (B : Nat) (k : Int) (s : ByteArray) (a : Option Addr) (len cap next : Nat) : (laid3 w B k s a len cap next).heap.size = w.heap.size + 3 := by unfold laid3; simp
theorem laid3_below (w : World) (B : Nat) (k : Int) (s : ByteArray) (a : Option Addr) (len cap next : Nat) : Below w.heap.size w (laid3 w B k s a len cap next) := by
  unfold laid3
  exact (((Below.refl _ w).alloc (Nat.le_refl _) _).alloc (by simp) _).alloc (by simp; omega) _
theorem laid3_blocks (w : World) (B : Nat) (k : Int) (s : ByteArray) (a : Option Addr) (len cap next : Nat) :
    (laid3 w B k s a len cap next).heap[w.heap.size]? = some (.cells #[.pointer (some ⟨B, 0, none⟩)] 149 (0, 0)) ∧ (laid3 w B k s a len cap next).heap[w.heap.size + 1]? = some (.cells #[.int .i64 k, .string s, .slice a len cap] 26 (0, 0)) ∧ (laid3 w B k s a len cap next).heap[w.heap.size + 2]? = some (.cells #[.int .i64 (next : Int)] 3 (0, 0)) := by
  unfold laid3
  refine ⟨?_, ?_, ?_⟩
  · rw [Below.heap_alloc _ _ _ (by simp; omega), Below.heap_alloc _ _ _ (by simp)]
    exact World.alloc_heap_new w _
  · rw [Below.heap_alloc _ _ _ (by simp)]
    have := World.alloc_heap_new (w.alloc (.cells #[.pointer (some ⟨B, 0, none⟩)] 149)) (.cells #[.int .i64 k, .string s, .slice a len cap] 26)
    rwa [World.size_alloc] at this
  · have := World.alloc_heap_new ((w.alloc (.cells #[.pointer (some ⟨B, 0, none⟩)] 149)).alloc (.cells #[.int .i64 k, .string s, .slice a len cap] 26)) (.cells #[.int .i64 (next : Int)] 3)
    rwa [World.size_alloc, World.size_alloc] at this
/-- What the boxes show in a world that has them. -/
theorem laid3_cells {w X : World} {B : Nat} {k : Int} {s : ByteArray} {a : Option Addr} {len cap next : Nat} (h : ∀ b, b < 3 → X.heap[w.heap.size + b]? = (laid3 w B k s a len cap next).heap[w.heap.size + b]?) :
    X.cell? ⟨w.heap.size, 0, none⟩ = some (.pointer (some ⟨B, 0, none⟩)) ∧ X.cell? ⟨w.heap.size + 1, 0, none⟩ = some (.int .i64 k) ∧ X.cell? ⟨w.heap.size + 1, 1, none⟩ = some (.string s) ∧ X.cell? ⟨w.heap.size + 1, 2, none⟩ = some (.slice a len cap) ∧ X.cell? ⟨w.heap.size + 2, 0, none⟩ = some (.int .i64 (next : Int)) := by
  obtain ⟨b0, b1, b2⟩ := laid3_blocks w B k s a len cap next
  have h0 := (h 0 (by omega)).trans b0
  have h1 := (h 1 (by omega)).trans b1
  have h2 := (h 2 (by omega)).trans b2
  exact ⟨cell_of_row X _ 0 _ _ _ h0, cell_of_row X _ 0 _ _ _ h1, cell_of_row X _ 1 _ _ _ h1, cell_of_row X _ 2 _ _ _ h1, cell_of_row X _ 0 _ _ _ h2⟩
end Go.Proofs.YtofkiaeocfpkeaaGreatDoor
