/-
  PROVED HERE: what the texts Bfs, Best, HouseE, AwakeS, FillA, FillB, LaidT, LaidTab, LaidB, Rowl say (each has its own words below).
-/
import Derived.Test.YtofkiaeocfpkeaaGreatDoorSW14
import Derived.Test.YtofkiaeocfpkeaaGreatDoorCards
import Derived.Test.YtofkiaeocfpkeaaGreatDoorTie
import Derived.WalkKit
import Derived.ProofKit
import Derived.OpenShut
import Derived.Deep.DeepHandedRow
import Derived.LaidLaws
import Derived.LaidHandle
import Derived.ChangeMaps5
import Derived.DataShut
import Derived.ChangeSame
import Derived.ChangeArms
/- Bfs: words by their length and then type by type; a search through words, the short ones first, finds the least. -/
namespace Go.Proofs.YtofkiaeocfpkeaaGreatDoor

/-- Ahead, of two words as long. -/
def lexLt : List Int → List Int → Prop
  | a :: x, b :: y => a < b ∨ (a = b ∧ lexLt x y)
  | _, _ => False
/-- Shorter, or as long and ahead. -/
def shLt (x y : List Int) : Prop := x.length < y.length ∨ (x.length = y.length ∧ lexLt x y)
def shLe (x y : List Int) : Prop := x = y ∨ shLt x y
theorem lexLt_irr : ∀ x : List Int, ¬ lexLt x x := by
  intro x
  induction x with
  | nil => exact fun h => h
  | cons a r ih =>
    rintro (h | h)
    · omega
    · exact ih h.2
theorem lexLt_trans : ∀ {x y z : List Int}, lexLt x y → lexLt y z → lexLt x z := by
  intro x
  induction x with
  | nil => intro y z h; exact h.elim
  | cons a r ih =>
    intro y z h1 h2
    cases y with
    | nil => exact h1.elim
    | cons b y =>
      cases z with
      | nil => exact h2.elim
      | cons c z =>
        rcases h1 with h1 | ⟨rfl, h1⟩
        · rcases h2 with h2 | ⟨rfl, h2⟩
          · exact .inl (by omega)
          · exact .inl h1
        · rcases h2 with h2 | ⟨rfl, h2⟩
          · exact .inl h2
          · exact .inr ⟨rfl, ih h1 h2⟩
theorem shLt_trans {x y z : List Int} (h1 : shLt x y) (h2 : shLt y z) : shLt x z := by
  rcases h1 with h1 | ⟨h1, g1⟩
  · rcases h2 with h2 | ⟨h2, _⟩
    · exact .inl (by omega)
    · exact .inl (by omega)
  · rcases h2 with h2 | ⟨h2, g2⟩
    · exact .inl (by omega)
    · exact .inr ⟨by omega, lexLt_trans g1 g2⟩
theorem shLt_irr (x : List Int) : ¬ shLt x x := by
  rintro (h | h)
  · omega
  · exact lexLt_irr x h.2
theorem shLe_trans {x y z : List Int} (h1 : shLe x y) (h2 : shLe y z) : shLe x z := by
  rcases h1 with rfl | h1
  · exact h2
  · rcases h2 with rfl | h2
    · exact .inr h1
    · exact .inr (shLt_trans h1 h2)
theorem shLe_anti {x y : List Int} (h1 : shLe x y) (h2 : shLe y x) : x = y := by
  rcases h1 with h1 | h1
  · exact h1
  · rcases h2 with h2 | h2
    · exact h2.symm
    · exact (shLt_irr x (shLt_trans h1 h2)).elim
theorem shLe_prefix (u v : List Int) : shLe u (u ++ v) := by
  cases v with
  | nil => rw [List.append_nil]; exact .inl rfl
  | cons a r => exact .inr (.inl (by rw [List.length_append, List.length_cons]; omega))
theorem lexLt_snoc : ∀ {x y : List Int} (a b : Int), lexLt x y → lexLt (x ++ [a]) (y ++ [b]) := by
  intro x
  induction x with
  | nil => intro y a b h; exact h.elim
  | cons c r ih =>
    intro y a b h
    cases y with
    | nil => exact h.elim
    | cons d y =>
      rcases h with h | ⟨h, h'⟩
      · exact .inl h
      · exact .inr ⟨h, ih a b h'⟩
theorem lexLt_last : ∀ (x : List Int) {a b : Int}, a < b → lexLt (x ++ [a]) (x ++ [b]) := by
  intro x
  induction x with
  | nil => intro a b h; exact .inl h
  | cons c r ih => intro a b h; exact .inr ⟨rfl, ih h⟩
theorem shLt_snoc {x y : List Int} (a b : Int) (h : shLt x y) : shLt (x ++ [a]) (y ++ [b]) := by
  rcases h with h | ⟨h, g⟩
  · exact .inl (by simp only [List.length_append, List.length_singleton]; omega)
  · exact .inr ⟨by simp only [List.length_append, List.length_singleton]; omega, lexLt_snoc a b g⟩
theorem shLe_snoc {x y : List Int} (a : Int) (h : shLe x y) : shLe (x ++ [a]) (y ++ [a]) := by
  rcases h with rfl | h
  · exact .inl rfl
  · exact .inr (shLt_snoc a a h)
theorem shLt_last (x : List Int) {a b : Int} (h : a < b) : shLt (x ++ [a]) (x ++ [b]) := .inr ⟨by simp, lexLt_last x h⟩
theorem shLt_more (x : List Int) (a : Int) : shLt x (x ++ [a]) := .inl (by simp)

/-- The search: the words ws are known, those ahead of i are done, of the one at i the types below t. -/
structure Bfs (A : List Int → Nat → Prop) (ws : List (List Int)) (i t : Nat) : Prop where
  root : ws[0]? = some []
  sorted : ws.Pairwise shLt
  apart : ws.Pairwise (fun u v => A u ≠ A v)
  no : ∀ (j : Nat) u, j < i → ws[j]? = some u → ¬ A u 1
  closed : ∀ (j : Nat) u (s : Nat), (j < i ∨ (j = i ∧ s < t)) → s < 16 → ws[j]? = some u → (∃ q, A (u ++ [(s : Int)]) q) → ∃ v ∈ ws, A v = A (u ++ [(s : Int)]) ∧ shLe v (u ++ [(s : Int)])
  upper : ∀ u, ws[i]? = some u → ∀ v ∈ ws, shLt v (u ++ [(t : Int)])
  long : ∀ u ∈ ws, u = [] ∨ ∃ v x, u = v ++ [x]
theorem Bfs.first (A : List Int → Nat → Prop) : Bfs A [[]] 0 0 where
  root := rfl
  sorted := List.pairwise_singleton _ _
  apart := List.pairwise_singleton _ _
  no := fun j u h => by omega
  closed := fun j u s h => by omega
  upper := fun u hu v hv => by
    cases hu
    rw [List.mem_singleton] at hv
    subst hv
    exact shLt_more [] _
  long := fun u hu => .inl (List.mem_singleton.1 hu)
theorem Bfs.skip {A : List Int → Nat → Prop} {ws : List (List Int)} {i t : Nat} (h : Bfs A ws i t) {u : List Int} (hu : ws[i]? = some u) (hn : ¬ ∃ q, A (u ++ [(t : Int)]) q) : Bfs A ws i (t + 1) where
  root := h.root
  sorted := h.sorted
  apart := h.apart
  no := h.no
  closed := fun j v s hj hs hv hq => by
    by_cases e : j = i ∧ s = t
    · obtain ⟨rfl, rfl⟩ := e
      rw [hu] at hv
      cases hv
      exact (hn hq).elim
    · exact h.closed j v s (by omega) hs hv hq
  upper := fun v hv x hx => by
    rw [hu] at hv
    cases hv
    exact shLt_trans (h.upper u hu x hx) (shLt_last u (by omega))
  long := h.long
theorem Bfs.seen {A : List Int → Nat → Prop} {ws : List (List Int)} {i t : Nat} (h : Bfs A ws i t) {u v : List Int} (hu : ws[i]? = some u) (hv : v ∈ ws) (e : A v = A (u ++ [(t : Int)])) : Bfs A ws i (t + 1) where
  root := h.root
  sorted := h.sorted
  apart := h.apart
  no := h.no
  closed := fun j x s hj hs hx hq => by
    by_cases e' : j = i ∧ s = t
    · obtain ⟨rfl, rfl⟩ := e'
      rw [hu] at hx
      cases hx
      exact ⟨v, hv, e, .inr (h.upper u hu v hv)⟩
    · exact h.closed j x s (by omega) hs hx hq
  upper := fun v hv x hx => by
    rw [hu] at hv
    cases hv
    exact shLt_trans (h.upper u hu x hx) (shLt_last u (by omega))
  long := h.long
theorem Bfs.put {A : List Int → Nat → Prop} {ws : List (List Int)} {i t : Nat} (h : Bfs A ws i t) {u : List Int} (hu : ws[i]? = some u) (hn : ∀ v ∈ ws, A v ≠ A (u ++ [(t : Int)])) : Bfs A (ws ++ [u ++ [(t : Int)]]) i (t + 1) := by
  have hi : i < ws.length := (List.getElem?_eq_some_iff.1 hu).1
  have h0 : 0 < ws.length := by omega
  have low : ∀ {j : Nat} {x : List Int}, j ≤ i → (ws ++ [u ++ [(t : Int)]])[j]? = some x → ws[j]? = some x := fun {j x} hj hx => by
    rw [List.getElem?_append_left (by omega)] at hx
    exact hx
  refine ⟨?_, ?_, ?_, ?_, ?_, ?_, ?_⟩
  · rw [List.getElem?_append_left h0]; exact h.root
  · rw [List.pairwise_append]
    refine ⟨h.sorted, List.pairwise_singleton _ _, fun x hx y hy => ?_⟩
    rw [List.mem_singleton] at hy
    subst hy
    exact h.upper u hu x hx
  · rw [List.pairwise_append]
    refine ⟨h.apart, List.pairwise_singleton _ _, fun x hx y hy => ?_⟩
    rw [List.mem_singleton] at hy
    subst hy
    exact hn x hx
  · exact fun j x hj hx => h.no j x hj (low (by omega) hx)
  · intro j x s hj hs hx hq
    have hx' := low (by omega) hx
    by_cases e' : j = i ∧ s = t
    · obtain ⟨rfl, rfl⟩ := e'
      rw [hu] at hx'
      cases hx'
      exact ⟨u ++ [(s : Int)], List.mem_append_right _ (List.mem_singleton.2 rfl), rfl, .inl rfl⟩
    · obtain ⟨v, hv, e, l⟩ := h.closed j x s (by omega) hs hx' hq
      exact ⟨v, List.mem_append_left _ hv, e, l⟩
  · intro v hv x hx
    have hv' := low (Nat.le_refl _) hv
    rw [hu] at hv'
    cases hv'
    rcases List.mem_append.1 hx with hx | hx
    · exact shLt_trans (h.upper u hu x hx) (shLt_last u (by omega))
    · rw [List.mem_singleton] at hx
      subst hx
      exact shLt_last u (by omega)
  · intro x hx
    rcases List.mem_append.1 hx with hx | hx
    · exact h.long x hx
    · exact .inr ⟨u, _, List.mem_singleton.1 hx⟩
theorem pair_at {R : List Int → List Int → Prop} {ws : List (List Int)} (h : ws.Pairwise R) {i j : Nat} {u v : List Int} (hij : i < j) (hu : ws[i]? = some u) (hv : ws[j]? = some v) : R u v := by
  obtain ⟨h1, e1⟩ := List.getElem?_eq_some_iff.1 hu
  obtain ⟨h2, e2⟩ := List.getElem?_eq_some_iff.1 hv
  have := List.pairwise_iff_getElem.1 h i j h1 h2 hij
  rw [e1, e2] at this
  exact this
theorem Bfs.next {A : List Int → Nat → Prop} {ws : List (List Int)} {i : Nat} (h : Bfs A ws i 16) {u : List Int} (hu : ws[i]? = some u) (hn : ¬ A u 1) : Bfs A ws (i + 1) 0 where
  root := h.root
  sorted := h.sorted
  apart := h.apart
  no := fun j v hj hv => by
    by_cases e : j = i
    · subst e
      rw [hu] at hv
      cases hv
      exact hn
    · exact h.no j v (by omega) hv
  closed := fun j v s hj hs hv hq => h.closed j v s (by omega) hs hv hq
  upper := fun v hv x hx => by
    have huv := pair_at h.sorted (Nat.lt_succ_self i) hu hv
    have hxu := h.upper u hu x hx
    exact shLt_trans hxu (shLt_snoc _ _ huv)
  long := h.long
/-- Some word that is not done yet is no greater than any that comes to the end. -/
theorem Bfs.ahead {A : List Int → Nat → Prop} {ws : List (List Int)} {i : Nat} (h : Bfs A ws i 0) (hA : ∀ u v x, A u = A v → A (u ++ [x]) = A (v ++ [x])) (hs : ∀ u x, (∃ q, A (u ++ [x]) q) → 0 ≤ x ∧ x < 16) (hp : ∀ u v, (∃ q, A (u ++ v) q) → ∃ q, A u q) {ys : List Int} (hy : A ys 1) :
    ∃ (k : Nat) (v : List Int), i ≤ k ∧ ws[k]? = some v ∧ shLe v ys := by
  have go : ∀ (r u : List Int), u ++ r = ys → (∃ (j : Nat) (v : List Int), j < i ∧ ws[j]? = some v ∧ A v = A u ∧ shLe v u) → ∃ (k : Nat) (v : List Int), i ≤ k ∧ ws[k]? = some v ∧ shLe v ys := by
    intro r
    induction r with
    | nil =>
      rintro u e ⟨j, v, hj, hv, ev, _⟩
      rw [List.append_nil] at e
      subst e
      exact (h.no j v hj hv (by rw [ev]; exact hy)).elim
    | cons x r ih =>
      rintro u e ⟨j, v, hj, hv, ev, lv⟩
      have hq : ∃ q, A (u ++ [x]) q := hp (u ++ [x]) r ⟨1, by rw [List.append_assoc, List.singleton_append, e]; exact hy⟩
      obtain ⟨x0, x1⟩ := hs u x hq
      obtain ⟨s, rfl⟩ : ∃ s : Nat, x = (s : Int) := ⟨x.toNat, by omega⟩
      have e1 := hA v u (s : Int) ev
      obtain ⟨v', hv', ev', lv'⟩ := h.closed j v s (.inl hj) (by omega) hv (by rw [e1]; exact hq)
      have l2 : shLe v' (u ++ [(s : Int)]) := shLe_trans lv' (shLe_snoc _ lv)
      obtain ⟨k, hk⟩ := List.getElem?_of_mem hv'
      by_cases hki : k < i
      · exact ih (u ++ [(s : Int)]) (by rw [List.append_assoc, List.singleton_append]; exact e) ⟨k, v', hki, hk, by rw [ev', e1], l2⟩
      · refine ⟨k, v', by omega, hk, shLe_trans l2 ?_⟩
        have := shLe_prefix (u ++ [(s : Int)]) r
        rw [List.append_assoc, List.singleton_append, e] at this
        exact this
  by_cases hi : 0 < i
  · exact go ys [] rfl ⟨0, [], hi, h.root, rfl, .inl rfl⟩
  · exact ⟨0, [], by omega, h.root, shLe_prefix [] ys⟩
theorem Bfs.found {A : List Int → Nat → Prop} {ws : List (List Int)} {i : Nat} (h : Bfs A ws i 0) (hA : ∀ u v x, A u = A v → A (u ++ [x]) = A (v ++ [x])) (hs : ∀ u x, (∃ q, A (u ++ [x]) q) → 0 ≤ x ∧ x < 16) (hp : ∀ u v, (∃ q, A (u ++ v) q) → ∃ q, A u q) {u : List Int} (hu : ws[i]? = some u) {ys : List Int} (hy : A ys 1) : shLe u ys := by
  obtain ⟨k, v, hk, hv, l⟩ := h.ahead hA hs hp hy
  by_cases e : k = i
  · subst e
    rw [hu] at hv
    cases hv
    exact l
  · exact shLe_trans (.inr (pair_at h.sorted (by omega) hu hv)) l
theorem Bfs.none {A : List Int → Nat → Prop} {ws : List (List Int)} {i : Nat} (h : Bfs A ws i 0) (hA : ∀ u v x, A u = A v → A (u ++ [x]) = A (v ++ [x])) (hs : ∀ u x, (∃ q, A (u ++ [x]) q) → 0 ≤ x ∧ x < 16) (hp : ∀ u v, (∃ q, A (u ++ v) q) → ∃ q, A u q) (hi : ws.length ≤ i) {ys : List Int} (hy : A ys 1) : False := by
  obtain ⟨k, v, hk, hv, _⟩ := h.ahead hA hs hp hy
  have := (List.getElem?_eq_some_iff.1 hv).1
  omega

/-- A set of places as a number. -/
noncomputable def code (P : Nat → Prop) : List Nat → Nat
  | [] => 0
  | q :: l => (open Classical in if P q then 1 else 0) + 2 * code P l
theorem code_lt (P : Nat → Prop) : ∀ l : List Nat, code P l < 2 ^ l.length := by
  intro l
  induction l with
  | nil => exact Nat.one_pos
  | cons q l ih =>
    rw [code, List.length_cons, Nat.pow_succ]
    split <;> omega
theorem code_same {P Q : Nat → Prop} : ∀ {l : List Nat}, code P l = code Q l → ∀ q ∈ l, P q ↔ Q q := by
  intro l
  induction l with
  | nil => intro _ q hq; cases hq
  | cons a l ih =>
    intro h q hq
    rw [code, code] at h
    have h2 : code P l = code Q l ∧ (P a ↔ Q a) := by
      by_cases hp : P a
      · by_cases hq : Q a
        · rw [if_pos hp, if_pos hq] at h; exact ⟨by omega, by simp [hp, hq]⟩
        · rw [if_pos hp, if_neg hq] at h; omega
      · by_cases hq : Q a
        · rw [if_neg hp, if_pos hq] at h; omega
        · rw [if_neg hp, if_neg hq] at h; exact ⟨by omega, by simp [hp, hq]⟩
    rcases List.mem_cons.1 hq with rfl | hq
    · exact h2.2
    · exact ih h2.1 q hq
theorem few_nats : ∀ (m : Nat) (l : List Nat), l.Nodup → (∀ x ∈ l, x < m) → l.length ≤ m := by
  intro m
  induction m with
  | zero =>
    intro l _ h
    cases l with
    | nil => exact Nat.le_refl _
    | cons a r => exact absurd (h a (List.mem_cons_self ..)) (Nat.not_lt_zero _)
  | succ m ih =>
    intro l hd h
    have h1 := ih (l.erase m) (hd.sublist List.erase_sublist) (fun x hx => by
      rw [hd.mem_erase_iff] at hx
      have := h x hx.2
      omega)
    have h2 := List.length_erase (a := m) (l := l)
    by_cases hm : m ∈ l
    · rw [if_pos hm] at h2; omega
    · rw [if_neg hm] at h2; omega
/-- The words known are few: what comes behind a type is told by the few places nx. -/
theorem Bfs.few {A : List Int → Nat → Prop} {ws : List (List Int)} {i t : Nat} (h : Bfs A ws i t) (nx : List Nat) (G : List Int → Nat → Prop) (hG : ∀ u v x y, (∀ q ∈ nx, G (u ++ [x]) q ↔ G (v ++ [y]) q) → A (u ++ [x]) = A (v ++ [y])) : ws.length ≤ 2 ^ nx.length + 1 := by
  cases ws with
  | nil => exact Nat.zero_le _
  | cons w0 r =>
    obtain rfl : w0 = [] := by have := h.root; simpa using this
    have hl : ∀ u ∈ r, ∃ v x, u = v ++ [x] := fun u hu => by
      rcases h.long u (List.mem_cons_of_mem _ hu) with rfl | h'
      · exact (shLt_irr [] ((List.pairwise_cons.1 h.sorted).1 [] hu)).elim
      · exact h'
    have hd : (r.map fun u => code (G u) nx).Nodup := by
      unfold List.Nodup
      rw [List.pairwise_map]
      refine List.Pairwise.imp_of_mem ?_ (List.pairwise_cons.1 h.apart).2
      intro u v hu hv hne he
      obtain ⟨u', x, rfl⟩ := hl u hu
      obtain ⟨v', y, rfl⟩ := hl v hv
      exact hne (hG u' v' x y (code_same he))
    have := few_nats (2 ^ nx.length) _ hd (fun x hx => by
      obtain ⟨u, _, rfl⟩ := List.mem_map.1 hx
      exact code_lt _ _)
    rw [List.length_map] at this
    rw [List.length_cons]
    omega
end Go.Proofs.YtofkiaeocfpkeaaGreatDoor

/- Best: what reg.Fill answers is the least of all words that make a word one of the language: the shortest, and of them the first type by type. -/
namespace Go.Proofs.YtofkiaeocfpkeaaGreatDoor
open Go.RowKit

theorem low_step {F : List Place} (hF : wf F) {S : Nat → Prop} {m : Nat} (hm : ∀ p, S p → m + 1 ≤ leastAt F p) (t : Int) : ∀ p, stepS F S t p → m ≤ leastAt F p := by
  rintro r ⟨a, y, s, k, ha, hy, hty, hs, hv⟩
  obtain ⟨q', g1, _, g3⟩ := step_at hF hy (takes_ne hty)
  rw [g1] at hs
  cases hs
  have e1 := hm a ha
  rw [leastAt_some hy] at e1
  have e2 := via_least hF hv
  omega
/-- No word that comes to the end is shorter than what the places need. -/
theorem low_word {F : List Place} (hF : wf F) : ∀ (ys : List Int) (S : Nat → Prop) (m : Nat), (∀ p, S p → m ≤ leastAt F p) → (ys.foldl (stepS F) S) 0 → m ≤ ys.length := by
  intro ys
  induction ys with
  | nil =>
    intro S m hm h
    have := hm 0 h
    rw [leastAt_some hF.1] at this
    exact this
  | cons y r ih =>
    intro S m hm h
    cases m with
    | zero => exact Nat.zero_le _
    | succ m =>
      have := ih (stepS F S y) m (low_step hF hm y) h
      rw [List.length_cons]
      omega
/-- What is taken greedily is the least. -/
theorem greedy_least {F : List Place} (hF : wf F) : ∀ (m : Nat) (S : Nat → Prop) (xs : List Int), Shut1 F S → MinS F S m → Greedy F m S xs → xs.length = m → ∀ ys, (ys.foldl (stepS F) S) 0 → shLe xs ys := by
  intro m
  induction m with
  | zero =>
    intro S xs _ _ h _ ys _
    have h' : xs = [] := h
    rw [h']
    exact shLe_prefix [] ys
  | succ m ih =>
    rintro S xs hS hm ⟨j, r, rfl, ⟨p, x, hp, hx, hl, hb⟩, hno, hr⟩ hlen ys hy
    have hlen' : r.length = m := by rw [List.length_cons] at hlen; omega
    have hj : j < 16 ∨ ¬ j < 16 := Nat.lt_or_ge j 16 |>.imp id (fun h => by omega)
    cases ys with
    | nil =>
      have := (min_zero hF hS hm).2 hy
      omega
    | cons y q =>
      have hq := low_word hF (y :: q) S (m + 1) hm.2 hy
      rw [List.length_cons] at hq
      by_cases hql : q.length = m
      · -- as long: some place on a shortest way takes y
        have hex : ∃ p x, S p ∧ F[p]? = some x ∧ takes x.1 y = true ∧ x.2.2 = m + 1 := by
          refine Classical.byContradiction fun hc => ?_
          have hlow : ∀ p, stepS F S y p → m + 1 ≤ leastAt F p := by
            rintro r' ⟨a, z, s, k, ha, hz, htz, hs, hv⟩
            obtain ⟨q', g1, _, g3⟩ := step_at hF hz (takes_ne htz)
            rw [g1] at hs
            cases hs
            have e1 := hm.2 a ha
            rw [leastAt_some hz] at e1
            have e2 := via_least hF hv
            have e3 : z.2.2 ≠ m + 1 := fun e => hc ⟨a, z, ha, hz, htz, e⟩
            omega
          have := low_word hF q (stepS F S y) (m + 1) hlow hy
          omega
        obtain ⟨p', x', hp', hx', ht', hl'⟩ := hex
        have hty : 0 ≤ y ∧ y < 16 ∧ x'.1.testBit y.toNat = true := by
          unfold takes at ht'
          simp only [Bool.and_eq_true, decide_eq_true_eq] at ht'
          exact ⟨ht'.1.1, ht'.1.2, ht'.2⟩
        have hjy : (j : Int) ≤ y := by
          refine Classical.byContradiction fun hc => ?_
          exact hno y.toNat (by omega) ⟨p', x', hp', hx', hl', hty.2.2⟩
        rcases Int.lt_or_eq_of_le hjy with hlt | heq
        · exact .inr (.inr ⟨by rw [List.length_cons, List.length_cons, hlen', hql], .inl hlt⟩)
        · subst heq
          have hmin := min_step hF hm hp' hx' ht' hl'
          rcases ih (stepS F S (j : Int)) r (stepS_shut _ _ _) hmin hr hlen' q hy with rfl | hs
          · exact .inl rfl
          · refine .inr (.inr ⟨by rw [List.length_cons, List.length_cons, hlen', hql], .inr ⟨rfl, ?_⟩⟩)
            rcases hs with hs | hs
            · omega
            · exact hs.2
      · exact .inr (.inl (by rw [List.length_cons, List.length_cons]; omega))
/-- The least of all that makes zs a word. -/
def BestD (gs : List Grp) (n : Nat) (t : DataW Unit) (zs xs : List Int) : Prop := LangD gs n t (zs ++ xs) ∧ ∀ ys, LangD gs n t (zs ++ ys) → shLe xs ys
theorem best_one {gs : List Grp} {n : Nat} {t : DataW Unit} {zs xs ys : List Int} (h1 : BestD gs n t zs xs) (h2 : BestD gs n t zs ys) : xs = ys := shLe_anti (h1.2 ys h2.1) (h2.2 xs h1.1)
/-- What Fill says, in short. -/
def FilledB (gs : List Grp) (n : Nat) (t : DataW Unit) (zs : List Int) (w w' : World) (e : Ending) : Prop :=
  Below w.heap.size w w' ∧ ((¬ PreD gs n t zs ∧ e = .returned (.tuple #[.slice none 0 0, .bool false])) ∨ (PreD gs n t zs ∧ ∃ (a : Option Addr) (c : Nat) (xs : List Int), e = .returned (.tuple #[.slice a xs.length c, .bool true]) ∧ Ints w' a xs.length xs ∧ BestD gs n t zs xs))
theorem filled_best {gs : List Grp} {n : Nat} {t : DataW Unit} {zs : List Int} {w w' : World} {e : Ending} (hc : chk n t gs = 0) (h : Filled gs n t zs w w' e) : FilledB gs n t zs w w' e := by
  refine ⟨h.1, ?_⟩
  rcases h.2 with h2 | ⟨hp, a, c, xs, m, h1, h2, h3, h4, h5, h6, h7, h8⟩
  · exact .inl h2
  · refine .inr ⟨hp, a, c, xs, h1, h2, h8, fun ys hy => ?_⟩
    refine greedy_least (plan_sound hc).1.wf m _ xs (afterS_shut (startS_shut _ _) _) h6 h7 h4 ys ?_
    have := (after_lang hc (zs ++ ys)).2 hy
    unfold afterS at this ⊢
    rw [List.foldl_append] at this
    exact this
end Go.Proofs.YtofkiaeocfpkeaaGreatDoor

/- HouseE: what the house's expressions say of words; what Check of the house's answers of the least documents. -/
namespace Go.Proofs.YtofkiaeocfpkeaaGreatDoor
open Go.RowKit

theorem pow_ones {P : Int → Prop} : ∀ (m : Nat) (w : List Int), LPow (fun v => ∃ a, v = [a] ∧ P a) m w ↔ (w.length = m ∧ ∀ a ∈ w, P a) := by
  intro m
  induction m with
  | zero =>
    intro w
    rw [LPow]
    constructor
    · rintro rfl
      exact ⟨rfl, fun a h => by cases h⟩
    · exact fun h => List.length_eq_zero_iff.1 h.1
  | succ m ih =>
    intro w
    rw [LPow]
    constructor
    · rintro ⟨u, v, rfl, ⟨a, rfl, ha⟩, hv⟩
      obtain ⟨h1, h2⟩ := (ih v).1 hv
      refine ⟨by rw [List.length_append, List.length_singleton]; omega, fun b hb => ?_⟩
      rcases List.mem_append.1 hb with hb | hb
      · rw [List.mem_singleton] at hb; subst hb; exact ha
      · exact h2 b hb
    · rintro ⟨h1, h2⟩
      cases w with
      | nil => cases h1
      | cons a r =>
        exact ⟨[a], r, rfl, ⟨a, rfl, h2 a (List.mem_cons_self ..)⟩, (ih r).2 ⟨by rw [List.length_cons] at h1; omega, fun b hb => h2 b (List.mem_cons_of_mem _ hb)⟩⟩
theorem lang_inner (gs : List Grp) (nm : ByteArray) : (fun v => ∃ x ∈ [node 1 nm []], Lang kindT (fun t => maskG gs (nameT t)) subs 199 x v) = fun v => ∃ a, v = [a] ∧ takes (maskG gs nm) a = true := by
  funext v
  refine propext ⟨?_, ?_⟩
  · rintro ⟨x, hx, h⟩
    rw [List.mem_singleton] at hx
    subst hx
    rw [Lang, if_pos (show kindT (node 1 nm []) = 1 from rfl)] at h
    exact h
  · intro h
    refine ⟨_, List.mem_singleton.2 rfl, ?_⟩
    rw [Lang, if_pos (show kindT (node 1 nm []) = 1 from rfl)]
    exact h
theorem lang_plusN (gs : List Grp) (s nm : ByteArray) (w : List Int) : LangD gs 200 (node 5 s [node 1 nm []]) w ↔ (w ≠ [] ∧ ∀ a ∈ w, takes (maskG gs nm) a = true) := by
  have e : LangD gs 200 (node 5 s [node 1 nm []]) w ↔ ∃ m, LPow (fun v => ∃ x ∈ [node 1 nm []], Lang kindT (fun t => maskG gs (nameT t)) subs 199 x v) (m + 1) w := by
    unfold LangD
    rw [Lang, if_neg (show ¬ kindT (node 5 s [node 1 nm []]) = 1 by rw [kindT_node]; decide), if_neg (show ¬ kindT (node 5 s [node 1 nm []]) = 2 by rw [kindT_node]; decide), if_neg (show ¬ kindT (node 5 s [node 1 nm []]) = 3 by rw [kindT_node]; decide), if_neg (show ¬ kindT (node 5 s [node 1 nm []]) = 4 by rw [kindT_node]; decide), if_pos (show kindT (node 5 s [node 1 nm []]) = 5 from rfl)]
    exact Iff.rfl
  rw [e, lang_inner]
  constructor
  · rintro ⟨m, h⟩
    obtain ⟨h1, h2⟩ := (pow_ones _ _).1 h
    exact ⟨fun e => (by rw [e] at h1; cases h1), h2⟩
  · rintro ⟨h1, h2⟩
    refine ⟨w.length - 1, (pow_ones _ _).2 ⟨?_, h2⟩⟩
    have : w.length ≠ 0 := fun e => h1 (List.length_eq_zero_iff.1 e)
    omega
theorem lang_starN (gs : List Grp) (s nm : ByteArray) (w : List Int) : LangD gs 200 (node 4 s [node 1 nm []]) w ↔ ∀ a ∈ w, takes (maskG gs nm) a = true := by
  have e : LangD gs 200 (node 4 s [node 1 nm []]) w ↔ ∃ m, LPow (fun v => ∃ x ∈ [node 1 nm []], Lang kindT (fun t => maskG gs (nameT t)) subs 199 x v) m w := by
    unfold LangD
    rw [Lang, if_neg (show ¬ kindT (node 4 s [node 1 nm []]) = 1 by rw [kindT_node]; decide), if_neg (show ¬ kindT (node 4 s [node 1 nm []]) = 2 by rw [kindT_node]; decide), if_neg (show ¬ kindT (node 4 s [node 1 nm []]) = 3 by rw [kindT_node]; decide), if_pos (show kindT (node 4 s [node 1 nm []]) = 4 from rfl)]
    exact Iff.rfl
  rw [e, lang_inner]
  constructor
  · rintro ⟨m, h⟩
    exact ((pow_ones _ _).1 h).2
  · intro h
    exact ⟨w.length, (pow_ones _ _).2 ⟨rfl, h⟩⟩
def gsH : List Grp := namesD houseL houseG
def blockB : ByteArray := ⟨#[98, 108, 111, 99, 107]⟩
def itemB : ByteArray := ⟨#[105, 116, 101, 109]⟩
theorem tree_block : outTree houseW = node 5 ⟨#[]⟩ [node 1 blockB []] := by kernel_rfl
theorem tree_text : outTree textS = node 4 ⟨#[]⟩ [node 1 textB []] := by kernel_rfl
theorem tree_item : outTree itemS = node 5 ⟨#[]⟩ [node 1 itemB []] := by kernel_rfl
theorem mask_block : maskG gsH blockB = 190 := by kernel_rfl
theorem mask_text : maskG gsH textB = 1 := by kernel_rfl
theorem mask_item : maskG gsH itemB = 64 := by kernel_rfl
theorem words_block (w : List Int) : LangD gsH 200 (outTree houseW) w ↔ (w ≠ [] ∧ ∀ a ∈ w, takes 190 a = true) := by rw [tree_block, lang_plusN, mask_block]
theorem words_text (w : List Int) : LangD gsH 200 (outTree textS) w ↔ ∀ a ∈ w, takes 1 a = true := by rw [tree_text, lang_starN, mask_text]
theorem words_item (w : List Int) : LangD gsH 200 (outTree itemS) w ↔ (w ≠ [] ∧ ∀ a ∈ w, takes 64 a = true) := by rw [tree_item, lang_plusN, mask_item]
/-- The house's kinds. -/
theorem house_kinds {w : World} {B : Nat} (h : MadeS w B houseW houseL houseG) : ∃ g c ng nc ks, SchAt w B g c ng nc ks gsH (treesOf houseW houseL) ∧ ks.length = 8 ∧ ∀ i, specOf ks i = ((zeroS :: houseL)[i]?).getD zeroS := by
  obtain ⟨g, c, ng, nc, ks, h1, h2⟩ := h
  refine ⟨g, c, ng, nc, ks, h1, ?_, fun i => ?_⟩
  · have := congrArg List.length h2
    rw [List.length_map] at this
    exact this
  · unfold specOf
    rw [← List.getElem?_map, h2]
theorem pre_of {n : Nat} {t : DataW Unit} {gs : List Grp} (h : chk n t gs = 0) {w v : List Int} (hl : LangD gs n t (w ++ v)) : PreD gs n t w := pre_less ⟨0, (after_lang h _).2 hl⟩
theorem long_nil {gs : List Grp} {t : DataW Unit} (h : PreD gs 200 t []) : LongD gs 200 t [] 0 := ⟨Nat.le_refl _, h, fun h => absurd h (Nat.not_lt_zero _)⟩
def openP : Tok := ⟨1, 1, 0, 0⟩
def closeT : Tok := ⟨2, 0, 0, 0⟩
theorem wordF_lang {gs : List Grp} {t : DataW Unit} {l : List Tok} {i : Int} {ps : List Int} (h : LangD gs 200 t (wordD l ps)) : wordF gs t l i ps = 2049 := by
  unfold wordF
  rw [if_pos h]
theorem faultD_fit {ks : List KindD} {gs : List Grp} {t : DataW Unit} {s : SpecD} {l : List Tok} {i : Int} (hf : ∀ p ∈ kids l i, fitsB ks s ((l[p.toNat]?).getD ⟨0, 0, 0, 0⟩) = true) : faultD ks gs t s l i = wordF gs t l i (kids l i) := by
  unfold faultD
  have key : ∀ (f j : Nat), j + f = (kids l i).length → faultK ks gs t s l i (kids l i) j f = wordF gs t l i (kids l i) := by
    intro f
    induction f with
    | zero => intro j _; rw [faultK]
    | succ f ih =>
      intro j hj
      have hm : (kids l i).getD j 0 ∈ kids l i := by
        rw [List.getD_eq_getElem?_getD, List.getElem?_eq_getElem (show j < (kids l i).length by omega)]
        exact List.getElem_mem _
      rw [faultK, if_pos (hf _ hm)]
      exact ih (j + 1) (by omega)
  exact key _ 0 (by omega)
theorem check_pp : check [openP, closeT] = (2, 0) := by decide
theorem check_nil : check [] = (0, 0) := by decide
/-- A paragraph with nothing in it may be. -/
theorem check_para {ks : List KindD} (h8 : ks.length = 8) (hs : ∀ i, specOf ks i = ((zeroS :: houseL)[i]?).getD zeroS) : checkS ks gsH (treesOf houseW houseL) [openP, closeT] = (2, 0) := by
  have k1 : kids [openP, closeT] (-1) = [0] := by decide
  have k2 : kids [openP, closeT] 0 = [] := by decide
  have f1 : faultD ks gsH ((treesOf houseW houseL).getD 0 emptyT) (specOf ks 0) [openP, closeT] (-1) = 2049 := by
    rw [faultD_fit, k1]
    · exact wordF_lang ((words_block _).2 ⟨by decide, by decide⟩)
    · intro p hp
      rw [k1, List.mem_singleton] at hp
      subst hp
      show fitsB ks (specOf ks 0) openP = true
      unfold fitsB
      rw [if_neg (by decide), if_pos (by rw [h8]; decide), hs]
      decide
  have f2 : faultAt ks gsH (treesOf houseW houseL) [openP, closeT] 0 = 2049 := by
    unfold faultAt
    have ht : typeAt [openP, closeT] ((0 : Nat) : Int) = 1 := by decide
    rw [ht, faultD_fit]
    · show wordF gsH (outTree textS) [openP, closeT] 0 (kids [openP, closeT] 0) = 2049
      rw [k2]
      exact wordF_lang ((words_text _).2 (fun a ha => by cases ha))
    · intro p hp
      have : kids [openP, closeT] ((0 : Nat) : Int) = [] := k2
      rw [this] at hp
      cases hp
  have ff : firstS ks gsH (treesOf houseW houseL) [openP, closeT] = 2049 := by
    unfold firstS
    rw [f1]
    show foldF ks gsH (treesOf houseW houseL) [openP, closeT] 0 2 2049 = 2049
    rw [foldF, if_neg (by decide), if_pos (by decide), f2, foldF, if_neg (by decide), if_neg (by decide), foldF]
    decide
  unfold checkS
  rw [check_pp, if_neg (by decide), ff, if_neg (by decide)]
  rfl
/-- Nothing may not be. -/
theorem check_none {ks : List KindD} (hck : chk 200 (outTree houseW) gsH = 0) : checkS ks gsH (treesOf houseW houseL) [] = (0, 9) := by
  have k1 : kids [] (-1) = [] := by decide
  have hpre : PreD gsH 200 (outTree houseW) [] := pre_of (v := [1]) hck ((words_block _).2 ⟨by decide, by decide⟩)
  have f1 : faultD ks gsH ((treesOf houseW houseL).getD 0 emptyT) (specOf ks 0) [] (-1) = 0 := by
    rw [faultD_fit, k1]
    · show wordF gsH (outTree houseW) [] (-1) [] = 0
      unfold wordF
      rw [show wordD [] [] = ([] : List Int) from rfl, if_neg (fun h => ((words_block _).1 h).1 rfl), begN_eq (long_nil hpre), if_neg (by decide), if_pos rfl]
      rfl
    · intro p hp
      rw [k1] at hp
      cases hp
  have ff : firstS ks gsH (treesOf houseW houseL) [] = 0 := by
    unfold firstS
    rw [f1]
    rfl
  unfold checkS
  rw [check_nil, if_neg (by decide), ff, if_pos (by decide)]
end Go.Proofs.YtofkiaeocfpkeaaGreatDoor

/- AwakeS: the statements' awake: the house's schema says of the least documents what it should. -/
namespace Go.Proofs.YtofkiaeocfpkeaaGreatDoor
open Go.RowKit

theorem lies_none : Lies none 0 0 := by
  unfold Lies
  simp
theorem toks_nil (w : World) : Toks w none 0 [] := ⟨rfl, .inl rfl⟩
theorem toks_pp (w : World) (b : Nat) (h : w.heap[b]? = some (.cells #[.int .i64 1, .int .i64 1, .int .i64 0, .int .i64 0, .int .i64 2, .int .i64 0, .int .i64 0, .int .i64 0] 62 (0, 0))) : Toks w (some ⟨b, 0, none⟩) 2 [openP, closeT] := by
  have hc := fun j => cell_of_row w b j _ _ _ h
  refine ⟨rfl, .inr ⟨b, 0, rfl, (Array.getElem?_eq_some_iff.1 h).1, fun i x hx => ?_⟩⟩
  match i, hx with
  | 0, hx => cases hx; exact ⟨hc 0, hc 1, hc 2, hc 3⟩
  | 1, hx => cases hx; exact ⟨hc 4, hc 5, hc 6, hc 7⟩
  | n + 2, hx => simp at hx
theorem house_ck {w : World} {B g c ng nc : Nat} {ks : List KindD} (h : SchAt w B g c ng nc ks gsH (treesOf houseW houseL)) (h8 : ks.length = 8) : chk 200 (outTree houseW) gsH = 0 := by
  obtain ⟨x, hx⟩ : ∃ x, ks[0]? = some x := ⟨_, List.getElem?_eq_getElem (by omega)⟩
  exact (h.trees 0 x _ hx rfl).2.2
set_option maxRecDepth 100000 in
set_option maxHeartbeats 600000 in
theorem awakes_calls (w : World) (hE : ETy w) : Calls Tryz.prog 15 #[] w fun e w' => e = .returned (.bool true) ∧ Below w.heap.size w w' := by
  have HH : Hid (∀ X, Below w.heap.size w X → Calls Tryz.prog 16 #[] X fun e w' => ∃ B, e = .returned (.pointer (some ⟨B, 0, none⟩)) ∧ MadeS w' B houseW houseL houseG ∧ Below X.heap.size X w') := fun X hX => house_calls X (hE.below hX)
  have HC1 : Hid (∀ (X : World) (B : Nat), MadeS X B houseW houseL houseG → Calls Tryz.prog 18 #[.pointer (some ⟨B, 0, none⟩), .slice (some ⟨X.heap.size, 0, none⟩) 2 2] (X.alloc (.cells #[.int .i64 1, .int .i64 1, .int .i64 0, .int .i64 0, .int .i64 2, .int .i64 0, .int .i64 0, .int .i64 0] 62)) fun e w' => e = .returned (.tuple #[.int .i64 2, .int .i64 0]) ∧ Below X.heap.size X w') := fun X B hm => by
    have hBX : Below X.heap.size X (X.alloc (.cells #[.int .i64 1, .int .i64 1, .int .i64 0, .int .i64 0, .int .i64 2, .int .i64 0, .int .i64 0, .int .i64 0] 62)) := (Below.refl _ X).alloc (Nat.le_refl _) _
    obtain ⟨g, c, ng, nc, ks, h1, h8, hs⟩ := house_kinds (hm.below hBX)
    refine (scheck_calls _ h1 (by omega) (some ⟨X.heap.size, 0, none⟩) 2 2 [openP, closeT] (toks_pp _ _ (World.alloc_heap_new X _)) (by unfold Lies; simp) (by omega) (fun _ i x hx hk => ?_)).mono ?_
    · match i, hx with
      | 0, hx => cases hx; rw [h8]; decide
      | 1, hx => cases hx; exact absurd hk (by decide)
      | n + 2, hx => simp at hx
    · rintro e w' ⟨rfl, hB⟩
      rw [check_para h8 hs]
      exact ⟨rfl, hBX.trans (hB.mono hBX.size)⟩
  have HC2 : Hid (∀ (X : World) (B : Nat), MadeS X B houseW houseL houseG → Calls Tryz.prog 18 #[.pointer (some ⟨B, 0, none⟩), .slice none 0 0] X fun e w' => e = .returned (.tuple #[.int .i64 0, .int .i64 9]) ∧ Below X.heap.size X w') := fun X B hm => by
    obtain ⟨g, c, ng, nc, ks, h1, h8, hs⟩ := house_kinds hm
    refine (scheck_calls _ h1 (by omega) none 0 0 [] (toks_nil X) lies_none (by omega) (fun _ i x hx hk => by simp at hx)).mono ?_
    rintro e w' ⟨rfl, hB⟩
    rw [check_none (house_ck h1 h8)]
    exact ⟨rfl, hB⟩
  clear hE
  go_enter Tryz.func15, Tryz.ntmps15
  go_wp2_with fail
  refine (HH.out w (Below.refl _ _)).mono ?_
  rintro e X1 ⟨B1, rfl, hm1, hB1⟩
  have HX := HC1.out X1 B1 hm1
  have HB1 := Hid.mk_ hB1
  clear hm1 hB1 HC1
  go_wp2_with fail
  refine HX.mono ?_
  rintro e X2 ⟨rfl, hB2⟩
  have HB2 := Hid.mk_ (HB1.out.trans (hB2.mono HB1.out.size))
  have HH2 := HH.out X2 HB2.out
  clear hB2 HX HB1 HH
  go_wp2_with fail
  refine HH2.mono ?_
  rintro e X3 ⟨B3, rfl, hm3, hB3⟩
  have HX3 := HC2.out X3 B3 hm3
  have HB3 := Hid.mk_ (HB2.out.trans (hB3.mono HB2.out.size))
  clear hm3 hB3 HC2 HH2 HB2
  go_wp2_with fail
  refine HX3.mono ?_
  rintro e X4 ⟨rfl, hB4⟩
  have HB4 := Hid.mk_ (HB3.out.trans (hB4.mono HB3.out.size))
  clear hB4 HX3 HB3
  go_wp2
  go_ret
  exact ⟨rfl, HB4.out⟩
end Go.Proofs.YtofkiaeocfpkeaaGreatDoor

/- FillA: schema's Fill: one of a type with what must be in it. -/
namespace Go.Proofs.YtofkiaeocfpkeaaGreatDoor
open Go.RowKit

def addD (l : List Tok) (x : Tok) : Option (List Tok) := if l.length = 2048 then none else some (l ++ [x])
def fillL (F : List Tok → Int → Option (List Tok)) : List Int → List Tok → Option (List Tok)
  | [], l => some l
  | t :: r, l => match F l t with
    | none => none
    | some l' => fillL F r l'
/-- One of a type behind tokens: the types, what must be in each. -/
def fillS (sp : Nat → SpecD) (n : Nat) (ask : Nat → Option (List Int)) : Nat → List Tok → Int → Option (List Tok)
  | 0, _, _ => none
  | f + 1, l, t =>
    if 1 ≤ t ∧ t < n then
      if (sp t.toNat).leaf = true then addD l ⟨3, t, (sp t.toNat).least, 0⟩
      else match ask t.toNat with
        | none => none
        | some ws => if f = 0 then none else match addD l ⟨1, t, (sp t.toNat).least, 0⟩ with
          | none => none
          | some l1 => match fillL (fun l t => fillS sp n ask f l t) ws l1 with
            | none => none
            | some l2 => addD l2 ⟨2, 0, 0, 0⟩
    else none
/-- The same memory, or new one. -/
def Heir (w : World) (v v' : Value) : Prop := v'.ownBlock = v.ownBlock ∨ ∃ k, w.heap.size ≤ k ∧ v'.ownBlock = some k
theorem Heir.step {w w1 : World} {v v1 v2 : Value} (h1 : Heir w v v1) (h2 : Heir w1 v1 v2) (hs : w.heap.size ≤ w1.heap.size) : Heir w v v2 := by
  rcases h2 with h2 | ⟨k, h3, h4⟩
  · rcases h1 with h1 | ⟨k, h3, h4⟩
    · exact .inl (h2.trans h1)
    · exact .inr ⟨k, h3, h2.trans h4⟩
  · exact .inr ⟨k, Nat.le_trans hs h3, h4⟩
theorem grown_step {w w1 w2 : World} {v v1 : Value} (h1 : w.grownBy w1 v.ownBlock) (hv : Heir w v v1) (h2 : w1.grownBy w2 v1.ownBlock) : w.grownBy w2 v.ownBlock := by
  refine ⟨h2.os.trans h1.os, h2.tape.trans h1.tape, h2.output.trans h1.output, Nat.le_trans h1.size h2.size, fun k hk hne => ?_⟩
  refine (h2.block k (Nat.lt_of_lt_of_le hk h1.size) (fun e => ?_)).trans (h1.block k hk hne)
  rcases hv with hv | ⟨q, h3, h4⟩
  · exact hne (e.trans hv)
  · rw [h4] at e
    injection e with e
    omega
theorem grown_any {w w' : World} (row : Option Nat) (h : Below w.heap.size w w') : w.grownBy w' row := ⟨h.os, h.tape, h.output, h.size, fun k hk _ => h.block k hk⟩
/-- What a filling leaves. -/
def FilledT (base : Nat) (v : Value) (w0 w w' : World) (e : Ending) : Option (List Tok) → Prop
  | none => w.grownBy w' v.ownBlock ∧ Below base w0 w' ∧ e = .returned (.tuple #[.slice none 0 0, .bool false])
  | some l' => w.grownBy w' v.ownBlock ∧ Below base w0 w' ∧ ∃ a c, e = .returned (.tuple #[.slice a l'.length c, .bool true]) ∧ w'.ownsRow base 62 4 (.slice a l'.length c) l'.length (flat l') ∧ Heir w v (.slice a l'.length c)
theorem addD_len {l l' : List Tok} {x : Tok} (h : addD l x = some l') (hl : l.length ≤ 2048) : l'.length ≤ 2048 := by
  unfold addD at h
  split at h
  · cases h
  · cases h
    rw [List.length_append, List.length_singleton]
    omega
theorem fillL_len {F : List Tok → Int → Option (List Tok)} (hF : ∀ l t l', F l t = some l' → l.length ≤ 2048 → l'.length ≤ 2048) : ∀ (ws : List Int) (l l' : List Tok), fillL F ws l = some l' → l.length ≤ 2048 → l'.length ≤ 2048 := by
  intro ws
  induction ws with
  | nil => intro l l' h hl; cases h; exact hl
  | cons t r ih =>
    intro l l' h hl
    rw [fillL] at h
    cases hq : F l t with
    | none => rw [hq] at h; cases h
    | some q => rw [hq] at h; exact ih q l' h (hF l t q hq hl)
theorem fillS_len {sp : Nat → SpecD} {n : Nat} {ask : Nat → Option (List Int)} : ∀ (f : Nat) (l : List Tok) (t : Int) (l' : List Tok), fillS sp n ask f l t = some l' → l.length ≤ 2048 → l'.length ≤ 2048 := by
  intro f
  induction f with
  | zero => intro l t l' h; cases h
  | succ f ih =>
    intro l t l' h hl
    rw [fillS] at h
    split at h
    · split at h
      · exact addD_len h hl
      · cases hq : ask t.toNat with
        | none => rw [hq] at h; cases h
        | some ws =>
          rw [hq] at h
          dsimp only at h
          split at h
          · cases h
          · cases ha : addD l ⟨1, t, (sp t.toNat).least, 0⟩ with
            | none => rw [ha] at h; cases h
            | some l1 =>
              rw [ha] at h
              dsimp only at h
              cases hb : fillL (fun l t => fillS sp n ask f l t) ws l1 with
              | none => rw [hb] at h; cases h
              | some l2 =>
                rw [hb] at h
                exact addD_len h (fillL_len (fun l t l' => ih l t l') ws l1 l2 hb (addD_len ha hl))
    · cases h
theorem tok_put (W : World) (base : Nat) (v : Value) (l : List Tok) (hown : W.ownsRow base 62 4 v l.length (flat l)) (x : Tok) (hlen : l.length ≤ 1000000) (hbase : base ≤ W.heap.size) (b cap : Nat) (hc : ∀ j u, (flat [x])[j]? = some u → W.cell? ((⟨b, 0, none⟩ : Addr).add j) = some u) :
    ∃ g' cap' W1, (Builtin.append_ #[36, 36] 36 #[v, .slice (some ⟨b, 0, none⟩) 1 cap]).run Tryz.prog W = .ok (.slice (some ⟨g', 0, none⟩) (l.length + 1) cap') W1 ∧ W1.ownsRow base 62 4 (.slice (some ⟨g', 0, none⟩) (l.length + 1) cap') (l ++ [x]).length (flat (l ++ [x])) ∧ W.grownBy W1 v.ownBlock ∧ Heir W v (.slice (some ⟨g', 0, none⟩) (l.length + 1) cap') := by
  obtain ⟨i0, hi, hz0, hz1, hz2⟩ := info_parts info23
  obtain ⟨v', W1, hrun, r1, r2, _, r5⟩ := run_append_own_at (P := Tryz.prog) W base 36 36 62 i0 _ 4 32 Tryz.underlying36 hi hz0 hz1 hz2 rfl (by decide) v l.length _ hown ⟨b, 0, none⟩ 1 cap (flat [x]) rfl hc (flat_one [x]) (by unfold maxLen; omega) (by omega) hbase
  rw [← flat_append] at r1
  obtain ⟨g, cap', rfl, _⟩ := owns_cell r1 (Nat.succ_pos _)
  exact ⟨g, cap', W1, hrun, by rw [List.length_append]; exact r1, r2, r5.imp id (fun e => ⟨_, Nat.le_refl _, e⟩)⟩
theorem four_new (w : World) (x : Tok) (t : TypeId) : ∀ j u, (flat [x])[j]? = some u → (w.alloc (.cells #[.int .i64 x.k, .int .i64 x.t, .int .i64 x.n, .int .i64 x.m] t)).cell? ((⟨w.heap.size, 0, none⟩ : Addr).add j) = some u := by
  intro j u hj
  have hadd : (⟨w.heap.size, 0, none⟩ : Addr).add j = ⟨w.heap.size, j, none⟩ := by unfold Addr.add; split <;> simp_all
  rw [hadd, cell_of_row _ _ j _ _ _ (World.alloc_heap_new w _)]
  show ([.int .i64 x.k, .int .i64 x.t, .int .i64 x.n, .int .i64 x.m] : List Value).toArray[j]? = some u
  rw [List.getElem?_toArray]
  exact hj
set_option maxRecDepth 100000 in
set_option maxHeartbeats 400000 in
theorem added_calls (base : Nat) (w0 w : World) (hB : Below base w0 w) (a : Option Addr) (c : Nat) (l : List Tok) (hown : w.ownsRow base 62 4 (.slice a l.length c) l.length (flat l)) (hlen : l.length ≤ 2048) (hbase : base ≤ w.heap.size) (x : Tok) :
    Calls Tryz.prog 116 #[.slice a l.length c, tokV x] w fun e w' => FilledT base (.slice a l.length c) w0 w w' e (addD l x) := by
  unfold tokV
  have hB1 : Below w.heap.size w (w.alloc (.cells #[.int .i64 x.k, .int .i64 x.t, .int .i64 x.n, .int .i64 x.m] 62)) := (Below.refl _ w).alloc (Nat.le_refl _) _
  by_cases hf : l.length = 2048
  · have HA : Hid (addD l x = none) := by show addD l x = none; unfold addD; rw [if_pos hf]
    have hd : ((l.length : Int) == 2048) = true := by rw [hf]; rfl
    have HE : Hid (w.grownBy (w.alloc (.cells #[.int .i64 x.k, .int .i64 x.t, .int .i64 x.n, .int .i64 x.m] 62)) (Value.slice a l.length c).ownBlock ∧ Below base w0 (w.alloc (.cells #[.int .i64 x.k, .int .i64 x.t, .int .i64 x.n, .int .i64 x.m] 62))) := ⟨grown_any _ hB1, hB.trans (hB1.mono hbase)⟩
    have hli : (l.length : Int) ≤ 2048 := by omega
    clear hB hB1 hown hf
    go_enter Tryz.func116, Tryz.ntmps116
    go_wp2
    go_ret2
    rw [HA.out]
    exact ⟨HE.out.1, HE.out.2, rfl⟩
  · have HA : Hid (addD l x = some (l ++ [x])) := by show addD l x = some (l ++ [x]); unfold addD; rw [if_neg hf]
    have hd : ((l.length : Int) == 2048) = false := by rw [beq_eq_false_iff_ne]; omega
    have hB2 : Below w.heap.size w ((w.alloc (.cells #[.int .i64 x.k, .int .i64 x.t, .int .i64 x.n, .int .i64 x.m] 62)).alloc (.cells #[.int .i64 x.k, .int .i64 x.t, .int .i64 x.n, .int .i64 x.m] 62)) := hB1.alloc hB1.size _
    have hown2 := owns_same (w' := (w.alloc (.cells #[.int .i64 x.k, .int .i64 x.t, .int .i64 x.n, .int .i64 x.m] 62)).alloc (.cells #[.int .i64 x.k, .int .i64 x.t, .int .i64 x.n, .int .i64 x.m] 62)) hown fun k hk => hB2.block k (owns_lt hown hk).1
    obtain ⟨g', cap', W1, hrun, hown3, hgr, hheir⟩ := tok_put _ base _ l hown2 x (by omega) (by have := hB2.size; omega) (w.alloc (.cells #[.int .i64 x.k, .int .i64 x.t, .int .i64 x.n, .int .i64 x.m] 62)).heap.size 1 (four_new _ x _)
    rw [World.size_alloc] at hrun
    have HRUN := Hid.mk_ hrun
    have hBZ := hB.trans (hB2.mono hbase)
    have HE : Hid (w.grownBy W1 (Value.slice a l.length c).ownBlock ∧ Below base w0 W1 ∧ W1.ownsRow base 62 4 (.slice (some ⟨g', 0, none⟩) (l ++ [x]).length cap') (l ++ [x]).length (flat (l ++ [x])) ∧ Heir w (.slice a l.length c) (.slice (some ⟨g', 0, none⟩) (l ++ [x]).length cap')) := by
      have e : (l ++ [x]).length = l.length + 1 := by rw [List.length_append, List.length_singleton]
      rw [e] at hown3 ⊢
      exact ⟨grown_step (grown_any _ hB2) (.inl rfl) hgr, hBZ.grown hgr (by have := hB2.size; omega) (fun k e => owned_base hown e), hown3, hheir.imp id (fun ⟨k, h1, h2⟩ => ⟨k, Nat.le_trans hB2.size h1, h2⟩)⟩
    have hli : (l.length : Int) ≤ 2048 := by omega
    clear hB hB1 hB2 hown hown2 hrun hown3 hgr hBZ hf hheir
    go_enter Tryz.func116, Tryz.ntmps116
    go_wp2_with (first
      | (at_builtin; refine wpList_run_append rfl (.tmp 9) (.tmp 11) 36 rfl _ _ _ _ rfl rfl HRUN.out ?_)
      | fail)
    go_ret2
    rw [HA.out]
    exact ⟨HE.out.1, HE.out.2.1, _, _, by rw [List.length_append, List.length_singleton]; rfl, HE.out.2.2⟩
end Go.Proofs.YtofkiaeocfpkeaaGreatDoor

/- FillB: schema's fillBehind: one of a type, with what must be in it, behind tokens. -/
namespace Go.Proofs.YtofkiaeocfpkeaaGreatDoor
open Go.RowKit

theorem ints_grown {W W' : World} {b n : Nat} {v v2 : Value} {xs : List Value} {base m : Nat} {ys : List Value} (h : W.ownsRow b 3 1 v n xs) (h2 : W.ownsRow base 62 4 v2 m ys) (hg : W.grownBy W' v2.ownBlock) : W'.ownsRow b 3 1 v n xs := by
  refine owns_same h fun k hk => ?_
  obtain ⟨hl, cur, hcur⟩ := owns_lt h hk
  refine hg.block k hl (fun e => ?_)
  obtain ⟨_, cur', hcur'⟩ := owns_lt h2 e.symm
  rw [hcur'] at hcur
  injection hcur with hk
  injection hk with _ h2 _
  exact absurd h2 (by decide)
/-- What reg.Fill is asked at each type. -/
def Asks (gs : List Grp) (ts : List (DataW Unit)) (ask : Nat → Option (List Int)) : Prop := ∀ (i : Nat) (t : DataW Unit), ts[i]? = some t → (ask i = none → ¬ PreD gs 200 t []) ∧ ∀ xs, ask i = some xs → PreD gs 200 t [] ∧ BestD gs 200 t [] xs
set_option maxRecDepth 100000 in
set_option maxHeartbeats 800000 in
theorem fillbehind_step {B g c0 ng nc : Nat} {ks : List KindD} {gs : List Grp} {ts : List (DataW Unit)} (w0 : World) (h : SchAt w0 B g c0 ng nc ks gs ts) (h0 : 0 < ks.length) (hT : Tab w0) (hw0 : 0 < w0.heap.size) (sp : Nat → SpecD) (hsp : ∀ i, specOf ks i = sp i) (ask : Nat → Option (List Int)) (hask : Asks gs ts ask) (n : Nat) (hn : n = ks.length) (f : Nat) (hf : f ≤ 32)
    (ih : f ≠ 0 → ∀ (w : World) (a : Option Addr) (c : Nat) (l : List Tok) (t : Int), Below w0.heap.size w0 w → w.ownsRow w0.heap.size 62 4 (.slice a l.length c) l.length (flat l) → l.length ≤ 2048 → Calls Tryz.prog 76 #[.pointer (some ⟨B, 0, none⟩), .slice a l.length c, .int .i64 t, .int .i64 ((32 - (f - 1) : Nat) : Int)] w fun e w' => FilledT w0.heap.size (.slice a l.length c) w0 w w' e (fillS sp n ask f l t))
    (w : World) (a : Option Addr) (c : Nat) (l : List Tok) (tt : Int) (hB : Below w0.heap.size w0 w) (hown : w.ownsRow w0.heap.size 62 4 (.slice a l.length c) l.length (flat l)) (hlen : l.length ≤ 2048) : Calls Tryz.prog 76 #[.pointer (some ⟨B, 0, none⟩), .slice a l.length c, .int .i64 tt, .int .i64 ((32 - f : Nat) : Int)] w fun e w' => FilledT w0.heap.size (.slice a l.length c) w0 w w' e (fillS sp n ask (f + 1) l tt) := by
  have HTO := typeof_calls w (h.below hB) h0 tt
  by_cases hin : 1 ≤ tt ∧ tt < ks.length
  · rw [if_pos hin] at HTO
    obtain ⟨t, rfl⟩ : ∃ t : Nat, tt = (t : Int) := ⟨tt.toNat, by omega⟩
    rw [Int.toNat_natCast] at HTO
    obtain ⟨x, hx⟩ : ∃ x, ks[t]? = some x := ⟨_, List.getElem?_eq_getElem (by omega)⟩
    have hspx : x.1 = sp t := by rw [← hsp t]; exact (specOf_some hx).symm
    have HGR : Hid (∀ X, Below w.heap.size w X → w.grownBy X (Value.slice a l.length c).ownBlock) := fun X hX => grown_any _ hX
    have HBB := Hid.mk_ hB
    have HOWN : Hid (∀ X, Below w.heap.size w X → X.ownsRow w0.heap.size 62 4 (.slice a l.length c) l.length (flat l)) := fun X hX => owns_same hown fun k hk => hX.block k (owns_lt hown hk).1
    have HADD : Hid (∀ X, Below w.heap.size w X → ∀ y : Tok, Calls Tryz.prog 116 #[.slice a l.length c, tokV y] X fun e w' => FilledT w0.heap.size (.slice a l.length c) w0 X w' e (addD l y)) := fun X hX y => added_calls w0.heap.size w0 X (hB.trans (hX.mono hB.size)) a c l (owns_same hown fun k hk => hX.block k (owns_lt hown hk).1) hlen (Nat.le_trans hB.size hX.size) y
    have HLEN := Hid.mk_ hlen
    have HIH := Hid.mk_ ih
    have HSPX : Hid (∀ X, Below w.heap.size w X → X.cell? ⟨g, t * 10, none⟩ = some (.string (sp t).name) ∧ X.cell? ⟨g, t * 10 + 1, none⟩ = some (.string (sp t).expr) ∧ X.cell? ⟨g, t * 10 + 2, none⟩ = some (.bool (sp t).leaf) ∧ X.cell? ⟨g, t * 10 + 3, none⟩ = some (.int .i64 (sp t).marks) ∧ X.cell? ⟨g, t * 10 + 4, none⟩ = some (.int .i64 (sp t).least) ∧ True) := fun X hX => by
      obtain ⟨⟨h1, h2, h3, h4, h5, _, _⟩, _⟩ := (h.below (hB.trans (hX.mono hB.size))).kinds t x hx
      rw [hspx] at h1 h2 h3 h4 h5
      exact ⟨h1, h2, h3, h4, h5, trivial⟩
    have hfs : fillS sp n ask (f + 1) l (t : Int) = if (sp t).leaf = true then addD l ⟨3, (t : Int), (sp t).least, 0⟩ else match ask t with | none => none | some ws => if f = 0 then none else match addD l ⟨1, (t : Int), (sp t).least, 0⟩ with | none => none | some l1 => match fillL (fun l t => fillS sp n ask f l t) ws l1 with | none => none | some l2 => addD l2 ⟨2, 0, 0, 0⟩ := by
      rw [fillS, if_pos (by rw [hn]; exact hin), Int.toNat_natCast] <;> rfl
    obtain ⟨p0, p1, p2, p3, p4, _⟩ := HSPX.out w (Below.refl _ _)
    by_cases hleaf : (sp t).leaf = true
    · rw [if_pos hleaf] at hfs
      rw [hleaf] at p2
      have HAD := HADD.out w (Below.refl _ _) ⟨3, (t : Int), (sp t).least, 0⟩
      unfold tokV at HAD
      dsimp only at HAD
      have HRR := Hid.mk_ hfs
      obtain ⟨RR, hRR⟩ : ∃ RR, addD l ⟨3, (t : Int), (sp t).least, 0⟩ = RR := ⟨_, rfl⟩
      rw [hRR] at HAD
      have HQ9 := Hid.mk_ hRR
      clear hRR
      clear h hT hsp hask hB hown hlen ih hx hspx hfs hin HADD HIH HOWN HSPX
      go_enter Tryz.func76, Tryz.ntmps76
      go_wp2_with fail
      refine HTO.mono ?_
      rintro e W ⟨rfl, rfl⟩
      go_wp2_with fail
      refine HAD.mono ?_
      intro e W9 hres
      cases RR with
      | none =>
        obtain ⟨hg8, hB8, rfl⟩ := hres
        have HN : Hid (W.grownBy W9 (Value.slice a l.length c).ownBlock ∧ Below w0.heap.size w0 W9) := ⟨hg8, hB8⟩
        clear hg8 hB8 HAD
        go_wp2
        go_ret2
        rw [HRR.out, HQ9.out]
        exact ⟨HN.out.1, HN.out.2, rfl⟩
      | some l9 =>
        obtain ⟨hg8, hB8, a8, c8, rfl, hown8, hheir8⟩ := hres
        have HN : Hid (W.grownBy W9 (Value.slice a l.length c).ownBlock ∧ Below w0.heap.size w0 W9 ∧ W9.ownsRow w0.heap.size 62 4 (.slice a8 l9.length c8) l9.length (flat l9) ∧ Heir W (.slice a l.length c) (.slice a8 l9.length c8)) := ⟨hg8, hB8, hown8, hheir8⟩
        clear hg8 hB8 hown8 hheir8 HAD
        go_wp2
        go_ret2
        rw [HRR.out, HQ9.out]
        exact ⟨HN.out.1, HN.out.2.1, a8, c8, rfl, HN.out.2.2⟩
    · have hleaf' : (sp t).leaf = false := by simpa using hleaf
      rw [if_neg hleaf] at hfs
      rw [hleaf'] at p2
      have HRN : Hid (ask t = none → fillS sp n ask (f + 1) l (t : Int) = none) := fun e => by rw [hfs, e]
      have HRZ : Hid (f = 0 → ∀ ws, ask t = some ws → fillS sp n ask (f + 1) l (t : Int) = none) := fun e ws e2 => by rw [hfs, e2]; dsimp only; rw [if_pos e]
      have HRA : Hid (f ≠ 0 → ∀ ws, ask t = some ws → addD l ⟨1, (t : Int), (sp t).least, 0⟩ = none → fillS sp n ask (f + 1) l (t : Int) = none) := fun e ws e2 e3 => by rw [hfs, e2]; dsimp only; rw [if_neg e, e3]
      have HRB : Hid (f ≠ 0 → ∀ ws, ask t = some ws → ∀ l1, addD l ⟨1, (t : Int), (sp t).least, 0⟩ = some l1 → fillS sp n ask (f + 1) l (t : Int) = match fillL (fun l t => fillS sp n ask f l t) ws l1 with | none => none | some l2 => addD l2 ⟨2, 0, 0, 0⟩) := fun e ws e2 l1 e3 => by rw [hfs, e2]; dsimp only; rw [if_neg e, e3]
      obtain ⟨tr, htr⟩ : ∃ tr, ts[t]? = some tr := ⟨_, List.getElem?_eq_getElem (by have := h.len; omega)⟩
      obtain ⟨⟨xs0, tk, tn, ta, tl, tc⟩, hxx⟩ : ∃ y, x = y := ⟨_, rfl⟩
      subst hxx
      obtain ⟨gl, hgl⟩ : ∃ gl, gl = gs.length := ⟨_, rfl⟩
      have HTC : Hid (∀ X, Below w.heap.size w X → X.cell? ⟨g, t * 10 + 7, none⟩ = some (.int .i64 tk) ∧ X.cell? ⟨g, t * 10 + 7 + 1, none⟩ = some (.string tn) ∧ X.cell? ⟨g, t * 10 + 7 + 2, none⟩ = some (.slice ta tl tc) ∧ X.cell? ⟨B, 1, none⟩ = some (.slice (some ⟨ng, 0, none⟩) gl nc)) := fun X hX => by
        have hX0 := hB.trans (hX.mono hB.size)
        obtain ⟨_, h2, h3, h4⟩ := (h.below hX0).kinds t _ hx
        exact ⟨h2, h3, h4, by rw [hgl]; exact (h.cells X hX0).2⟩
      have HRF : Hid (∀ X, Below w.heap.size w X → Calls Tryz.prog 12 #[.agg #[.int .i64 tk, .string tn, .slice ta tl tc], .slice (some ⟨ng, 0, none⟩) gl nc, .slice none 0 0] X fun e w' => ∃ (a6 : Option Addr) (c6 : Nat) (ws : List Int) (ok6 : Bool), e = .returned (.tuple #[.slice a6 ws.length c6, .bool ok6]) ∧ (w'.ownsRow 0 3 1 (.slice a6 ws.length c6) ws.length (intsV ws) ∧ ws.length ≤ 300) ∧ ((ok6 = true → ask t = some ws) ∧ (ok6 = false → ask t = none)) ∧ Below X.heap.size X w') := fun X hX => by
        have hX0 := hB.trans (hX.mono hB.size)
        obtain ⟨hEx, hnm, hck⟩ := (h.below hX0).trees t _ tr hx htr
        rw [hgl]
        refine (fill_calls 200 tr _ (some ⟨ng, 0, none⟩) gs.length nc gs none 0 0 [] X hEx hnm (h.names.below hX0) (Ints.none0 X) hck (hT.below hX0 hw0) (Nat.lt_of_lt_of_le hw0 hX0.size)).mono ?_
        intro e w' hF
        obtain ⟨ha1, ha2⟩ := hask t tr htr
        have hbest := filled_best hck hF
        rcases hF.2 with ⟨hp, rfl⟩ | ⟨hp, a6, c6, ws, m, rfl, hi, ho, hm1, hm2, hmin, hgreedy, hlang⟩
        · refine ⟨none, 0, [], false, rfl, ⟨World.ownsRow_nil .., by decide⟩, ⟨fun e => (by cases e), fun _ => ?_⟩, hF.1⟩
          cases hq : ask t with
          | none => rfl
          | some ys => exact absurd (ha2 ys hq).1 hp
        · refine ⟨a6, c6, ws, true, rfl, ⟨ho, by omega⟩, ⟨fun _ => ?_, fun e => (by cases e)⟩, hF.1⟩
          have hB1 : BestD gs 200 tr [] ws := by
            refine ⟨hlang, fun ys hy => ?_⟩
            refine greedy_least (plan_sound hck).1.wf m _ ws (afterS_shut (startS_shut _ _) _) hmin hgreedy hm1 ys ?_
            have := (after_lang hck ([] ++ ys)).2 hy
            unfold afterS at this ⊢
            rw [List.foldl_append] at this
            exact this
          cases hq : ask t with
          | none => exact absurd hp (ha1 hq)
          | some ys => rw [best_one (ha2 ys hq).2 hB1]
      have hdi : ((32 - f : Nat) : Int) ≤ 32 := by omega
      clear h hT hsp hask hB hown hlen ih hx hspx hfs hin htr hgl
      go_enter Tryz.func76, Tryz.ntmps76
      go_wp2_with fail
      refine HTO.mono ?_
      rintro e W ⟨rfl, rfl⟩
      go_wp2_with fail
      refine wp_region_held_drew (S := fun X => Below W.heap.size W X) hmx (Below.refl _ _).drew (fun hS => ?_)
      refine takeD 0 (some 36) (v := ?_) rfl rfl (by kernel_rfl) (by kernel_rfl) (by kernel_rfl) (fun _ _ _ h => h) (Or.inl ⟨by rfl, ?_⟩) hS ?_
      rotate_left
      · intro w hSw
        try go_simp
        with_reducible rfl
      try simp only [Act.put, List.setIfInBounds_toArray, List.set_cons_zero, List.set_cons_succ]
      refine takeD 1 (some 37) (v := ?_) rfl rfl (by kernel_rfl) (by kernel_rfl) (by kernel_rfl) (fun _ _ _ h => h) (Or.inl ⟨by rfl, ?_⟩) hS ?_
      rotate_left
      · intro w hSw
        go_simp
        with_reducible rfl
      try simp only [Act.put, List.setIfInBounds_toArray, List.set_cons_zero, List.set_cons_succ]
      refine takeD 2 (some 38) (v := ?_) rfl rfl (by kernel_rfl) (by kernel_rfl) (by kernel_rfl) (fun _ _ _ h => h) (Or.inl ⟨by rfl, ?_⟩) hS ?_
      rotate_left
      · intro w hSw
        go_simp
        with_reducible rfl
      try simp only [Act.put, List.setIfInBounds_toArray, List.set_cons_zero, List.set_cons_succ]
      refine takeD 3 (some 39) (v := ?_) rfl rfl (by kernel_rfl) (by kernel_rfl) (by kernel_rfl) (fun _ _ _ h => h) (Or.inl ⟨by rfl, ?_⟩) hS ?_
      rotate_left
      · intro w hSw
        obtain ⟨q0, q1, q2, q3⟩ := HTC.out _ hSw
        go_simp
        with_reducible rfl
      try simp only [Act.put, List.setIfInBounds_toArray, List.set_cons_zero, List.set_cons_succ]
      refine takeD 4 (some 40) (v := ?_) rfl rfl (by kernel_rfl) (by kernel_rfl) (by kernel_rfl) (fun _ _ _ h => h) (Or.inl ⟨by rfl, ?_⟩) hS ?_
      rotate_left
      · intro w hSw
        try go_simp
        with_reducible rfl
      try simp only [Act.put, List.setIfInBounds_toArray, List.set_cons_zero, List.set_cons_succ]
      refine takeD 5 (some 41) (v := ?_) rfl rfl (by kernel_rfl) (by kernel_rfl) (by kernel_rfl) (fun _ _ _ h => h) (Or.inl ⟨by rfl, ?_⟩) hS ?_
      rotate_left
      · intro w hSw
        go_simp
        with_reducible rfl
      try simp only [Act.put, List.setIfInBounds_toArray, List.set_cons_zero, List.set_cons_succ]
      refine takeD 6 (some 42) (v := ?_) rfl rfl (by kernel_rfl) (by kernel_rfl) (by kernel_rfl) (fun _ _ _ h => h) (Or.inl ⟨by rfl, ?_⟩) hS ?_
      rotate_left
      · intro w hSw
        go_simp
        with_reducible rfl
      try simp only [Act.put, List.setIfInBounds_toArray, List.set_cons_zero, List.set_cons_succ]
      refine takeD 7 (some 43) (v := ?_) rfl rfl (by kernel_rfl) (by kernel_rfl) (by kernel_rfl) (fun _ _ _ h => h) (Or.inl ⟨by rfl, ?_⟩) hS ?_
      rotate_left
      · intro w hSw
        obtain ⟨q0, q1, q2, q3⟩ := HTC.out _ hSw
        go_simp
        with_reducible rfl
      try simp only [Act.put, List.setIfInBounds_toArray, List.set_cons_zero, List.set_cons_succ]
      refine callD 8 (by kernel_rfl) rfl (fun K hK => ?_)
      rw [if_pos (by rfl)]
      go_simp
      refine (HRF.out _ hS).mono ?_
      rintro e Y ⟨a6, c6, ws, ok6, rfl, ⟨hi6, hw300⟩, hans, bY⟩
      have hY := hS.trans (bY.mono hS.size)
      clear bY
      refine hK.out _ _ hY (fun _ => ?_)
      clear hK K
      try simp only [Act.put, List.setIfInBounds_toArray, List.set_cons_zero, List.set_cons_succ]
      refine takeD 9 (some 35) (v := ?_) rfl rfl (by kernel_rfl) (by kernel_rfl) (by kernel_rfl) (fun _ _ _ h => h) (Or.inl ⟨by rfl, ?_⟩) hY ?_
      rotate_left
      · intro w hSw
        try go_simp
        with_reducible rfl
      try simp only [Act.put, List.setIfInBounds_toArray, List.set_cons_zero, List.set_cons_succ]
      refine takeD 10 (some 45) (v := ?_) rfl rfl (by kernel_rfl) (by kernel_rfl) (by kernel_rfl) (fun _ _ _ h => h) (Or.inl ⟨by rfl, ?_⟩) hY ?_
      rotate_left
      · intro w hSw
        go_simp
        with_reducible rfl
      try simp only [Act.put, List.setIfInBounds_toArray, List.set_cons_zero, List.set_cons_succ]
      refine takeD 11 (some 46) (v := ?_) rfl rfl (by kernel_rfl) (by kernel_rfl) (by kernel_rfl) (fun _ _ _ h => h) (Or.inl ⟨by rfl, ?_⟩) hY ?_
      rotate_left
      · intro w hSw
        go_simp
        with_reducible rfl
      try simp only [Act.put, List.setIfInBounds_toArray, List.set_cons_zero, List.set_cons_succ]
      refine takeD 12 (some 11) (v := ?_) rfl rfl (by kernel_rfl) (by kernel_rfl) (by kernel_rfl) (fun _ _ _ h => h) (Or.inl ⟨by rfl, ?_⟩) hY ?_
      rotate_left
      · intro w hSw
        try go_simp
        with_reducible rfl
      try simp only [Act.put, List.setIfInBounds_toArray, List.set_cons_zero, List.set_cons_succ]
      refine takeD 13 (some 12) (v := ?_) rfl rfl (by kernel_rfl) (by kernel_rfl) (by kernel_rfl) (fun _ _ _ h => h) (Or.inl ⟨by rfl, ?_⟩) hY ?_
      rotate_left
      · intro w hSw
        try go_simp
        with_reducible rfl
      try simp only [Act.put, List.setIfInBounds_toArray, List.set_cons_zero, List.set_cons_succ]
      refine wpAnyH_done (by kernel_rfl) ?_ _
      have HY := Hid.mk_ hY
      have HI6 := Hid.mk_ hi6
      cases ok6 with
      | false =>
        have HR : Hid (fillS sp n ask (f + 1) l (t : Int) = none) := HRN.out (hans.2 (by first | rfl | trivial))
        have HE := Hid.mk_ (HBB.out.trans (hY.mono HBB.out.size))
        clear hans hi6 hY hS HRF
        go_wp2
        go_ret2
        rw [HR.out]
        exact ⟨HGR.out _ HY.out, HE.out, rfl⟩
      | true =>
        have hask : ask t = some ws := hans.1 (by first | rfl | trivial)
        have HASK := Hid.mk_ hask
        by_cases hf0 : f = 0
        · have hdd : (((32 - f : Nat) : Int) == 32) = true := by rw [hf0]; rfl
          have HR : Hid (fillS sp n ask (f + 1) l (t : Int) = none) := HRZ.out hf0 ws hask
          have HE := Hid.mk_ (HBB.out.trans (hY.mono HBB.out.size))
          clear hans hi6 hY hS HRF hask hf0
          go_wp2
          go_ret2
          rw [HR.out]
          exact ⟨HGR.out _ HY.out, HE.out, rfl⟩
        · have hdeep : ((32 - f : Nat) : Int) ≠ 32 := by omega
          have hdd : (((32 - f : Nat) : Int) == 32) = false := by rw [beq_eq_false_iff_ne]; exact hdeep
          have HBY := Hid.mk_ (HBB.out.trans (hY.mono HBB.out.size))
          obtain ⟨_, _, _, s3, s4, _⟩ := HSPX.out Y hY
          have HAD := HADD.out Y hY (⟨1, (t : Int), (sp t).least, 0⟩ : Tok)
          unfold tokV at HAD
          dsimp only at HAD
          clear hans hi6 hY hS HRF hask hdeep
          go_wp2_with fail
          refine HAD.mono ?_
          intro e Y2 hres
          have hres' : FilledT w0.heap.size (.slice a l.length c) w0 Y Y2 e (addD l ⟨1, (t : Int), (sp t).least, 0⟩) := hres
          clear hres HAD
          by_cases hfull : l.length = 2048
          · have hz : addD l (⟨1, (t : Int), (sp t).least, 0⟩ : Tok) = none := by unfold addD; rw [if_pos hfull]
            rw [hz] at hres'
            obtain ⟨hg2, hB2, rfl⟩ := hres'
            have HR : Hid (fillS sp n ask (f + 1) l (t : Int) = none) := HRA.out hf0 ws HASK.out hz
            have HE : Hid (W.grownBy Y2 (Value.slice a l.length c).ownBlock ∧ Below w0.heap.size w0 Y2) := ⟨grown_step (HGR.out Y HY.out) (.inl rfl) hg2, hB2⟩
            clear hz hg2 hB2 s3 s4
            go_wp2
            go_loopg [1, 12, 13] 1 (fun gk u v x wr => 0 < gk ∧ v = .bool false ∧ wr = Y2)
            case atStart => exact ⟨by omega, rfl, rfl⟩
            case round =>
              obtain ⟨hgk, rfl, rfl⟩ := hrel
              go_wp2
              go_ret2
              rw [HR.out]
              exact ⟨HE.out.1, HE.out.2, rfl⟩
          · obtain ⟨l1, hz⟩ : ∃ l1, addD l (⟨1, (t : Int), (sp t).least, 0⟩ : Tok) = some l1 := ⟨_, by unfold addD; rw [if_neg hfull]⟩
            rw [hz] at hres'
            obtain ⟨hg2, hB2, a7, c7, rfl, hown7, hheir7⟩ := hres'
            have hl1n : l1.length ≤ 2048 := addD_len hz HLEN.out
            have HR1 := Hid.mk_ (HRB.out hf0 ws HASK.out l1 hz)
            have hi7 : Y2.ownsRow 0 3 1 (.slice a6 ws.length c6) ws.length (intsV ws) := ints_grown HI6.out (HOWN.out Y HY.out) hg2
            have HO7 : Hid (Y2.ownsRow w0.heap.size 62 4 (.slice a7 l1.length c7) l1.length (flat l1) ∧ Heir W (.slice a l.length c) (.slice a7 l1.length c7) ∧ W.grownBy Y2 (Value.slice a l.length c).ownBlock ∧ Below w0.heap.size w0 Y2 ∧ Y2.ownsRow 0 3 1 (.slice a6 ws.length c6) ws.length (intsV ws)) := ⟨hown7, (show Heir W (.slice a l.length c) (.slice a l.length c) from .inl rfl).step hheir7 HY.out.size, grown_step (HGR.out Y HY.out) (.inl rfl) hg2, hB2, hi7⟩
            have HIHF := Hid.mk_ (HIH.out hf0)
            obtain ⟨d1, hd1⟩ : ∃ d1, d1 = 32 - f := ⟨_, rfl⟩
            rw [← hd1]
            have hd1n : d1 < 32 := by omega
            have hd1e : Hid ((d1 : Int) + 1 = ((32 - (f - 1) : Nat) : Int)) := by show _ = _; omega
            clear hz hown7 hheir7 hg2 hB2 hi7 s3 s4 hd1 hdd HADD
            go_wp2
            go_loopg [1, 12, 13] (ws.length + 2) (fun gk u v x wr => ∃ i : Nat, i ≤ ws.length ∧ ws.length + 1 < i + gk ∧ x = .int .i64 (i : Int) ∧ W.grownBy wr (Value.slice a l.length c).ownBlock ∧ Below w0.heap.size w0 wr ∧ ((v = .bool false ∧ fillL (fun l t => fillS sp n ask f l t) ws l1 = none) ∨ (v = .bool true ∧ ∃ ai ci li, u = .slice ai (List.length li) ci ∧ wr.ownsRow w0.heap.size 62 4 (.slice ai li.length ci) li.length (flat li) ∧ li.length ≤ 2048 ∧ Heir W (.slice a l.length c) (.slice ai li.length ci) ∧ wr.ownsRow 0 3 1 (.slice a6 ws.length c6) ws.length (intsV ws) ∧ fillL (fun l t => fillS sp n ask f l t) (ws.drop i) li = fillL (fun l t => fillS sp n ask f l t) ws l1)))
            case atStart => exact ⟨0, Nat.zero_le _, by omega, rfl, HO7.out.2.2.1, HO7.out.2.2.2.1, .inr ⟨rfl, a7, c7, l1, rfl, HO7.out.1, hl1n, HO7.out.2.1, HO7.out.2.2.2.2, by rw [List.drop_zero]⟩⟩
            case round =>
              obtain ⟨i, hi, hgk, rfl, hgr, hBr, hcase⟩ := hrel
              clear HO7
              rcases hcase with ⟨rfl, hnone⟩ | ⟨rfl, ai, ci, li, rfl, hown, hlin, hheir, hints, hfl⟩
              · have HR : Hid (fillS sp n ask (f + 1) l (t : Int) = none) := by
                  show _ = _
                  rw [HR1.out, hnone]
                have HE : Hid (W.grownBy wr (Value.slice a l.length c).ownBlock ∧ Below w0.heap.size w0 wr) := ⟨hgr, hBr⟩
                clear hnone hgr hBr
                go_wp2
                go_ret2
                rw [HR.out]
                exact ⟨HE.out.1, HE.out.2, rfl⟩
              · by_cases hlt : i < ws.length
                · obtain ⟨t2, ht2⟩ : ∃ t2, ws[i]? = some t2 := ⟨_, List.getElem?_eq_getElem hlt⟩
                  have hws : (ws.length : Int) ≤ 1000000 := by omega
                  have hii : (i : Int) < (ws.length : Int) := by omega
                  have hi0 : (0 : Int) ≤ (i : Int) := by omega
                  obtain ⟨b6, cq6, e6, hcell⟩ := owns_cell hints (by omega)
                  injection e6 with e61 _ e63
                  subst e61 e63
                  have c9 : wr.cell? ⟨b6, i, none⟩ = some (.int .i64 t2) := hcell i _ (by unfold intsV; rw [List.getElem?_map, ht2]; rfl)
                  have HC := HIHF.out wr ai ci li t2 hBr hown hlin
                  rw [← hd1e.out] at HC
                  have hdrop : ws.drop i = t2 :: ws.drop (i + 1) := by
                    have := List.drop_eq_getElem_cons hlt
                    rw [this]
                    congr 1
                    exact (List.getElem?_eq_some_iff.1 ht2).2
                  rw [hdrop, fillL] at hfl
                  have HK2 : Hid (W.grownBy wr (Value.slice a l.length c).ownBlock ∧ Heir W (.slice a l.length c) (.slice ai li.length ci) ∧ wr.ownsRow 0 3 1 (.slice (some ⟨b6, 0, none⟩) ws.length c6) ws.length (intsV ws) ∧ wr.ownsRow w0.heap.size 62 4 (.slice ai li.length ci) li.length (flat li)) := ⟨hgr, hheir, hints, hown⟩
                  have HFL := Hid.mk_ hfl
                  have hd3 : (d1 : Int) ≤ 31 := by omega
                  clear hgr hBr hheir hints hown hfl hdrop hcell ht2
                  go_wp2_with fail
                  refine HC.mono ?_
                  intro e W8 hres
                  cases hq : fillS sp n ask f li t2 with
                  | none =>
                    rw [hq] at hres
                    obtain ⟨hg8, hB8, rfl⟩ := hres
                    have HN : Hid (W.grownBy W8 (Value.slice a l.length c).ownBlock ∧ Below w0.heap.size w0 W8 ∧ fillL (fun l t => fillS sp n ask f l t) ws l1 = none) := ⟨grown_step HK2.out.1 HK2.out.2.1 hg8, hB8, by have := HFL.out; rw [hq] at this; exact this.symm⟩
                    clear hg8 hB8 hq HC HFL HK2
                    go_wp2
                    go_roundg (ws.length + 1 - i)
                    case measure => omega
                    case rel => exact ⟨i + 1, by omega, by omega, by first | rfl | go_num, HN.out.1, HN.out.2.1, .inl ⟨rfl, HN.out.2.2⟩⟩
                  | some l8 =>
                    rw [hq] at hres
                    obtain ⟨hg8, hB8, a8, c8, rfl, hown8, hheir8⟩ := hres
                    have HN : Hid (W.grownBy W8 (Value.slice a l.length c).ownBlock ∧ Below w0.heap.size w0 W8 ∧ W8.ownsRow w0.heap.size 62 4 (.slice a8 l8.length c8) l8.length (flat l8) ∧ l8.length ≤ 2048 ∧ Heir W (.slice a l.length c) (.slice a8 l8.length c8) ∧ W8.ownsRow 0 3 1 (.slice (some ⟨b6, 0, none⟩) ws.length c6) ws.length (intsV ws) ∧ fillL (fun l t => fillS sp n ask f l t) (ws.drop (i + 1)) l8 = fillL (fun l t => fillS sp n ask f l t) ws l1) := by
                      refine ⟨grown_step HK2.out.1 HK2.out.2.1 hg8, hB8, hown8, fillS_len f li t2 l8 hq hlin, HK2.out.2.1.step hheir8 HK2.out.1.size, ints_grown HK2.out.2.2.1 HK2.out.2.2.2 hg8, ?_⟩
                      have := HFL.out
                      rw [hq] at this
                      exact this
                    clear hg8 hB8 hq HC HFL HK2 hown8 hheir8
                    go_wp2
                    go_roundg (ws.length + 1 - i)
                    case measure => omega
                    case rel => exact ⟨i + 1, by omega, by omega, by first | rfl | go_num, HN.out.1, HN.out.2.1, .inr ⟨rfl, a8, c8, l8, rfl, HN.out.2.2⟩⟩
                · obtain rfl : i = ws.length := by omega
                  rw [List.drop_length, fillL] at hfl
                  have hR : fillS sp n ask (f + 1) l (t : Int) = addD li ⟨2, 0, 0, 0⟩ := by rw [HR1.out, ← hfl]
                  have HAD := added_calls w0.heap.size w0 wr hBr ai ci li hown hlin hBr.size ⟨2, 0, 0, 0⟩
                  unfold tokV at HAD
                  dsimp only at HAD
                  have HRR := Hid.mk_ hR
                  have hws : (ws.length : Int) ≤ 1000000 := by omega
                  have hdl : decide ((ws.length : Int) < (ws.length : Int)) = false := by simp
                  have HK2 : Hid (W.grownBy wr (Value.slice a l.length c).ownBlock ∧ Heir W (.slice a l.length c) (.slice ai li.length ci)) := ⟨hgr, hheir⟩
                  obtain ⟨RR, hRR⟩ : ∃ RR, addD li ⟨2, 0, 0, 0⟩ = RR := ⟨_, rfl⟩
                  rw [hRR] at HAD
                  have HQ9 := Hid.mk_ hRR
                  clear hRR
                  clear hgr hBr hheir hints hown hfl hR HR1 HIHF
                  go_wp2_with fail
                  refine HAD.mono ?_
                  intro e W9 hres
                  cases RR with
                  | none =>
                    obtain ⟨hg8, hB8, rfl⟩ := hres
                    have HN : Hid (W.grownBy W9 (Value.slice a l.length c).ownBlock ∧ Below w0.heap.size w0 W9) := ⟨grown_step HK2.out.1 HK2.out.2 hg8, hB8⟩
                    clear hg8 hB8 HAD HK2
                    go_wp2
                    go_ret2
                    rw [HRR.out, HQ9.out]
                    exact ⟨HN.out.1, HN.out.2, rfl⟩
                  | some l9 =>
                    obtain ⟨hg8, hB8, a8, c8, rfl, hown8, hheir8⟩ := hres
                    have HN : Hid (W.grownBy W9 (Value.slice a l.length c).ownBlock ∧ Below w0.heap.size w0 W9 ∧ W9.ownsRow w0.heap.size 62 4 (.slice a8 l9.length c8) l9.length (flat l9) ∧ Heir W (.slice a l.length c) (.slice a8 l9.length c8)) := ⟨grown_step HK2.out.1 HK2.out.2 hg8, hB8, hown8, HK2.out.2.step hheir8 HK2.out.1.size⟩
                    clear hg8 hB8 HAD HK2 hown8 hheir8
                    go_wp2
                    go_ret2
                    rw [HRR.out, HQ9.out]
                    exact ⟨HN.out.1, HN.out.2.1, a8, c8, rfl, HN.out.2.2⟩
  · rw [if_neg hin] at HTO
    have hfs : fillS sp n ask (f + 1) l tt = none := by rw [fillS, if_neg (by rw [hn]; exact hin)]
    have HB := Hid.mk_ hB
    rw [hfs]
    clear h hT hsp hask hB hown hlen ih hfs hin
    go_enter Tryz.func76, Tryz.ntmps76
    go_wp2_with fail
    refine HTO.mono ?_
    rintro e W ⟨rfl, rfl⟩
    go_wp2
    go_ret2
    exact ⟨⟨rfl, rfl, rfl, Nat.le_refl _, fun _ _ _ => rfl⟩, HB.out, rfl⟩
theorem fillbehind_calls {B g c0 ng nc : Nat} {ks : List KindD} {gs : List Grp} {ts : List (DataW Unit)} (w0 : World) (h : SchAt w0 B g c0 ng nc ks gs ts) (h0 : 0 < ks.length) (hT : Tab w0) (hw0 : 0 < w0.heap.size) (sp : Nat → SpecD) (hsp : ∀ i, specOf ks i = sp i) (ask : Nat → Option (List Int)) (hask : Asks gs ts ask) (n : Nat) (hn : n = ks.length) :
    ∀ (f : Nat), f ≤ 32 → ∀ (w : World) (a : Option Addr) (c : Nat) (l : List Tok) (t : Int), Below w0.heap.size w0 w → w.ownsRow w0.heap.size 62 4 (.slice a l.length c) l.length (flat l) → l.length ≤ 2048 → Calls Tryz.prog 76 #[.pointer (some ⟨B, 0, none⟩), .slice a l.length c, .int .i64 t, .int .i64 ((32 - f : Nat) : Int)] w fun e w' => FilledT w0.heap.size (.slice a l.length c) w0 w w' e (fillS sp n ask (f + 1) l t) := by
  intro f
  induction f with
  | zero => exact fun hf w a c l t => fillbehind_step w0 h h0 hT hw0 sp hsp ask hask n hn 0 hf (fun e => absurd rfl e) w a c l t
  | succ f ih => exact fun hf w a c l t => fillbehind_step w0 h h0 hT hw0 sp hsp ask hask n hn (f + 1) hf (fun _ w a c l t => ih (by omega) w a c l t) w a c l t
end Go.Proofs.YtofkiaeocfpkeaaGreatDoor

/- LaidT: what the row's list says of the package's table of bits; a world that meets it. -/
namespace Go.Proofs.YtofkiaeocfpkeaaGreatDoor
open Go.ChangeShapes Go.WideShapes Go.ChangeAt Go.RowKit

theorem q_tab : Tryz.prog.globalNamed "math/bits.deBruijn32tab" = some 0 := by kernel_rfl
theorem q_tabT : (Tryz.prog.globals[0]?).map (·.type) = some 154 := by kernel_rfl
def listedT : List (String × DataW Unit) := [("math/bits.deBruijn32tab", Rows.laid_math_bits_deBruijn32tab)]
def tabCells : Array Value := #[.int .u8 0, .int .u8 1, .int .u8 28, .int .u8 2, .int .u8 29, .int .u8 14, .int .u8 24, .int .u8 3, .int .u8 30, .int .u8 22, .int .u8 20, .int .u8 15, .int .u8 25, .int .u8 17, .int .u8 4, .int .u8 8, .int .u8 31, .int .u8 27, .int .u8 13, .int .u8 23, .int .u8 21, .int .u8 19, .int .u8 16, .int .u8 7, .int .u8 26, .int .u8 12, .int .u8 18, .int .u8 6, .int .u8 11, .int .u8 5, .int .u8 10, .int .u8 9]
/-- A world that meets the condition: the settled one, the table laid. -/
noncomputable def laidWorldT (os : Os) : World :=
  let w0 := World.holding Tryz.prog os ⟨#[], #[], []⟩
  { w0 with heap := w0.heap.modify 0 fun
      | .cells _ t frozen => .cells tabCells t frozen
      | o => o }
theorem laid_metT (os : Os) (args : Array Value) : laidMetH Tryz.prog listedT ((laidWorldT os).forCall (fun _ _ => 0) ⟨#[], args, []⟩).memory := by
  show laidMet Tryz.prog listedT _
  exact laidMet_of_run' 8 (by kernel_rfl) (by kernel_rfl)
end Go.Proofs.YtofkiaeocfpkeaaGreatDoor

/- LaidTab: what the row's list says of the table of bits, cell by cell. -/
namespace Go.Proofs.YtofkiaeocfpkeaaGreatDoor
open Go.ChangeShapes Go.WideShapes Go.ChangeAt Go.RowKit

theorem tab_var {W : World} {r : List (String × DataW Unit)} (h : laidMet Tryz.prog (("math/bits.deBruijn32tab", Rows.laid_math_bits_deBruijn32tab) :: r) W) : Tab W := by
  obtain ⟨ps, ⟨g, t, cs, fuel, p, q, e1, e2, e3, e4, _⟩, _⟩ := h
  obtain rfl := Option.some.inj (q_tab.symm.trans e1)
  obtain rfl := Option.some.inj (q_tabT.symm.trans e2)
  obtain ⟨xs, m, rfl, hx, hl, hn, he⟩ := DataW.trod_array Tryz.underlying154 e4
  have hc1 : Tryz.prog.cellsOf 5 = 1 := by kernel_rfl
  have hd : (Rows.laid_math_bits_deBruijn32tab : DataW Unit) = DataW.agg (tabL.map (fun x => DataW.lit (Lit.int .u8 x))) := rfl
  rw [hd] at hx
  simp only [Prod.mk.injEq, DataW.agg.injEq] at hx
  intro i x hi
  have hi32 : i < 32 := by have := (List.getElem?_eq_some_iff.1 hi).1; simpa [tabL] using this
  have h1 := he i hi32
  obtain ⟨y, hy⟩ : ∃ y, xs[i]? = some y := ⟨_, List.getElem?_eq_getElem (by omega)⟩
  rw [hy, hc1] at h1
  obtain ⟨n, f1, f2, _⟩ := DataW.trod_int Tryz.underlying5 h1
  have h2 : (xs.map (·.1))[i]? = some (DataW.lit (Lit.int .u8 x)) := by rw [← hx.1, List.getElem?_map, hi]; rfl
  rw [List.getElem?_map, hy] at h2
  simp only [Option.map_some, Option.some.injEq] at h2
  rw [f2] at h2
  simp only [DataW.lit.injEq, Lit.int.injEq, true_and] at h2
  subst h2
  rw [World.var?_cell q_tab e3 i]
  have h3 : (cs.toList.drop (i * 1)).take 1 = [Value.int .u8 n] := f1
  rw [Nat.mul_one] at h3
  have h4 : ((cs.toList.drop i).take 1)[0]? = some (Value.int .u8 n) := by rw [h3]; rfl
  rw [List.getElem?_take, if_pos (by decide), List.getElem?_drop, Nat.add_zero] at h4
  simpa using h4
theorem tab_of_laidT {W : World} (h : laidMetH Tryz.prog listedT W) : Tab W := tab_var (r := []) h
theorem tab_size {W : World} (h : Tab W) : 0 < W.heap.size := by
  have := h 0 0 rfl
  rcases Nat.eq_zero_or_pos W.heap.size with e | e
  · simp [World.cell?, Array.getElem?_eq_none (Nat.le_of_eq e)] at this
  · exact e
end Go.Proofs.YtofkiaeocfpkeaaGreatDoor

/- LaidB: what the row's list says of the two package variables (the table of bits, and what errors.As reads); a world that meets it. -/
namespace Go.Proofs.YtofkiaeocfpkeaaGreatDoor
open Go.ChangeShapes Go.WideShapes Go.ChangeAt Go.RowKit

theorem q_et : Tryz.prog.globalNamed "errors.errorType" = some 1 := by kernel_rfl
theorem q_rt : (Tryz.prog.cutTypes.find? (·.1 == "internal/reflectlite.rtype")).map (·.2) = some 221 := by kernel_rfl
theorem q_oneRow : ((List.range 270).filter fun t => Tryz.prog.rowNamed t [101, 114, 114, 111, 114]) = [67] := by kernel_rfl
theorem q_size : Tryz.prog.types.size = 270 := by kernel_rfl
def listedB : List (String × DataW Unit) := [("math/bits.deBruijn32tab", Rows.laid_math_bits_deBruijn32tab), ("errors.errorType", Rows.laid_errors_errorType)]
theorem parts_of_laidB {W : World} (h : laidMetH Tryz.prog listedB W) : laidMet Tryz.prog listedT W ∧ handlesMet Tryz.prog [("errors.errorType", Rows.laid_errors_errorType)] W := h
theorem tab_of_laidB {W : World} (h : laidMetH Tryz.prog listedB W) : Tab W := tab_var (r := []) (parts_of_laidB h).1
/-- What the condition gives a walk: the variable's one cell. -/
theorem ety_of_laidB {W : World} (h : laidMetH Tryz.prog listedB W) : ETy W := by
  obtain ⟨name, u, ty, e1, e2, e3, e4, e5⟩ := (parts_of_laidB h).2 _ (List.mem_singleton.2 rfl)
  have en : name = [101, 114, 114, 111, 114] := (Option.some.inj e1).symm
  subst en
  obtain rfl := Option.some.inj (q_rt.symm.trans e2)
  have hm : ty ∈ (List.range 270).filter fun t => Tryz.prog.rowNamed t [101, 114, 114, 111, 114] := List.mem_filter.2 ⟨List.mem_range.2 (by rw [← q_size]; exact e3), e4⟩
  rw [q_oneRow] at hm
  obtain rfl := List.mem_singleton.1 hm
  have hh : typeHandle Tryz.prog 67 = .pointer (some ⟨3, 67, none⟩) := by kernel_rfl
  rw [hh] at e5
  unfold ETy
  simpa using World.var?_cell q_et e5 0
/-- A world that meets the condition: the settled one, both laid. -/
noncomputable def laidWorldB (os : Os) : World :=
  let w0 := World.holding Tryz.prog os ⟨#[], #[], []⟩
  { w0 with heap := (w0.heap.modify 0 fun
      | .cells _ t frozen => .cells tabCells t frozen
      | o => o).modify 1 fun
      | .cells _ t frozen => .cells #[.iface 221 (.agg #[.pointer (some ⟨3, 67, none⟩)])] t frozen
      | o => o }
theorem laid_metB (os : Os) (args : Array Value) : laidMetH Tryz.prog listedB ((laidWorldB os).forCall (fun _ _ => 0) ⟨#[], args, []⟩).memory :=
  laidMetH_of_parts (laidMet_of_run' 8 (by kernel_rfl) (by kernel_rfl)) (by kernel_rfl)
end Go.Proofs.YtofkiaeocfpkeaaGreatDoor

/- Rowl: a slice of integers that came in is no longer than it is wide. -/
namespace Go.Proofs.YtofkiaeocfpkeaaGreatDoor
open Go.ChangeShapes Go.WideShapes Go.ChangeAt Go.RowKit

theorem open_rowl {H : Type} {enc : TypeId × Value → H} {W : World} {a : Option Addr} {len cap : Nat} {d : DataW H} {p : List MemPlace} (h : DataW.Trod enc Tryz.prog W 0 (fun _ => true) true 23 (.slice a len cap) d p) : len ≤ cap ∧ cap ≤ 9223372036854775807 := by
  obtain ⟨fuel, hf⟩ := h
  rcases open_ints Tryz.underlying23 Tryz.underlying3 (by kernel_rfl) hf with ⟨hcs, _⟩ | ⟨y, l, c, zs, hcs, hq, hl, hm, _⟩
  · simp [Value.cells] at hcs
    omega
  · simp [Value.cells] at hcs
    obtain ⟨rfl, rfl, rfl⟩ := hcs
    unfold maxLen at hm
    omega
end Go.Proofs.YtofkiaeocfpkeaaGreatDoor
