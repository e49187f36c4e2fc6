/-
  PROVED HERE: what the texts Bfs, Best, HouseE say (each has its own words below).
-/
import Derived.Test.YtgkplmnhmobnnaaGreatDoorSM1
import Derived.Test.YtgkplmnhmobnnaaGreatDoorSMFilling
import Derived.Test.YtgkplmnhmobnnaaGreatDoorSM41
/- Bfs: words by their length and then type by type; a search through words, the short ones first, finds the least. -/
namespace Go.Proofs.YtgkplmnhmobnnaaGreatDoor

/-- Ahead, of two words as long. -/
def lexLt : List Int → List Int → Prop
  | a :: x, b :: y => a < b ∨ (a = b ∧ lexLt x y)
  | _, _ => False
/-- Shorter, or as long and ahead. -/
def shLt (x y : List Int) : Prop := x.length < y.length ∨ (x.length = y.length ∧ lexLt x y)
def shLe (x y : List Int) : Prop := x = y ∨ shLt x y
theorem lexLt_irr : ∀ x : List Int, ¬ lexLt x x := by
  intro x
  induction x with
  | nil => exact fun h => h
  | cons a r ih =>
    rintro (h | h)
    · omega
    · exact ih h.2
theorem lexLt_trans : ∀ {x y z : List Int}, lexLt x y → lexLt y z → lexLt x z := by
  intro x
  induction x with
  | nil => intro y z h; exact h.elim
  | cons a r ih =>
    intro y z h1 h2
    cases y with
    | nil => exact h1.elim
    | cons b y =>
      cases z with
      | nil => exact h2.elim
      | cons c z =>
        rcases h1 with h1 | ⟨rfl, h1⟩
        · rcases h2 with h2 | ⟨rfl, h2⟩
          · exact .inl (by omega)
          · exact .inl h1
        · rcases h2 with h2 | ⟨rfl, h2⟩
          · exact .inl h2
          · exact .inr ⟨rfl, ih h1 h2⟩
theorem shLt_trans {x y z : List Int} (h1 : shLt x y) (h2 : shLt y z) : shLt x z := by
  rcases h1 with h1 | ⟨h1, g1⟩
  · rcases h2 with h2 | ⟨h2, _⟩
    · exact .inl (by omega)
    · exact .inl (by omega)
  · rcases h2 with h2 | ⟨h2, g2⟩
    · exact .inl (by omega)
    · exact .inr ⟨by omega, lexLt_trans g1 g2⟩
theorem shLt_irr (x : List Int) : ¬ shLt x x := by
  rintro (h | h)
  · omega
  · exact lexLt_irr x h.2
theorem shLe_trans {x y z : List Int} (h1 : shLe x y) (h2 : shLe y z) : shLe x z := by
  rcases h1 with rfl | h1
  · exact h2
  · rcases h2 with rfl | h2
    · exact .inr h1
    · exact .inr (shLt_trans h1 h2)
theorem shLe_anti {x y : List Int} (h1 : shLe x y) (h2 : shLe y x) : x = y := by
  rcases h1 with h1 | h1
  · exact h1
  · rcases h2 with h2 | h2
    · exact h2.symm
    · exact (shLt_irr x (shLt_trans h1 h2)).elim
theorem shLe_prefix (u v : List Int) : shLe u (u ++ v) := by
  cases v with
  | nil => rw [List.append_nil]; exact .inl rfl
  | cons a r => exact .inr (.inl (by rw [List.length_append, List.length_cons]; omega))
theorem lexLt_snoc : ∀ {x y : List Int} (a b : Int), lexLt x y → lexLt (x ++ [a]) (y ++ [b]) := by
  intro x
  induction x with
  | nil => intro y a b h; exact h.elim
  | cons c r ih =>
    intro y a b h
    cases y with
    | nil => exact h.elim
    | cons d y =>
      rcases h with h | ⟨h, h'⟩
      · exact .inl h
      · exact .inr ⟨h, ih a b h'⟩
theorem lexLt_last : ∀ (x : List Int) {a b : Int}, a < b → lexLt (x ++ [a]) (x ++ [b]) := by
  intro x
  induction x with
  | nil => intro a b h; exact .inl h
  | cons c r ih => intro a b h; exact .inr ⟨rfl, ih h⟩
theorem shLt_snoc {x y : List Int} (a b : Int) (h : shLt x y) : shLt (x ++ [a]) (y ++ [b]) := by
  rcases h with h | ⟨h, g⟩
  · exact .inl (by simp only [List.length_append, List.length_singleton]; omega)
  · exact .inr ⟨by simp only [List.length_append, List.length_singleton]; omega, lexLt_snoc a b g⟩
theorem shLe_snoc {x y : List Int} (a : Int) (h : shLe x y) : shLe (x ++ [a]) (y ++ [a]) := by
  rcases h with rfl | h
  · exact .inl rfl
  · exact .inr (shLt_snoc a a h)
theorem shLt_last (x : List Int) {a b : Int} (h : a < b) : shLt (x ++ [a]) (x ++ [b]) := .inr ⟨by simp, lexLt_last x h⟩
theorem shLt_more (x : List Int) (a : Int) : shLt x (x ++ [a]) := .inl (by simp)

/-- The search: the words ws are known, those ahead of i are done, of the one at i the types below t. -/
structure Bfs (A : List Int → Nat → Prop) (ws : List (List Int)) (i t : Nat) : Prop where
  root : ws[0]? = some []
  sorted : ws.Pairwise shLt
  apart : ws.Pairwise (fun u v => A u ≠ A v)
  no : ∀ (j : Nat) u, j < i → ws[j]? = some u → ¬ A u 1
  closed : ∀ (j : Nat) u (s : Nat), (j < i ∨ (j = i ∧ s < t)) → s < 16 → ws[j]? = some u → (∃ q, A (u ++ [(s : Int)]) q) → ∃ v ∈ ws, A v = A (u ++ [(s : Int)]) ∧ shLe v (u ++ [(s : Int)])
  upper : ∀ u, ws[i]? = some u → ∀ v ∈ ws, shLt v (u ++ [(t : Int)])
  long : ∀ u ∈ ws, u = [] ∨ ∃ v x, u = v ++ [x]
theorem Bfs.first (A : List Int → Nat → Prop) : Bfs A [[]] 0 0 where
  root := rfl
  sorted := List.pairwise_singleton _ _
  apart := List.pairwise_singleton _ _
  no := fun j u h => by omega
  closed := fun j u s h => by omega
  upper := fun u hu v hv => by
    cases hu
    rw [List.mem_singleton] at hv
    subst hv
    exact shLt_more [] _
  long := fun u hu => .inl (List.mem_singleton.1 hu)
theorem Bfs.skip {A : List Int → Nat → Prop} {ws : List (List Int)} {i t : Nat} (h : Bfs A ws i t) {u : List Int} (hu : ws[i]? = some u) (hn : ¬ ∃ q, A (u ++ [(t : Int)]) q) : Bfs A ws i (t + 1) where
  root := h.root
  sorted := h.sorted
  apart := h.apart
  no := h.no
  closed := fun j v s hj hs hv hq => by
    by_cases e : j = i ∧ s = t
    · obtain ⟨rfl, rfl⟩ := e
      rw [hu] at hv
      cases hv
      exact (hn hq).elim
    · exact h.closed j v s (by omega) hs hv hq
  upper := fun v hv x hx => by
    rw [hu] at hv
    cases hv
    exact shLt_trans (h.upper u hu x hx) (shLt_last u (by omega))
  long := h.long
theorem Bfs.seen {A : List Int → Nat → Prop} {ws : List (List Int)} {i t : Nat} (h : Bfs A ws i t) {u v : List Int} (hu : ws[i]? = some u) (hv : v ∈ ws) (e : A v = A (u ++ [(t : Int)])) : Bfs A ws i (t + 1) where
  root := h.root
  sorted := h.sorted
  apart := h.apart
  no := h.no
  closed := fun j x s hj hs hx hq => by
    by_cases e' : j = i ∧ s = t
    · obtain ⟨rfl, rfl⟩ := e'
      rw [hu] at hx
      cases hx
      exact ⟨v, hv, e, .inr (h.upper u hu v hv)⟩
    · exact h.closed j x s (by omega) hs hx hq
  upper := fun v hv x hx => by
    rw [hu] at hv
    cases hv
    exact shLt_trans (h.upper u hu x hx) (shLt_last u (by omega))
  long := h.long
theorem Bfs.put {A : List Int → Nat → Prop} {ws : List (List Int)} {i t : Nat} (h : Bfs A ws i t) {u : List Int} (hu : ws[i]? = some u) (hn : ∀ v ∈ ws, A v ≠ A (u ++ [(t : Int)])) : Bfs A (ws ++ [u ++ [(t : Int)]]) i (t + 1) := by
  have hi : i < ws.length := (List.getElem?_eq_some_iff.1 hu).1
  have h0 : 0 < ws.length := by omega
  have low : ∀ {j : Nat} {x : List Int}, j ≤ i → (ws ++ [u ++ [(t : Int)]])[j]? = some x → ws[j]? = some x := fun {j x} hj hx => by
    rw [List.getElem?_append_left (by omega)] at hx
    exact hx
  refine ⟨?_, ?_, ?_, ?_, ?_, ?_, ?_⟩
  · rw [List.getElem?_append_left h0]; exact h.root
  · rw [List.pairwise_append]
    refine ⟨h.sorted, List.pairwise_singleton _ _, fun x hx y hy => ?_⟩
    rw [List.mem_singleton] at hy
    subst hy
    exact h.upper u hu x hx
  · rw [List.pairwise_append]
    refine ⟨h.apart, List.pairwise_singleton _ _, fun x hx y hy => ?_⟩
    rw [List.mem_singleton] at hy
    subst hy
    exact hn x hx
  · exact fun j x hj hx => h.no j x hj (low (by omega) hx)
  · intro j x s hj hs hx hq
    have hx' := low (by omega) hx
    by_cases e' : j = i ∧ s = t
    · obtain ⟨rfl, rfl⟩ := e'
      rw [hu] at hx'
      cases hx'
      exact ⟨u ++ [(s : Int)], List.mem_append_right _ (List.mem_singleton.2 rfl), rfl, .inl rfl⟩
    · obtain ⟨v, hv, e, l⟩ := h.closed j x s (by omega) hs hx' hq
      exact ⟨v, List.mem_append_left _ hv, e, l⟩
  · intro v hv x hx
    have hv' := low (Nat.le_refl _) hv
    rw [hu] at hv'
    cases hv'
    rcases List.mem_append.1 hx with hx | hx
    · exact shLt_trans (h.upper u hu x hx) (shLt_last u (by omega))
    · rw [List.mem_singleton] at hx
      subst hx
      exact shLt_last u (by omega)
  · intro x hx
    rcases List.mem_append.1 hx with hx | hx
    · exact h.long x hx
    · exact .inr ⟨u, _, List.mem_singleton.1 hx⟩
theorem pair_at {R : List Int → List Int → Prop} {ws : List (List Int)} (h : ws.Pairwise R) {i j : Nat} {u v : List Int} (hij : i < j) (hu : ws[i]? = some u) (hv : ws[j]? = some v) : R u v := by
  obtain ⟨h1, e1⟩ := List.getElem?_eq_some_iff.1 hu
  obtain ⟨h2, e2⟩ := List.getElem?_eq_some_iff.1 hv
  have := List.pairwise_iff_getElem.1 h i j h1 h2 hij
  rw [e1, e2] at this
  exact this
theorem Bfs.next {A : List Int → Nat → Prop} {ws : List (List Int)} {i : Nat} (h : Bfs A ws i 16) {u : List Int} (hu : ws[i]? = some u) (hn : ¬ A u 1) : Bfs A ws (i + 1) 0 where
  root := h.root
  sorted := h.sorted
  apart := h.apart
  no := fun j v hj hv => by
    by_cases e : j = i
    · subst e
      rw [hu] at hv
      cases hv
      exact hn
    · exact h.no j v (by omega) hv
  closed := fun j v s hj hs hv hq => h.closed j v s (by omega) hs hv hq
  upper := fun v hv x hx => by
    have huv := pair_at h.sorted (Nat.lt_succ_self i) hu hv
    have hxu := h.upper u hu x hx
    exact shLt_trans hxu (shLt_snoc _ _ huv)
  long := h.long
/-- Some word that is not done yet is no greater than any that comes to the end. -/
theorem Bfs.ahead {A : List Int → Nat → Prop} {ws : List (List Int)} {i : Nat} (h : Bfs A ws i 0) (hA : ∀ u v x, A u = A v → A (u ++ [x]) = A (v ++ [x])) (hs : ∀ u x, (∃ q, A (u ++ [x]) q) → 0 ≤ x ∧ x < 16) (hp : ∀ u v, (∃ q, A (u ++ v) q) → ∃ q, A u q) {ys : List Int} (hy : A ys 1) :
    ∃ (k : Nat) (v : List Int), i ≤ k ∧ ws[k]? = some v ∧ shLe v ys := by
  have go : ∀ (r u : List Int), u ++ r = ys → (∃ (j : Nat) (v : List Int), j < i ∧ ws[j]? = some v ∧ A v = A u ∧ shLe v u) → ∃ (k : Nat) (v : List Int), i ≤ k ∧ ws[k]? = some v ∧ shLe v ys := by
    intro r
    induction r with
    | nil =>
      rintro u e ⟨j, v, hj, hv, ev, _⟩
      rw [List.append_nil] at e
      subst e
      exact (h.no j v hj hv (by rw [ev]; exact hy)).elim
    | cons x r ih =>
      rintro u e ⟨j, v, hj, hv, ev, lv⟩
      have hq : ∃ q, A (u ++ [x]) q := hp (u ++ [x]) r ⟨1, by rw [List.append_assoc, List.singleton_append, e]; exact hy⟩
      obtain ⟨x0, x1⟩ := hs u x hq
      obtain ⟨s, rfl⟩ : ∃ s : Nat, x = (s : Int) := ⟨x.toNat, by omega⟩
      have e1 := hA v u (s : Int) ev
      obtain ⟨v', hv', ev', lv'⟩ := h.closed j v s (.inl hj) (by omega) hv (by rw [e1]; exact hq)
      have l2 : shLe v' (u ++ [(s : Int)]) := shLe_trans lv' (shLe_snoc _ lv)
      obtain ⟨k, hk⟩ := List.getElem?_of_mem hv'
      by_cases hki : k < i
      · exact ih (u ++ [(s : Int)]) (by rw [List.append_assoc, List.singleton_append]; exact e) ⟨k, v', hki, hk, by rw [ev', e1], l2⟩
      · refine ⟨k, v', by omega, hk, shLe_trans l2 ?_⟩
        have := shLe_prefix (u ++ [(s : Int)]) r
        rw [List.append_assoc, List.singleton_append, e] at this
        exact this
  by_cases hi : 0 < i
  · exact go ys [] rfl ⟨0, [], hi, h.root, rfl, .inl rfl⟩
  · exact ⟨0, [], by omega, h.root, shLe_prefix [] ys⟩
theorem Bfs.found {A : List Int → Nat → Prop} {ws : List (List Int)} {i : Nat} (h : Bfs A ws i 0) (hA : ∀ u v x, A u = A v → A (u ++ [x]) = A (v ++ [x])) (hs : ∀ u x, (∃ q, A (u ++ [x]) q) → 0 ≤ x ∧ x < 16) (hp : ∀ u v, (∃ q, A (u ++ v) q) → ∃ q, A u q) {u : List Int} (hu : ws[i]? = some u) {ys : List Int} (hy : A ys 1) : shLe u ys := by
  obtain ⟨k, v, hk, hv, l⟩ := h.ahead hA hs hp hy
  by_cases e : k = i
  · subst e
    rw [hu] at hv
    cases hv
    exact l
  · exact shLe_trans (.inr (pair_at h.sorted (by omega) hu hv)) l
theorem Bfs.none {A : List Int → Nat → Prop} {ws : List (List Int)} {i : Nat} (h : Bfs A ws i 0) (hA : ∀ u v x, A u = A v → A (u ++ [x]) = A (v ++ [x])) (hs : ∀ u x, (∃ q, A (u ++ [x]) q) → 0 ≤ x ∧ x < 16) (hp : ∀ u v, (∃ q, A (u ++ v) q) → ∃ q, A u q) (hi : ws.length ≤ i) {ys : List Int} (hy : A ys 1) : False := by
  obtain ⟨k, v, hk, hv, _⟩ := h.ahead hA hs hp hy
  have := (List.getElem?_eq_some_iff.1 hv).1
  omega

/-- A set of places as a number. -/
noncomputable def code (P : Nat → Prop) : List Nat → Nat
  | [] => 0
  | q :: l => (open Classical in if P q then 1 else 0) + 2 * code P l
theorem code_lt (P : Nat → Prop) : ∀ l : List Nat, code P l < 2 ^ l.length := by
  intro l
  induction l with
  | nil => exact Nat.one_pos
  | cons q l ih =>
    rw [code, List.length_cons, Nat.pow_succ]
    split <;> omega
theorem code_same {P Q : Nat → Prop} : ∀ {l : List Nat}, code P l = code Q l → ∀ q ∈ l, P q ↔ Q q := by
  intro l
  induction l with
  | nil => intro _ q hq; cases hq
  | cons a l ih =>
    intro h q hq
    rw [code, code] at h
    have h2 : code P l = code Q l ∧ (P a ↔ Q a) := by
      by_cases hp : P a
      · by_cases hq : Q a
        · rw [if_pos hp, if_pos hq] at h; exact ⟨by omega, by simp [hp, hq]⟩
        · rw [if_pos hp, if_neg hq] at h; omega
      · by_cases hq : Q a
        · rw [if_neg hp, if_pos hq] at h; omega
        · rw [if_neg hp, if_neg hq] at h; exact ⟨by omega, by simp [hp, hq]⟩
    rcases List.mem_cons.1 hq with rfl | hq
    · exact h2.2
    · exact ih h2.1 q hq
theorem few_nats : ∀ (m : Nat) (l : List Nat), l.Nodup → (∀ x ∈ l, x < m) → l.length ≤ m := by
  intro m
  induction m with
  | zero =>
    intro l _ h
    cases l with
    | nil => exact Nat.le_refl _
    | cons a r => exact absurd (h a (List.mem_cons_self ..)) (Nat.not_lt_zero _)
  | succ m ih =>
    intro l hd h
    have h1 := ih (l.erase m) (hd.sublist List.erase_sublist) (fun x hx => by
      rw [hd.mem_erase_iff] at hx
      have := h x hx.2
      omega)
    have h2 := List.length_erase (a := m) (l := l)
    by_cases hm : m ∈ l
    · rw [if_pos hm] at h2; omega
    · rw [if_neg hm] at h2; omega
/-- The words known are few: what comes behind a type is told by the few places nx. -/
theorem Bfs.few {A : List Int → Nat → Prop} {ws : List (List Int)} {i t : Nat} (h : Bfs A ws i t) (nx : List Nat) (G : List Int → Nat → Prop) (hG : ∀ u v x y, (∀ q ∈ nx, G (u ++ [x]) q ↔ G (v ++ [y]) q) → A (u ++ [x]) = A (v ++ [y])) : ws.length ≤ 2 ^ nx.length + 1 := by
  cases ws with
  | nil => exact Nat.zero_le _
  | cons w0 r =>
    obtain rfl : w0 = [] := by have := h.root; simpa using this
    have hl : ∀ u ∈ r, ∃ v x, u = v ++ [x] := fun u hu => by
      rcases h.long u (List.mem_cons_of_mem _ hu) with rfl | h'
      · exact (shLt_irr [] ((List.pairwise_cons.1 h.sorted).1 [] hu)).elim
      · exact h'
    have hd : (r.map fun u => code (G u) nx).Nodup := by
      unfold List.Nodup
      rw [List.pairwise_map]
      refine List.Pairwise.imp_of_mem ?_ (List.pairwise_cons.1 h.apart).2
      intro u v hu hv hne he
      obtain ⟨u', x, rfl⟩ := hl u hu
      obtain ⟨v', y, rfl⟩ := hl v hv
      exact hne (hG u' v' x y (code_same he))
    have := few_nats (2 ^ nx.length) _ hd (fun x hx => by
      obtain ⟨u, _, rfl⟩ := List.mem_map.1 hx
      exact code_lt _ _)
    rw [List.length_map] at this
    rw [List.length_cons]
    omega
end Go.Proofs.YtgkplmnhmobnnaaGreatDoor

/- Best: what reg.Fill answers is the least of all words that make a word one of the language: the shortest, and of them the first type by type. -/
namespace Go.Proofs.YtgkplmnhmobnnaaGreatDoor
open Go.RowKit

theorem low_step {F : List Place} (hF : wf F) {S : Nat → Prop} {m : Nat} (hm : ∀ p, S p → m + 1 ≤ leastAt F p) (t : Int) : ∀ p, stepS F S t p → m ≤ leastAt F p := by
  rintro r ⟨a, y, s, k, ha, hy, hty, hs, hv⟩
  obtain ⟨q', g1, _, g3⟩ := step_at hF hy (takes_ne hty)
  rw [g1] at hs
  cases hs
  have e1 := hm a ha
  rw [leastAt_some hy] at e1
  have e2 := via_least hF hv
  omega
/-- No word that comes to the end is shorter than what the places need. -/
theorem low_word {F : List Place} (hF : wf F) : ∀ (ys : List Int) (S : Nat → Prop) (m : Nat), (∀ p, S p → m ≤ leastAt F p) → (ys.foldl (stepS F) S) 0 → m ≤ ys.length := by
  intro ys
  induction ys with
  | nil =>
    intro S m hm h
    have := hm 0 h
    rw [leastAt_some hF.1] at this
    exact this
  | cons y r ih =>
    intro S m hm h
    cases m with
    | zero => exact Nat.zero_le _
    | succ m =>
      have := ih (stepS F S y) m (low_step hF hm y) h
      rw [List.length_cons]
      omega
/-- What is taken greedily is the least. -/
theorem greedy_least {F : List Place} (hF : wf F) : ∀ (m : Nat) (S : Nat → Prop) (xs : List Int), Shut1 F S → MinS F S m → Greedy F m S xs → xs.length = m → ∀ ys, (ys.foldl (stepS F) S) 0 → shLe xs ys := by
  intro m
  induction m with
  | zero =>
    intro S xs _ _ h _ ys _
    have h' : xs = [] := h
    rw [h']
    exact shLe_prefix [] ys
  | succ m ih =>
    rintro S xs hS hm ⟨j, r, rfl, ⟨p, x, hp, hx, hl, hb⟩, hno, hr⟩ hlen ys hy
    have hlen' : r.length = m := by rw [List.length_cons] at hlen; omega
    have hj : j < 16 ∨ ¬ j < 16 := Nat.lt_or_ge j 16 |>.imp id (fun h => by omega)
    cases ys with
    | nil =>
      have := (min_zero hF hS hm).2 hy
      omega
    | cons y q =>
      have hq := low_word hF (y :: q) S (m + 1) hm.2 hy
      rw [List.length_cons] at hq
      by_cases hql : q.length = m
      · -- as long: some place on a shortest way takes y
        have hex : ∃ p x, S p ∧ F[p]? = some x ∧ takes x.1 y = true ∧ x.2.2 = m + 1 := by
          refine Classical.byContradiction fun hc => ?_
          have hlow : ∀ p, stepS F S y p → m + 1 ≤ leastAt F p := by
            rintro r' ⟨a, z, s, k, ha, hz, htz, hs, hv⟩
            obtain ⟨q', g1, _, g3⟩ := step_at hF hz (takes_ne htz)
            rw [g1] at hs
            cases hs
            have e1 := hm.2 a ha
            rw [leastAt_some hz] at e1
            have e2 := via_least hF hv
            have e3 : z.2.2 ≠ m + 1 := fun e => hc ⟨a, z, ha, hz, htz, e⟩
            omega
          have := low_word hF q (stepS F S y) (m + 1) hlow hy
          omega
        obtain ⟨p', x', hp', hx', ht', hl'⟩ := hex
        have hty : 0 ≤ y ∧ y < 16 ∧ x'.1.testBit y.toNat = true := by
          unfold takes at ht'
          simp only [Bool.and_eq_true, decide_eq_true_eq] at ht'
          exact ⟨ht'.1.1, ht'.1.2, ht'.2⟩
        have hjy : (j : Int) ≤ y := by
          refine Classical.byContradiction fun hc => ?_
          exact hno y.toNat (by omega) ⟨p', x', hp', hx', hl', hty.2.2⟩
        rcases Int.lt_or_eq_of_le hjy with hlt | heq
        · exact .inr (.inr ⟨by rw [List.length_cons, List.length_cons, hlen', hql], .inl hlt⟩)
        · subst heq
          have hmin := min_step hF hm hp' hx' ht' hl'
          rcases ih (stepS F S (j : Int)) r (stepS_shut _ _ _) hmin hr hlen' q hy with rfl | hs
          · exact .inl rfl
          · refine .inr (.inr ⟨by rw [List.length_cons, List.length_cons, hlen', hql], .inr ⟨rfl, ?_⟩⟩)
            rcases hs with hs | hs
            · omega
            · exact hs.2
      · exact .inr (.inl (by rw [List.length_cons, List.length_cons]; omega))
/-- The least of all that makes zs a word. -/
def BestD (gs : List Grp) (n : Nat) (t : DataW Unit) (zs xs : List Int) : Prop := LangD gs n t (zs ++ xs) ∧ ∀ ys, LangD gs n t (zs ++ ys) → shLe xs ys
theorem best_one {gs : List Grp} {n : Nat} {t : DataW Unit} {zs xs ys : List Int} (h1 : BestD gs n t zs xs) (h2 : BestD gs n t zs ys) : xs = ys := shLe_anti (h1.2 ys h2.1) (h2.2 xs h1.1)
/-- What Fill says, in short. -/
def FilledB (gs : List Grp) (n : Nat) (t : DataW Unit) (zs : List Int) (w w' : World) (e : Ending) : Prop :=
  Below w.heap.size w w' ∧ ((¬ PreD gs n t zs ∧ e = .returned (.tuple #[.slice none 0 0, .bool false])) ∨ (PreD gs n t zs ∧ ∃ (a : Option Addr) (c : Nat) (xs : List Int), e = .returned (.tuple #[.slice a xs.length c, .bool true]) ∧ Ints w' a xs.length xs ∧ BestD gs n t zs xs))
theorem filled_best {gs : List Grp} {n : Nat} {t : DataW Unit} {zs : List Int} {w w' : World} {e : Ending} (hc : chk n t gs = 0) (h : Filled gs n t zs w w' e) : FilledB gs n t zs w w' e := by
  refine ⟨h.1, ?_⟩
  rcases h.2 with h2 | ⟨hp, a, c, xs, m, h1, h2, h3, h4, h5, h6, h7, h8⟩
  · exact .inl h2
  · refine .inr ⟨hp, a, c, xs, h1, h2, h8, fun ys hy => ?_⟩
    refine greedy_least (plan_sound hc).1.wf m _ xs (afterS_shut (startS_shut _ _) _) h6 h7 h4 ys ?_
    have := (after_lang hc (zs ++ ys)).2 hy
    unfold afterS at this ⊢
    rw [List.foldl_append] at this
    exact this
end Go.Proofs.YtgkplmnhmobnnaaGreatDoor

/- HouseE: what the house's expressions say of words; what Check of the house's answers of the least documents. -/
namespace Go.Proofs.YtgkplmnhmobnnaaGreatDoor
open Go.RowKit

theorem pow_ones {P : Int → Prop} : ∀ (m : Nat) (w : List Int), LPow (fun v => ∃ a, v = [a] ∧ P a) m w ↔ (w.length = m ∧ ∀ a ∈ w, P a) := by
  intro m
  induction m with
  | zero =>
    intro w
    rw [LPow]
    constructor
    · rintro rfl
      exact ⟨rfl, fun a h => by cases h⟩
    · exact fun h => List.length_eq_zero_iff.1 h.1
  | succ m ih =>
    intro w
    rw [LPow]
    constructor
    · rintro ⟨u, v, rfl, ⟨a, rfl, ha⟩, hv⟩
      obtain ⟨h1, h2⟩ := (ih v).1 hv
      refine ⟨by rw [List.length_append, List.length_singleton]; omega, fun b hb => ?_⟩
      rcases List.mem_append.1 hb with hb | hb
      · rw [List.mem_singleton] at hb; subst hb; exact ha
      · exact h2 b hb
    · rintro ⟨h1, h2⟩
      cases w with
      | nil => cases h1
      | cons a r =>
        exact ⟨[a], r, rfl, ⟨a, rfl, h2 a (List.mem_cons_self ..)⟩, (ih r).2 ⟨by rw [List.length_cons] at h1; omega, fun b hb => h2 b (List.mem_cons_of_mem _ hb)⟩⟩
theorem lang_inner (gs : List Grp) (nm : ByteArray) : (fun v => ∃ x ∈ [node 1 nm []], Lang kindT (fun t => maskG gs (nameT t)) subs 199 x v) = fun v => ∃ a, v = [a] ∧ takes (maskG gs nm) a = true := by
  funext v
  refine propext ⟨?_, ?_⟩
  · rintro ⟨x, hx, h⟩
    rw [List.mem_singleton] at hx
    subst hx
    rw [Lang, if_pos (show kindT (node 1 nm []) = 1 from rfl)] at h
    exact h
  · intro h
    refine ⟨_, List.mem_singleton.2 rfl, ?_⟩
    rw [Lang, if_pos (show kindT (node 1 nm []) = 1 from rfl)]
    exact h
theorem lang_plusN (gs : List Grp) (s nm : ByteArray) (w : List Int) : LangD gs 200 (node 5 s [node 1 nm []]) w ↔ (w ≠ [] ∧ ∀ a ∈ w, takes (maskG gs nm) a = true) := by
  have e : LangD gs 200 (node 5 s [node 1 nm []]) w ↔ ∃ m, LPow (fun v => ∃ x ∈ [node 1 nm []], Lang kindT (fun t => maskG gs (nameT t)) subs 199 x v) (m + 1) w := by
    unfold LangD
    rw [Lang, if_neg (show ¬ kindT (node 5 s [node 1 nm []]) = 1 by rw [kindT_node]; decide), if_neg (show ¬ kindT (node 5 s [node 1 nm []]) = 2 by rw [kindT_node]; decide), if_neg (show ¬ kindT (node 5 s [node 1 nm []]) = 3 by rw [kindT_node]; decide), if_neg (show ¬ kindT (node 5 s [node 1 nm []]) = 4 by rw [kindT_node]; decide), if_pos (show kindT (node 5 s [node 1 nm []]) = 5 from rfl)]
    exact Iff.rfl
  rw [e, lang_inner]
  constructor
  · rintro ⟨m, h⟩
    obtain ⟨h1, h2⟩ := (pow_ones _ _).1 h
    exact ⟨fun e => (by rw [e] at h1; cases h1), h2⟩
  · rintro ⟨h1, h2⟩
    refine ⟨w.length - 1, (pow_ones _ _).2 ⟨?_, h2⟩⟩
    have : w.length ≠ 0 := fun e => h1 (List.length_eq_zero_iff.1 e)
    omega
theorem lang_starN (gs : List Grp) (s nm : ByteArray) (w : List Int) : LangD gs 200 (node 4 s [node 1 nm []]) w ↔ ∀ a ∈ w, takes (maskG gs nm) a = true := by
  have e : LangD gs 200 (node 4 s [node 1 nm []]) w ↔ ∃ m, LPow (fun v => ∃ x ∈ [node 1 nm []], Lang kindT (fun t => maskG gs (nameT t)) subs 199 x v) m w := by
    unfold LangD
    rw [Lang, if_neg (show ¬ kindT (node 4 s [node 1 nm []]) = 1 by rw [kindT_node]; decide), if_neg (show ¬ kindT (node 4 s [node 1 nm []]) = 2 by rw [kindT_node]; decide), if_neg (show ¬ kindT (node 4 s [node 1 nm []]) = 3 by rw [kindT_node]; decide), if_pos (show kindT (node 4 s [node 1 nm []]) = 4 from rfl)]
    exact Iff.rfl
  rw [e, lang_inner]
  constructor
  · rintro ⟨m, h⟩
    exact ((pow_ones _ _).1 h).2
  · intro h
    exact ⟨w.length, (pow_ones _ _).2 ⟨rfl, h⟩⟩
def gsH : List Grp := namesD houseL houseG
def blockB : ByteArray := ⟨#[98, 108, 111, 99, 107]⟩
def itemB : ByteArray := ⟨#[105, 116, 101, 109]⟩
theorem tree_block : outTree houseW = node 5 ⟨#[]⟩ [node 1 blockB []] := by kernel_rfl
theorem tree_text : outTree textS = node 4 ⟨#[]⟩ [node 1 textB []] := by kernel_rfl
theorem tree_item : outTree itemS = node 5 ⟨#[]⟩ [node 1 itemB []] := by kernel_rfl
theorem mask_block : maskG gsH blockB = 190 := by kernel_rfl
theorem mask_text : maskG gsH textB = 1 := by kernel_rfl
theorem mask_item : maskG gsH itemB = 64 := by kernel_rfl
theorem words_block (w : List Int) : LangD gsH 200 (outTree houseW) w ↔ (w ≠ [] ∧ ∀ a ∈ w, takes 190 a = true) := by rw [tree_block, lang_plusN, mask_block]
theorem words_text (w : List Int) : LangD gsH 200 (outTree textS) w ↔ ∀ a ∈ w, takes 1 a = true := by rw [tree_text, lang_starN, mask_text]
theorem words_item (w : List Int) : LangD gsH 200 (outTree itemS) w ↔ (w ≠ [] ∧ ∀ a ∈ w, takes 64 a = true) := by rw [tree_item, lang_plusN, mask_item]
/-- The house's kinds. -/
theorem house_kinds {w : World} {B : Nat} (h : MadeS w B houseW houseL houseG) : ∃ g c ng nc ks, SchAt w B g c ng nc ks gsH (treesOf houseW houseL) ∧ ks.length = 8 ∧ ∀ i, specOf ks i = ((zeroS :: houseL)[i]?).getD zeroS := by
  obtain ⟨g, c, ng, nc, ks, h1, h2⟩ := h
  refine ⟨g, c, ng, nc, ks, h1, ?_, fun i => ?_⟩
  · have := congrArg List.length h2
    rw [List.length_map] at this
    exact this
  · unfold specOf
    rw [← List.getElem?_map, h2]
theorem pre_of {n : Nat} {t : DataW Unit} {gs : List Grp} (h : chk n t gs = 0) {w v : List Int} (hl : LangD gs n t (w ++ v)) : PreD gs n t w := pre_less ⟨0, (after_lang h _).2 hl⟩
theorem long_nil {gs : List Grp} {t : DataW Unit} (h : PreD gs 200 t []) : LongD gs 200 t [] 0 := ⟨Nat.le_refl _, h, fun h => absurd h (Nat.not_lt_zero _)⟩
def openP : Tok := ⟨1, 1, 0, 0⟩
def closeT : Tok := ⟨2, 0, 0, 0⟩
theorem wordF_lang {gs : List Grp} {t : DataW Unit} {l : List Tok} {i : Int} {ps : List Int} (h : LangD gs 200 t (wordD l ps)) : wordF gs t l i ps = 2049 := by
  unfold wordF
  rw [if_pos h]
theorem faultD_fit {ks : List KindD} {gs : List Grp} {t : DataW Unit} {s : SpecD} {l : List Tok} {i : Int} (hf : ∀ p ∈ kids l i, fitsB ks s ((l[p.toNat]?).getD ⟨0, 0, 0, 0⟩) = true) : faultD ks gs t s l i = wordF gs t l i (kids l i) := by
  unfold faultD
  have key : ∀ (f j : Nat), j + f = (kids l i).length → faultK ks gs t s l i (kids l i) j f = wordF gs t l i (kids l i) := by
    intro f
    induction f with
    | zero => intro j _; rw [faultK]
    | succ f ih =>
      intro j hj
      have hm : (kids l i).getD j 0 ∈ kids l i := by
        rw [List.getD_eq_getElem?_getD, List.getElem?_eq_getElem (show j < (kids l i).length by omega)]
        exact List.getElem_mem _
      rw [faultK, if_pos (hf _ hm)]
      exact ih (j + 1) (by omega)
  exact key _ 0 (by omega)
theorem check_pp : check [openP, closeT] = (2, 0) := by decide
theorem check_nil : check [] = (0, 0) := by decide
/-- A paragraph with nothing in it may be. -/
theorem check_para {ks : List KindD} (h8 : ks.length = 8) (hs : ∀ i, specOf ks i = ((zeroS :: houseL)[i]?).getD zeroS) : checkS ks gsH (treesOf houseW houseL) [openP, closeT] = (2, 0) := by
  have k1 : kids [openP, closeT] (-1) = [0] := by decide
  have k2 : kids [openP, closeT] 0 = [] := by decide
  have f1 : faultD ks gsH ((treesOf houseW houseL).getD 0 emptyT) (specOf ks 0) [openP, closeT] (-1) = 2049 := by
    rw [faultD_fit, k1]
    · exact wordF_lang ((words_block _).2 ⟨by decide, by decide⟩)
    · intro p hp
      rw [k1, List.mem_singleton] at hp
      subst hp
      show fitsB ks (specOf ks 0) openP = true
      unfold fitsB
      rw [if_neg (by decide), if_pos (by rw [h8]; decide), hs]
      decide
  have f2 : faultAt ks gsH (treesOf houseW houseL) [openP, closeT] 0 = 2049 := by
    unfold faultAt
    have ht : typeAt [openP, closeT] ((0 : Nat) : Int) = 1 := by decide
    rw [ht, faultD_fit]
    · show wordF gsH (outTree textS) [openP, closeT] 0 (kids [openP, closeT] 0) = 2049
      rw [k2]
      exact wordF_lang ((words_text _).2 (fun a ha => by cases ha))
    · intro p hp
      have : kids [openP, closeT] ((0 : Nat) : Int) = [] := k2
      rw [this] at hp
      cases hp
  have ff : firstS ks gsH (treesOf houseW houseL) [openP, closeT] = 2049 := by
    unfold firstS
    rw [f1]
    show foldF ks gsH (treesOf houseW houseL) [openP, closeT] 0 2 2049 = 2049
    rw [foldF, if_neg (by decide), if_pos (by decide), f2, foldF, if_neg (by decide), if_neg (by decide), foldF]
    decide
  unfold checkS
  rw [check_pp, if_neg (by decide), ff, if_neg (by decide)]
  rfl
/-- Nothing may not be. -/
theorem check_none {ks : List KindD} (hck : chk 200 (outTree houseW) gsH = 0) : checkS ks gsH (treesOf houseW houseL) [] = (0, 9) := by
  have k1 : kids [] (-1) = [] := by decide
  have hpre : PreD gsH 200 (outTree houseW) [] := pre_of (v := [1]) hck ((words_block _).2 ⟨by decide, by decide⟩)
  have f1 : faultD ks gsH ((treesOf houseW houseL).getD 0 emptyT) (specOf ks 0) [] (-1) = 0 := by
    rw [faultD_fit, k1]
    · show wordF gsH (outTree houseW) [] (-1) [] = 0
      unfold wordF
      rw [show wordD [] [] = ([] : List Int) from rfl, if_neg (fun h => ((words_block _).1 h).1 rfl), begN_eq (long_nil hpre), if_neg (by decide), if_pos rfl]
      rfl
    · intro p hp
      rw [k1] at hp
      cases hp
  have ff : firstS ks gsH (treesOf houseW houseL) [] = 0 := by
    unfold firstS
    rw [f1]
    rfl
  unfold checkS
  rw [check_nil, if_neg (by decide), ff, if_pos (by decide)]
end Go.Proofs.YtgkplmnhmobnnaaGreatDoor
