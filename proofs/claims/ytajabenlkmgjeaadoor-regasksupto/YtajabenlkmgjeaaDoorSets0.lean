/-
  PROVED HERE: plain facts on sets of places: what forks reach, what is reached behind a type, behind a word.
-/
import Derived.Test.YtajabenlkmgjeaaDoorLang
namespace Go.Proofs.YtajabenlkmgjeaaDoor

/-- From p forks lead to q, in at most k moves. -/
def Via (F : List Place) : Nat → Nat → Nat → Prop
  | 0, p, q => p = q
  | k + 1, p, q => p = q ∨ ∃ x, F[p]? = some x ∧ x.1 = 0 ∧ ∃ r ∈ x.2.1, Via F k r q
theorem Via.up {F : List Place} : ∀ {k p q : Nat}, Via F k p q → Via F (k + 1) p q := by
  intro k
  induction k with
  | zero => intro p q h; exact .inl h
  | succ k ih =>
    intro p q h
    rcases h with h | ⟨x, hx, h0, r, hr, h⟩
    · exact .inl h
    · exact .inr ⟨x, hx, h0, r, hr, ih h⟩
theorem Via.upto {F : List Place} {k m p q : Nat} (h : k ≤ m) (hr : Via F k p q) : Via F m p q := by
  induction h with
  | refl => exact hr
  | step _ ih => exact Via.up ih
theorem Via.trans {F : List Place} : ∀ {k p q : Nat}, Via F k p q → ∀ {m r : Nat}, Via F m q r → Via F (k + m) p r := by
  intro k
  induction k with
  | zero =>
    rintro p q rfl m r h
    simpa using h
  | succ k ih =>
    intro p q h m r h'
    rw [show k + 1 + m = k + m + 1 from by omega]
    rcases h with rfl | ⟨x, hx, h0, s, hs, h⟩
    · exact Via.upto (by omega) h'
    · exact .inr ⟨x, hx, h0, s, hs, ih h h'⟩
theorem Via.one {F : List Place} {p q : Nat} {x : Place} (hx : F[p]? = some x) (h0 : x.1 = 0) (hq : q ∈ x.2.1) : Via F 1 p q := .inr ⟨x, hx, h0, q, hq, rfl⟩
/-- All that forks reach is in it. -/
def Shut1 (F : List Place) (S : Nat → Prop) : Prop := ∀ p x, S p → F[p]? = some x → x.1 = 0 → ∀ q ∈ x.2.1, S q
theorem Shut1.via {F : List Place} {S : Nat → Prop} (h : Shut1 F S) : ∀ {k p q : Nat}, S p → Via F k p q → S q := by
  intro k
  induction k with
  | zero => rintro p q hp rfl; exact hp
  | succ k ih =>
    intro p q hp hv
    rcases hv with rfl | ⟨x, hx, h0, r, hr, hv⟩
    · exact hp
    · exact ih (h p x hp hx h0 r hr) hv
/-- What is reached from p without a type. -/
def startS (F : List Place) (p : Nat) : Nat → Prop := fun q => ∃ k, Via F k p q
theorem startS_shut (F : List Place) (p : Nat) : Shut1 F (startS F p) := fun _q _x ⟨_, hk⟩ hx h0 _ hr => ⟨_, hk.trans (Via.one hx h0 hr)⟩
/-- What is reached behind the type t. -/
def stepS (F : List Place) (S : Nat → Prop) (t : Int) : Nat → Prop := fun q => ∃ a x r k, S a ∧ F[a]? = some x ∧ takes x.1 t = true ∧ x.2.1[0]? = some r ∧ Via F k r q
theorem stepS_shut (F : List Place) (S : Nat → Prop) (t : Int) : Shut1 F (stepS F S t) := fun _q _x ⟨a, y, r, _, h1, h2, h3, h4, hk⟩ hx h0 _ hr => ⟨a, y, r, _, h1, h2, h3, h4, hk.trans (Via.one hx h0 hr)⟩
/-- What is reached behind a word. -/
def afterS (F : List Place) (S : Nat → Prop) (w : List Int) : Nat → Prop := w.foldl (stepS F) S
theorem afterS_shut {F : List Place} {S : Nat → Prop} (h : Shut1 F S) : ∀ w, Shut1 F (afterS F S w) := by
  intro w
  induction w generalizing S with
  | nil => exact h
  | cons t r ih => exact ih (stepS_shut F S t)
theorem afterS_snoc (F : List Place) (S : Nat → Prop) (w : List Int) (t : Int) : afterS F S (w ++ [t]) = stepS F (afterS F S w) t := by unfold afterS; rw [List.foldl_append]; rfl
theorem afterS_empty {F : List Place} {S : Nat → Prop} (h : ∀ p, ¬ S p) : ∀ w p, ¬ afterS F S w p := by
  intro w
  induction w generalizing S with
  | nil => exact h
  | cons t r ih => exact ih (fun p ⟨a, _, _, _, h1, _⟩ => h a h1)
/-- What reads a word to the end is what comes to the end. -/
theorem reads_after {F : List Place} (_h0 : F[0]? = some (0, [], 0)) : ∀ (w : List Int) (S : Nat → Prop), Shut1 F S → ((∃ a k, S a ∧ Reads F k a w) ↔ afterS F S w 0) := by
  intro w
  induction w with
  | nil =>
    intro S hS
    constructor
    · rintro ⟨a, k, ha, hr⟩
      show S 0
      induction k generalizing a with
      | zero => obtain ⟨rfl, _⟩ := hr; exact ha
      | succ k ih =>
        rcases hr with ⟨rfl, _⟩ | ⟨x, hx, ⟨hz, q, hq, hr⟩ | ⟨_, t, v, q, e, _⟩⟩
        · exact ha
        · exact ih q (hS a x ha hx hz q hq) hr
        · cases e
    · intro h
      exact ⟨0, 0, h, rfl, rfl⟩
  | cons t v ih =>
    intro S hS
    rw [show afterS F S (t :: v) = afterS F (stepS F S t) v from rfl, ← ih _ (stepS_shut F S t)]
    constructor
    · rintro ⟨a, k, ha, hr⟩
      induction k generalizing a with
      | zero => obtain ⟨_, e⟩ := hr; cases e
      | succ k ihk =>
        rcases hr with ⟨_, e⟩ | ⟨x, hx, ⟨hz, q, hq, hr⟩ | ⟨hz, t', v', q, e, ht, hq, hr⟩⟩
        · cases e
        · exact ihk q (hS a x ha hx hz q hq) hr
        · cases e
          exact ⟨q, k, ⟨a, x, q, 0, ha, hx, ht, hq, rfl⟩, hr⟩
    · rintro ⟨b, k, ⟨a, x, r, m, ha, hx, ht, hr, hv⟩, hR⟩
      have hlift : ∀ {m p : Nat}, Via F m p b → Reads F (m + k) p v := by
        intro m
        induction m with
        | zero => rintro p rfl; simpa using hR
        | succ m ihm =>
          intro p hp
          rw [show m + 1 + k = m + k + 1 from by omega]
          rcases hp with rfl | ⟨y, hy, hz, s, hs, hp⟩
          · exact Reads.upto (by omega) hR
          · exact .inr ⟨y, hy, .inl ⟨hz, s, hs, ihm hp⟩⟩
      refine ⟨a, m + k + 1, ha, .inr ⟨x, hx, .inr ⟨fun e => ?_, t, v, r, rfl, ht, hr, hlift hv⟩⟩⟩
      rw [e, takes_zero] at ht
      cases ht
/-- What a search from p adds to a set. -/
def Grown (F : List Place) (S S' : Nat → Bool) (p : Nat) : Prop :=
  (∀ q, S q = true → S' q = true) ∧ S' p = true ∧ (∀ q, S' q = true → S q = true ∨ ∃ k, Via F k p q) ∧ ∀ q x, S' q = true → S q = false → F[q]? = some x → x.1 = 0 → ∀ r ∈ x.2.1, S' r = true
def GrownS (F : List Place) (S S' : Nat → Bool) (p : Nat) (l : List Nat) : Prop :=
  (∀ q, S q = true → S' q = true) ∧ S' p = true ∧ (∀ q ∈ l, S' q = true) ∧ (∀ q, S' q = true → S q = true ∨ ∃ k, Via F k p q) ∧ ∀ q x, S' q = true → S q = false → q ≠ p → F[q]? = some x → x.1 = 0 → ∀ r ∈ x.2.1, S' r = true
theorem GrownS.step {F : List Place} {S S1 S2 : Nat → Bool} {p q : Nat} {l : List Nat} {x : Place} (hx : F[p]? = some x) (h0 : x.1 = 0) (hq : q ∈ x.2.1) (h : GrownS F S S1 p l) (g : Grown F S1 S2 q) : GrownS F S S2 p (l ++ [q]) := by
  obtain ⟨h1, h2, h3, h4, h5⟩ := h
  obtain ⟨g1, g2, g3, g4⟩ := g
  refine ⟨fun r hr => g1 r (h1 r hr), g1 p h2, fun r hr => ?_, fun r hr => ?_, fun r y hr hn hne hy hz s hs => ?_⟩
  · rcases List.mem_append.1 hr with hr | hr
    · exact g1 r (h3 r hr)
    · simp at hr; rw [hr]; exact g2
  · rcases g3 r hr with h | ⟨k, h⟩
    · exact h4 r h
    · exact .inr ⟨_, (Via.one hx h0 hq).trans h⟩
  · cases hc : S1 r with
    | true => exact g1 s (h5 r y hc hn hne hy hz s hs)
    | false => exact g4 r y hr hc hy hz s hs
theorem GrownS.done {F : List Place} {S S' : Nat → Bool} {p : Nat} {x : Place} (hx : F[p]? = some x) (h : GrownS F S S' p x.2.1) : Grown F S S' p := by
  obtain ⟨h1, h2, h3, h4, h5⟩ := h
  refine ⟨h1, h2, h4, fun q y hq hn hy hz r hr => ?_⟩
  by_cases e : q = p
  · subst e
    rw [hx] at hy
    cases hy
    exact h3 r hr
  · exact h5 q y hq hn e hy hz r hr
theorem Grown.refl {F : List Place} {S : Nat → Bool} {p : Nat} (h : S p = true) : Grown F S S p := ⟨fun _ h => h, h, fun _ h => .inl h, fun q _ h1 h2 => by rw [h1] at h2; cases h2⟩
/-- With p alone. -/
def putS (S : Nat → Bool) (p : Nat) : Nat → Bool := fun q => S q || (q == p)
theorem GrownS.start (F : List Place) (S : Nat → Bool) (p : Nat) : GrownS F S (putS S p) p [] := by
  refine ⟨fun q h => by simp [putS, h], by simp [putS], fun q hq => (by cases hq), fun q h => ?_, fun q x h hn hne => ?_⟩
  · simp [putS] at h
    rcases h with h | h
    · exact .inl h
    · exact .inr ⟨0, h.symm⟩
  · simp [putS, hn] at h
    exact absurd h hne
/-- A search from p in a set that is shut: what is in it then. -/
theorem Grown.iff {F : List Place} {S S' : Nat → Bool} {p : Nat} (h : Grown F S S' p) (hS : Shut1 F (fun q => S q = true)) : Shut1 F (fun q => S' q = true) ∧ ∀ q, S' q = true ↔ (S q = true ∨ startS F p q) := by
  obtain ⟨h1, h2, h3, h4⟩ := h
  have hsh : Shut1 F (fun q => S' q = true) := fun q x hq hx hz r hr => by
    cases hc : S q with
    | true => exact h1 r (hS q x hc hx hz r hr)
    | false => exact h4 q x hq hc hx hz r hr
  refine ⟨hsh, fun q => ⟨fun h => h3 q h, fun h => ?_⟩⟩
  rcases h with h | ⟨k, h⟩
  · exact h1 q h
  · exact hsh.via h2 h
/-- How many are not in it. -/
def outS (S : Nat → Bool) (N : Nat) : Nat := ((List.range N).filter (fun p => !S p)).length
theorem filter_le {α : Type} {p q : α → Bool} : ∀ l : List α, (∀ x, p x = true → q x = true) → (l.filter p).length ≤ (l.filter q).length := by
  intro l h
  induction l with
  | nil => exact Nat.le_refl _
  | cons x r ih =>
    rw [List.filter_cons, List.filter_cons]
    cases hp : p x with
    | true => rw [h x hp]; simpa using ih
    | false =>
      cases q x with
      | true => simp; omega
      | false => simpa using ih
theorem filter_lt {α : Type} {p q : α → Bool} {a : α} : ∀ l : List α, (∀ x, p x = true → q x = true) → a ∈ l → p a = false → q a = true → (l.filter p).length < (l.filter q).length := by
  intro l h ha hp hq
  induction l with
  | nil => cases ha
  | cons x r ih =>
    rw [List.filter_cons, List.filter_cons]
    rcases List.mem_cons.1 ha with rfl | ha
    · rw [hp, hq]
      have := filter_le r h
      simp
      omega
    · have := ih ha
      cases hpx : p x with
      | true => rw [h x hpx]; simpa using this
      | false =>
        cases q x with
        | true => simp; omega
        | false => simpa using this
theorem outS_le {S S' : Nat → Bool} {N : Nat} (h : ∀ q, S q = true → S' q = true) : outS S' N ≤ outS S N := filter_le _ fun x hx => by
  cases hc : S x with
  | false => rfl
  | true => rw [h x hc] at hx; exact hx
theorem outS_lt {S S' : Nat → Bool} {N p : Nat} (h : ∀ q, S q = true → S' q = true) (hp : p < N) (h1 : S p = false) (h2 : S' p = true) : outS S' N < outS S N := filter_lt _ (fun x hx => by
  cases hc : S x with
  | false => rfl
  | true => rw [h x hc] at hx; exact hx) (List.mem_range.2 hp) (by rw [h2]; rfl) (by rw [h1]; rfl)
end Go.Proofs.YtajabenlkmgjeaaDoor
