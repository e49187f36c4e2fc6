/-
  PROVED HERE: what the texts Sets0, Sets, Srch say (each has its own words below).
-/
import Derived.Test.YtgkplmnhmobnnaaGreatDoorSM16
import Derived.Maps.RangeWalk
import Derived.Laws.EntriesVeiled
/- Sets0: plain facts on sets of places: what forks reach, what is reached behind a type, behind a word. -/
namespace Go.Proofs.YtgkplmnhmobnnaaGreatDoor

/-- From p forks lead to q, in at most k moves. -/
def Via (F : List Place) : Nat → Nat → Nat → Prop
  | 0, p, q => p = q
  | k + 1, p, q => p = q ∨ ∃ x, F[p]? = some x ∧ x.1 = 0 ∧ ∃ r ∈ x.2.1, Via F k r q
theorem Via.up {F : List Place} : ∀ {k p q : Nat}, Via F k p q → Via F (k + 1) p q := by
  intro k
  induction k with
  | zero => intro p q h; exact .inl h
  | succ k ih =>
    intro p q h
    rcases h with h | ⟨x, hx, h0, r, hr, h⟩
    · exact .inl h
    · exact .inr ⟨x, hx, h0, r, hr, ih h⟩
theorem Via.upto {F : List Place} {k m p q : Nat} (h : k ≤ m) (hr : Via F k p q) : Via F m p q := by
  induction h with
  | refl => exact hr
  | step _ ih => exact Via.up ih
theorem Via.trans {F : List Place} : ∀ {k p q : Nat}, Via F k p q → ∀ {m r : Nat}, Via F m q r → Via F (k + m) p r := by
  intro k
  induction k with
  | zero =>
    rintro p q rfl m r h
    simpa using h
  | succ k ih =>
    intro p q h m r h'
    rw [show k + 1 + m = k + m + 1 from by omega]
    rcases h with rfl | ⟨x, hx, h0, s, hs, h⟩
    · exact Via.upto (by omega) h'
    · exact .inr ⟨x, hx, h0, s, hs, ih h h'⟩
theorem Via.one {F : List Place} {p q : Nat} {x : Place} (hx : F[p]? = some x) (h0 : x.1 = 0) (hq : q ∈ x.2.1) : Via F 1 p q := .inr ⟨x, hx, h0, q, hq, rfl⟩
/-- All that forks reach is in it. -/
def Shut1 (F : List Place) (S : Nat → Prop) : Prop := ∀ p x, S p → F[p]? = some x → x.1 = 0 → ∀ q ∈ x.2.1, S q
theorem Shut1.via {F : List Place} {S : Nat → Prop} (h : Shut1 F S) : ∀ {k p q : Nat}, S p → Via F k p q → S q := by
  intro k
  induction k with
  | zero => rintro p q hp rfl; exact hp
  | succ k ih =>
    intro p q hp hv
    rcases hv with rfl | ⟨x, hx, h0, r, hr, hv⟩
    · exact hp
    · exact ih (h p x hp hx h0 r hr) hv
/-- What is reached from p without a type. -/
def startS (F : List Place) (p : Nat) : Nat → Prop := fun q => ∃ k, Via F k p q
theorem startS_shut (F : List Place) (p : Nat) : Shut1 F (startS F p) := fun _q _x ⟨_, hk⟩ hx h0 _ hr => ⟨_, hk.trans (Via.one hx h0 hr)⟩
/-- What is reached behind the type t. -/
def stepS (F : List Place) (S : Nat → Prop) (t : Int) : Nat → Prop := fun q => ∃ a x r k, S a ∧ F[a]? = some x ∧ takes x.1 t = true ∧ x.2.1[0]? = some r ∧ Via F k r q
theorem stepS_shut (F : List Place) (S : Nat → Prop) (t : Int) : Shut1 F (stepS F S t) := fun _q _x ⟨a, y, r, _, h1, h2, h3, h4, hk⟩ hx h0 _ hr => ⟨a, y, r, _, h1, h2, h3, h4, hk.trans (Via.one hx h0 hr)⟩
/-- What is reached behind a word. -/
def afterS (F : List Place) (S : Nat → Prop) (w : List Int) : Nat → Prop := w.foldl (stepS F) S
theorem afterS_shut {F : List Place} {S : Nat → Prop} (h : Shut1 F S) : ∀ w, Shut1 F (afterS F S w) := by
  intro w
  induction w generalizing S with
  | nil => exact h
  | cons t r ih => exact ih (stepS_shut F S t)
theorem afterS_snoc (F : List Place) (S : Nat → Prop) (w : List Int) (t : Int) : afterS F S (w ++ [t]) = stepS F (afterS F S w) t := by unfold afterS; rw [List.foldl_append]; rfl
theorem afterS_empty {F : List Place} {S : Nat → Prop} (h : ∀ p, ¬ S p) : ∀ w p, ¬ afterS F S w p := by
  intro w
  induction w generalizing S with
  | nil => exact h
  | cons t r ih => exact ih (fun p ⟨a, _, _, _, h1, _⟩ => h a h1)
/-- What reads a word to the end is what comes to the end. -/
theorem reads_after {F : List Place} (_h0 : F[0]? = some (0, [], 0)) : ∀ (w : List Int) (S : Nat → Prop), Shut1 F S → ((∃ a k, S a ∧ Reads F k a w) ↔ afterS F S w 0) := by
  intro w
  induction w with
  | nil =>
    intro S hS
    constructor
    · rintro ⟨a, k, ha, hr⟩
      show S 0
      induction k generalizing a with
      | zero => obtain ⟨rfl, _⟩ := hr; exact ha
      | succ k ih =>
        rcases hr with ⟨rfl, _⟩ | ⟨x, hx, ⟨hz, q, hq, hr⟩ | ⟨_, t, v, q, e, _⟩⟩
        · exact ha
        · exact ih q (hS a x ha hx hz q hq) hr
        · cases e
    · intro h
      exact ⟨0, 0, h, rfl, rfl⟩
  | cons t v ih =>
    intro S hS
    rw [show afterS F S (t :: v) = afterS F (stepS F S t) v from rfl, ← ih _ (stepS_shut F S t)]
    constructor
    · rintro ⟨a, k, ha, hr⟩
      induction k generalizing a with
      | zero => obtain ⟨_, e⟩ := hr; cases e
      | succ k ihk =>
        rcases hr with ⟨_, e⟩ | ⟨x, hx, ⟨hz, q, hq, hr⟩ | ⟨hz, t', v', q, e, ht, hq, hr⟩⟩
        · cases e
        · exact ihk q (hS a x ha hx hz q hq) hr
        · cases e
          exact ⟨q, k, ⟨a, x, q, 0, ha, hx, ht, hq, rfl⟩, hr⟩
    · rintro ⟨b, k, ⟨a, x, r, m, ha, hx, ht, hr, hv⟩, hR⟩
      have hlift : ∀ {m p : Nat}, Via F m p b → Reads F (m + k) p v := by
        intro m
        induction m with
        | zero => rintro p rfl; simpa using hR
        | succ m ihm =>
          intro p hp
          rw [show m + 1 + k = m + k + 1 from by omega]
          rcases hp with rfl | ⟨y, hy, hz, s, hs, hp⟩
          · exact Reads.upto (by omega) hR
          · exact .inr ⟨y, hy, .inl ⟨hz, s, hs, ihm hp⟩⟩
      refine ⟨a, m + k + 1, ha, .inr ⟨x, hx, .inr ⟨fun e => ?_, t, v, r, rfl, ht, hr, hlift hv⟩⟩⟩
      rw [e, takes_zero] at ht
      cases ht
/-- What a search from p adds to a set. -/
def Grown (F : List Place) (S S' : Nat → Bool) (p : Nat) : Prop :=
  (∀ q, S q = true → S' q = true) ∧ S' p = true ∧ (∀ q, S' q = true → S q = true ∨ ∃ k, Via F k p q) ∧ ∀ q x, S' q = true → S q = false → F[q]? = some x → x.1 = 0 → ∀ r ∈ x.2.1, S' r = true
def GrownS (F : List Place) (S S' : Nat → Bool) (p : Nat) (l : List Nat) : Prop :=
  (∀ q, S q = true → S' q = true) ∧ S' p = true ∧ (∀ q ∈ l, S' q = true) ∧ (∀ q, S' q = true → S q = true ∨ ∃ k, Via F k p q) ∧ ∀ q x, S' q = true → S q = false → q ≠ p → F[q]? = some x → x.1 = 0 → ∀ r ∈ x.2.1, S' r = true
theorem GrownS.step {F : List Place} {S S1 S2 : Nat → Bool} {p q : Nat} {l : List Nat} {x : Place} (hx : F[p]? = some x) (h0 : x.1 = 0) (hq : q ∈ x.2.1) (h : GrownS F S S1 p l) (g : Grown F S1 S2 q) : GrownS F S S2 p (l ++ [q]) := by
  obtain ⟨h1, h2, h3, h4, h5⟩ := h
  obtain ⟨g1, g2, g3, g4⟩ := g
  refine ⟨fun r hr => g1 r (h1 r hr), g1 p h2, fun r hr => ?_, fun r hr => ?_, fun r y hr hn hne hy hz s hs => ?_⟩
  · rcases List.mem_append.1 hr with hr | hr
    · exact g1 r (h3 r hr)
    · simp at hr; rw [hr]; exact g2
  · rcases g3 r hr with h | ⟨k, h⟩
    · exact h4 r h
    · exact .inr ⟨_, (Via.one hx h0 hq).trans h⟩
  · cases hc : S1 r with
    | true => exact g1 s (h5 r y hc hn hne hy hz s hs)
    | false => exact g4 r y hr hc hy hz s hs
theorem GrownS.done {F : List Place} {S S' : Nat → Bool} {p : Nat} {x : Place} (hx : F[p]? = some x) (h : GrownS F S S' p x.2.1) : Grown F S S' p := by
  obtain ⟨h1, h2, h3, h4, h5⟩ := h
  refine ⟨h1, h2, h4, fun q y hq hn hy hz r hr => ?_⟩
  by_cases e : q = p
  · subst e
    rw [hx] at hy
    cases hy
    exact h3 r hr
  · exact h5 q y hq hn e hy hz r hr
theorem Grown.refl {F : List Place} {S : Nat → Bool} {p : Nat} (h : S p = true) : Grown F S S p := ⟨fun _ h => h, h, fun _ h => .inl h, fun q _ h1 h2 => by rw [h1] at h2; cases h2⟩
/-- With p alone. -/
def putS (S : Nat → Bool) (p : Nat) : Nat → Bool := fun q => S q || (q == p)
theorem GrownS.start (F : List Place) (S : Nat → Bool) (p : Nat) : GrownS F S (putS S p) p [] := by
  refine ⟨fun q h => by simp [putS, h], by simp [putS], fun q hq => (by cases hq), fun q h => ?_, fun q x h hn hne => ?_⟩
  · simp [putS] at h
    rcases h with h | h
    · exact .inl h
    · exact .inr ⟨0, h.symm⟩
  · simp [putS, hn] at h
    exact absurd h hne
/-- A search from p in a set that is shut: what is in it then. -/
theorem Grown.iff {F : List Place} {S S' : Nat → Bool} {p : Nat} (h : Grown F S S' p) (hS : Shut1 F (fun q => S q = true)) : Shut1 F (fun q => S' q = true) ∧ ∀ q, S' q = true ↔ (S q = true ∨ startS F p q) := by
  obtain ⟨h1, h2, h3, h4⟩ := h
  have hsh : Shut1 F (fun q => S' q = true) := fun q x hq hx hz r hr => by
    cases hc : S q with
    | true => exact h1 r (hS q x hc hx hz r hr)
    | false => exact h4 q x hq hc hx hz r hr
  refine ⟨hsh, fun q => ⟨fun h => h3 q h, fun h => ?_⟩⟩
  rcases h with h | ⟨k, h⟩
  · exact h1 q h
  · exact hsh.via h2 h
/-- How many are not in it. -/
def outS (S : Nat → Bool) (N : Nat) : Nat := ((List.range N).filter (fun p => !S p)).length
theorem filter_le {α : Type} {p q : α → Bool} : ∀ l : List α, (∀ x, p x = true → q x = true) → (l.filter p).length ≤ (l.filter q).length := by
  intro l h
  induction l with
  | nil => exact Nat.le_refl _
  | cons x r ih =>
    rw [List.filter_cons, List.filter_cons]
    cases hp : p x with
    | true => rw [h x hp]; simpa using ih
    | false =>
      cases q x with
      | true => simp; omega
      | false => simpa using ih
theorem filter_lt {α : Type} {p q : α → Bool} {a : α} : ∀ l : List α, (∀ x, p x = true → q x = true) → a ∈ l → p a = false → q a = true → (l.filter p).length < (l.filter q).length := by
  intro l h ha hp hq
  induction l with
  | nil => cases ha
  | cons x r ih =>
    rw [List.filter_cons, List.filter_cons]
    rcases List.mem_cons.1 ha with rfl | ha
    · rw [hp, hq]
      have := filter_le r h
      simp
      omega
    · have := ih ha
      cases hpx : p x with
      | true => rw [h x hpx]; simpa using this
      | false =>
        cases q x with
        | true => simp; omega
        | false => simpa using this
theorem outS_le {S S' : Nat → Bool} {N : Nat} (h : ∀ q, S q = true → S' q = true) : outS S' N ≤ outS S N := filter_le _ fun x hx => by
  cases hc : S x with
  | false => rfl
  | true => rw [h x hc] at hx; exact hx
theorem outS_lt {S S' : Nat → Bool} {N p : Nat} (h : ∀ q, S q = true → S' q = true) (hp : p < N) (h1 : S p = false) (h2 : S' p = true) : outS S' N < outS S N := filter_lt _ (fun x hx => by
  cases hc : S x with
  | false => rfl
  | true => rw [h x hc] at hx; exact hx) (List.mem_range.2 hp) (by rw [h2]; rfl) (by rw [h1]; rfl)
end Go.Proofs.YtgkplmnhmobnnaaGreatDoor

/- Sets: sets of places in memory; reg's reach, and the search that it hands back: what they return and leave; nothing else is turned. -/
namespace Go.Proofs.YtgkplmnhmobnnaaGreatDoor
open Go.RowKit Go.Maps

theorem lawI : Keyed Tryz.prog 3 := int_keyed Tryz.underlying3
theorem zeroU (w : World) : (zeroValue 155).run Tryz.prog w = .ok (.agg #[]) w := by kernel_rfl
theorem wfN {p : Nat} (h : p < 9223372036854775808) : (Lit.int .i64 (p : Int)).wf = true := WalkArith.wf_i64 (by omega)
/-- A map is the set S of places below N. -/
def SetAt (w : World) (b N : Nat) (S : Nat → Bool) : Prop := ∃ D : DataW Unit, w.ownsMap Tryz.prog 3 unitElem b N D ∧ (∀ p, S p = true → p < N) ∧ ∀ kl, Maps.has D kl = true ↔ ∃ p : Nat, kl = .int .i64 (p : Int) ∧ S p = true
theorem has_iff {D : DataW Unit} {S : Nat → Bool} (h : ∀ kl, Maps.has D kl = true ↔ ∃ p : Nat, kl = .int .i64 (p : Int) ∧ S p = true) (p : Nat) : Maps.has D (.int .i64 (p : Int)) = S p := by
  rw [Bool.eq_iff_iff, h]
  constructor
  · rintro ⟨q, e, hq⟩
    have : (p : Int) = (q : Int) := by injection e
    rw [show p = q from by omega]
    exact hq
  · intro hp
    exact ⟨p, rfl, hp⟩
theorem size_bound {D : DataW Unit} (hD : Tidy D) {N : Nat} (h : ∀ kl, Maps.has D kl = true → ∃ p : Nat, kl = .int .i64 (p : Int) ∧ p < N) (hk : ∀ es, D = .map es → ∀ e ∈ es, WideAt.IsKeyLit e.1) : Maps.size D ≤ N := by
  obtain ⟨es, rfl, hp⟩ := hD
  show es.length ≤ N
  have hex : ∀ e ∈ es, ∃ p : Nat, e.1 = .int .i64 (p : Int) ∧ p < N := fun e he => h e.1 (List.any_eq_true.2 ⟨e, he, WideAt.sameKey_self (hk es rfl e he)⟩)
  clear h hk
  induction N generalizing es with
  | zero =>
    cases es with
    | nil => exact Nat.le_refl _
    | cons e r => obtain ⟨p, _, hp⟩ := hex e (List.mem_cons_self ..); omega
  | succ N ih =>
    have hsplit : (es.filter (fun e => !(e.1.sameKey (.int .i64 (N : Int))))).length + 1 ≥ es.length := by
      have := Maps.length_strike (k := .int .i64 (N : Int)) es hp
      split at this <;> omega
    have := ih (es.filter (fun e => !(e.1.sameKey (.int .i64 (N : Int))))) (hp.filter _) (fun e he => by
      rw [List.mem_filter] at he
      obtain ⟨p, e1, hp⟩ := hex e he.1
      refine ⟨p, e1, ?_⟩
      rcases Nat.lt_or_ge p N with hlt | hge
      · exact hlt
      · exfalso
        obtain rfl : p = N := by omega
        have h2 := he.2
        rw [e1, WideAt.sameKey_self (by trivial)] at h2
        cases h2)
    omega
theorem owns_size {w : World} {b n : Nat} {D : DataW Unit} (h : w.ownsMap Tryz.prog 3 unitElem b n D) {N : Nat} (hN : Maps.size D ≤ N) : w.ownsMap Tryz.prog 3 unitElem b N D := by
  obtain ⟨es, clock, hb, F, hs, rfl⟩ := h
  refine ⟨es, clock, hb, F, ?_, rfl⟩
  simpa [Maps.size, length_sorted] using hN
theorem set_of {w : World} {b n N : Nat} {D : DataW Unit} {S : Nat → Bool} (h : w.ownsMap Tryz.prog 3 unitElem b n D) (hS : ∀ p, S p = true → p < N) (hD : ∀ kl, Maps.has D kl = true ↔ ∃ p : Nat, kl = .int .i64 (p : Int) ∧ S p = true) : SetAt w b N S := by
  refine ⟨D, owns_size h (size_bound (h.tidy lawI) (fun kl hk => ?_) (fun es e x hx => ?_)), hS, hD⟩
  · obtain ⟨p, e, hp⟩ := (hD kl).1 hk
    exact ⟨p, e, hS p hp⟩
  · obtain ⟨es', e', _, hk⟩ := h.entries lawI
    rw [e] at e'
    cases e'
    exact hk x hx
theorem SetAt.kept {w w' : World} {row : Option Nat} {b N : Nat} {S : Nat → Bool} (h : SetAt w b N S) (hg : w.grownBy w' row) (hne : some b ≠ row) : SetAt w' b N S := by
  obtain ⟨D, h1, h2⟩ := h
  exact ⟨D, h1.kept hg hne, h2⟩
theorem SetAt.lt {w : World} {b N : Nat} {S : Nat → Bool} (h : SetAt w b N S) : b < w.heap.size := by
  obtain ⟨D, h1, _⟩ := h
  exact h1.lt
theorem SetAt.notCells {w : World} {b N : Nat} {S : Nat → Bool} (h : SetAt w b N S) {c : Array Value} {t : TypeId} {fz : Nat × Nat} : w.heap[b]? ≠ some (.cells c t fz) := by
  obtain ⟨D, ⟨es, clock, hb, _⟩, _⟩ := h
  rw [hb]
  intro e
  cases e
theorem SetAt.others {w w' : World} {b N : Nat} {S : Nat → Bool} (h : SetAt w b N S) (hg : w.grownBy w' (some b)) : ∀ (k : Nat) (c : Array Value) (t : TypeId), w.heap[k]? = some (.cells c t (0, 0)) → w'.heap[k]? = w.heap[k]? := fun k c t hk =>
  hg.block k (Array.getElem?_eq_some_iff.1 hk).1 (fun e => by cases e; exact h.notCells hk)
/-- Places that lie where a slice says. -/
def Places (w : World) (lv : Value) (F : List Place) : Prop := ∃ rs : List RawP, w.ownsRow 0 150 3 lv F.length (rowP rs) ∧ ∀ (i : Nat) (x : Place), F[i]? = some x → ∃ r, rs[i]? = some r ∧ r.1 = x.1 ∧ r.2.2 = x.2.2 ∧ w.ownsRow 0 3 1 r.2.1 x.2.1.length (numsV x.2.1)
theorem Places.others {w w' : World} {lv : Value} {F : List Place} (h : Places w lv F) (hs : ∀ (b : Nat) (c : Array Value) (t : TypeId), w.heap[b]? = some (.cells c t (0, 0)) → w'.heap[b]? = w.heap[b]?) : Places w' lv F := by
  obtain ⟨rs, h1, h2⟩ := h
  refine ⟨rs, owns_same h1 fun g hg => ?_, fun i x hx => ?_⟩
  · obtain ⟨_, c, hc⟩ := owns_lt h1 hg
    exact hs g _ _ hc
  · obtain ⟨r, r1, r2, r3, r4⟩ := h2 i x hx
    exact ⟨r, r1, r2, r3, owns_same r4 fun g hg => by
      obtain ⟨_, c, hc⟩ := owns_lt r4 hg
      exact hs g _ _ hc⟩
theorem PlanIn.places {A : Nat → Prop} {w : World} {B : Nat} {gv : Value} {L : List Place} (h : PlanIn A w B gv L) : ∃ lv, w.heap[B]? = some (.cells #[gv, lv] 152 (0, 0)) ∧ Places w lv L := by
  obtain ⟨v, rs, h⟩ := h
  refine ⟨v, h.plan, rs, h.row, fun i x hx => ?_⟩
  obtain ⟨r, h1, h2, h3, h4, _⟩ := h.each i x hx
  exact ⟨r, h1, h2, h3, h4⟩
theorem Places.slice {w : World} {lv : Value} {F : List Place} (h : Places w lv F) (h0 : 0 < F.length) : ∃ g cap, lv = .slice (some ⟨g, 0, none⟩) F.length cap ∧ ∀ (i : Nat) (x : Place), F[i]? = some x →
    w.cell? ⟨g, i * 3, none⟩ = some (.int .u16 (x.1 : Int)) ∧ w.cell? ⟨g, i * 3 + 2, none⟩ = some (.int .i64 (x.2.2 : Int)) ∧ ∃ a n c, w.cell? ⟨g, i * 3 + 1, none⟩ = some (.slice a n c) ∧ w.ownsRow 0 3 1 (.slice a n c) x.2.1.length (numsV x.2.1) := by
  obtain ⟨rs, h1, h2⟩ := h
  obtain ⟨g, cap, e, hc⟩ := owns_cell h1 h0
  refine ⟨g, cap, e, fun i x hx => ?_⟩
  obtain ⟨r, r1, r2, r3, r4⟩ := h2 i x hx
  obtain ⟨f0, f1, f2⟩ := rowP_at rs i r r1
  rw [r2] at f0
  rw [r3] at f2
  have hv : ∃ a n c, r.2.1 = .slice a n c := by
    rcases r4.2 with ⟨e, _⟩ | ⟨g', c', _, e, _⟩
    · exact ⟨_, _, _, e⟩
    · exact ⟨_, _, _, e⟩
  obtain ⟨a, n, c, e2⟩ := hv
  rw [e2] at f1 r4
  exact ⟨hc _ _ f0, hc _ _ f2, a, n, c, hc _ _ f1, r4⟩
/-- The three boxes of the search. -/
def Clo (w : World) (bs B1 B2 B3 : Nat) (lv : Value) : Prop := Boxed w B1 142 lv ∧ Boxed w B2 144 (.map (some bs)) ∧ Boxed w B3 129 (.func (.func 139) #[] #[.pointer (some ⟨B2, 0, none⟩), .pointer (some ⟨B1, 0, none⟩), .pointer (some ⟨B3, 0, none⟩)])
theorem Clo.others {w w' : World} {bs B1 B2 B3 : Nat} {lv : Value} (h : Clo w bs B1 B2 B3 lv) (hs : ∀ (b : Nat) (c : Array Value) (t : TypeId), w.heap[b]? = some (.cells c t (0, 0)) → w'.heap[b]? = w.heap[b]?) : Clo w' bs B1 B2 B3 lv :=
  ⟨(hs _ _ _ h.1).trans h.1, (hs _ _ _ h.2.1).trans h.2.1, (hs _ _ _ h.2.2).trans h.2.2⟩
set_option maxRecDepth 100000 in
set_option maxHeartbeats 1000000 in
theorem reach_calls (w : World) (a : Option Addr) (n c bs : Nat) :
    Calls Tryz.prog 107 #[.slice a n c, .map (some bs)] w fun e w' => e = .returned (.func (.func 139) #[] #[.pointer (some ⟨w.heap.size + 1, 0, none⟩), .pointer (some ⟨w.heap.size, 0, none⟩), .pointer (some ⟨w.heap.size + 1 + 1, 0, none⟩)]) ∧ Clo w' bs w.heap.size (w.heap.size + 1) (w.heap.size + 1 + 1) (.slice a n c) ∧ w.grownBy w' none := by
  have hmf : ∀ (fn : Fn) (first cap : Array Value) (w : World), (Instr.makeFunc fn first cap).run Tryz.prog w = .ok (.func fn first cap) w := fun _ _ _ _ => rfl
  obtain ⟨v, hv⟩ : ∃ v, v = Value.func (.func 139) #[] #[.pointer (some ⟨w.heap.size + 1, 0, none⟩), .pointer (some ⟨w.heap.size, 0, none⟩), .pointer (some ⟨w.heap.size + 1 + 1, 0, none⟩)] := ⟨_, rfl⟩
  have HE : Hid (Clo (((w.alloc (.cells #[.slice a n c] 142)).alloc (.cells #[.map (some bs)] 144)).alloc (.cells #[v] 129)) bs w.heap.size (w.heap.size + 1) (w.heap.size + 1 + 1) (.slice a n c) ∧ w.grownBy (((w.alloc (.cells #[.slice a n c] 142)).alloc (.cells #[.map (some bs)] 144)).alloc (.cells #[v] 129)) none) := by
    have b1 : Boxed ((w.alloc (.cells #[.slice a n c] 142)).alloc (.cells #[.map (some bs)] 144)) (w.heap.size + 1) 144 (.map (some bs)) := by
      have := Boxed.new (w.alloc (.cells #[.slice a n c] 142)) 144 (.map (some bs))
      rwa [World.size_alloc] at this
    have b2 : Boxed (((w.alloc (.cells #[.slice a n c] 142)).alloc (.cells #[.map (some bs)] 144)).alloc (.cells #[v] 129)) (w.heap.size + 1 + 1) 129 v := by
      have := Boxed.new ((w.alloc (.cells #[.slice a n c] 142)).alloc (.cells #[.map (some bs)] 144)) 129 v
      rwa [World.size_alloc, World.size_alloc] at this
    refine ⟨⟨((Boxed.new w 142 (.slice a n c)).alloc (.cells #[.map (some bs)] 144)).alloc (.cells #[v] 129), b1.alloc _, ?_⟩, ((World.grownBy_alloc w _ none).trans (World.grownBy_alloc _ _ none)).trans (World.grownBy_alloc _ _ none)⟩
    rw [← hv]
    exact b2
  have HV : Hid (v = Value.func (.func 139) #[] #[.pointer (some ⟨w.heap.size + 1, 0, none⟩), .pointer (some ⟨w.heap.size, 0, none⟩), .pointer (some ⟨w.heap.size + 1 + 1, 0, none⟩)]) := hv
  clear hv
  go_enter Tryz.func107, Tryz.ntmps107
  go_wp2
  go_ret
  exact ⟨rfl, by have := HE.out; rw [HV.out] at this; exact this⟩
end Go.Proofs.YtgkplmnhmobnnaaGreatDoor

/- Srch: the search that reg's reach hands back: it adds to the set all that forks reach from a place, and turns nothing else. -/
namespace Go.Proofs.YtgkplmnhmobnnaaGreatDoor
open Go.RowKit Go.Maps

theorem has_put {D : DataW Unit} {S : Nat → Bool} (hm : IsMap D) (h : ∀ kl, Maps.has D kl = true ↔ ∃ p : Nat, kl = .int .i64 (p : Int) ∧ S p = true) (p : Nat) (d : DataW Unit) : ∀ kl, Maps.has (D.put (.int .i64 (p : Int)) d) kl = true ↔ ∃ q : Nat, kl = .int .i64 (q : Int) ∧ putS S p q = true := by
  intro kl
  by_cases e : kl = .int .i64 (p : Int)
  · rw [e, has_put_same hm (by trivial)]
    exact ⟨fun _ => ⟨p, rfl, by simp [putS]⟩, fun _ => rfl⟩
  · rw [has_put_other e, h]
    constructor
    · rintro ⟨q, e1, hq⟩
      exact ⟨q, e1, by simp [putS, hq]⟩
    · rintro ⟨q, e1, hq⟩
      refine ⟨q, e1, ?_⟩
      simp [putS] at hq
      rcases hq with hq | hq
      · exact hq
      · exact absurd (by rw [e1, hq]) e
set_option maxRecDepth 100000 in
set_option maxHeartbeats 1000000 in
theorem grow_in (F : List Place) (lv : Value) (bs B1 B2 B3 N : Nat) (hN : N ≤ 1000000000) (p : Nat) (w : World) (S : Nat → Bool) (hS : SetAt w bs N S) (hC : Clo w bs B1 B2 B3 lv) (hp : p < N) (hSp : S p = true) :
    Calls Tryz.prog 139 #[.int .i64 (p : Int), .pointer (some ⟨B2, 0, none⟩), .pointer (some ⟨B1, 0, none⟩), .pointer (some ⟨B3, 0, none⟩)] w fun e w' => e = .returned (.tuple #[]) ∧ ∃ S', SetAt w' bs N S' ∧ Grown F S S' p ∧ w.grownBy w' (some bs) := by
  obtain ⟨D, hown, hlt, hD⟩ := id hS
  have hk1 : Maps.has D (.int .i64 (p : Int)) = true := by rw [has_iff hD p, hSp]
  have c2 := hC.2.1.cell
  have HE : Hid (∃ S', SetAt (w.alloc (.cells #[] 155)) bs N S' ∧ Grown F S S' p ∧ w.grownBy (w.alloc (.cells #[] 155)) (some bs)) := ⟨S, hS.kept (World.grownBy_alloc w _ none) (by simp), Grown.refl hSp, World.grownBy_alloc w _ _⟩
  clear hS hC hD
  go_enter Tryz.func139, Tryz.ntmps139
  go_wp2_with (first
    | (at_lookup; refine wpList_lookup_own_unit _ rfl _ _ 144 rfl 3 155 lawI Tryz.underlying144 (zeroU _) bs N D rfl hown _ _ rfl (keyOf_int_mk Tryz.underlying3 (wfN (by omega))) ?_; rw [hk1])
    | go_in)
  refine bodyPost_ret (results_none rfl _ _ _) rfl ?_
  exact ⟨rfl, HE.out⟩
set_option maxRecDepth 100000 in
set_option maxHeartbeats 1000000 in
theorem grow_calls (F : List Place) (lv : Value) (bs B1 B2 B3 N : Nat) (hFN : F.length = N) (hN : N ≤ 1000000000) (hnx : ∀ (i : Nat) (x : Place), F[i]? = some x → x.1 = 0 → ∀ q ∈ x.2.1, q < N) (hnl : ∀ (i : Nat) (x : Place), F[i]? = some x → x.2.1.length ≤ 2000000000) : ∀ (m p : Nat) (w : World) (S : Nat → Bool), outS S N ≤ m → SetAt w bs N S → Places w lv F → Clo w bs B1 B2 B3 lv → p < N →
    Calls Tryz.prog 139 #[.int .i64 (p : Int), .pointer (some ⟨B2, 0, none⟩), .pointer (some ⟨B1, 0, none⟩), .pointer (some ⟨B3, 0, none⟩)] w fun e w' => e = .returned (.tuple #[]) ∧ ∃ S', SetAt w' bs N S' ∧ Grown F S S' p ∧ w.grownBy w' (some bs) := by
  intro m
  induction m with
  | zero =>
    intro p w S hm hS hL hC hp
    have hSp : S p = true := by
      cases h : S p with
      | true => rfl
      | false =>
        exfalso
        have : p ∈ (List.range N).filter (fun p => !S p) := List.mem_filter.2 ⟨List.mem_range.2 hp, by rw [h]; rfl⟩
        have := List.length_pos_of_mem this
        unfold outS at hm
        omega
    exact grow_in F lv bs B1 B2 B3 N hN p w S hS hC hp hSp
  | succ m ih =>
    intro p w S hm hS hL hC hp
    cases hSp : S p with
    | true => exact grow_in F lv bs B1 B2 B3 N hN p w S hS hC hp hSp
    | false =>
      obtain ⟨D, hown, hltS, hD⟩ := id hS
      have hk1 : Maps.has D (.int .i64 (p : Int)) = false := by rw [has_iff hD p, hSp]
      have hout : outS (putS S p) N ≤ m := by
        have := outS_lt (S := S) (S' := putS S p) (fun q h => by simp [putS, h]) hp hSp (by simp [putS])
        omega
      obtain ⟨x, hx⟩ : ∃ x, F[p]? = some x := ⟨_, List.getElem?_eq_getElem (by omega)⟩
      obtain ⟨g, cap, rfl, hcell⟩ := hL.slice (by omega)
      obtain ⟨t0, _, ha, hnn, hc, t1, hrow⟩ := hcell p x hx
      -- in any world whose cells are as they were
      have HW : Hid (∀ W : World, (∀ (b : Nat) (c : Array Value) (t : TypeId), w.heap[b]? = some (.cells c t (0, 0)) → W.heap[b]? = w.heap[b]?) → (W.cell? ⟨B2, 0, none⟩ = some (.map (some bs)) ∧ W.cell? ⟨B1, 0, none⟩ = some (.slice (some ⟨g, 0, none⟩) F.length cap) ∧ W.cell? ⟨B3, 0, none⟩ = some (.func (.func 139) #[] #[.pointer (some ⟨B2, 0, none⟩), .pointer (some ⟨B1, 0, none⟩), .pointer (some ⟨B3, 0, none⟩)]) ∧
          W.cell? ⟨g, p * 3, none⟩ = some (.int .u16 (x.1 : Int)) ∧ W.cell? ⟨g, p * 3 + 1, none⟩ = some (.slice ha hnn hc)) ∧ Clo W bs B1 B2 B3 (.slice (some ⟨g, 0, none⟩) F.length cap) ∧ Places W (.slice (some ⟨g, 0, none⟩) F.length cap) F ∧ (∀ (j q : Nat), x.2.1[j]? = some q → ∃ hg, ha = some ⟨hg, 0, none⟩ ∧ hnn = x.2.1.length ∧ W.cell? ⟨hg, j, none⟩ = some (.int .i64 (q : Int)))) := by
        intro W hW
        have hC' := hC.others hW
        have hL' := hL.others hW
        have hg : W.heap[g]? = w.heap[g]? := by
          obtain ⟨rs, h1, _⟩ := id hL
          obtain ⟨_, c, hc⟩ := owns_lt h1 (g := g) rfl
          exact hW g _ _ hc
        refine ⟨⟨hC'.2.1.cell, hC'.1.cell, hC'.2.2.cell, (World.cell?_of_block (w := w) (a := ⟨g, p * 3, none⟩) hg).trans t0, (World.cell?_of_block (w := w) (a := ⟨g, p * 3 + 1, none⟩) hg).trans t1⟩, hC', hL', fun j q hq => ?_⟩
        have hpos : 0 < x.2.1.length := Nat.lt_of_le_of_lt (Nat.zero_le _) (List.getElem?_eq_some_iff.1 hq).1
        have hrow' : W.ownsRow 0 3 1 (.slice ha hnn hc) x.2.1.length (numsV x.2.1) := owns_same hrow fun k hk => by
          obtain ⟨_, c, hc⟩ := owns_lt hrow hk
          exact hW k _ _ hc
        obtain ⟨hg', hc', e, hcc⟩ := owns_cell hrow' hpos
        cases e
        exact ⟨hg', rfl, rfl, hcc j _ (numsV_at hq)⟩
      obtain ⟨⟨c2, c1, c3, d0, d1⟩, _⟩ := HW.out w (fun _ _ _ _ => rfl)
      have hlen0 : hnn = x.2.1.length := by
        rcases hrow.2 with ⟨e, h0⟩ | ⟨g', c', _, e, _⟩
        · cases e
          exact h0.symm
        · cases e
          rfl
      subst hlen0
      have hnlx := hnl p x hx
      have hnxx := hnx p x hx
      have HSET : Hid (∀ w2 : World, w2.ownsMap Tryz.prog 3 unitElem bs (N + 1) (D.put (.int .i64 (p : Int)) (.agg [])) → (w.alloc (.cells #[] 155)).grownBy w2 (some bs) → SetAt w2 bs N (putS S p) ∧ w.grownBy w2 (some bs) ∧ ∀ (b : Nat) (c : Array Value) (t : TypeId), w.heap[b]? = some (.cells c t (0, 0)) → w2.heap[b]? = w.heap[b]?) := by
        intro w2 h2 g2
        have hg : w.grownBy w2 (some bs) := (World.grownBy_alloc w _ (some bs)).trans g2
        refine ⟨set_of h2 (fun q hq => ?_) (has_put hown.isMap hD p _), hg, hS.others hg⟩
        simp [putS] at hq
        rcases hq with hq | hq
        · exact hltS q hq
        · omega
      have hown1 := hown.alloc (.cells #[] 155)
      have hb2 : B2 < w.heap.size := hC.2.1.lt
      have hb1 : B1 < w.heap.size := hC.1.lt
      obtain ⟨y, nx, ls⟩ := x
      simp only at *
      clear hC hL hrow hcell t0 t1
      by_cases hy : y = 0
      · subst hy
        have HSt := GrownS.start F S p
        have HD : Hid (∀ S', GrownS F S S' p nx → Grown F S S' p) := fun S' h => h.done hx
        have HStep : Hid (∀ (S1 S2 : Nat → Bool) (j q : Nat), nx[j]? = some q → GrownS F S S1 p (nx.take j) → Grown F S1 S2 q → GrownS F S S2 p (nx.take (j + 1))) := fun S1 S2 j q hq h g => by
          have := h.step hx rfl (List.mem_of_getElem? hq) g
          rw [List.take_add_one, hq]
          exact this
        have HSt' : Hid (GrownS F S (putS S p) p (nx.take 0)) := HSt
        have HNx : Hid (∀ q ∈ nx, q < N) := hnxx rfl
        have HIH : Hid (∀ (q : Nat) (W : World) (S1 : Nat → Bool), outS S1 N ≤ m → SetAt W bs N S1 → Places W (.slice (some ⟨g, 0, none⟩) F.length cap) F → Clo W bs B1 B2 B3 (.slice (some ⟨g, 0, none⟩) F.length cap) → q < N → Calls Tryz.prog 139 #[.int .i64 (q : Int), .pointer (some ⟨B2, 0, none⟩), .pointer (some ⟨B1, 0, none⟩), .pointer (some ⟨B3, 0, none⟩)] W fun e w' => e = .returned (.tuple #[]) ∧ ∃ S', SetAt w' bs N S' ∧ Grown F S1 S' q ∧ W.grownBy w' (some bs)) := ih
        clear ih HSt hnxx hx hnx hnl hD hS hSp hm
        have hpi : (p : Int) < (F.length : Int) := by omega
        have hp0 : (0 : Int) ≤ (p : Int) := by omega
        have hty : (((0 : Nat) : Int) == 0) = true := rfl
        go_enter Tryz.func139, Tryz.ntmps139
        go_wp2_with (first
          | (at_lookup; refine wpList_lookup_own_unit _ rfl _ _ 144 rfl 3 155 lawI Tryz.underlying144 (zeroU _) bs N D rfl hown _ _ rfl (keyOf_int_mk Tryz.underlying3 (wfN (by omega))) ?_; rw [hk1])
          | (at_mapUpdate; refine wpList_mapUpdate_own _ rfl _ _ _ 144 rfl 3 155 lawI Tryz.underlying144 _ bs N D rfl hown1 (by unfold maxLen; omega) _ _ _ rfl rfl (keyOf_int_mk Tryz.underlying3 (wfN (by omega))) _ [] unitElem_mk ?_; intro w2 hown2 hgrow2; obtain ⟨hS2, hg2, hcells2⟩ := HSET.out w2 hown2 hgrow2; obtain ⟨⟨c2', c1', c3', d0', d1'⟩, _⟩ := HW.out w2 hcells2)
          | go_in)
        have HC2 : Hid (∀ W : World, w2.grownBy W (some bs) → ∀ (b : Nat) (c : Array Value) (t : TypeId), w.heap[b]? = some (.cells c t (0, 0)) → W.heap[b]? = w.heap[b]?) := fun W hW b c t hb => (hS2.others hW b c t ((hcells2 b c t hb).trans hb)).trans (hcells2 b c t hb)
        have HG2 : Hid (w.grownBy w2 (some bs)) := hg2
        go_loopw [31] (fun i wr => ∃ (j : Nat) (S1 : Nat → Bool), j ≤ nx.length ∧ i = .int .i64 (j : Int) ∧ SetAt wr bs N S1 ∧ GrownS F S S1 p (nx.take j) ∧ outS S1 N ≤ m ∧ w2.grownBy wr (some bs)) (fun i _ => nx.length - (intOf i).toNat)
        case atStart => exact ⟨0, putS S p, Nat.zero_le _, rfl, hS2, HSt'.out, hout, ⟨rfl, rfl, rfl, Nat.le_refl _, fun _ _ _ => rfl⟩⟩
        case round =>
          obtain ⟨j, S1, hj, rfl, hS1, hGS, hou, hgw⟩ := hrel
          obtain ⟨⟨k2, k1, k3, k4, k5⟩, hC3, hL3, hkid⟩ := HW.out wr (HC2.out wr hgw)
          by_cases hlt : j < nx.length
          · have hq : nx[j]? = some nx[j] := List.getElem?_eq_getElem hlt
            obtain ⟨hg', e1, e2, hcq⟩ := hkid j _ hq
            subst e1
            have hqN := HNx.out _ (List.mem_of_getElem? hq)
            have HCALL := HIH.out nx[j] wr S1 hou hS1 hL3 hC3 hqN
            have HS3 : Hid (∀ S2, Grown F S1 S2 nx[j] → GrownS F S S2 p (nx.take (j + 1)) ∧ outS S2 N ≤ m) := fun S2 g => ⟨HStep.out S1 S2 j _ hq hGS g, Nat.le_trans (outS_le g.1) hou⟩
            have hji : (j : Int) < (nx.length : Int) := by omega
            have HGW : Hid (w2.grownBy wr (some bs)) := hgw
            clear hkid hq hS1 hGS hgw hC3 hL3 HC2 HW HSET
            generalize nx[j] = q at *
            go_wp2_with fail
            refine HCALL.mono ?_
            rintro e W ⟨rfl, S2, hS2', hG, hgW⟩
            obtain ⟨hGS', hou'⟩ := HS3.out S2 hG
            clear HCALL
            go_wp2
            go_roundw
            case rel => exact ⟨j + 1, S2, by omega, by first | rfl | go_num, hS2', hGS', hou', HGW.out.trans hgW⟩
            case measure => simp [intOf]; omega
          · obtain rfl : j = nx.length := by omega
            rw [List.take_of_length_le (Nat.le_refl _)] at hGS
            have HE : Hid (∃ S', SetAt wr bs N S' ∧ Grown F S S' p ∧ w.grownBy wr (some bs)) := ⟨S1, hS1, HD.out S1 hGS, HG2.out.trans hgw⟩
            clear hkid hS1 hGS hgw hC3 hL3 HC2 HW HSET HIH HStep
            go_wp2
            go_end0
            exact ⟨rfl, HE.out⟩
      · have hty : ((y : Int) == 0) = false := by rw [beq_eq_false_iff_ne]; omega
        have HD : Hid (Grown F S (putS S p) p) := by
          obtain ⟨h1, h2, h3, h4, h5⟩ := GrownS.start F S p
          refine ⟨h1, h2, h4, fun q z hq hn hz h0 r hr => ?_⟩
          by_cases e : q = p
          · subst e
            rw [hx] at hz
            cases hz
            exact absurd h0 hy
          · exact h5 q z hq hn e hz h0 r hr
        clear ih hnxx hx hnx hnl hD hS hSp hm
        have hpi : (p : Int) < (F.length : Int) := by omega
        have hp0 : (0 : Int) ≤ (p : Int) := by omega
        go_enter Tryz.func139, Tryz.ntmps139
        go_wp2_with (first
          | (at_lookup; refine wpList_lookup_own_unit _ rfl _ _ 144 rfl 3 155 lawI Tryz.underlying144 (zeroU _) bs N D rfl hown _ _ rfl (keyOf_int_mk Tryz.underlying3 (wfN (by omega))) ?_; rw [hk1])
          | (at_mapUpdate; refine wpList_mapUpdate_own _ rfl _ _ _ 144 rfl 3 155 lawI Tryz.underlying144 _ bs N D rfl hown1 (by unfold maxLen; omega) _ _ _ rfl rfl (keyOf_int_mk Tryz.underlying3 (wfN (by omega))) _ [] unitElem_mk ?_; intro w2 hown2 hgrow2; obtain ⟨hS2, hg2, hcells2⟩ := HSET.out w2 hown2 hgrow2; obtain ⟨⟨c2', c1', c3', d0', d1'⟩, _⟩ := HW.out w2 hcells2)
          | go_in)
        first | go_end0 | refine bodyPost_ret (results_none rfl _ _ _) rfl ?_
        exact ⟨rfl, _, hS2, HD.out, hg2⟩
end Go.Proofs.YtgkplmnhmobnnaaGreatDoor
