/-
  PROVED HERE: what the texts Lang, NetsA, Grp, Args, Typ say (each has its own words below).
-/
import Derived.Test.YtofkiaeocfpkeaaGreatDoorRF5
import Derived.Test.YtofkiaeocfpkeaaGreatDoorRows
import Derived.WalkKit
import Derived.ProofKit
import Derived.OpenShut
import Derived.Deep.Slices
import Derived.Deep.DeepHandedRow
import Derived.ChangeSlices
import Derived.ChangeSame
import Derived.ChangeArms
import Derived.ChangeMaps5
import Derived.DataShut
import Derived.SizedLaws
import Derived.Laws.BitsAllLaws
/- Lang: the words that lead from where a tree is laid to the end are its own words, one behind the other with those from what comes behind. -/
namespace Go.Proofs.YtofkiaeocfpkeaaGreatDoor

section
variable {T : Type} (K : T → Int) (M : T → Nat) (U : T → List T)

def LSeq (f : T → List Int → Prop) : List T → List Int → Prop
  | [], w => w = []
  | x :: r, w => ∃ u v, w = u ++ v ∧ f x u ∧ LSeq f r v
def LPow (f : List Int → Prop) : Nat → List Int → Prop
  | 0, w => w = []
  | m + 1, w => ∃ u v, w = u ++ v ∧ f u ∧ LPow f m v
/-- The words of a tree. -/
def Lang : Nat → T → List Int → Prop
  | 0, _, _ => False
  | n + 1, t, w =>
    if K t = 1 then ∃ a, w = [a] ∧ takes (M t) a = true
    else if K t = 2 then LSeq (Lang n) (U t) w
    else if K t = 3 then ∃ x ∈ U t, Lang n x w
    else if K t = 4 then ∃ m, LPow (fun v => ∃ x ∈ U t, Lang n x v) m w
    else if K t = 5 then ∃ m, LPow (fun v => ∃ x ∈ U t, Lang n x v) (m + 1) w
    else if K t = 6 then w = [] ∨ ∃ x ∈ U t, Lang n x w
    else w = []

/-- F is as L from place a on, up to place b. -/
def Like (F L : List Place) (a b : Nat) : Prop := ∀ p, a ≤ p → p < b → F[p]? = L[p]?
/-- From where x is laid one reads a word of g, then what leads on. -/
def Sound (f : T → Nat → List Place → List Place × Nat) (g : T → List Int → Prop) (F : List Place) (x : T) : Prop :=
  ∀ next L, wf L → next < L.length → Like F (f x next L).1 L.length (f x next L).1.length → ∀ k w, Reads F k (f x next L).2 w → ∃ u v k', k' ≤ k ∧ w = u ++ v ∧ g x u ∧ Reads F k' next v
def Full (f : T → Nat → List Place → List Place × Nat) (g : T → List Int → Prop) (F : List Place) (x : T) : Prop :=
  ∀ next L, wf L → next < L.length → Like F (f x next L).1 L.length (f x next L).1.length → ∀ u v k, g x u → Reads F k next v → ∃ k', Reads F k' (f x next L).2 (u ++ v)

theorem LSeq_snoc (f : T → List Int → Prop) : ∀ (l : List T) (x : T) (w : List Int), LSeq f (l ++ [x]) w ↔ ∃ u v, w = u ++ v ∧ LSeq f l u ∧ f x v := by
  intro l
  induction l with
  | nil =>
    intro x w
    constructor
    · rintro ⟨u, v, rfl, h1, h2⟩
      rw [LSeq] at h2
      subst h2
      exact ⟨[], u, by simp, rfl, h1⟩
    · rintro ⟨u, v, rfl, h1, h2⟩
      rw [LSeq] at h1
      subst h1
      exact ⟨v, [], by simp, h2, rfl⟩
  | cons y r ih =>
    intro x w
    constructor
    · rintro ⟨u, v, rfl, h1, h2⟩
      obtain ⟨a, b, rfl, h3, h4⟩ := (ih x v).1 h2
      exact ⟨u ++ a, b, by simp, ⟨u, a, rfl, h1, h3⟩, h4⟩
    · rintro ⟨u, v, rfl, ⟨a, b, rfl, h1, h2⟩, h3⟩
      exact ⟨a, b ++ v, by simp, h1, (ih x (b ++ v)).2 ⟨b, v, rfl, h2, h3⟩⟩

variable {f : T → Nat → List Place → List Place × Nat} {g : T → List Int → Prop} {sz : T → Nat} {F : List Place}

theorem Reads.at_fork {k p : Nat} {w : List Int} {x : Place} (hp : 0 < p) (hx : F[p]? = some x) (h0 : x.1 = 0) (h : Reads F k p w) : ∃ q ∈ x.2.1, ∃ k', k' < k ∧ Reads F k' q w := by
  cases k with
  | zero => obtain ⟨rfl, _⟩ := h; omega
  | succ k =>
    rcases h with ⟨rfl, _⟩ | ⟨y, hy, h⟩
    · omega
    · rw [hx] at hy
      cases hy
      rcases h with ⟨_, q, hq, hr⟩ | ⟨h1, _⟩
      · exact ⟨q, hq, k, Nat.lt_succ_self _, hr⟩
      · exact absurd h0 h1
theorem Reads.by_fork {k p q : Nat} {w : List Int} {x : Place} (hx : F[p]? = some x) (h0 : x.1 = 0) (hq : q ∈ x.2.1) (h : Reads F k q w) : Reads F (k + 1) p w :=
  .inr ⟨x, hx, .inl ⟨h0, q, hq, h⟩⟩

theorem laySeq_sound : ∀ (l : List T), (∀ x ∈ l, Good f sz x) → (∀ x ∈ l, Sound f g F x) → ∀ next L, wf L → next < L.length → Like F (laySeq f l next L).1 L.length (laySeq f l next L).1.length →
    ∀ k w, Reads F k (laySeq f l next L).2 w → ∃ u v k', k' ≤ k ∧ w = u ++ v ∧ LSeq g l.reverse u ∧ Reads F k' next v := by
  intro l
  induction l with
  | nil => intro _ _ next L _ _ _ k w h; exact ⟨[], w, k, Nat.le_refl _, rfl, rfl, h⟩
  | cons x r ih =>
    intro hg hs next L hL hn hF k w h
    obtain ⟨a1, a2, a3, a4, a5, a6⟩ := hg x (List.mem_cons_self ..) next L hL hn
    obtain ⟨b1, b2, b3, b4, b5, b6⟩ := laySeq_good r (fun y hy => hg y (List.mem_cons_of_mem _ hy)) (f x next L).2 (f x next L).1 a1 a2
    rw [laySeq] at hF h
    obtain ⟨u, v, k', hk, rfl, hu, hv⟩ := ih (fun y hy => hg y (List.mem_cons_of_mem _ hy)) (fun y hy => hs y (List.mem_cons_of_mem _ hy)) _ _ a1 a2 (fun p h1 h2 => hF p (by omega) h2) k w h
    obtain ⟨u', v', k'', hk', rfl, hu', hv'⟩ := hs x (List.mem_cons_self ..) next L hL hn (fun p h1 h2 => (hF p h1 (by omega)).trans (b4 p h2)) k' v hv
    rw [List.reverse_cons]
    exact ⟨u ++ u', v', k'', by omega, by simp, (LSeq_snoc g _ _ _).2 ⟨u, u', rfl, hu, hu'⟩, hv'⟩
theorem laySeq_full : ∀ (l : List T), (∀ x ∈ l, Good f sz x) → (∀ x ∈ l, Full f g F x) → ∀ next L, wf L → next < L.length → Like F (laySeq f l next L).1 L.length (laySeq f l next L).1.length →
    ∀ u v k, LSeq g l.reverse u → Reads F k next v → ∃ k', Reads F k' (laySeq f l next L).2 (u ++ v) := by
  intro l
  induction l with
  | nil => intro _ _ next L _ _ _ u v k hu hv; rw [List.reverse_nil, LSeq] at hu; subst hu; exact ⟨k, hv⟩
  | cons x r ih =>
    intro hg hs next L hL hn hF u v k hu hv
    obtain ⟨a1, a2, a3, a4, a5, a6⟩ := hg x (List.mem_cons_self ..) next L hL hn
    obtain ⟨b1, b2, b3, b4, b5, b6⟩ := laySeq_good r (fun y hy => hg y (List.mem_cons_of_mem _ hy)) (f x next L).2 (f x next L).1 a1 a2
    rw [laySeq] at hF ⊢
    rw [List.reverse_cons] at hu
    obtain ⟨u1, u2, rfl, h1, h2⟩ := (LSeq_snoc g _ _ _).1 hu
    obtain ⟨k1, hk1⟩ := hs x (List.mem_cons_self ..) next L hL hn (fun p h1 h2 => (hF p h1 (by omega)).trans (b4 p h2)) u2 v k h2 hv
    obtain ⟨k2, hk2⟩ := ih (fun y hy => hg y (List.mem_cons_of_mem _ hy)) (fun y hy => hs y (List.mem_cons_of_mem _ hy)) _ _ a1 a2 (fun p h1 h2 => hF p (by omega) h2) u1 (u2 ++ v) k1 h1 hk1
    exact ⟨k2, by rw [List.append_assoc]; exact hk2⟩
theorem layAlt_mem (next : Nat) : ∀ (l : List T), (∀ x ∈ l, Good f sz x) → ∀ (L : List Place) (ways : List Nat), wf L → next < L.length → Like F (layAlt f next l L ways).1 L.length (layAlt f next l L ways).1.length →
    (∀ q ∈ (layAlt f next l L ways).2, q ∈ ways ∨ ∃ x ∈ l, ∃ L', wf L' ∧ next < L'.length ∧ Like F (f x next L').1 L'.length (f x next L').1.length ∧ q = (f x next L').2) ∧
    (∀ q ∈ ways, q ∈ (layAlt f next l L ways).2) ∧ (∀ x ∈ l, ∃ L', wf L' ∧ next < L'.length ∧ Like F (f x next L').1 L'.length (f x next L').1.length ∧ (f x next L').2 ∈ (layAlt f next l L ways).2) := by
  intro l
  induction l with
  | nil => intro _ L ways _ _ _; exact ⟨fun q hq => .inl hq, fun q hq => hq, fun x hx => by cases hx⟩
  | cons x r ih =>
    intro hg L ways hL hn hF
    obtain ⟨a1, a2, a3, a4, a5, a6⟩ := hg x (List.mem_cons_self ..) next L hL hn
    rw [layAlt] at hF ⊢
    have hlen : (f x next L).1.length ≤ (layAlt f next r (f x next L).1 (ways ++ [(f x next L).2])).1.length ∧ ∀ p, p < (f x next L).1.length → (layAlt f next r (f x next L).1 (ways ++ [(f x next L).2])).1[p]? = (f x next L).1[p]? := by
      have : ∀ (l : List T), (∀ y ∈ l, Good f sz y) → ∀ (L : List Place) (ws : List Nat), wf L → next < L.length → L.length ≤ (layAlt f next l L ws).1.length ∧ ∀ p, p < L.length → (layAlt f next l L ws).1[p]? = L[p]? := by
        intro l
        induction l with
        | nil => intro _ L ws _ _; exact ⟨Nat.le_refl _, fun _ _ => rfl⟩
        | cons y r ih2 =>
          intro hg L ws hL hn
          obtain ⟨a1, a2, a3, a4, a5, a6⟩ := hg y (List.mem_cons_self ..) next L hL hn
          rw [layAlt]
          obtain ⟨c1, c2⟩ := ih2 (fun z hz => hg z (List.mem_cons_of_mem _ hz)) (f y next L).1 (ws ++ [(f y next L).2]) a1 (by omega)
          exact ⟨by omega, fun p hp => (c2 p (by omega)).trans (a4 p hp)⟩
      exact this r (fun y hy => hg y (List.mem_cons_of_mem _ hy)) _ _ a1 (by omega)
    obtain ⟨l1, l2⟩ := hlen
    have hFx : Like F (f x next L).1 L.length (f x next L).1.length := fun p h1 h2 => (hF p h1 (by omega)).trans (l2 p h2)
    obtain ⟨b1, b2, b3⟩ := ih (fun y hy => hg y (List.mem_cons_of_mem _ hy)) (f x next L).1 (ways ++ [(f x next L).2]) a1 (by omega) (fun p h1 h2 => hF p (by omega) h2)
    refine ⟨fun q hq => ?_, fun q hq => b2 q (List.mem_append_left _ hq), fun y hy => ?_⟩
    · rcases b1 q hq with h | ⟨y, hy, h⟩
      · rcases List.mem_append.1 h with h | h
        · exact .inl h
        · simp at h
          exact .inr ⟨x, List.mem_cons_self .., L, hL, hn, hFx, h⟩
      · exact .inr ⟨y, List.mem_cons_of_mem _ hy, h⟩
    · rcases List.mem_cons.1 hy with rfl | hy
      · exact ⟨L, hL, hn, hFx, b2 _ (by simp)⟩
      · exact b3 y hy
/-- The places of a loop, in F. -/
theorem loop_like {x : T} (hg : Good f sz x) {next : Nat} {L : List Place} (hL : wf L) (hn : next < L.length) (hF : Like F (layLoop f [x] next L).1 L.length (layLoop f [x] next L).1.length) :
    wf (forkL L [next]).1 ∧ L.length < (forkL L [next]).1.length ∧ Like F (f x L.length (forkL L [next]).1).1 (forkL L [next]).1.length (f x L.length (forkL L [next]).1).1.length ∧ F[L.length]? = some (0, [next, (f x L.length (forkL L [next]).1).2], forkLeast L [next]) := by
  obtain ⟨c1, c2, c3, c4, c5⟩ := forkL_ok hL (ways := [next]) (by simp) (by simpa using hn) (m := leastAt L next) (by simp)
  obtain ⟨a1, a2, a3, a4, a5, a6⟩ := hg L.length (forkL L [next]).1 c1 (by omega)
  rw [layLoop] at hF
  refine ⟨c1, by omega, fun p h1 h2 => ?_, ?_⟩
  · rw [hF p (by omega) (by rw [addNext_length]; exact h2)]
    exact addNext_ne (by omega)
  · rw [hF L.length (Nat.le_refl _) (by rw [addNext_length]; omega)]
    exact addNext_eq ((a4 _ (by omega)).trans get_snoc_eq)
theorem loop_sound {x : T} (hg : Good f sz x) (hs : Sound f g F x) {next : Nat} {L : List Place} (hL : wf L) (hn : next < L.length) (hF : Like F (layLoop f [x] next L).1 L.length (layLoop f [x] next L).1.length) :
    ∀ k w, Reads F k L.length w → ∃ m u v k', k' ≤ k ∧ w = u ++ v ∧ LPow (g x) m u ∧ Reads F k' next v := by
  obtain ⟨c1, c2, c3, c4⟩ := loop_like hg hL hn hF
  have hpos := hL.pos
  intro k
  induction k using Nat.strongRecOn with
  | _ k ih =>
    intro w h
    obtain ⟨q, hq, k1, hk1, hr⟩ := h.at_fork hpos c4 rfl
    simp at hq
    rcases hq with rfl | rfl
    · exact ⟨0, [], w, k1, by omega, rfl, rfl, hr⟩
    · obtain ⟨u, v, k2, hk2, rfl, hu, hv⟩ := hs L.length _ c1 c2 c3 k1 w hr
      obtain ⟨m, u', v', k3, hk3, rfl, hu', hv'⟩ := ih k2 (by omega) v hv
      exact ⟨m + 1, u ++ u', v', k3, by omega, by simp, ⟨u, u', rfl, hu, hu'⟩, hv'⟩
theorem loop_full {x : T} (hg : Good f sz x) (hs : Full f g F x) {next : Nat} {L : List Place} (hL : wf L) (hn : next < L.length) (hF : Like F (layLoop f [x] next L).1 L.length (layLoop f [x] next L).1.length) :
    ∀ m u v k, LPow (g x) m u → Reads F k next v → ∃ k', Reads F k' L.length (u ++ v) := by
  obtain ⟨c1, c2, c3, c4⟩ := loop_like hg hL hn hF
  intro m
  induction m with
  | zero =>
    intro u v k hu hv
    rw [LPow] at hu
    subst hu
    exact ⟨k + 1, Reads.by_fork (q := next) c4 rfl (by simp) hv⟩
  | succ m ih =>
    rintro u v k ⟨u1, u2, rfl, h1, h2⟩ hv
    obtain ⟨k1, hk1⟩ := ih u2 v k h2 hv
    obtain ⟨k2, hk2⟩ := hs L.length _ c1 c2 c3 u1 (u2 ++ v) k1 h1 hk1
    exact ⟨k2 + 1, Reads.by_fork (q := (f x L.length (forkL L [next]).1).2) c4 rfl (by simp) (by rw [List.append_assoc]; exact hk2)⟩
theorem one_ex {x : T} {p : T → Prop} : (∃ y ∈ [x], p y) ↔ p x := by simp
theorem lay_sound : ∀ (n : Nat) (t : T), Sane K M U n t → Sound (lay K M U n) (Lang K M U n) F t := by
  intro n
  induction n with
  | zero => intro t h; exact h.elim
  | succ n ih =>
    intro t hS next L hL hn hF k w hr
    have hG := lay_good K M U (n + 1) t hS next L hL hn
    obtain ⟨s1, s3, s4, sk⟩ := hS
    have hk : ∀ x ∈ U t, Good (lay K M U n) (size U n) x := fun x hx => lay_good K M U n x (sk x hx)
    have hs : ∀ x ∈ U t, Sound (lay K M U n) (Lang K M U n) F x := fun x hx => ih x (sk x hx)
    have hpos := hL.pos
    rw [lay] at hF hr hG
    simp only [Lang]
    by_cases k1 : K t = 1
    · rw [if_pos k1] at hF hr hG
      simp only [if_pos k1]
      have hx : F[L.length]? = some (M t, [next], leastAt L next + 1) := (hF L.length (Nat.le_refl _) (by simp)).trans get_snoc_eq
      cases k with
      | zero => obtain ⟨e, _⟩ := hr; simp at e; simp [e] at hpos
      | succ k =>
        rcases hr with ⟨e, _⟩ | ⟨y, hy, h⟩
        · simp at e; simp [e] at hpos
        · have hy' : F[L.length]? = some y := hy
          rw [hx] at hy'
          cases hy'
          rcases h with ⟨h0, _⟩ | ⟨_, a, v, q, rfl, ha, hq, hv⟩
          · exact absurd h0 (s1 k1)
          · simp at hq
            subst hq
            exact ⟨[a], v, k, Nat.le_succ _, rfl, ⟨a, rfl, ha⟩, hv⟩
    rw [if_neg k1] at hF hr hG
    simp only [if_neg k1]
    by_cases k2 : K t = 2
    · rw [if_pos k2] at hF hr hG
      simp only [if_pos k2]
      obtain ⟨u, v, k', h1, h2, h3, h4⟩ := laySeq_sound (U t).reverse (fun x hx => hk x (List.mem_reverse.1 hx)) (fun x hx => hs x (List.mem_reverse.1 hx)) next L hL hn hF k w hr
      rw [List.reverse_reverse] at h3
      exact ⟨u, v, k', h1, h2, h3, h4⟩
    rw [if_neg k2] at hF hr hG
    simp only [if_neg k2]
    by_cases k3 : K t = 3
    · rw [if_pos k3] at hF hr hG
      simp only [if_pos k3]
      obtain ⟨b1, b2, b3, b4, b5, b6⟩ := layAlt_good next (U t) hk L [] hL hn (fun q hq => by cases hq)
      have hlen : (forkL (layAlt (lay K M U n) next (U t) L []).1 (layAlt (lay K M U n) next (U t) L []).2).1.length = (layAlt (lay K M U n) next (U t) L []).1.length + 1 := by simp [forkL]
      have hx : F[(layAlt (lay K M U n) next (U t) L []).1.length]? = some (0, (layAlt (lay K M U n) next (U t) L []).2, forkLeast (layAlt (lay K M U n) next (U t) L []).1 (layAlt (lay K M U n) next (U t) L []).2) := (hF _ (by omega) (by omega)).trans get_snoc_eq
      obtain ⟨q, hq, k1', hk1, hr'⟩ := Reads.at_fork (p := (layAlt (lay K M U n) next (U t) L []).1.length) (by omega) hx rfl hr
      have hF' : Like F (layAlt (lay K M U n) next (U t) L []).1 L.length (layAlt (lay K M U n) next (U t) L []).1.length := fun p h1 h2 => (hF p h1 (by omega)).trans (get_snoc_lt h2)
      rcases (layAlt_mem next (U t) hk L [] hL hn hF').1 q hq with h | ⟨x, hx, L', d1, d2, d3, rfl⟩
      · cases h
      · obtain ⟨u, v, k', h1, h2, h3, h4⟩ := hs x hx next L' d1 d2 d3 k1' w hr'
        exact ⟨u, v, k', by omega, h2, ⟨x, hx, h3⟩, h4⟩
    rw [if_neg k3] at hF hr hG
    simp only [if_neg k3]
    by_cases k4 : K t = 4
    · rw [if_pos k4] at hF hr hG
      simp only [if_pos k4]
      obtain ⟨x, hx⟩ := s4 (.inl k4)
      rw [hx] at hF hr hG hk hs ⊢
      simp only [one_ex]
      obtain ⟨m, u, v, k', h1, h2, h3, h4⟩ := loop_sound (hk x (List.mem_singleton.2 rfl)) (hs x (List.mem_singleton.2 rfl)) hL hn hF k w hr
      exact ⟨u, v, k', h1, h2, ⟨m, h3⟩, h4⟩
    rw [if_neg k4] at hF hr hG
    simp only [if_neg k4]
    by_cases k5 : K t = 5
    · rw [if_pos k5] at hF hr hG
      simp only [if_pos k5]
      obtain ⟨x, hx⟩ := s4 (.inr (.inl k5))
      rw [hx] at hF hr hG hk hs ⊢
      simp only [one_ex]
      obtain ⟨c1, c2, c3, c4⟩ := loop_like (hk x (List.mem_singleton.2 rfl)) hL hn hF
      obtain ⟨u, v, k1', hk1, rfl, hu, hv⟩ := hs x (List.mem_singleton.2 rfl) L.length _ c1 c2 c3 k w hr
      obtain ⟨m, u', v', k', h1, rfl, h3, h4⟩ := loop_sound (hk x (List.mem_singleton.2 rfl)) (hs x (List.mem_singleton.2 rfl)) hL hn hF k1' v hv
      exact ⟨u ++ u', v', k', by omega, by simp, ⟨m, u, u', rfl, hu, h3⟩, h4⟩
    rw [if_neg k5] at hF hr hG
    simp only [if_neg k5]
    by_cases k6 : K t = 6
    · rw [if_pos k6] at hF hr hG
      simp only [if_pos k6]
      obtain ⟨x, hx⟩ := s4 (.inr (.inr k6))
      rw [hx] at hF hr hG hk hs ⊢
      simp only [one_ex]
      rw [layOpt] at hF hr
      obtain ⟨a1, a2, a3, a4, a5, a6⟩ := hk x (List.mem_singleton.2 rfl) next L hL hn
      have hlen : (forkL (lay K M U n x next L).1 [next, (lay K M U n x next L).2]).1.length = (lay K M U n x next L).1.length + 1 := by simp [forkL]
      have hat : F[(lay K M U n x next L).1.length]? = some (0, [next, (lay K M U n x next L).2], forkLeast (lay K M U n x next L).1 [next, (lay K M U n x next L).2]) := (hF _ (by omega) (by omega)).trans get_snoc_eq
      obtain ⟨q, hq, k1', hk1, hr'⟩ := Reads.at_fork (p := (lay K M U n x next L).1.length) (by omega) hat rfl hr
      simp at hq
      rcases hq with rfl | rfl
      · exact ⟨[], w, k1', by omega, rfl, .inl rfl, hr'⟩
      · obtain ⟨u, v, k', h1, h2, h3, h4⟩ := hs x (List.mem_singleton.2 rfl) next L hL hn (fun p h1 h2 => (hF p h1 (by omega)).trans (get_snoc_lt h2)) k1' w hr'
        exact ⟨u, v, k', by omega, h2, .inr h3, h4⟩
    rw [if_neg k6] at hF hr hG
    simp only [if_neg k6]
    exact ⟨[], w, k, Nat.le_refl _, rfl, rfl, hr⟩
theorem lay_full : ∀ (n : Nat) (t : T), Sane K M U n t → Full (lay K M U n) (Lang K M U n) F t := by
  intro n
  induction n with
  | zero => intro t h; exact h.elim
  | succ n ih =>
    intro t hS next L hL hn hF u v k hu hv
    have hG := lay_good K M U (n + 1) t hS next L hL hn
    obtain ⟨s1, s3, s4, sk⟩ := hS
    have hk : ∀ x ∈ U t, Good (lay K M U n) (size U n) x := fun x hx => lay_good K M U n x (sk x hx)
    have hs : ∀ x ∈ U t, Full (lay K M U n) (Lang K M U n) F x := fun x hx => ih x (sk x hx)
    have hpos := hL.pos
    rw [lay] at hF hG ⊢
    rw [Lang] at hu
    by_cases k1 : K t = 1
    · rw [if_pos k1] at hF hG hu ⊢
      obtain ⟨a, rfl, ha⟩ := hu
      exact ⟨k + 1, .inr ⟨_, (hF L.length (Nat.le_refl _) (by simp)).trans get_snoc_eq, .inr ⟨s1 k1, a, v, next, rfl, ha, rfl, hv⟩⟩⟩
    rw [if_neg k1] at hF hG hu ⊢
    by_cases k2 : K t = 2
    · rw [if_pos k2] at hF hG hu ⊢
      exact laySeq_full (U t).reverse (fun x hx => hk x (List.mem_reverse.1 hx)) (fun x hx => hs x (List.mem_reverse.1 hx)) next L hL hn hF u v k (by rw [List.reverse_reverse]; exact hu) hv
    rw [if_neg k2] at hF hG hu ⊢
    by_cases k3 : K t = 3
    · rw [if_pos k3] at hF hG hu ⊢
      obtain ⟨b1, b2, b3, b4, b5, b6⟩ := layAlt_good next (U t) hk L [] hL hn (fun q hq => by cases hq)
      have hlen : (forkL (layAlt (lay K M U n) next (U t) L []).1 (layAlt (lay K M U n) next (U t) L []).2).1.length = (layAlt (lay K M U n) next (U t) L []).1.length + 1 := by simp [forkL]
      have hx : F[(layAlt (lay K M U n) next (U t) L []).1.length]? = some (0, (layAlt (lay K M U n) next (U t) L []).2, forkLeast (layAlt (lay K M U n) next (U t) L []).1 (layAlt (lay K M U n) next (U t) L []).2) := (hF _ (by omega) (by omega)).trans get_snoc_eq
      have hF' : Like F (layAlt (lay K M U n) next (U t) L []).1 L.length (layAlt (lay K M U n) next (U t) L []).1.length := fun p h1 h2 => (hF p h1 (by omega)).trans (get_snoc_lt h2)
      obtain ⟨x, hxm, hxu⟩ := hu
      obtain ⟨L', d1, d2, d3, d4⟩ := (layAlt_mem next (U t) hk L [] hL hn hF').2.2 x hxm
      obtain ⟨k1', hk1⟩ := hs x hxm next L' d1 d2 d3 u v k hxu hv
      exact ⟨k1' + 1, Reads.by_fork hx rfl d4 hk1⟩
    rw [if_neg k3] at hF hG hu ⊢
    by_cases k4 : K t = 4
    · rw [if_pos k4] at hF hG hu ⊢
      obtain ⟨x, hx⟩ := s4 (.inl k4)
      rw [hx] at hF hG hk hs hu ⊢
      simp only [one_ex] at hu
      obtain ⟨m, hm⟩ := hu
      exact loop_full (hk x (List.mem_singleton.2 rfl)) (hs x (List.mem_singleton.2 rfl)) hL hn hF m u v k hm hv
    rw [if_neg k4] at hF hG hu ⊢
    by_cases k5 : K t = 5
    · rw [if_pos k5] at hF hG hu ⊢
      obtain ⟨x, hx⟩ := s4 (.inr (.inl k5))
      rw [hx] at hF hG hk hs hu ⊢
      simp only [one_ex] at hu
      obtain ⟨m, u1, u2, rfl, h1, h2⟩ := hu
      obtain ⟨c1, c2, c3, c4⟩ := loop_like (hk x (List.mem_singleton.2 rfl)) hL hn hF
      obtain ⟨k1', hk1⟩ := loop_full (hk x (List.mem_singleton.2 rfl)) (hs x (List.mem_singleton.2 rfl)) hL hn hF m u2 v k h2 hv
      rw [List.append_assoc]
      exact hs x (List.mem_singleton.2 rfl) L.length _ c1 c2 c3 u1 (u2 ++ v) k1' h1 hk1
    rw [if_neg k5] at hF hG hu ⊢
    by_cases k6 : K t = 6
    · rw [if_pos k6] at hF hG hu ⊢
      obtain ⟨x, hx⟩ := s4 (.inr (.inr k6))
      rw [hx] at hF hG hk hs hu ⊢
      simp only [one_ex] at hu
      rw [layOpt] at hF ⊢
      obtain ⟨a1, a2, a3, a4, a5, a6⟩ := hk x (List.mem_singleton.2 rfl) next L hL hn
      have hlen : (forkL (lay K M U n x next L).1 [next, (lay K M U n x next L).2]).1.length = (lay K M U n x next L).1.length + 1 := by simp [forkL]
      have hat : F[(lay K M U n x next L).1.length]? = some (0, [next, (lay K M U n x next L).2], forkLeast (lay K M U n x next L).1 [next, (lay K M U n x next L).2]) := (hF _ (by omega) (by omega)).trans get_snoc_eq
      rcases hu with rfl | hu
      · exact ⟨k + 1, Reads.by_fork (q := next) hat rfl (by simp) hv⟩
      · obtain ⟨k1', hk1⟩ := hs x (List.mem_singleton.2 rfl) next L hL hn (fun p h1 h2 => (hF p h1 (by omega)).trans (get_snoc_lt h2)) u v k hu hv
        exact ⟨k1' + 1, Reads.by_fork (q := (lay K M U n x next L).2) hat rfl (by simp) hk1⟩
    rw [if_neg k6] at hF hG hu ⊢
    subst hu
    exact ⟨k, hv⟩
end
end Go.Proofs.YtofkiaeocfpkeaaGreatDoor

/- NetsA: plain nets: how a tree is laid, what is read of it, what is reached behind a word. -/
namespace Go.Proofs.YtofkiaeocfpkeaaGreatDoor

/-- A place of a net: where it goes without a type, the types by which it goes on, and where (-1: nowhere). -/
abbrev Node : Type := List Nat × List Int × Int
def newNode : Node := ([], [], -1)
def placeN (N : List Node) : List Node := N ++ [newNode]
def freeN (N : List Node) (a b : Nat) : List Node := N.modify a (fun x => (x.1 ++ [b], x.2))
def nameN (N : List Node) (c : Nat) (ts : List Int) (b : Nat) : List Node := N.modify c (fun x => (x.1, ts, (b : Int)))
/-- What leads from a place to the place 1, in at most k moves. -/
def ReadsM (F : List Node) : Nat → Nat → List Int → Prop
  | 0, p, w => p = 1 ∧ w = []
  | k + 1, p, w => (p = 1 ∧ w = []) ∨ ∃ x, F[p]? = some x ∧ ((∃ q ∈ x.1, ReadsM F k q w) ∨ ∃ t v, w = t :: v ∧ t ∈ x.2.1 ∧ ∃ q : Nat, x.2.2 = (q : Int) ∧ ReadsM F k q v)
theorem ReadsM.up {F : List Node} : ∀ {k p : Nat} {w : List Int}, ReadsM F k p w → ReadsM F (k + 1) p w := by
  intro k
  induction k with
  | zero => intro p w h; exact .inl h
  | succ k ih =>
    intro p w h
    rcases h with h | ⟨x, hx, ⟨q, hq, hr⟩ | ⟨t, v, e, ht, q, hq, hr⟩⟩
    · exact .inl h
    · exact .inr ⟨x, hx, .inl ⟨q, hq, ih hr⟩⟩
    · exact .inr ⟨x, hx, .inr ⟨t, v, e, ht, q, hq, ih hr⟩⟩
theorem ReadsM.upto {F : List Node} {k m p : Nat} {w : List Int} (h : k ≤ m) (hr : ReadsM F k p w) : ReadsM F m p w := by
  induction h with
  | refl => exact hr
  | step _ ih => exact ReadsM.up ih
theorem ReadsM.by_free {F : List Node} {k p q : Nat} {w : List Int} {x : Node} (hx : F[p]? = some x) (hq : q ∈ x.1) (h : ReadsM F k q w) : ReadsM F (k + 1) p w := .inr ⟨x, hx, .inl ⟨q, hq, h⟩⟩
/-- From a place that takes no type. -/
theorem ReadsM.at_free {F : List Node} {k p : Nat} {w : List Int} {x : Node} (hp : 2 ≤ p) (hx : F[p]? = some x) (h0 : x.2.1 = []) (h : ReadsM F k p w) : ∃ q ∈ x.1, ∃ k', k' < k ∧ ReadsM F k' q w := by
  cases k with
  | zero => obtain ⟨rfl, _⟩ := h; omega
  | succ k =>
    rcases h with ⟨rfl, _⟩ | ⟨y, hy, h⟩
    · omega
    · rw [hx] at hy
      cases hy
      rcases h with ⟨q, hq, hr⟩ | ⟨t, v, _, ht, _⟩
      · exact ⟨q, hq, k, Nat.lt_succ_self _, hr⟩
      · rw [h0] at ht; cases ht
def Live (F : List Node) (p : Nat) : Prop := ∃ k w, ReadsM F k p w

section
variable {T : Type} (K : T → Int) (Ty : T → List Int) (U : T → List T)
def seqN (f : T → Nat → Nat → List Node → List Node) : List T → Nat → Nat → List Node → List Node
  | [], a, b, N => freeN N a b
  | x :: r, a, b, N => seqN f r N.length b (f x a N.length (placeN N))
def altsN (f : T → Nat → Nat → List Node → List Node) : List T → Nat → Nat → List Node → List Node
  | [], _, _, N => N
  | x :: r, a, b, N => altsN f r a b (f x a b N)
def oneN (f : T → Nat → Nat → List Node → List Node) : List T → Nat → Nat → List Node → List Node
  | x :: _, a, b, N => f x a b N
  | [], _, _, N => N
/-- The places of a sign: from c to d the tree, around it the ways that the sign allows. -/
def signN (f : T → Nat → Nat → List Node → List Node) (k : Int) (l : List T) (a b : Nat) (N : List Node) : List Node :=
  let N3 := freeN (oneN f l N.length (N.length + 1) (freeN (placeN (placeN N)) a N.length)) (N.length + 1) b
  let N4 := if k = 6 then N3 else freeN N3 (N.length + 1) N.length
  if k = 5 then N4 else freeN N4 a b
/-- A tree between two places. -/
def layN : Nat → T → Nat → Nat → List Node → List Node
  | 0, _, _, _, N => N
  | n + 1, t, a, b, N =>
    if K t = 0 then freeN N a b
    else if K t = 1 then nameN (freeN (placeN N) a N.length) N.length (Ty t) b
    else if K t = 2 then seqN (layN n) (U t) a b N
    else if K t = 3 then altsN (layN n) (U t) a b N
    else signN (layN n) (K t) (U t) a b N
end

/-- N has become N1, the place a having got the ways E. -/
structure Laid (N N1 : List Node) (a : Nat) (E : List Nat) : Prop where
  len : N.length ≤ N1.length
  old : ∀ p, p < N.length → p ≠ a → N1[p]? = N[p]?
  ent : ∀ x, N[a]? = some x → N1[a]? = some (x.1 ++ E, x.2)
theorem Laid.refl (N : List Node) (a : Nat) : Laid N N a [] := ⟨Nat.le_refl _, fun _ _ _ => rfl, fun x hx => by rw [hx, List.append_nil]⟩
theorem Laid.trans {N N1 N2 : List Node} {a : Nat} {E1 E2 : List Nat} (h1 : Laid N N1 a E1) (h2 : Laid N1 N2 a E2) : Laid N N2 a (E1 ++ E2) := by
  refine ⟨Nat.le_trans h1.len h2.len, fun p hp hne => (h2.old p (Nat.lt_of_lt_of_le hp h1.len) hne).trans (h1.old p hp hne), fun x hx => ?_⟩
  have := h2.ent _ (h1.ent x hx)
  rwa [List.append_assoc] at this
theorem Laid.inner {N N1 N2 : List Node} {a c : Nat} {E E2 : List Nat} (h1 : Laid N N1 a E) (h2 : Laid N1 N2 c E2) (hc : N.length ≤ c) (ha : a < N.length) : Laid N N2 a E := by
  refine ⟨Nat.le_trans h1.len h2.len, fun p hp hne => (h2.old p (Nat.lt_of_lt_of_le hp h1.len) (by omega)).trans (h1.old p hp hne), fun x hx => ?_⟩
  rw [h2.old a (Nat.lt_of_lt_of_le ha h1.len) (by omega)]
  exact h1.ent x hx
theorem freeN_length (N : List Node) (a b : Nat) : (freeN N a b).length = N.length := by unfold freeN; simp
theorem placeN_length (N : List Node) : (placeN N).length = N.length + 1 := by unfold placeN; simp
theorem nameN_length (N : List Node) (c : Nat) (ts : List Int) (b : Nat) : (nameN N c ts b).length = N.length := by unfold nameN; simp
theorem placeN_at (N : List Node) : (placeN N)[N.length]? = some newNode := by unfold placeN; simp
theorem laid_free (N : List Node) (a b : Nat) : Laid N (freeN N a b) a [b] := by
  refine ⟨by rw [freeN_length]; exact Nat.le_refl _, fun p _ hne => ?_, fun x hx => ?_⟩
  · unfold freeN; rw [List.getElem?_modify]; simp [Ne.symm hne]
  · unfold freeN; rw [List.getElem?_modify, hx]; simp
theorem laid_place {N : List Node} {a : Nat} (ha : a < N.length) : Laid N (placeN N) a [] := by
  refine ⟨by rw [placeN_length]; omega, fun p hp _ => by unfold placeN; exact List.getElem?_append_left hp, fun x hx => ?_⟩
  unfold placeN
  rw [List.getElem?_append_left ha, hx, List.append_nil]
theorem nameN_ne {N : List Node} {c p : Nat} {ts : List Int} {b : Nat} (h : p ≠ c) : (nameN N c ts b)[p]? = N[p]? := by unfold nameN; rw [List.getElem?_modify]; simp [Ne.symm h]
theorem nameN_eq {N : List Node} {c : Nat} {ts : List Int} {b : Nat} {x : Node} (h : N[c]? = some x) : (nameN N c ts b)[c]? = some (x.1, ts, (b : Int)) := by unfold nameN; rw [List.getElem?_modify, h]; simp

/-- The ways E lead to b by the words of L, and to nothing else; all of them, if b leads somewhere. -/
structure Means (F : List Node) (L : List Int → Prop) (b : Nat) (E : List Nat) : Prop where
  ne : E ≠ []
  sound : ∀ q ∈ E, ∀ k w, ReadsM F k q w → ∃ u v k', k' ≤ k ∧ w = u ++ v ∧ L u ∧ ReadsM F k' b v
  full : ∀ u v k, L u → ReadsM F k b v → ∃ q ∈ E, ∃ k', ReadsM F k' q (u ++ v)
  live : Live F b → ∀ q ∈ E, Live F q
theorem Means.congr {F : List Node} {L L' : List Int → Prop} {b : Nat} {E : List Nat} (h : Means F L b E) (hL : ∀ u, L u ↔ L' u) : Means F L' b E :=
  ⟨h.ne, fun q hq k w hr => by obtain ⟨u, v, k', h1, h2, h3, h4⟩ := h.sound q hq k w hr; exact ⟨u, v, k', h1, h2, (hL u).1 h3, h4⟩, fun u v k hu hv => h.full u v k ((hL u).2 hu) hv, h.live⟩
/-- From a place that has just the ways E. -/
theorem Means.at {F : List Node} {L : List Int → Prop} {b c : Nat} {E : List Nat} (h : Means F L b E) (hc : 2 ≤ c) (hx : F[c]? = some (E, [], -1)) :
    (∀ k w, ReadsM F k c w → ∃ u v k', k' < k ∧ w = u ++ v ∧ L u ∧ ReadsM F k' b v) ∧ (∀ u v k, L u → ReadsM F k b v → ∃ k', ReadsM F k' c (u ++ v)) ∧ (Live F b → Live F c) := by
  refine ⟨fun k w hr => ?_, fun u v k hu hv => ?_, fun hb => ?_⟩
  · obtain ⟨q, hq, k1, hk1, hr1⟩ := hr.at_free hc hx rfl
    obtain ⟨u, v, k2, hk2, e, hu, hv⟩ := h.sound q hq k1 w hr1
    exact ⟨u, v, k2, by omega, e, hu, hv⟩
  · obtain ⟨q, hq, k1, hr⟩ := h.full u v k hu hv
    exact ⟨k1 + 1, hr.by_free hx hq⟩
  · obtain ⟨q, hq⟩ := List.exists_mem_of_ne_nil _ h.ne
    obtain ⟨k, w, hr⟩ := h.live hb q hq
    exact ⟨k + 1, w, hr.by_free hx hq⟩
/-- F is as N1 from place m on. -/
def LikeM (F N1 : List Node) (m : Nat) : Prop := ∀ p, m ≤ p → p < N1.length → F[p]? = N1[p]?
/-- What is laid between a and b means L, wherever it is laid; its places lead on, if b does. -/
def Lays (f : Nat → Nat → List Node → List Node) (L : List Int → Prop) : Prop :=
  ∀ a b N, 2 ≤ N.length → a < N.length → b < N.length → ∃ E, Laid N (f a b N) a E ∧ ∀ F, LikeM F (f a b N) N.length → Means F L b E ∧ (Live F b → ∀ p, N.length ≤ p → p < (f a b N).length → Live F p)
theorem lays_free : Lays (fun a b N => freeN N a b) (fun w => w = []) := by
  intro a b N _ _ _
  refine ⟨[b], laid_free N a b, fun F hF => ⟨⟨by simp, fun q hq k w hr => ?_, fun u v k hu hv => ?_, fun hb q hq => ?_⟩, fun _ p h1 h2 => ?_⟩⟩
  · simp at hq
    subst hq
    exact ⟨[], w, k, Nat.le_refl _, rfl, rfl, hr⟩
  · subst hu
    exact ⟨b, List.mem_singleton.2 rfl, k, hv⟩
  · simp at hq
    subst hq
    exact hb
  · rw [freeN_length] at h2
    omega
theorem lays_name (ts : List Int) (hts : ts ≠ []) : Lays (fun a b N => nameN (freeN (placeN N) a N.length) N.length ts b) (fun w => ∃ t, w = [t] ∧ t ∈ ts) := by
  intro a b N h2 ha hb
  dsimp only
  have l1 := (laid_place ha).trans (laid_free (placeN N) a N.length)
  have hc : (freeN (placeN N) a N.length)[N.length]? = some newNode := by rw [(laid_free (placeN N) a N.length).old _ (by rw [placeN_length]; omega) (by omega), placeN_at]
  have hl : (nameN (freeN (placeN N) a N.length) N.length ts b).length = N.length + 1 := by rw [nameN_length, freeN_length, placeN_length]
  refine ⟨[N.length], ⟨by omega, fun p hp hne => ?_, fun x hx => ?_⟩, fun F hF => ?_⟩
  · rw [nameN_ne (by omega)]
    exact l1.old p hp hne
  · rw [nameN_ne (by omega)]
    exact l1.ent x hx
  · have hFc : F[N.length]? = some ([], ts, (b : Int)) := (hF N.length (Nat.le_refl _) (by omega)).trans (nameN_eq hc)
    have hlive : Live F b → Live F N.length := by
      rintro ⟨k, w, hr⟩
      obtain ⟨t, ht⟩ := List.exists_mem_of_ne_nil _ hts
      exact ⟨k + 1, t :: w, .inr ⟨_, hFc, .inr ⟨t, w, rfl, ht, b, rfl, hr⟩⟩⟩
    refine ⟨⟨by simp, fun q hq k w hr => ?_, fun u v k hu hv => ?_, fun hb q hq => ?_⟩, fun hb p h1 h2 => ?_⟩
    · simp at hq
      subst hq
      cases k with
      | zero => obtain ⟨e, _⟩ := hr; omega
      | succ k =>
        rcases hr with ⟨e, _⟩ | ⟨y, hy, h⟩
        · omega
        · rw [hFc] at hy
          cases hy
          rcases h with ⟨q, hq, _⟩ | ⟨t, v, rfl, ht, q, hq, hr⟩
          · cases hq
          · have : b = q := by simp at hq; omega
            subst this
            exact ⟨[t], v, k, by omega, rfl, ⟨t, rfl, ht⟩, hr⟩
    · obtain ⟨t, rfl, ht⟩ := hu
      exact ⟨N.length, List.mem_singleton.2 rfl, k + 1, .inr ⟨_, hFc, .inr ⟨t, v, rfl, ht, b, rfl, hv⟩⟩⟩
    · simp at hq
      subst hq
      exact hlive hb
    · have : p = N.length := by omega
      subst this
      exact hlive hb
section
variable {T : Type}
theorem lays_seq {f : T → Nat → Nat → List Node → List Node} {g : T → List Int → Prop} : ∀ (l : List T), (∀ x ∈ l, Lays (f x) (g x)) → Lays (fun a b N => seqN f l a b N) (LSeq g l) := by
  intro l
  induction l with
  | nil => intro _; exact lays_free
  | cons x r ih =>
    intro hf a b N h2 ha hb
    dsimp only [seqN]
    obtain ⟨E1, l1, m1⟩ := hf x (List.mem_cons_self ..) a N.length (placeN N) (by rw [placeN_length]; omega) (by rw [placeN_length]; omega) (by rw [placeN_length]; omega)
    have hlen1 := l1.len
    rw [placeN_length] at hlen1
    obtain ⟨E2, l2, m2⟩ := ih (fun y hy => hf y (List.mem_cons_of_mem _ hy)) N.length b (f x a N.length (placeN N)) (by omega) (by omega) (by omega)
    have hc1 : (f x a N.length (placeN N))[N.length]? = some newNode := by rw [l1.old _ (by rw [placeN_length]; omega) (by omega), placeN_at]
    have hc2 := l2.ent _ hc1
    have hlen2 : (f x a N.length (placeN N)).length ≤ (seqN f r N.length b (f x a N.length (placeN N))).length := l2.len
    refine ⟨E1, ?_, fun F hF => ?_⟩
    · have := ((laid_place ha).trans l1).inner l2 (Nat.le_refl _) ha
      simpa using this
    · have hF2 : LikeM F (seqN f r N.length b (f x a N.length (placeN N))) (f x a N.length (placeN N)).length := fun p h1 h2 => hF p (by omega) h2
      have hF1 : LikeM F (f x a N.length (placeN N)) (placeN N).length := fun p h1 h2 => by
        rw [placeN_length] at h1
        exact (hF p (by omega) (Nat.lt_of_lt_of_le h2 hlen2)).trans (l2.old p h2 (by omega))
      have hFc : F[N.length]? = some (E2, [], -1) := (hF N.length (Nat.le_refl _) (by show N.length < (seqN f r N.length b (f x a N.length (placeN N))).length; omega)).trans hc2
      obtain ⟨M1, V1⟩ := m1 F hF1
      obtain ⟨M2, V2⟩ := m2 F hF2
      obtain ⟨s2, f2, v2⟩ := M2.at h2 hFc
      refine ⟨⟨M1.ne, fun q hq k w hr => ?_, fun u v k hu hv => ?_, fun hb q hq => M1.live (v2 hb) q hq⟩, fun hb p h1 h2 => ?_⟩
      · obtain ⟨u, v, k1, hk1, rfl, hu, hv⟩ := M1.sound q hq k w hr
        obtain ⟨u', v', k2, hk2, rfl, hu', hv'⟩ := s2 k1 v hv
        exact ⟨u ++ u', v', k2, by omega, by simp, ⟨u, u', rfl, hu, hu'⟩, hv'⟩
      · obtain ⟨u1, u2, rfl, h1, h2⟩ := hu
        obtain ⟨k1, hk1⟩ := f2 u2 v k h2 hv
        obtain ⟨q, hq, k2, hr⟩ := M1.full u1 (u2 ++ v) k1 h1 hk1
        exact ⟨q, hq, k2, by rw [List.append_assoc]; exact hr⟩
      · rcases Nat.lt_or_ge p (f x a N.length (placeN N)).length with h3 | h3
        · rcases Nat.eq_or_lt_of_le h1 with h4 | h4
          · rw [← h4]; exact v2 hb
          · exact V1 (v2 hb) p (by rw [placeN_length]; omega) h3
        · exact V2 hb p h3 h2
theorem lays_alt {f : T → Nat → Nat → List Node → List Node} {g : T → List Int → Prop} : ∀ (l : List T), l ≠ [] → (∀ x ∈ l, Lays (f x) (g x)) → Lays (fun a b N => altsN f l a b N) (fun w => ∃ x ∈ l, g x w) := by
  intro l
  induction l with
  | nil => intro h; exact absurd rfl h
  | cons x r ih =>
    intro _ hf a b N h2 ha hb
    dsimp only [altsN]
    obtain ⟨E1, l1, m1⟩ := hf x (List.mem_cons_self ..) a b N h2 ha hb
    have hlen1 := l1.len
    cases r with
    | nil =>
      refine ⟨E1, l1, fun F hF => ?_⟩
      obtain ⟨M1, V1⟩ := m1 F hF
      exact ⟨M1.congr fun u => by simp, V1⟩
    | cons y r =>
      obtain ⟨E2, l2, m2⟩ := ih (by simp) (fun z hz => hf z (List.mem_cons_of_mem _ hz)) a b (f x a b N) (by omega) (by omega) (by omega)
      have hlen2 := l2.len
      refine ⟨E1 ++ E2, l1.trans l2, fun F hF => ?_⟩
      have hF2 : LikeM F (altsN f (y :: r) a b (f x a b N)) (f x a b N).length := fun p h1 h2 => hF p (by omega) h2
      have hF1 : LikeM F (f x a b N) N.length := fun p h1 h2 => (hF p h1 (Nat.lt_of_lt_of_le h2 hlen2)).trans (l2.old p h2 (by omega))
      obtain ⟨M1, V1⟩ := m1 F hF1
      obtain ⟨M2, V2⟩ := m2 F hF2
      refine ⟨⟨by simp [M1.ne], fun q hq k w hr => ?_, fun u v k hu hv => ?_, fun hb q hq => ?_⟩, fun hb p h1 h2 => ?_⟩
      · rcases List.mem_append.1 hq with hq | hq
        · obtain ⟨u, v, k1, hk1, e, hu, hv⟩ := M1.sound q hq k w hr
          exact ⟨u, v, k1, hk1, e, ⟨x, List.mem_cons_self .., hu⟩, hv⟩
        · obtain ⟨u, v, k1, hk1, e, ⟨z, hz, hu⟩, hv⟩ := M2.sound q hq k w hr
          exact ⟨u, v, k1, hk1, e, ⟨z, List.mem_cons_of_mem _ hz, hu⟩, hv⟩
      · obtain ⟨z, hz, hu⟩ := hu
        rcases List.mem_cons.1 hz with rfl | hz
        · obtain ⟨q, hq, k1, hr⟩ := M1.full u v k hu hv
          exact ⟨q, List.mem_append_left _ hq, k1, hr⟩
        · obtain ⟨q, hq, k1, hr⟩ := M2.full u v k ⟨z, hz, hu⟩ hv
          exact ⟨q, List.mem_append_right _ hq, k1, hr⟩
      · rcases List.mem_append.1 hq with hq | hq
        · exact M1.live hb q hq
        · exact M2.live hb q hq
      · rcases Nat.lt_or_ge p (f x a b N).length with h3 | h3
        · exact V1 hb p h1 h3
        · exact V2 hb p h3 h2
end
end Go.Proofs.YtofkiaeocfpkeaaGreatDoor

/- Net1: the net of a tree: what it reads is what the tree's words are; it is not great; all its ways lead to places of it. -/
namespace Go.Proofs.YtofkiaeocfpkeaaGreatDoor

section
variable {T : Type}
/-- Any number of words of L, at least one. -/
def Pls (L : List Int → Prop) (w : List Int) : Prop := ∃ m, LPow L (m + 1) w
theorem pls_snoc {L : List Int → Prop} {u v : List Int} (hu : L u) (hv : Pls L v) : Pls L (u ++ v) := by
  obtain ⟨m, hm⟩ := hv
  exact ⟨m + 1, u, v, rfl, hu, hm⟩
theorem pls_one {L : List Int → Prop} {u : List Int} (hu : L u) : Pls L u := ⟨0, u, [], by simp, hu, rfl⟩
/-- A place that goes to b, and back to c where the sign repeats: what is read from c. -/
theorem loopM_sound {F : List Node} {L : List Int → Prop} {b c d : Nat} {Ec : List Nat} (hM : Means F L d Ec) (hc2 : 2 ≤ c) (hd2 : 2 ≤ d) (hc : F[c]? = some (Ec, [], -1)) (hd : F[d]? = some ([b, c], [], -1)) : ∀ (m k : Nat) (w : List Int), k ≤ m → ReadsM F k c w → ∃ u v k', k' ≤ k ∧ w = u ++ v ∧ Pls L u ∧ ReadsM F k' b v := by
  obtain ⟨s1, _, _⟩ := hM.at hc2 hc
  intro m
  induction m with
  | zero =>
    intro k w hk hr
    obtain ⟨_, _, _, h, _⟩ := s1 k w hr
    omega
  | succ m ih =>
    intro k w hk hr
    obtain ⟨u, v, k1, hk1, rfl, hu, hv⟩ := s1 k w hr
    obtain ⟨q, hq, k2, hk2, hr2⟩ := hv.at_free hd2 hd rfl
    simp at hq
    rcases hq with rfl | rfl
    · exact ⟨u, v, k2, by omega, rfl, pls_one hu, hr2⟩
    · obtain ⟨u', v', k3, hk3, rfl, hu', hv'⟩ := ih k2 v (by omega) hr2
      exact ⟨u ++ u', v', k3, by omega, by simp, pls_snoc hu hu', hv'⟩
theorem loopM_full {F : List Node} {L : List Int → Prop} {b c d : Nat} {Ec : List Nat} (hM : Means F L d Ec) (hc2 : 2 ≤ c) (hc : F[c]? = some (Ec, [], -1)) (hd : F[d]? = some ([b, c], [], -1)) : ∀ (m : Nat) (u v : List Int) (k : Nat), LPow L (m + 1) u → ReadsM F k b v → ∃ k', ReadsM F k' c (u ++ v) := by
  obtain ⟨_, f1, _⟩ := hM.at hc2 hc
  intro m
  induction m with
  | zero =>
    rintro u v k ⟨x, y, rfl, hx, hy⟩ hv
    rw [LPow] at hy
    subst hy
    rw [List.append_nil]
    exact f1 x v (k + 1) hx (hv.by_free hd (by simp))
  | succ m ih =>
    rintro u v k ⟨x, y, rfl, hx, hy⟩ hv
    obtain ⟨k1, h1⟩ := ih y v k hy hv
    rw [List.append_assoc]
    exact f1 x (y ++ v) (k1 + 1) hx (h1.by_free hd (by simp))
theorem lays_one {f : T → Nat → Nat → List Node → List Node} {g : T → List Int → Prop} {x : T} (hf : Lays (f x) (g x)) (k : Int) (L : List Int → Prop)
    (hL : ∀ w, L w ↔ ((k ≠ 5 ∧ w = []) ∨ (if k = 6 then g x w else Pls (g x) w))) : Lays (fun a b N => signN f k [x] a b N) L := by
  intro a b N h2 ha hb
  dsimp only [signN, oneN]
  -- the places c and d
  have hp0 := placeN_length N
  have hp1 := placeN_length (placeN N)
  have l0 : Laid N (placeN (placeN N)) a [] := by simpa using (laid_place ha).trans (laid_place (N := placeN N) (a := a) (by omega))
  have l1 : Laid N (freeN (placeN (placeN N)) a N.length) a [N.length] := by simpa using l0.trans (laid_free _ a N.length)
  have hl1 := freeN_length (placeN (placeN N)) a N.length
  obtain ⟨Ec, l2, m2⟩ := hf N.length (N.length + 1) (freeN (placeN (placeN N)) a N.length) (by omega) (by omega) (by omega)
  generalize hN2 : freeN (placeN (placeN N)) a N.length = N2 at *
  have cN2 : N2[N.length]? = some newNode := by
    rw [← hN2, (laid_free (placeN (placeN N)) a N.length).old _ (by omega) (by omega), (laid_place (N := placeN N) (a := a) (by omega)).old _ (by omega) (by omega), placeN_at]
  have dN2 : N2[N.length + 1]? = some newNode := by
    rw [← hN2, (laid_free (placeN (placeN N)) a N.length).old _ (by omega) (by omega)]
    have := placeN_at (placeN N)
    rwa [hp0] at this
  have hlen2 := l2.len
  generalize hN3 : f x N.length (N.length + 1) N2 = N3 at *
  have cN3 := l2.ent _ cN2
  have dN3 : N3[N.length + 1]? = some newNode := (l2.old _ (by omega) (by omega)).trans dN2
  -- d goes to b
  have l3 := laid_free N3 (N.length + 1) b
  have hl3 := freeN_length N3 (N.length + 1) b
  generalize hN4 : freeN N3 (N.length + 1) b = N4 at *
  have cN4 : N4[N.length]? = some (Ec, [], -1) := (l3.old _ (by omega) (by omega)).trans cN3
  have dN4 := l3.ent _ dN3
  have lN4 : Laid N N4 a [N.length] := (l1.inner l2 (Nat.le_refl _) ha).inner l3 (by omega) ha
  have oN4 : ∀ p, N.length + 2 ≤ p → p < N3.length → N4[p]? = N3[p]? := fun p h1 h2 => l3.old p h2 (by omega)
  -- and back to c, where the sign repeats
  obtain ⟨N5, hN5, hl5, cN5, dN5, lN5, oN5⟩ : ∃ N5, N5 = (if k = 6 then N4 else freeN N4 (N.length + 1) N.length) ∧ N5.length = N3.length ∧ N5[N.length]? = some (Ec, [], -1) ∧ N5[N.length + 1]? = some ((if k = 6 then [b] else [b, N.length]), [], -1) ∧ Laid N N5 a [N.length] ∧ ∀ p, N.length + 2 ≤ p → p < N3.length → N5[p]? = N3[p]? := by
    by_cases h6 : k = 6
    · exact ⟨N4, by rw [if_pos h6], hl3, cN4, by rw [if_pos h6]; exact dN4, lN4, oN4⟩
    · have l4 := laid_free N4 (N.length + 1) N.length
      refine ⟨freeN N4 (N.length + 1) N.length, by rw [if_neg h6], by rw [freeN_length]; exact hl3, (l4.old _ (by omega) (by omega)).trans cN4, ?_, lN4.inner l4 (by omega) ha, fun p h1 h2 => (l4.old p (by omega) (by omega)).trans (oN4 p h1 h2)⟩
      rw [if_neg h6]
      exact l4.ent _ dN4
  rw [← hN5]
  -- a goes to b, where there may be none
  obtain ⟨N6, E, hN6, hl6, cN6, dN6, lN6, oN6, hE⟩ : ∃ N6 E, N6 = (if k = 5 then N5 else freeN N5 a b) ∧ N6.length = N3.length ∧ N6[N.length]? = some (Ec, [], -1) ∧ N6[N.length + 1]? = some ((if k = 6 then [b] else [b, N.length]), [], -1) ∧ Laid N N6 a E ∧ (∀ p, N.length + 2 ≤ p → p < N3.length → N6[p]? = N3[p]?) ∧ E = (if k = 5 then [N.length] else [N.length, b]) := by
    by_cases h5 : k = 5
    · exact ⟨N5, [N.length], by rw [if_pos h5], hl5, cN5, dN5, lN5, oN5, by rw [if_pos h5]⟩
    · have l6 := laid_free N5 a b
      refine ⟨freeN N5 a b, [N.length, b], by rw [if_neg h5], by rw [freeN_length]; exact hl5, (l6.old _ (by omega) (by omega)).trans cN5, (l6.old _ (by omega) (by omega)).trans dN5, lN5.trans l6, fun p h1 h2 => (l6.old p (by omega) (by omega)).trans (oN5 p h1 h2), by rw [if_neg h5]⟩
  rw [← hN6]
  refine ⟨E, lN6, fun F hF => ?_⟩
  have hFc : F[N.length]? = some (Ec, [], -1) := (hF _ (Nat.le_refl _) (by omega)).trans cN6
  have hFd := (hF (N.length + 1) (by omega) (by omega)).trans dN6
  have hF3 : LikeM F N3 N2.length := fun p h1 h2 => (hF p (by omega) (by omega)).trans (oN6 p (by omega) h2)
  obtain ⟨M, V⟩ := m2 F hF3
  obtain ⟨s1, f1, v1⟩ := M.at h2 hFc
  have vd : Live F b → Live F (N.length + 1) := by
    rintro ⟨k', w, hr⟩
    exact ⟨k' + 1, w, hr.by_free hFd (by split <;> simp)⟩
  have core_s : ∀ k' w, ReadsM F k' N.length w → ∃ u v k2, k2 ≤ k' ∧ w = u ++ v ∧ (if k = 6 then g x u else Pls (g x) u) ∧ ReadsM F k2 b v := by
    intro k' w hr
    by_cases h6 : k = 6
    · rw [if_pos h6] at hFd
      obtain ⟨u, v, k1, hk1, e, hu, hv⟩ := s1 k' w hr
      obtain ⟨q, hq, k2, hk2, hr2⟩ := hv.at_free (by omega) hFd rfl
      simp at hq
      subst hq
      exact ⟨u, v, k2, by omega, e, by rw [if_pos h6]; exact hu, hr2⟩
    · rw [if_neg h6] at hFd
      obtain ⟨u, v, k2, hk2, e, hu, hv⟩ := loopM_sound M h2 (by omega) hFc hFd k' k' w (Nat.le_refl _) hr
      exact ⟨u, v, k2, hk2, e, by rw [if_neg h6]; exact hu, hv⟩
  have core_f : ∀ u v k', (if k = 6 then g x u else Pls (g x) u) → ReadsM F k' b v → ∃ k2, ReadsM F k2 N.length (u ++ v) := by
    intro u v k' hu hv
    by_cases h6 : k = 6
    · rw [if_pos h6] at hFd hu
      exact f1 u v (k' + 1) hu (hv.by_free hFd (by simp))
    · rw [if_neg h6] at hFd hu
      obtain ⟨m, hm⟩ := hu
      exact loopM_full M h2 hFc hFd m u v k' hm hv
  have hcE : N.length ∈ E := by rw [hE]; split <;> simp
  refine ⟨⟨fun e => (by rw [e] at hcE; cases hcE), fun q hq k' w hr => ?_, fun u v k' hu hv => ?_, fun hb q hq => ?_⟩, fun hb p h1 h2 => ?_⟩
  · have hq' : q = N.length ∨ (k ≠ 5 ∧ q = b) := by
      rw [hE] at hq
      split at hq
      · simp at hq; exact .inl hq
      · rename_i h5
        simp at hq
        exact hq.imp_right fun e => ⟨h5, e⟩
    rcases hq' with rfl | ⟨h5, rfl⟩
    · obtain ⟨u, v, k2, hk2, e, hu, hv⟩ := core_s k' w hr
      exact ⟨u, v, k2, hk2, e, (hL u).2 (.inr hu), hv⟩
    · exact ⟨[], w, k', Nat.le_refl _, rfl, (hL []).2 (.inl ⟨h5, rfl⟩), hr⟩
  · rcases (hL u).1 hu with ⟨h5, rfl⟩ | hu
    · exact ⟨b, by rw [hE, if_neg h5]; simp, k', hv⟩
    · obtain ⟨k2, hr⟩ := core_f u v k' hu hv
      exact ⟨N.length, hcE, k2, hr⟩
  · rw [hE] at hq
    have : q = N.length ∨ q = b := by
      split at hq
      · simp at hq; exact .inl hq
      · simp at hq; exact hq
    rcases this with rfl | rfl
    · exact v1 (vd hb)
    · exact hb
  · rcases Nat.lt_or_ge p (N.length + 2) with h3 | h3
    · have : p = N.length ∨ p = N.length + 1 := by omega
      rcases this with rfl | rfl
      · exact v1 (vd hb)
      · exact vd hb
    · exact V (vd hb) p (by omega) (by omega)
variable (K : T → Int) (M : T → Nat) (Ty : T → List Int) (U : T → List T)
/-- KindsN are those of trees. -/
def KindsN : Nat → T → Prop
  | 0, _ => True
  | n + 1, t => (K t = 0 ∨ K t = 1 ∨ K t = 2 ∨ K t = 3 ∨ K t = 4 ∨ K t = 5 ∨ K t = 6) ∧ ∀ x ∈ U t, KindsN n x
/-- A tree that is laid means its words. -/
theorem lay_net (hTy : ∀ t a, takes (M t) a = true ↔ a ∈ Ty t) : ∀ (n : Nat) (t : T), Sane K M U n t → KindsN K U n t → (∀ s, M s ≠ 0 → Ty s ≠ []) → Lays (fun a b N => layN K Ty U n t a b N) (Lang K M U n t) := by
  intro n
  induction n with
  | zero => intro t h; exact h.elim
  | succ n ih =>
    rintro t ⟨s1, s3, s4, sk⟩ ⟨kk, kx⟩ hne
    have hk : ∀ x ∈ U t, Lays (fun a b N => layN K Ty U n x a b N) (Lang K M U n x) := fun x hx => ih x (sk x hx) (kx x hx) hne
    intro a b N h2 ha hb
    dsimp only [layN]
    by_cases k0 : K t = 0
    · rw [if_pos k0]
      obtain ⟨E, l, m⟩ := lays_free a b N h2 ha hb
      refine ⟨E, l, fun F hF => ⟨(m F hF).1.congr fun u => ?_, (m F hF).2⟩⟩
      rw [Lang, if_neg (by omega), if_neg (by omega), if_neg (by omega), if_neg (by omega), if_neg (by omega), if_neg (by omega)]
    rw [if_neg k0]
    by_cases k1 : K t = 1
    · rw [if_pos k1]
      obtain ⟨E, l, m⟩ := lays_name (Ty t) (hne t (s1 k1)) a b N h2 ha hb
      refine ⟨E, l, fun F hF => ⟨(m F hF).1.congr fun u => ?_, (m F hF).2⟩⟩
      rw [Lang, if_pos k1]
      constructor
      · rintro ⟨x, e, hx⟩; exact ⟨x, e, (hTy t x).2 hx⟩
      · rintro ⟨x, e, hx⟩; exact ⟨x, e, (hTy t x).1 hx⟩
    rw [if_neg k1]
    by_cases k2 : K t = 2
    · rw [if_pos k2]
      obtain ⟨E, l, m⟩ := lays_seq (U t) hk a b N h2 ha hb
      refine ⟨E, l, fun F hF => ⟨(m F hF).1.congr fun u => ?_, (m F hF).2⟩⟩
      rw [Lang, if_neg k1, if_pos k2]
    rw [if_neg k2]
    by_cases k3 : K t = 3
    · rw [if_pos k3]
      obtain ⟨E, l, m⟩ := lays_alt (U t) (s3 (.inr k3)) hk a b N h2 ha hb
      refine ⟨E, l, fun F hF => ⟨(m F hF).1.congr fun u => ?_, (m F hF).2⟩⟩
      rw [Lang, if_neg k1, if_neg k2, if_pos k3]
    rw [if_neg k3]
    obtain ⟨x, hx⟩ := s4 (by omega)
    rw [hx]
    obtain ⟨E, l, m⟩ := lays_one (hk x (by rw [hx]; exact List.mem_singleton.2 rfl)) (K t) (Lang K M U (n + 1) t) (fun w => by
      have hex : (fun v => ∃ y ∈ U t, Lang K M U n y v) = Lang K M U n x := by
        funext v
        rw [hx]
        simp
      rw [Lang, if_neg k1, if_neg k2, if_neg k3, hex]
      have h456 : K t = 4 ∨ K t = 5 ∨ K t = 6 := by omega
      rcases h456 with e | e | e
      · rw [if_pos e, if_neg (by omega)]
        constructor
        · rintro ⟨m, hm⟩
          cases m with
          | zero => exact .inl ⟨by omega, hm⟩
          | succ m => exact .inr ⟨m, hm⟩
        · rintro (⟨_, rfl⟩ | ⟨m, hm⟩)
          · exact ⟨0, rfl⟩
          · exact ⟨m + 1, hm⟩
      · rw [if_neg (by omega), if_pos e, if_neg (by omega)]
        constructor
        · intro h; exact .inr h
        · rintro (⟨h, _⟩ | h)
          · exact absurd e h
          · exact h
      · rw [if_neg (by omega), if_neg (by omega), if_pos e, if_pos e]
        constructor
        · rintro (h | ⟨y, hy, h⟩)
          · exact .inl ⟨by omega, h⟩
          · rw [hx, List.mem_singleton] at hy
            subst hy
            exact .inr h
        · rintro (⟨_, h⟩ | h)
          · exact .inl h
          · exact .inr ⟨x, by rw [hx]; exact List.mem_singleton.2 rfl, h⟩) a b N h2 ha hb
    exact ⟨E, l, m⟩
end
end Go.Proofs.YtofkiaeocfpkeaaGreatDoor

/- Net2: the net of a tree is not great, all its ways lead to places of it; sets of its places, and what is reached behind a word. -/
namespace Go.Proofs.YtofkiaeocfpkeaaGreatDoor

/-- All ways lead to places. -/
def FitN (N : List Node) : Prop := ∀ (p : Nat) (x : Node), N[p]? = some x → (∀ q ∈ x.1, q < N.length) ∧ (x.2.1 = [] ∨ ∃ q : Nat, x.2.2 = (q : Int) ∧ q < N.length)
def FewN (m : Nat) (N : List Node) : Prop := ∀ (p : Nat) (x : Node), N[p]? = some x → x.1.length ≤ m
/-- What laying adds. -/
structure Adds (N N1 : List Node) (cl cf : Nat) : Prop where
  lo : N.length ≤ N1.length
  hi : N1.length ≤ N.length + cl
  fit : FitN N → FitN N1
  few : ∀ m, FewN m N → FewN (m + cf) N1
theorem Adds.trans {N N1 N2 : List Node} {a b c d : Nat} (h1 : Adds N N1 a b) (h2 : Adds N1 N2 c d) : Adds N N2 (a + c) (b + d) := by
  have := h1.hi
  have := h2.hi
  exact ⟨Nat.le_trans h1.lo h2.lo, by omega, fun h => h2.fit (h1.fit h), fun m h => by rw [← Nat.add_assoc]; exact h2.few _ (h1.few m h)⟩
theorem Adds.more {N N1 : List Node} {a b c d : Nat} (h : Adds N N1 a b) (h1 : a ≤ c) (h2 : b ≤ d) : Adds N N1 c d := by
  have := h.hi
  exact ⟨h.lo, by omega, h.fit, fun m hm p x hx => by have := h.few m hm p x hx; omega⟩
theorem adds_refl (N : List Node) : Adds N N 0 0 := ⟨Nat.le_refl _, Nat.le_refl _, fun h => h, fun _ h => h⟩
theorem modify_at {N : List Node} {f : Node → Node} {a p : Nat} {x : Node} (h : (N.modify a f)[p]? = some x) : ∃ y, N[p]? = some y ∧ x = if a = p then f y else y := by
  rw [List.getElem?_modify] at h
  cases hy : N[p]? with
  | none => rw [hy] at h; simp at h
  | some y =>
    rw [hy] at h
    simp at h
    exact ⟨y, rfl, h.symm⟩
theorem place_at {N : List Node} {p : Nat} {x : Node} (h : (placeN N)[p]? = some x) : N[p]? = some x ∨ x = newNode := by
  unfold placeN at h
  rcases Nat.lt_or_ge p N.length with hlt | hge
  · rw [List.getElem?_append_left hlt] at h
    exact .inl h
  · right
    have hpl : p = N.length := by
      have := (List.getElem?_eq_some_iff.1 h).1
      simp at this
      omega
    subst hpl
    simpa using h.symm
theorem adds_place (N : List Node) : Adds N (placeN N) 1 0 := by
  refine ⟨by rw [placeN_length]; omega, by rw [placeN_length]; omega, fun h p x hx => ?_, fun m h p x hx => ?_⟩
  · rw [placeN_length]
    rcases place_at hx with e | rfl
    · have := h p x e
      refine ⟨fun q hq => Nat.lt_succ_of_lt (this.1 q hq), ?_⟩
      rcases this.2 with e | ⟨q, e1, e2⟩
      · exact .inl e
      · exact .inr ⟨q, e1, by omega⟩
    · exact ⟨fun q hq => (by cases hq), .inl rfl⟩
  · rcases place_at hx with e | rfl
    · exact h p x e
    · exact Nat.zero_le _
theorem adds_free (N : List Node) (a : Nat) {b : Nat} (hb : b < N.length) : Adds N (freeN N a b) 0 1 := by
  refine ⟨by rw [freeN_length]; omega, by rw [freeN_length]; omega, fun h p x hx => ?_, fun m h p x hx => ?_⟩
  · rw [freeN_length]
    obtain ⟨y, hy, rfl⟩ := modify_at hx
    have hh := h p y hy
    split
    · refine ⟨fun q hq => ?_, hh.2⟩
      rcases List.mem_append.1 hq with hq | hq
      · exact hh.1 q hq
      · simp at hq; omega
    · exact hh
  · obtain ⟨y, hy, rfl⟩ := modify_at hx
    have hh := h p y hy
    split
    · simp; omega
    · omega
theorem adds_name (N : List Node) (c : Nat) (ts : List Int) {b : Nat} (hb : b < N.length) : Adds N (nameN N c ts b) 0 0 := by
  refine ⟨by rw [nameN_length]; omega, by rw [nameN_length]; omega, fun h p x hx => ?_, fun m h p x hx => ?_⟩
  · rw [nameN_length]
    obtain ⟨y, hy, rfl⟩ := modify_at hx
    have hh := h p y hy
    split
    · exact ⟨hh.1, .inr ⟨b, rfl, hb⟩⟩
    · exact hh
  · obtain ⟨y, hy, rfl⟩ := modify_at hx
    have hh := h p y hy
    split
    · exact hh
    · exact hh
section
variable {T : Type}
theorem adds_seq {f : T → Nat → Nat → List Node → List Node} {s : T → Nat} : ∀ (l : List T), (∀ x ∈ l, 1 ≤ s x ∧ ∀ a b N, a < N.length → b < N.length → Adds N (f x a b N) (4 * s x - 2) (4 * s x)) → ∀ a b N, a < N.length → b < N.length → Adds N (seqN f l a b N) (4 * (l.map s).sum) (4 * (l.map s).sum + 1) := by
  intro l
  induction l with
  | nil => intro _ a b N ha hb; exact (adds_free N a hb).more (by omega) (by omega)
  | cons x r ih =>
    intro h a b N ha hb
    obtain ⟨h1, h2⟩ := h x (List.mem_cons_self ..)
    have hp := adds_place N
    have hpl := placeN_length N
    have hx := h2 a N.length (placeN N) (by omega) (by omega)
    have hlo := hx.lo
    have hr := ih (fun y hy => h y (List.mem_cons_of_mem _ hy)) N.length b (f x a N.length (placeN N)) (by omega) (by omega)
    rw [seqN]
    refine ((hp.trans hx).trans hr).more ?_ ?_
    · simp only [List.map_cons, List.sum_cons]; omega
    · simp only [List.map_cons, List.sum_cons]; omega
theorem adds_alt {f : T → Nat → Nat → List Node → List Node} {s : T → Nat} : ∀ (l : List T), (∀ x ∈ l, 1 ≤ s x ∧ ∀ a b N, a < N.length → b < N.length → Adds N (f x a b N) (4 * s x - 2) (4 * s x)) → ∀ a b N, a < N.length → b < N.length → Adds N (altsN f l a b N) (4 * (l.map s).sum) (4 * (l.map s).sum) := by
  intro l
  induction l with
  | nil => intro _ a b N ha hb; exact (adds_refl N).more (by omega) (by omega)
  | cons x r ih =>
    intro h a b N ha hb
    obtain ⟨h1, h2⟩ := h x (List.mem_cons_self ..)
    have hx := h2 a b N ha hb
    have hlo := hx.lo
    have hr := ih (fun y hy => h y (List.mem_cons_of_mem _ hy)) a b (f x a b N) (by omega) (by omega)
    rw [altsN]
    refine (hx.trans hr).more ?_ ?_
    · simp only [List.map_cons, List.sum_cons]; omega
    · simp only [List.map_cons, List.sum_cons]; omega
variable (K : T → Int) (Ty : T → List Int) (U : T → List T)
theorem size_pos (n : Nat) (t : T) : 1 ≤ size U (n + 1) t := by rw [size]; omega
theorem adds_lay : ∀ (n : Nat) (t : T) (a b : Nat) (N : List Node), (K t = 4 ∨ K t = 5 ∨ K t = 6 → True) → Sane K (fun _ => 1) U n t → a < N.length → b < N.length → Adds N (layN K Ty U n t a b N) (4 * size U n t - 2) (4 * size U n t) := by
  intro n
  induction n with
  | zero => intro t a b N _ h; exact h.elim
  | succ n ih =>
    rintro t a b N _ ⟨s1, s3, s4, sk⟩ ha hb
    have hpos : ∀ x ∈ U t, 1 ≤ size U n x := fun x hx => by
      cases n with
      | zero => exact (sk x hx).elim
      | succ n => exact size_pos U n x
    have hk : ∀ x ∈ U t, 1 ≤ size U n x ∧ ∀ a b N, a < N.length → b < N.length → Adds N (layN K Ty U n x a b N) (4 * size U n x - 2) (4 * size U n x) := fun x hx => ⟨hpos x hx, fun a b N ha hb => ih x a b N (fun _ => trivial) (sk x hx) ha hb⟩
    rw [size, layN]
    by_cases k0 : K t = 0
    · rw [if_pos k0]; exact (adds_free N a hb).more (by omega) (by omega)
    rw [if_neg k0]
    by_cases k1 : K t = 1
    · rw [if_pos k1]
      have hpl := placeN_length N
      have hfl := freeN_length (placeN N) a N.length
      exact (((adds_place N).trans (adds_free (placeN N) a (b := N.length) (by omega))).trans (adds_name _ N.length (Ty t) (b := b) (by omega))).more (by omega) (by omega)
    rw [if_neg k1]
    by_cases k2 : K t = 2
    · rw [if_pos k2]
      exact (adds_seq (U t) hk a b N ha hb).more (by omega) (by omega)
    rw [if_neg k2]
    by_cases k3 : K t = 3
    · rw [if_pos k3]
      exact (adds_alt (U t) hk a b N ha hb).more (by omega) (by omega)
    rw [if_neg k3]
    have hpl := placeN_length N
    have hpl2 := placeN_length (placeN N)
    have h1 := ((adds_place N).trans (adds_place _)).trans (adds_free (placeN (placeN N)) a (b := N.length) (by omega))
    have hl1 := freeN_length (placeN (placeN N)) a N.length
    dsimp only [signN]
    have h2 : Adds (freeN (placeN (placeN N)) a N.length) (oneN (layN K Ty U n) (U t) N.length (N.length + 1) (freeN (placeN (placeN N)) a N.length)) (4 * ((U t).map (size U n)).sum) (4 * ((U t).map (size U n)).sum) := by
      cases hu : U t with
      | nil => exact (adds_refl _).more (by omega) (by omega)
      | cons x r =>
        rw [oneN]
        refine ((hk x (by rw [hu]; exact List.mem_cons_self ..)).2 N.length (N.length + 1) _ (by omega) (by omega)).more ?_ ?_
        · simp only [List.map_cons, List.sum_cons]; omega
        · simp only [List.map_cons, List.sum_cons]; omega
    have hlo2 := h2.lo
    have h3 := (h1.trans h2).trans (adds_free _ (N.length + 1) (b := b) (by omega))
    have hl3 := freeN_length (oneN (layN K Ty U n) (U t) N.length (N.length + 1) (freeN (placeN (placeN N)) a N.length)) (N.length + 1) b
    have h4 : Adds N (if K t = 6 then freeN (oneN (layN K Ty U n) (U t) N.length (N.length + 1) (freeN (placeN (placeN N)) a N.length)) (N.length + 1) b else freeN (freeN (oneN (layN K Ty U n) (U t) N.length (N.length + 1) (freeN (placeN (placeN N)) a N.length)) (N.length + 1) b) (N.length + 1) N.length) (2 + 4 * ((U t).map (size U n)).sum) (3 + 4 * ((U t).map (size U n)).sum) := by
      split
      · exact h3.more (by omega) (by omega)
      · exact (h3.trans (adds_free _ (N.length + 1) (b := N.length) (by omega))).more (by omega) (by omega)
    have hlo4 := h4.lo
    split
    · exact h4.more (by omega) (by omega)
    · exact (h4.trans (adds_free _ a (b := b) (by omega))).more (by omega) (by omega)
end
/-- From p ways without a type lead to q. -/
def ViaM (F : List Node) : Nat → Nat → Nat → Prop
  | 0, p, q => p = q
  | k + 1, p, q => p = q ∨ ∃ x, F[p]? = some x ∧ ∃ r ∈ x.1, ViaM F k r q
theorem ViaM.up {F : List Node} : ∀ {k p q : Nat}, ViaM F k p q → ViaM F (k + 1) p q := by
  intro k
  induction k with
  | zero => intro p q h; exact .inl h
  | succ k ih =>
    intro p q h
    rcases h with h | ⟨x, hx, r, hr, h⟩
    · exact .inl h
    · exact .inr ⟨x, hx, r, hr, ih h⟩
theorem ViaM.upto {F : List Node} {k m p q : Nat} (h : k ≤ m) (hr : ViaM F k p q) : ViaM F m p q := by
  induction h with
  | refl => exact hr
  | step _ ih => exact ViaM.up ih
theorem ViaM.trans {F : List Node} : ∀ {k p q : Nat}, ViaM F k p q → ∀ {m r : Nat}, ViaM F m q r → ViaM F (k + m) p r := by
  intro k
  induction k with
  | zero => rintro p q rfl m r h; simpa using h
  | succ k ih =>
    intro p q h m r h'
    rw [show k + 1 + m = k + m + 1 from by omega]
    rcases h with rfl | ⟨x, hx, s, hs, h⟩
    · exact ViaM.upto (by omega) h'
    · exact .inr ⟨x, hx, s, hs, ih h h'⟩
theorem ViaM.one {F : List Node} {p q : Nat} {x : Node} (hx : F[p]? = some x) (hq : q ∈ x.1) : ViaM F 1 p q := .inr ⟨x, hx, q, hq, rfl⟩
def ShutM (F : List Node) (S : Nat → Prop) : Prop := ∀ p x, S p → F[p]? = some x → ∀ q ∈ x.1, S q
theorem ShutM.via {F : List Node} {S : Nat → Prop} (h : ShutM F S) : ∀ {k p q : Nat}, S p → ViaM F k p q → S q := by
  intro k
  induction k with
  | zero => rintro p q hp rfl; exact hp
  | succ k ih =>
    intro p q hp hv
    rcases hv with rfl | ⟨x, hx, r, hr, hv⟩
    · exact hp
    · exact ih (h p x hp hx r hr) hv
/-- All that is reached from a set without a type. -/
def spreadM (F : List Node) (S : Nat → Prop) : Nat → Prop := fun q => ∃ p k, S p ∧ ViaM F k p q
theorem spreadM_shut (F : List Node) (S : Nat → Prop) : ShutM F (spreadM F S) := fun _q _x ⟨p, _, hp, hk⟩ hx _ hr => ⟨p, _, hp, hk.trans (ViaM.one hx hr)⟩
/-- What a type leads to at once. -/
def hopM (F : List Node) (S : Nat → Prop) (t : Int) : Nat → Prop := fun q => ∃ a x, S a ∧ F[a]? = some x ∧ t ∈ x.2.1 ∧ x.2.2 = (q : Int)
def stepM (F : List Node) (S : Nat → Prop) (t : Int) : Nat → Prop := spreadM F (hopM F S t)
def firstM (F : List Node) : Nat → Prop := spreadM F (fun q => q = 0)
def afterM (F : List Node) (w : List Int) : Nat → Prop := w.foldl (stepM F) (firstM F)
theorem afterM_snoc (F : List Node) (w : List Int) (t : Int) : afterM F (w ++ [t]) = stepM F (afterM F w) t := by unfold afterM; rw [List.foldl_append]; rfl
theorem afterM_shut (F : List Node) : ∀ w, ShutM F (afterM F w) := by
  intro w
  rcases List.eq_nil_or_concat w with rfl | ⟨u, t, rfl⟩
  · exact spreadM_shut _ _
  · rw [List.concat_eq_append, afterM_snoc]; exact spreadM_shut _ _
theorem foldM_reads {F : List Node} : ∀ (w : List Int) (S : Nat → Prop), ShutM F S → ∀ v, (∃ a k, S a ∧ ReadsM F k a (w ++ v)) ↔ ∃ a k, (w.foldl (stepM F) S) a ∧ ReadsM F k a v := by
  intro w
  induction w with
  | nil => intro S _ v; exact Iff.rfl
  | cons t r ih =>
    intro S hS v
    rw [List.foldl_cons, ← ih (stepM F S t) (spreadM_shut _ _) v]
    constructor
    · rintro ⟨a, k, ha, hr⟩
      induction k generalizing a with
      | zero => obtain ⟨_, e⟩ := hr; cases e
      | succ k ihk =>
        rcases hr with ⟨_, e⟩ | ⟨x, hx, ⟨q, hq, hr⟩ | ⟨t', v', e, ht, q, hq, hr⟩⟩
        · cases e
        · exact ihk q (hS a x ha hx q hq) hr
        · cases e
          exact ⟨q, k, ⟨q, 0, ⟨a, x, ha, hx, ht, hq⟩, rfl⟩, hr⟩
    · rintro ⟨b, k, ⟨p, m, ⟨a, x, ha, hx, ht, hq⟩, hv⟩, hR⟩
      have hlift : ∀ {m p : Nat}, ViaM F m p b → ReadsM F (m + k) p (r ++ v) := by
        intro m
        induction m with
        | zero => rintro p rfl; simpa using hR
        | succ m ihm =>
          intro p hp
          rw [show m + 1 + k = m + k + 1 from by omega]
          rcases hp with rfl | ⟨y, hy, s, hs, hp⟩
          · exact ReadsM.upto (by omega) hR
          · exact .inr ⟨y, hy, .inl ⟨s, hs, ihm hp⟩⟩
      exact ⟨a, m + k + 1, ha, .inr ⟨x, hx, .inr ⟨t, r ++ v, rfl, ht, p, hq, hlift hv⟩⟩⟩
theorem readsM_nil {F : List Node} {S : Nat → Prop} (hS : ShutM F S) : (∃ a k, S a ∧ ReadsM F k a []) ↔ S 1 := by
  constructor
  · rintro ⟨a, k, ha, hr⟩
    induction k generalizing a with
    | zero => obtain ⟨rfl, _⟩ := hr; exact ha
    | succ k ih =>
      rcases hr with ⟨rfl, _⟩ | ⟨x, hx, ⟨q, hq, hr⟩ | ⟨t, v, e, _⟩⟩
      · exact ha
      · exact ih q (hS a x ha hx q hq) hr
      · cases e
  · intro h; exact ⟨1, 0, h, rfl, rfl⟩
/-- A net whose ways from 0 to 1 are the words of L, and all of whose places lead to 1. -/
structure Nets (F : List Node) (L : List Int → Prop) : Prop where
  words : ∀ w, (∃ k, ReadsM F k 0 w) ↔ L w
  live : ∀ p, p < F.length → Live F p
  fit : FitN F
  two : 2 ≤ F.length
theorem first_reads {F : List Node} (w : List Int) : (∃ a k, firstM F a ∧ ReadsM F k a w) ↔ ∃ k, ReadsM F k 0 w := by
  constructor
  · rintro ⟨a, k, ⟨p, m, rfl, hv⟩, hr⟩
    induction m generalizing k with
    | zero => cases hv; exact ⟨k, hr⟩
    | succ m ih =>
      have : ∀ {m p : Nat}, ViaM F m p a → ReadsM F (m + k) p w := by
        intro m
        induction m with
        | zero => rintro p rfl; simpa using hr
        | succ m ihm =>
          intro p hp
          rw [show m + 1 + k = m + k + 1 from by omega]
          rcases hp with rfl | ⟨y, hy, s, hs, hp⟩
          · exact ReadsM.upto (by omega) hr
          · exact .inr ⟨y, hy, .inl ⟨s, hs, ihm hp⟩⟩
      exact ⟨_, this hv⟩
  · rintro ⟨k, hr⟩
    exact ⟨0, k, ⟨0, 0, rfl, rfl⟩, hr⟩
theorem Nets.ends {F : List Node} {L : List Int → Prop} (h : Nets F L) (w : List Int) : afterM F w 1 ↔ L w := by
  rw [← h.words w, ← first_reads, ← readsM_nil (afterM_shut F w)]
  have := foldM_reads w (firstM F) (spreadM_shut _ _) []
  rw [List.append_nil] at this
  exact this.symm
theorem spread_lt {F : List Node} (hF : FitN F) {S : Nat → Prop} (hS : ∀ p, S p → p < F.length) : ∀ q, spreadM F S q → q < F.length := by
  rintro q ⟨p, k, hp, hv⟩
  have hpl := hS p hp
  clear hp hS
  induction k generalizing p with
  | zero => cases hv; exact hpl
  | succ k ih =>
    rcases hv with rfl | ⟨x, hx, r, hr, hv⟩
    · exact hpl
    · exact ih r hv ((hF p x hx).1 r hr)
theorem hop_lt {F : List Node} (hF : FitN F) {S : Nat → Prop} {t : Int} : ∀ q, hopM F S t q → q < F.length := by
  rintro q ⟨a, x, _, hx, ht, hq⟩
  rcases (hF a x hx).2 with e | ⟨r, e1, e2⟩
  · rw [e] at ht; cases ht
  · rw [hq] at e1; omega
theorem after_lt {F : List Node} (hF : FitN F) (h2 : 2 ≤ F.length) : ∀ w q, afterM F w q → q < F.length := by
  intro w
  rcases List.eq_nil_or_concat w with rfl | ⟨u, t, rfl⟩
  · exact spread_lt hF (by rintro p rfl; omega)
  · rw [List.concat_eq_append, afterM_snoc]
    exact spread_lt hF (hop_lt hF)
theorem Nets.begins {F : List Node} {L : List Int → Prop} (h : Nets F L) (w : List Int) : (∃ q, afterM F w q) ↔ ∃ v, L (w ++ v) := by
  constructor
  · rintro ⟨q, hq⟩
    obtain ⟨k, v, hr⟩ := h.live q (after_lt h.fit h.two w q hq)
    refine ⟨v, (h.words _).1 ((first_reads _).1 ((foldM_reads w (firstM F) (spreadM_shut _ _) v).2 ⟨q, k, hq, hr⟩))⟩
  · rintro ⟨v, hv⟩
    obtain ⟨a, k, ha, _⟩ := (foldM_reads w (firstM F) (spreadM_shut _ _) v).1 ((first_reads _).2 ((h.words _).2 hv))
    exact ⟨a, ha⟩
def twoN : List Node := placeN (placeN [])
section
variable {T : Type} (K : T → Int) (M : T → Nat) (Ty : T → List Int) (U : T → List T)
theorem net_of (hTy : ∀ t a, takes (M t) a = true ↔ a ∈ Ty t) (hne : ∀ s, M s ≠ 0 → Ty s ≠ []) (n : Nat) (t : T) (hS : Sane K M U n t) (hK : KindsN K U n t) (hA : Adds twoN (layN K Ty U n t 0 1 twoN) (4 * size U n t - 2) (4 * size U n t)) : Nets (layN K Ty U n t 0 1 twoN) (Lang K M U n t) := by
  have ht : twoN = [newNode, newNode] := rfl
  have hl : twoN.length = 2 := rfl
  obtain ⟨E, l, m⟩ := lay_net K M Ty U hTy n t hS hK hne 0 1 twoN (by omega) (by omega) (by omega)
  have h0 : (layN K Ty U n t 0 1 twoN)[0]? = some (E, [], -1) := l.ent newNode rfl
  have h1 : (layN K Ty U n t 0 1 twoN)[1]? = some ([], [], -1) := (l.old 1 (by omega) (by omega)).trans rfl
  obtain ⟨M1, V1⟩ := m _ (fun p _ _ => rfl)
  have hfit : FitN twoN := fun p x hx => by
    rw [ht] at hx
    have : x = newNode := by
      match p, hx with
      | 0, hx => simpa using hx.symm
      | 1, hx => simpa using hx.symm
    subst this
    exact ⟨fun q hq => (by cases hq), .inl rfl⟩
  have live1 : Live (layN K Ty U n t 0 1 twoN) 1 := ⟨0, [], rfl, rfl⟩
  have end1 : ∀ k v, ReadsM (layN K Ty U n t 0 1 twoN) k 1 v → v = [] := by
    intro k v hr
    cases k with
    | zero => exact hr.2
    | succ k =>
      rcases hr with ⟨_, e⟩ | ⟨x, hx, h⟩
      · exact e
      · rw [h1] at hx
        cases hx
        rcases h with ⟨q, hq, _⟩ | ⟨a, v, _, ha, _⟩
        · cases hq
        · cases ha
  refine ⟨fun w => ?_, fun p hp => ?_, hA.fit hfit, by have := hA.lo; omega⟩
  · constructor
    · rintro ⟨k, hr⟩
      cases k with
      | zero => obtain ⟨e, _⟩ := hr; cases e
      | succ k =>
        rcases hr with ⟨e, _⟩ | ⟨x, hx, h⟩
        · cases e
        · rw [h0] at hx
          cases hx
          rcases h with ⟨q, hq, hr⟩ | ⟨a, v, _, ha, _⟩
          · obtain ⟨u, v, k', _, rfl, hu, hv⟩ := M1.sound q hq k w hr
            rw [end1 k' v hv, List.append_nil]
            exact hu
          · cases ha
    · intro hw
      obtain ⟨q, hq, k, hr⟩ := M1.full w [] 0 hw ⟨rfl, rfl⟩
      rw [List.append_nil] at hr
      exact ⟨k + 1, hr.by_free h0 hq⟩
  · rcases Nat.lt_or_ge p 2 with h | h
    · have : p = 0 ∨ p = 1 := by omega
      rcases this with rfl | rfl
      · obtain ⟨q, hq⟩ := List.exists_mem_of_ne_nil _ M1.ne
        obtain ⟨k, w, hr⟩ := M1.live live1 q hq
        exact ⟨k + 1, w, hr.by_free h0 hq⟩
      · exact live1
    · exact V1 live1 p (by omega) hp
end
end Go.Proofs.YtofkiaeocfpkeaaGreatDoor

/- Grp: groups in memory; reg's isType, rightGroups, typesOf: what they return; nothing that lay before is turned. -/
namespace Go.Proofs.YtofkiaeocfpkeaaGreatDoor
open Go.RowKit

/-- A slice's elements are the integers zs. -/
def Ints (w : World) (a : Option Addr) (len : Nat) (zs : List Int) : Prop :=
  zs.length = len ∧ len ≤ 9223372036854775807 ∧ (len = 0 ∨ ∃ b o, a = some ⟨b, o, none⟩ ∧ b < w.heap.size ∧ ∀ i x, zs[i]? = some x → w.cell? ⟨b, o + i, none⟩ = some (.int .i64 x))
theorem Ints.below {w w' : World} {a : Option Addr} {len : Nat} {zs : List Int} (h : Ints w a len zs) (hb : Below w.heap.size w w') : Ints w' a len zs := by
  obtain ⟨h1, h2, h3⟩ := h
  refine ⟨h1, h2, ?_⟩
  rcases h3 with h3 | ⟨b, o, rfl, hlt, hc⟩
  · exact .inl h3
  · exact .inr ⟨b, o, rfl, Nat.lt_of_lt_of_le hlt hb.size, fun i x hx => (hb.cell (p := ⟨b, o + i, none⟩) hlt).trans (hc i x hx)⟩
theorem Ints.at {w : World} {a : Option Addr} {len : Nat} {zs : List Int} (h : Ints w a len zs) {i : Nat} (hi : i < len) : ∃ b o x, a = some ⟨b, o, none⟩ ∧ zs[i]? = some x ∧ ∀ W : World, Below w.heap.size w W → W.cell? ⟨b, o + i, none⟩ = some (.int .i64 x) := by
  obtain ⟨h1, _, h3⟩ := h
  rcases h3 with h3 | ⟨b, o, rfl, hlt, hc⟩
  · omega
  · have hx : zs[i]? = some (zs[i]'(by omega)) := List.getElem?_eq_getElem (by omega)
    exact ⟨b, o, _, rfl, hx, fun W hb => (hb.cell (p := ⟨b, o + i, none⟩) hlt).trans (hc i _ hx)⟩
/-- A group: its name and its types. -/
abbrev Grp : Type := ByteArray × List Int
def Groups (w : World) (a : Option Addr) (len : Nat) (gs : List Grp) : Prop :=
  gs.length = len ∧ len ≤ 9223372036854775807 ∧ (len = 0 ∨ ∃ b o, a = some ⟨b, o, none⟩ ∧ b < w.heap.size ∧ ∀ i g, gs[i]? = some g → ∃ a' len' cap',
    w.cell? ⟨b, o + i * 2, none⟩ = some (.string g.1) ∧ w.cell? ⟨b, o + i * 2 + 1, none⟩ = some (.slice a' len' cap') ∧ Ints w a' len' g.2)
theorem Groups.below {w w' : World} {a : Option Addr} {len : Nat} {gs : List Grp} (h : Groups w a len gs) (hb : Below w.heap.size w w') : Groups w' a len gs := by
  obtain ⟨h1, h2, h3⟩ := h
  refine ⟨h1, h2, ?_⟩
  rcases h3 with h3 | ⟨b, o, rfl, hlt, hc⟩
  · exact .inl h3
  · refine .inr ⟨b, o, rfl, Nat.lt_of_lt_of_le hlt hb.size, fun i g hg => ?_⟩
    obtain ⟨a', len', cap', c0, c1, c2⟩ := hc i g hg
    exact ⟨a', len', cap', (hb.cell (p := ⟨b, _, none⟩) hlt).trans c0, (hb.cell (p := ⟨b, _, none⟩) hlt).trans c1, c2.below hb⟩
theorem Groups.at {w : World} {a : Option Addr} {len : Nat} {gs : List Grp} (h : Groups w a len gs) {i : Nat} (hi : i < len) : ∃ b o g a' len' cap', a = some ⟨b, o, none⟩ ∧ gs[i]? = some g ∧ Ints w a' len' g.2 ∧ ∀ W : World, Below w.heap.size w W →
    W.cell? ⟨b, o + i * 2, none⟩ = some (.string g.1) ∧ W.cell? ⟨b, o + i * 2 + 1, none⟩ = some (.slice a' len' cap') := by
  obtain ⟨h1, _, h3⟩ := h
  rcases h3 with h3 | ⟨b, o, rfl, hlt, hc⟩
  · omega
  · have hx : gs[i]? = some (gs[i]'(by omega)) := List.getElem?_eq_getElem (by omega)
    obtain ⟨a', len', cap', c0, c1, c2⟩ := hc i _ hx
    exact ⟨b, o, _, a', len', cap', rfl, hx, c2, fun W hb => ⟨(hb.cell (p := ⟨b, _, none⟩) hlt).trans c0, (hb.cell (p := ⟨b, _, none⟩) hlt).trans c1⟩⟩
def isTy (t : Int) : Bool := decide (0 ≤ t) && decide (t < 16)
set_option maxRecDepth 100000 in
set_option maxHeartbeats 2000000 in
theorem istype_calls (t : Int) (w : World) : Calls Tryz.prog 138 #[.int .i64 t] w fun e w' => e = .returned (.bool (isTy t)) ∧ w' = w := by
  unfold isTy
  by_cases h1 : 0 ≤ t
  · go_enter Tryz.func138, Tryz.ntmps138
    go_wp2
    go_ret
    exact ⟨by first | rfl | simp [h1], rfl⟩
  · have h2 : decide (0 ≤ t) = false := by simpa using h1
    go_enter Tryz.func138, Tryz.ntmps138
    go_wp2
    go_ret
    exact ⟨by first | rfl | simp [h1], rfl⟩
def rightTs (l : List Int) : Bool := decide (l.length ≤ 16) && l.all isTy
def rightG (gs : List Grp) : Bool := decide (gs.length ≤ 16) && gs.all (fun g => rightTs g.2)
theorem allI_step {α : Type} {p : α → Bool} {ts : List α} {i : Nat} {x : α} (h : ts[i]? = some x) : (ts.take (i + 1)).all p = ((ts.take i).all p && p x) := by
  rw [List.take_add_one, h, List.all_append]
  simp
theorem allI_not {α : Type} {p : α → Bool} {ts : List α} {i : Nat} {x : α} (h : ts[i]? = some x) (hp : p x = false) : ts.all p = false := by
  cases ha : ts.all p with
  | false => rfl
  | true =>
    have := List.all_eq_true.1 ha x (List.mem_of_getElem? h)
    rw [hp] at this
    cases this
set_option maxRecDepth 100000 in
set_option maxHeartbeats 2000000 in
theorem rightgroups_calls (a : Option Addr) (len cap : Nat) (gs : List Grp) (w : World) (h : Groups w a len gs) :
    Calls Tryz.prog 130 #[.slice a len cap] w fun e w' => e = .returned (.bool (rightG gs)) ∧ Below w.heap.size w w' := by
  obtain ⟨hl, hz, _⟩ := id h
  obtain ⟨R, hR⟩ : ∃ R, rightG gs = R := ⟨_, rfl⟩
  rw [hR]
  have HR : Hid (rightG gs = R) := hR
  clear hR
  have HT : Hid (∀ t W, Calls Tryz.prog 138 #[.int .i64 t] W fun e w' => e = .returned (.bool (isTy t)) ∧ w' = W) := fun t W => istype_calls t W
  by_cases hlen : len ≤ 16
  · have hn : ¬ ((16 : Int) < (len : Int)) := by omega
    go_enter Tryz.func130, Tryz.ntmps130
    go_wp2
    go_loopw [12] (fun i w' => ∃ j : Nat, j ≤ len ∧ i = .int .i64 (j : Int) ∧ (gs.take j).all (fun g => rightTs g.2) = true ∧ Below w.heap.size w w') (fun i _ => len - (intOf i).toNat)
    case atStart => exact ⟨0, by omega, rfl, rfl, Below.refl _ _⟩
    case round =>
      obtain ⟨i, hi, rfl, hT, hB⟩ := hrel
      by_cases hlt : i < len
      · obtain ⟨b, o, g, a', len', cap', rfl, hg, hI, hc⟩ := h.at hlt
        obtain ⟨c0, c1⟩ := hc wr hB
        obtain ⟨hl2, hz2, _⟩ := id hI
        have hst : (gs.take (i + 1)).all (fun g => rightTs g.2) = rightTs g.2 := by rw [allI_step hg, hT, Bool.true_and]
        have hno : rightTs g.2 = false → R = false := fun e => by
          rw [← HR.out]
          unfold rightG
          rw [allI_not hg e, Bool.and_false]
        have HST : Hid ((gs.take (i + 1)).all (fun g => rightTs g.2) = rightTs g.2) := hst
        have HNO : Hid (rightTs g.2 = false → R = false) := hno
        obtain ⟨nm, zs⟩ := g
        simp only at hI hl2 HST HNO c0
        have HB0 : Hid (∀ o, Below w.heap.size w (wr.alloc o)) := fun o => hB.alloc hB.size o
        have hBI : Hid (∀ W, Below w.heap.size w W → ∀ i, i < len' → ∃ b o x, a' = some ⟨b, o, none⟩ ∧ zs[i]? = some x ∧ W.cell? ⟨b, o + i, none⟩ = some (.int .i64 x)) := fun W hW i hi => by
          obtain ⟨b, o, x, h1, h2, h3⟩ := hI.at hi
          exact ⟨b, o, x, h1, h2, h3 W hW⟩
        clear hc hI hst hno hg hT
        by_cases hlen2 : len' ≤ 16
        · have hn2 : ¬ ((16 : Int) < (len' : Int)) := by omega
          go_wp2
          go_loopw [23] (fun i2 w' => ∃ j : Nat, j ≤ len' ∧ i2 = .int .i64 (j : Int) ∧ (zs.take j).all isTy = true ∧ w' = (wr.alloc (.cells #[.string nm, .slice a' len' cap'] 73))) (fun i2 _ => len' - (intOf i2).toNat)
          case atStart => exact ⟨0, by omega, rfl, rfl, rfl⟩
          case round =>
            obtain ⟨j, hj, rfl, hT2, rfl⟩ := hrel
            by_cases hlt2 : j < len'
            · obtain ⟨b2, o2, x, rfl, hx, hc2⟩ := hBI.out (wr.alloc (.cells #[.string nm, .slice a' len' cap'] 73)) (HB0.out _) j hlt2
              have HS2 : Hid ((zs.take (j + 1)).all isTy = isTy x) := by show _ = _; rw [allI_step hx, hT2, Bool.true_and]
              have HN2 : Hid (isTy x = false → R = false) := fun e => HNO.out (by unfold rightTs; rw [allI_not hx e, Bool.and_false])
              have HTx := fun W => HT.out x W
              clear hx hT2
              generalize isTy x = q at *
              cases q with
              | true =>
                go_wp2_with fail
                refine (HTx _).mono ?_
                rintro e W ⟨rfl, hW⟩
                rw [hW]
                go_wp2
                go_roundw
                case rel => exact ⟨j + 1, by omega, rfl, HS2.out, by first | rfl | trivial⟩
                case measure => simp [intOf]; omega
              | false =>
                have HF : Hid (R = false) := HN2.out rfl
                clear HN2
                go_wp2_with fail
                refine (HTx _).mono ?_
                rintro e W ⟨rfl, hW⟩
                rw [hW]
                go_wp2
                go_ret
                exact ⟨by rw [HF.out]; rfl, HB0.out _⟩
            · obtain rfl : j = len' := by omega
              have HF : Hid (rightTs zs = true) := by
                show _ = _
                rw [List.take_of_length_le (Nat.le_of_eq hl2)] at hT2
                unfold rightTs
                rw [hT2, hl2]
                simpa using hlen2
              clear hT2
              go_wp2
              go_roundw
              case rel => exact ⟨i + 1, by omega, rfl, by rw [HST.out, HF.out], HB0.out _⟩
              case measure => simp [intOf]; omega
        · have hn2 : (16 : Int) < (len' : Int) := by omega
          have HF : Hid (R = false) := HNO.out (by unfold rightTs; rw [hl2]; simp; omega)
          go_wp2
          go_ret
          exact ⟨by rw [HF.out]; rfl, HB0.out _⟩
      · obtain rfl : i = len := by omega
        have HF : Hid (R = true) := by
          show _ = _
          rw [← HR.out]
          rw [List.take_of_length_le (Nat.le_of_eq hl)] at hT
          unfold rightG
          rw [hT, hl]
          simpa using hlen
        clear hT h
        go_wp2
        go_ret
        exact ⟨by rw [HF.out]; rfl, hB⟩
  · have hn : (16 : Int) < (len : Int) := by omega
    have HF : Hid (R = false) := by
      show _ = _
      rw [← HR.out]
      unfold rightG
      rw [hl]
      simp
      omega
    clear h
    go_enter Tryz.func130, Tryz.ntmps130
    go_wp2
    go_ret
    exact ⟨by rw [HF.out]; rfl, Below.refl _ _⟩
end Go.Proofs.YtofkiaeocfpkeaaGreatDoor

/- Args: how slices of integers, groups and trees that came in are read. -/
namespace Go.Proofs.YtofkiaeocfpkeaaGreatDoor
open Go.ChangeShapes Go.WideShapes Go.ChangeAt Go.RowKit

theorem add_none (b o i : Nat) : (⟨b, o, none⟩ : Addr).add i = ⟨b, o + i, none⟩ := by unfold Addr.add; split <;> simp_all
theorem open_intsF {H : Type} {enc : TypeId × Value → H} {W : World} {sp : Nat → Bool} {hd : Bool} {fuel : Nat} {cs : List Value} {x : DataW H × List MemPlace} (h : DataW.trod enc Tryz.prog W 0 sp hd fuel 23 cs = some x) : ∃ a len cap zs, cs = [.slice a len cap] ∧ Ints W a len zs := by
  rcases open_ints Tryz.underlying23 Tryz.underlying3 (by kernel_rfl) h with ⟨hcs, hx⟩ | ⟨y, l, c, zs, hcs, _, hl, hm, hz, hx, hcell, hwz⟩
  · exact ⟨none, 0, 0, [], hcs, rfl, by omega, .inl rfl⟩
  · have hlz : l ≤ zs.length := by rw [hz]; split <;> omega
    refine ⟨some y, l, c, zs.take l, hcs, by rw [List.length_take]; omega, by unfold maxLen at hm; omega, ?_⟩
    rcases Nat.eq_zero_or_pos l with h0 | h0
    · exact .inl h0
    · obtain ⟨b, o, sp⟩ := y
      have hc0 := hcell 0 (by omega)
      have hspot : sp = none := by simpa [Addr.add] using World.cell?_spot hc0
      subst hspot
      refine .inr ⟨b, o, rfl, ?_, fun i z hz => ?_⟩
      · rw [add_none] at hc0
        rcases Nat.lt_or_ge b W.heap.size with hlt | hge
        · exact hlt
        · simp [World.cell?, Array.getElem?_eq_none hge] at hc0
      · have hi : i < l := by
          have := (List.getElem?_eq_some_iff.1 hz).1
          rw [List.length_take] at this
          omega
        have := hcell i (by omega)
        rw [add_none] at this
        rw [this]
        rw [List.getElem?_take, if_pos hi] at hz
        simp [List.getD_eq_getElem?_getD, hz]
theorem open_row {H : Type} {enc : TypeId × Value → H} {W : World} {a : Option Addr} {len cap : Nat} {d : DataW H} {p : List MemPlace} (h : DataW.Trod enc Tryz.prog W 0 (fun _ => true) true 23 (.slice a len cap) d p) : ∃ zs : List Int, Ints W a len zs := by
  obtain ⟨fuel, hf⟩ := h
  obtain ⟨a', len', cap', zs, hcs, hI⟩ := open_intsF hf
  simp [Value.cells] at hcs
  obtain ⟨rfl, rfl, rfl⟩ := hcs
  exact ⟨zs, hI⟩
set_option maxRecDepth 100000 in
theorem open_groups {H : Type} {enc : TypeId × Value → H} {W : World} {a : Option Addr} {len cap : Nat} {d : DataW H} {p : List MemPlace} (h : DataW.Trod enc Tryz.prog W 0 (fun _ => true) true 22 (.slice a len cap) d p) : ∃ gs : List Grp, Groups W a len gs := by
  have c9 : Tryz.prog.cellsOf 9 = 1 := by kernel_rfl
  have c26 : Tryz.prog.cellsOf 23 = 1 := by kernel_rfl
  have c37 : Tryz.prog.cellsOf 73 = 2 := by kernel_rfl
  obtain ⟨fuel, hf⟩ := h
  rcases DataW.trod_slice Tryz.underlying22 hf with ⟨e2, d2⟩ | ⟨y, l, c, elems, rest, n', hn, e2, d2, _, hlc, hcm, hel, hes, _, _⟩
  · simp [Value.cells] at e2
    obtain ⟨rfl, rfl, rfl⟩ := e2
    exact ⟨[], rfl, by omega, .inl rfl⟩
  · simp [Value.cells] at e2
    obtain ⟨rfl, rfl, rfl⟩ := e2
    have each : ∀ i, i < len → ∃ (g : Grp) (a' : Option Addr) (len' cap' : Nat), W.cell? (y.add (i * 2)) = some (.string g.1) ∧ W.cell? ((y.add (i * 2)).add 1) = some (.slice a' len' cap') ∧ Ints W a' len' g.2 := by
      intro i hi
      have hq := hes i hi
      rw [List.getElem?_eq_getElem (by omega), c37] at hq
      obtain ⟨cs', q1, q2⟩ := Option.bind_eq_some_iff.1 hq
      obtain ⟨_, _, hcell⟩ := World.cells?_some q1
      obtain ⟨xs, m, _, hxy, hlen, hxl, hfi⟩ := DataW.trod_struct Tryz.underlying73 q2
      rw [c37] at hlen
      match xs, hxl, cs', hlen with
      | [y0, y1], _, [v0, v1], _ =>
        have g0 := hfi 0 _ rfl
        have g1 := hfi 1 _ rfl
        simp [c9, c26] at g0 g1
        obtain ⟨s, e0, _, _⟩ := DataW.trod_string Tryz.underlying9 g0
        obtain ⟨a', len', cap', zs, e1, hI⟩ := open_intsF g1
        simp at e0 e1
        subst e0 e1
        have m0 := hcell 0 (by omega)
        rw [show (y.add (i * 2)).add 0 = y.add (i * 2) from by obtain ⟨b, o, sp⟩ := y; cases sp <;> simp [Addr.add]] at m0
        exact ⟨(s, zs), a', len', cap', m0, hcell 1 (by omega), hI⟩
    haveI : Inhabited Grp := ⟨(⟨#[]⟩, [])⟩
    obtain ⟨Y, hY⟩ := Deep.choose_lt each
    refine ⟨(List.range len).map Y, by simp, by unfold maxLen at hcm; omega, ?_⟩
    rcases Nat.eq_zero_or_pos len with h0 | h0
    · exact .inl h0
    · obtain ⟨b, o, sp⟩ := y
      obtain rfl : sp = none := by
        obtain ⟨_, _, _, q, _⟩ := hY 0 h0
        have := World.cell?_spot q
        simpa [Addr.add] using this
      refine .inr ⟨b, o, rfl, ?_, fun i g hg => ?_⟩
      · obtain ⟨_, _, _, q, _⟩ := hY 0 h0
        rw [add_none] at q
        rcases Nat.lt_or_ge b W.heap.size with hlt | hge
        · exact hlt
        · simp [World.cell?, Array.getElem?_eq_none hge] at q
      · have hi : i < len := by
          have := (List.getElem?_eq_some_iff.1 hg).1
          simpa using this
        obtain rfl : Y i = g := by simpa [List.getElem?_map, List.getElem?_range hi] using hg
        obtain ⟨a', len', cap', q0, q1, q2⟩ := hY i hi
        simp only [add_none] at q0 q1
        exact ⟨a', len', cap', q0, q1, q2⟩
theorem Ex.more {w : World} : ∀ (n m : Nat) (t : DataW Unit) (v : Value), n ≤ m → Ex w n t v → Ex w m t v := by
  intro n
  induction n with
  | zero => intro m t v _ h; exact h.elim
  | succ n ih =>
    intro m t v hm h
    obtain ⟨m, rfl⟩ : ∃ m', m = m' + 1 := ⟨m - 1, by omega⟩
    obtain ⟨k, s, a, len, cap, ts, h1, h2, h3, h4, h5⟩ := h
    refine ⟨k, s, a, len, cap, ts, h1, h2, h3, h4, ?_⟩
    rcases h5 with h5 | ⟨b, o, e, hlt, hc⟩
    · exact .inl h5
    · refine .inr ⟨b, o, e, hlt, fun i x hx => ?_⟩
      obtain ⟨k', s', a', len', cap', c0, c1, c2, c3⟩ := hc i x hx
      exact ⟨k', s', a', len', cap', c0, c1, c2, ih m x _ (by omega) c3⟩
/-- Trees whose names are not too long, whatever the fuel. -/
theorem named_more {w : World} : ∀ (n m : Nat) (t : DataW Unit) (v : Value), n ≤ m → Ex w n t v → named n t → named m t := by
  intro n
  induction n with
  | zero => intro m t v _ h; exact h.elim
  | succ n ih =>
    intro m t v hm h hN
    obtain ⟨m, rfl⟩ : ∃ m', m = m' + 1 := ⟨m - 1, by omega⟩
    obtain ⟨k, s, a, len, cap, ts, rfl, h2, h3, h4, h5⟩ := h
    refine ⟨hN.1, fun x hx => ?_⟩
    rw [subs_node] at hx
    obtain ⟨i, hi, rfl⟩ := List.getElem_of_mem hx
    have hxi : ts[i]? = some ts[i] := List.getElem?_eq_getElem hi
    rcases h5 with h5 | ⟨b, o, e, hlt, hc⟩
    · omega
    · obtain ⟨k', s', a', len', cap', c0, c1, c2, c3⟩ := hc i _ hxi
      exact ih m _ _ (by omega) c3 (hN.2 _ (by rw [subs_node]; exact hx))
set_option maxRecDepth 100000 in
/-- A tree that came in. -/
theorem open_exprF {H : Type} {enc : TypeId × Value → H} {W : World} {sp : Nat → Bool} {hd : Bool} : ∀ (fuel : Nat) (cs : List Value) (x : DataW H × List MemPlace), DataW.trod enc Tryz.prog W 0 sp hd fuel 26 cs = some x →
      ∃ (t : DataW Unit) (k : Int) (s : ByteArray) (a : Option Addr) (len cap : Nat), cs = [.int .i64 k, .string s, .slice a len cap] ∧ Ex W fuel t (.agg #[.int .i64 k, .string s, .slice a len cap]) ∧ named fuel t := by
  have c3 : Tryz.prog.cellsOf 3 = 1 := by kernel_rfl
  have c9 : Tryz.prog.cellsOf 9 = 1 := by kernel_rfl
  have c22 : Tryz.prog.cellsOf 24 = 1 := by kernel_rfl
  have c24 : Tryz.prog.cellsOf 26 = 3 := by kernel_rfl
  intro fuel
  induction fuel using Nat.strongRecOn with
  | _ fuel ih =>
    intro cs x h
    obtain ⟨xs, n, rfl, hxy, hlen, hxl, hf⟩ := DataW.trod_struct Tryz.underlying26 h
    rw [c24] at hlen
    match xs, hxl, cs, hlen with
    | [y0, y1, y2], _, [v0, v1, v2], _ =>
      have g0 := hf 0 _ rfl
      have g1 := hf 1 _ rfl
      have g2 := hf 2 _ rfl
      simp [c3, c9, c22] at g0 g1 g2
      obtain ⟨k, e0, d0, _⟩ := DataW.trod_int Tryz.underlying3 g0
      obtain ⟨s, e1, d1, hsz⟩ := DataW.trod_string Tryz.underlying9 g1
      simp at e0 e1
      subst e0 e1 d0 d1
      rcases DataW.trod_slice Tryz.underlying24 g2 with ⟨e2, d2⟩ | ⟨a, len, cap, elems, rest, n', hn, e2, d2, _, hlc, hcm, hel, hes, _, _⟩
      · simp at e2
        subst e2 d2
        refine ⟨node k s [], k, s, none, 0, 0, rfl, ⟨k, s, none, 0, 0, [], rfl, rfl, rfl, by omega, .inl rfl⟩, ?_, fun x hx => by cases hx⟩
        rw [nameT_node]
        unfold maxLen at hsz
        omega
      · simp at e2
        subst e2 d2
        have each : ∀ i, i < len → ∃ (t : DataW Unit) (k' : Int) (s' : ByteArray) (a' : Option Addr) (len' cap' : Nat), W.cell? (a.add (i * 3)) = some (.int .i64 k') ∧ W.cell? ((a.add (i * 3)).add 1) = some (.string s') ∧ W.cell? ((a.add (i * 3)).add 2) = some (.slice a' len' cap') ∧ Ex W n t (.agg #[.int .i64 k', .string s', .slice a' len' cap']) ∧ named n t := by
          intro i hi
          have hq := hes i hi
          rw [List.getElem?_eq_getElem (by omega), c24] at hq
          obtain ⟨cs', q1, q2⟩ := Option.bind_eq_some_iff.1 hq
          obtain ⟨_, _, hcell⟩ := World.cells?_some q1
          obtain ⟨t, k', s', a', len', cap', rfl, hE, hN⟩ := ih n' (by omega) cs' _ q2
          have m0 := hcell 0 (by omega)
          rw [show (a.add (i * 3)).add 0 = a.add (i * 3) from by obtain ⟨b, o, sp⟩ := a; cases sp <;> simp [Addr.add]] at m0
          exact ⟨t, k', s', a', len', cap', m0, hcell 1 (by omega), hcell 2 (by omega), Ex.more _ _ _ _ (by omega) hE, named_more _ _ _ _ (by omega) hE hN⟩
        haveI : Inhabited (DataW Unit) := ⟨.nil⟩
        obtain ⟨Y, hY⟩ := Deep.choose_lt each
        refine ⟨node k s ((List.range len).map Y), k, s, some a, len, cap, rfl, ⟨k, s, some a, len, cap, (List.range len).map Y, rfl, rfl, by simp, by unfold maxLen at hcm; omega, ?_⟩, ?_, fun x hx => ?_⟩
        · rcases Nat.eq_zero_or_pos len with h0 | h0
          · exact .inl h0
          · obtain ⟨b, o, sp⟩ := a
            obtain rfl : sp = none := by
              obtain ⟨_, _, _, _, _, q, _⟩ := hY 0 h0
              have := World.cell?_spot q
              simpa [Addr.add] using this
            refine .inr ⟨b, o, rfl, ?_, fun i y hy => ?_⟩
            · obtain ⟨_, _, _, _, _, q, _⟩ := hY 0 h0
              rw [add_none] at q
              rcases Nat.lt_or_ge b W.heap.size with hlt | hge
              · exact hlt
              · simp [World.cell?, Array.getElem?_eq_none hge] at q
            · have hi : i < len := by
                have := (List.getElem?_eq_some_iff.1 hy).1
                simpa using this
              obtain rfl : Y i = y := by simpa [List.getElem?_map, List.getElem?_range hi] using hy
              obtain ⟨k', s', a', len', cap', q0, q1, q2, q3, _⟩ := hY i hi
              simp only [add_none] at q0 q1 q2
              exact ⟨k', s', a', len', cap', q0, q1, q2, q3⟩
        · rw [nameT_node]
          unfold maxLen at hsz
          omega
        · rw [subs_node] at hx
          obtain ⟨i, hi, rfl⟩ := List.mem_map.1 hx
          obtain ⟨_, _, _, _, _, _, _, _, _, hN⟩ := hY i (List.mem_range.1 hi)
          exact hN
set_option maxRecDepth 100000 in
theorem open_tree {H : Type} {enc : TypeId × Value → H} {W : World} {base : Nat} {v : Value} {d : DataW H} {p : List MemPlace} (hv : Value.okWide Tryz.prog W .any base 26 v) (h : DataW.Trod enc Tryz.prog W 0 (fun _ => true) true 26 v d p) :
    ∃ n t k nm a ln cp, v = .agg #[.int .i64 k, .string nm, .slice a ln cp] ∧ Ex W n t (.agg #[.int .i64 k, .string nm, .slice a ln cp]) ∧ named n t := by
  obtain ⟨cs, rfl, _⟩ := okWide_struct Tryz.underlying26 hv
  obtain ⟨fuel, hf⟩ := h
  obtain ⟨t, k, nm, a, ln, cp, hcs, hX, hN⟩ := open_exprF fuel _ (d, p) hf
  refine ⟨fuel, t, k, nm, a, ln, cp, ?_, hX, hN⟩
  rw [show cs = cs.toList.toArray from by simp, show cs.toList = _ from hcs]
theorem own : ownKnob Tryz.prog.godebug = none := by kernel_rfl
theorem laidOut : laidOutB Tryz.prog = true := by kernel_rfl
end Go.Proofs.YtofkiaeocfpkeaaGreatDoor

/- Typ: reg's typesOf: what it returns; nothing that lay before is turned. -/
namespace Go.Proofs.YtofkiaeocfpkeaaGreatDoor
open Go.RowKit

/-- Types as bits. -/
def maskOf (l : List Int) : Nat := l.foldl (fun m t => m ||| 2 ^ t.toNat) 0
theorem maskOf_snoc (l : List Int) (t : Int) : maskOf (l ++ [t]) = maskOf l ||| 2 ^ t.toNat := by unfold maskOf; rw [List.foldl_append]; rfl
theorem pow_lt (t : Int) (h : t < 16) : 2 ^ t.toNat < 65536 := by
  have : t.toNat < 16 := by omega
  exact Nat.pow_lt_pow_right (by decide) this
theorem wrap_pow (t : Int) (h : t < 16) : IntKind.u16.wrap ((2 : Int) ^ t.toNat) = ((2 ^ t.toNat : Nat) : Int) := by
  have h1 := pow_lt t h
  rw [show ((2 : Int) ^ t.toNat) = ((2 ^ t.toNat : Nat) : Int) from by simp]
  generalize 2 ^ t.toNat = m at *
  show ((m : Int) % 65536) = _
  omega
theorem maskOf_lt (l : List Int) (h : l.all isTy = true) : maskOf l < 65536 := by
  have key : ∀ (l : List Int) (m : Nat), m < 65536 → l.all isTy = true → l.foldl (fun m t => m ||| 2 ^ t.toNat) m < 65536 := by
    intro l
    induction l with
    | nil => intro m hm _; exact hm
    | cons t r ih =>
      intro m hm hl
      rw [List.all_cons, Bool.and_eq_true] at hl
      rw [List.foldl_cons]
      refine ih _ ?_ hl.2
      have ht : t < 16 := by
        have := hl.1
        unfold isTy at this
        simp at this
        exact this.2
      exact Nat.or_lt_two_pow (n := 16) hm (pow_lt t ht)
  exact key l 0 (by decide) h
/-- The types that a name stands for. -/
def maskG : List Grp → ByteArray → Nat
  | [], _ => 0
  | g :: r, s => if (g.1.toList == s.toList) = true then maskOf g.2 else maskG r s
theorem maskG_at : ∀ (gs : List Grp) (s : ByteArray) (i : Nat) (g : Grp), gs[i]? = some g → (∀ x ∈ gs.take i, (x.1.toList == s.toList) = false) → (g.1.toList == s.toList) = true → maskG gs s = maskOf g.2 := by
  intro gs
  induction gs with
  | nil => intro s i g h; simp at h
  | cons y r ih =>
    intro s i g h hn he
    rw [maskG]
    cases i with
    | zero =>
      obtain rfl : y = g := by simpa using h
      rw [if_pos he]
    | succ i =>
      have hy := hn y (by simp)
      rw [if_neg (by rw [hy]; simp)]
      exact ih s i g (by simpa using h) (fun x hx => hn x (by simp; exact .inr hx)) he
theorem maskG_none (s : ByteArray) : ∀ (gs : List Grp), (∀ x ∈ gs, (x.1.toList == s.toList) = false) → maskG gs s = 0 := by
  intro gs
  induction gs with
  | nil => intro _; rfl
  | cons y r ih =>
    intro h
    rw [maskG, if_neg (by rw [h y (List.mem_cons_self ..)]; simp)]
    exact ih (fun x hx => h x (List.mem_cons_of_mem _ hx))
theorem maskG_lt (gs : List Grp) (hr : rightG gs = true) (s : ByteArray) : maskG gs s < 65536 := by
  unfold rightG at hr
  rw [Bool.and_eq_true] at hr
  have h := hr.2
  clear hr
  induction gs with
  | nil => show 0 < 65536; decide
  | cons y r ih =>
    rw [List.all_cons, Bool.and_eq_true] at h
    rw [maskG]
    split
    · refine maskOf_lt _ ?_
      have := h.1
      unfold rightTs at this
      rw [Bool.and_eq_true] at this
      exact this.2
    · exact ih h.2
set_option maxRecDepth 100000 in
set_option maxHeartbeats 2000000 in
theorem typesof_calls (s : ByteArray) (a : Option Addr) (len cap : Nat) (gs : List Grp) (w : World) (h : Groups w a len gs) (hr : rightG gs = true) :
    Calls Tryz.prog 133 #[.string s, .slice a len cap] w fun e w' => e = .returned (.int .u16 (maskG gs s : Int)) ∧ Below w.heap.size w w' := by
  obtain ⟨hl, hz, _⟩ := id h
  obtain ⟨R, hR⟩ : ∃ R, maskG gs s = R := ⟨_, rfl⟩
  rw [hR]
  have HR : Hid (maskG gs s = R) := hR
  clear hR
  have hlen : len ≤ 16 := by
    unfold rightG at hr
    rw [Bool.and_eq_true, hl] at hr
    exact of_decide_eq_true hr.1
  have hgr : ∀ g ∈ gs, rightTs g.2 = true := by
    unfold rightG at hr
    rw [Bool.and_eq_true] at hr
    exact List.all_eq_true.1 hr.2
  clear hr
  go_enter Tryz.func133, Tryz.ntmps133
  go_wp2
  go_loopw [12] (fun i w' => ∃ j : Nat, j ≤ len ∧ i = .int .i64 (j : Int) ∧ (∀ x ∈ gs.take j, (x.1.toList == s.toList) = false) ∧ Below w.heap.size w w') (fun i _ => len - (intOf i).toNat)
  case atStart => exact ⟨0, by omega, rfl, by simp, Below.refl _ _⟩
  case round =>
    obtain ⟨i, hi, rfl, hT, hB⟩ := hrel
    by_cases hlt : i < len
    · obtain ⟨b, o, g, a', len', cap', rfl, hg, hI, hc⟩ := h.at hlt
      obtain ⟨c0, c1⟩ := hc wr hB
      obtain ⟨hl2, hz2, _⟩ := id hI
      have hrt := hgr g (List.mem_of_getElem? hg)
      obtain ⟨nm, zs⟩ := g
      simp only at hI hl2 c0 hrt
      have HB0 : Hid (∀ o, Below w.heap.size w (wr.alloc o)) := fun o => hB.alloc hB.size o
      cases he : (nm.toList == s.toList) with
      | false =>
        have HN : Hid (∀ x ∈ gs.take (i + 1), (x.1.toList == s.toList) = false) := by
          intro x hx
          rw [List.take_add_one, hg] at hx
          rcases List.mem_append.1 hx with hx | hx
          · exact hT x hx
          · simp at hx
            rw [hx]
            exact he
        clear hc hI hg hT hgr h hrt
        go_wp2
        go_roundw
        case rel => exact ⟨i + 1, by omega, rfl, HN.out, HB0.out _⟩
        case measure => simp [intOf]; omega
      | true =>
        have HM : Hid (R = maskOf zs) := by
          show _ = _
          rw [← HR.out]
          exact maskG_at gs s i (nm, zs) hg hT he
        have hlen2 : len' ≤ 16 ∧ zs.all isTy = true := by
          unfold rightTs at hrt
          rw [Bool.and_eq_true, hl2] at hrt
          exact ⟨of_decide_eq_true hrt.1, hrt.2⟩
        have hty : Hid (∀ (i : Nat) (x : Int), zs[i]? = some x → 0 ≤ x ∧ x < 16) := fun i x hx => by
          have := List.all_eq_true.1 hlen2.2 x (List.mem_of_getElem? hx)
          unfold isTy at this
          simpa using this
        have hml : Hid (∀ j, maskOf (zs.take j) < 65536) := fun j => maskOf_lt _ (by
          rw [List.all_eq_true]
          intro x hx
          exact List.all_eq_true.1 hlen2.2 x (List.mem_of_mem_take hx))
        have hlen3 := hlen2.1
        have hBI : Hid (∀ W, Below w.heap.size w W → ∀ i : Nat, i < len' → ∃ b o x, a' = some ⟨b, o, none⟩ ∧ zs[i]? = some x ∧ W.cell? ⟨b, o + i, none⟩ = some (.int .i64 x)) := fun W hW i hi => by
          obtain ⟨b, o, x, h1, h2, h3⟩ := hI.at hi
          exact ⟨b, o, x, h1, h2, h3 W hW⟩
        clear hc hI hg hT hgr h hrt hlen2
        go_wp2
        go_loopw [7, 23] (fun m i2 w' => ∃ j : Nat, j ≤ len' ∧ i2 = .int .i64 (j : Int) ∧ m = .int .u16 (maskOf (zs.take j) : Int) ∧ w' = (wr.alloc (.cells #[.string nm, .slice a' len' cap'] 73))) (fun _ i2 _ => len' - (intOf i2).toNat)
        case atStart => exact ⟨0, by omega, rfl, rfl, rfl⟩
        case round =>
          obtain ⟨j, hj, rfl, rfl, rfl⟩ := hrel
          have hm := hml.out j
          by_cases hlt2 : j < len'
          · obtain ⟨b2, o2, x, rfl, hx, hc2⟩ := hBI.out (wr.alloc (.cells #[.string nm, .slice a' len' cap'] 73)) (HB0.out _) j hlt2
            obtain ⟨x0, x1⟩ := hty.out j x hx
            have HS2 : Hid (maskOf (zs.take (j + 1)) = maskOf (zs.take j) ||| 2 ^ x.toNat) := by show _ = _; rw [List.take_add_one, hx]; exact maskOf_snoc _ _
            have hor := u16_or_nat (maskOf (zs.take j)) (2 ^ x.toNat) hm (pow_lt x x1)
            clear hx
            generalize maskOf (zs.take j) = m at *
            go_wp2
            go_roundw
            case rel => exact ⟨j + 1, by omega, rfl, by rw [wrap_pow x x1, hor, HS2.out], by first | rfl | trivial⟩
            case measure => simp [intOf]; omega
          · obtain rfl : j = len' := by omega
            rw [List.take_of_length_le (Nat.le_of_eq hl2), ← HM.out]
            go_wp2
            go_ret
            exact ⟨rfl, HB0.out _⟩
    · obtain rfl : i = len := by omega
      have HF : Hid (R = 0) := by
        show _ = _
        rw [← HR.out]
        rw [List.take_of_length_le (Nat.le_of_eq hl)] at hT
        exact maskG_none s gs hT
      clear hT h hgr
      go_wp2
      go_ret
      exact ⟨by rw [HF.out]; rfl, hB⟩
end Go.Proofs.YtofkiaeocfpkeaaGreatDoor
