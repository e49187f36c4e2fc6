/-
  PROVED HERE: what the texts DBLang, DBSets0, DBSets say (each has its own words below).
-/
import Derived.Test.YtbkpehfaofhmaaaGreatDoorCB13
import Derived.Test.YtbkpehfaofhmaaaGreatDoorCB18
import Derived.Maps.RangeWalk
import Derived.Laws.EntriesVeiled
/- DBLang: the words that lead from where a tree is laid to the end are its own words, one behind the other with those from what comes behind. -/
namespace Go.Proofs.YtbkpehfaofhmaaaGreatDoor
section
variable {T : Type} (K : T -> Int) (M : T -> Nat) (U : T -> List T)
def LSeq (f : T -> List Int -> Prop) : List T -> List Int -> Prop
 | [], w => w = []
 | x :: r, w => ∃ u v, w = u ++ v /\ f x u /\ LSeq f r v
def LPow (f : List Int -> Prop) : Nat -> List Int -> Prop
 | 0, w => w = []
 | m + 1, w => ∃ u v, w = u ++ v /\ f u /\ LPow f m v
def Lang : Nat -> T -> List Int -> Prop
 | 0, _, _ => False
 | n + 1, t, w =>
  if K t = 1 then ∃ a, w = [a] /\ takes (M t) a = true
  else if K t = 2 then LSeq (Lang n) (U t) w
  else if K t = 3 then ∃ x ∈ U t, Lang n x w
  else if K t = 4 then ∃ m, LPow (fun v => ∃ x ∈ U t, Lang n x v) m w
  else if K t = 5 then ∃ m, LPow (fun v => ∃ x ∈ U t, Lang n x v) (m + 1) w
  else if K t = 6 then w = [] \/ ∃ x ∈ U t, Lang n x w
  else w = []
def Like (F L : List Place) (a b : Nat) : Prop := ∀ p, a <= p -> p < b -> F[p]? = L[p]?
def Sound (f : T -> Nat -> List Place -> List Place × Nat) (g : T -> List Int -> Prop) (F : List Place) (x : T) : Prop :=
 ∀ next L, wf L -> next < L.length -> Like F (f x next L).1 L.length (f x next L).1.length -> ∀ k w, Reads F k (f x next L).2 w -> ∃ u v k', k' <= k /\ w = u ++ v /\ g x u /\ Reads F k' next v
def Full (f : T -> Nat -> List Place -> List Place × Nat) (g : T -> List Int -> Prop) (F : List Place) (x : T) : Prop :=
 ∀ next L, wf L -> next < L.length -> Like F (f x next L).1 L.length (f x next L).1.length -> ∀ u v k, g x u -> Reads F k next v -> ∃ k', Reads F k' (f x next L).2 (u ++ v)
theorem LSeq_snoc (f : T -> List Int -> Prop) : ∀ (l : List T) (x : T) (w : List Int), LSeq f (l ++ [x]) w ↔ ∃ u v, w = u ++ v /\ LSeq f l u /\ f x v := by
 intro l
 induction l with
 | nil =>
  intro x w
  constructor
  ·rintro ⟨u, v, rfl, h1, h2⟩
   rw [LSeq] at h2
   subst h2
   exact ⟨[], u, by simp, rfl, h1⟩
  ·rintro ⟨u, v, rfl, h1, h2⟩
   rw [LSeq] at h1
   subst h1
   exact ⟨v, [], by simp, h2, rfl⟩
 | cons y r ih =>
  intro x w
  constructor
  ·rintro ⟨u, v, rfl, h1, h2⟩
   obtain ⟨a, b, rfl, h3, h4⟩ := (ih x v).1 h2
   exact ⟨u ++ a, b, by simp, ⟨u, a, rfl, h1, h3⟩, h4⟩
  ·rintro ⟨u, v, rfl, ⟨a, b, rfl, h1, h2⟩, h3⟩
   exact ⟨a, b ++ v, by simp, h1, (ih x (b ++ v)).2 ⟨b, v, rfl, h2, h3⟩⟩
variable {f : T -> Nat -> List Place -> List Place × Nat} {g : T -> List Int -> Prop} {sz : T -> Nat} {F : List Place}
theorem Reads.at_fork {k p : Nat} {w : List Int} {x : Place} (hp : 0 < p) (hx : F[p]? = some x) (h0 : x.1 = 0) (h : Reads F k p w) : ∃ q ∈ x.2.1, ∃ k', k' < k /\ Reads F k' q w := by
 cases k with
 | zero => obtain ⟨rfl, _⟩ := h; omega
 | succ k =>
  rcases h with ⟨rfl, _⟩ | ⟨y, hy, h⟩
  ·omega
  ·rw [hx] at hy
   cases hy
   rcases h with ⟨_, q, hq, hr⟩ | ⟨h1, _⟩
   ·exact ⟨q, hq, k, Nat.lt_succ_self _, hr⟩
   ·exact absurd h0 h1
theorem Reads.by_fork {k p q : Nat} {w : List Int} {x : Place} (hx : F[p]? = some x) (h0 : x.1 = 0) (hq : q ∈ x.2.1) (h : Reads F k q w) : Reads F (k + 1) p w :=
 .inr ⟨x, hx, .inl ⟨h0, q, hq, h⟩⟩
theorem laySeq_sound : ∀ (l : List T), (∀ x ∈ l, Good f sz x) -> (∀ x ∈ l, Sound f g F x) -> ∀ next L, wf L -> next < L.length -> Like F (laySeq f l next L).1 L.length (laySeq f l next L).1.length →
  ∀ k w, Reads F k (laySeq f l next L).2 w -> ∃ u v k', k' <= k /\ w = u ++ v /\ LSeq g l.reverse u /\ Reads F k' next v := by
 intro l
 induction l with
 | nil => intro _ _ next L _ _ _ k w h; exact ⟨[], w, k, Nat.le_refl _, rfl, rfl, h⟩
 | cons x r ih =>
  intro hg hs next L hL hn hF k w h
  obtain ⟨a1, a2, a3, a4, a5, a6⟩ := hg x (List.mem_cons_self ..) next L hL hn
  obtain ⟨b1, b2, b3, b4, b5, b6⟩ := laySeq_good r (fun y hy => hg y (List.mem_cons_of_mem _ hy)) (f x next L).2 (f x next L).1 a1 a2
  rw [laySeq] at hF h
  obtain ⟨u, v, k', hk, rfl, hu, hv⟩ := ih (fun y hy => hg y (List.mem_cons_of_mem _ hy)) (fun y hy => hs y (List.mem_cons_of_mem _ hy)) _ _ a1 a2 (fun p h1 h2 => hF p (by omega) h2) k w h
  obtain ⟨u', v', k'', hk', rfl, hu', hv'⟩ := hs x (List.mem_cons_self ..) next L hL hn (fun p h1 h2 => (hF p h1 (by omega)).trans (b4 p h2)) k' v hv
  rw [List.reverse_cons]
  exact ⟨u ++ u', v', k'', by omega, by simp, (LSeq_snoc g _ _ _).2 ⟨u, u', rfl, hu, hu'⟩, hv'⟩
theorem laySeq_full : ∀ (l : List T), (∀ x ∈ l, Good f sz x) -> (∀ x ∈ l, Full f g F x) -> ∀ next L, wf L -> next < L.length -> Like F (laySeq f l next L).1 L.length (laySeq f l next L).1.length →
  ∀ u v k, LSeq g l.reverse u -> Reads F k next v -> ∃ k', Reads F k' (laySeq f l next L).2 (u ++ v) := by
 intro l
 induction l with
 | nil => intro _ _ next L _ _ _ u v k hu hv; rw [List.reverse_nil, LSeq] at hu; subst hu; exact ⟨k, hv⟩
 | cons x r ih =>
  intro hg hs next L hL hn hF u v k hu hv
  obtain ⟨a1, a2, a3, a4, a5, a6⟩ := hg x (List.mem_cons_self ..) next L hL hn
  obtain ⟨b1, b2, b3, b4, b5, b6⟩ := laySeq_good r (fun y hy => hg y (List.mem_cons_of_mem _ hy)) (f x next L).2 (f x next L).1 a1 a2
  rw [laySeq] at hF ⊢
  rw [List.reverse_cons] at hu
  obtain ⟨u1, u2, rfl, h1, h2⟩ := (LSeq_snoc g _ _ _).1 hu
  obtain ⟨k1, hk1⟩ := hs x (List.mem_cons_self ..) next L hL hn (fun p h1 h2 => (hF p h1 (by omega)).trans (b4 p h2)) u2 v k h2 hv
  obtain ⟨k2, hk2⟩ := ih (fun y hy => hg y (List.mem_cons_of_mem _ hy)) (fun y hy => hs y (List.mem_cons_of_mem _ hy)) _ _ a1 a2 (fun p h1 h2 => hF p (by omega) h2) u1 (u2 ++ v) k1 h1 hk1
  exact ⟨k2, by rw [List.append_assoc]; exact hk2⟩
theorem layAlt_mem (next : Nat) : ∀ (l : List T), (∀ x ∈ l, Good f sz x) -> ∀ (L : List Place) (ways : List Nat), wf L -> next < L.length -> Like F (layAlt f next l L ways).1 L.length (layAlt f next l L ways).1.length →
  (∀ q ∈ (layAlt f next l L ways).2, q ∈ ways \/ ∃ x ∈ l, ∃ L', wf L' /\ next < L'.length /\ Like F (f x next L').1 L'.length (f x next L').1.length /\ q = (f x next L').2) ∧
  (∀ q ∈ ways, q ∈ (layAlt f next l L ways).2) /\ (∀ x ∈ l, ∃ L', wf L' /\ next < L'.length /\ Like F (f x next L').1 L'.length (f x next L').1.length /\ (f x next L').2 ∈ (layAlt f next l L ways).2) := by
 intro l
 induction l with
 | nil => intro _ L ways _ _ _; exact ⟨fun q hq => .inl hq, fun q hq => hq, fun x hx => by cases hx⟩
 | cons x r ih =>
  intro hg L ways hL hn hF
  obtain ⟨a1, a2, a3, a4, a5, a6⟩ := hg x (List.mem_cons_self ..) next L hL hn
  rw [layAlt] at hF ⊢
  have hlen : (f x next L).1.length <= (layAlt f next r (f x next L).1 (ways ++ [(f x next L).2])).1.length /\ ∀ p, p < (f x next L).1.length -> (layAlt f next r (f x next L).1 (ways ++ [(f x next L).2])).1[p]? = (f x next L).1[p]? := by
   have : ∀ (l : List T), (∀ y ∈ l, Good f sz y) -> ∀ (L : List Place) (ws : List Nat), wf L -> next < L.length -> L.length <= (layAlt f next l L ws).1.length /\ ∀ p, p < L.length -> (layAlt f next l L ws).1[p]? = L[p]? := by
    intro l
    induction l with
    | nil => intro _ L ws _ _; exact ⟨Nat.le_refl _, fun _ _ => rfl⟩
    | cons y r ih2 =>
     intro hg L ws hL hn
     obtain ⟨a1, a2, a3, a4, a5, a6⟩ := hg y (List.mem_cons_self ..) next L hL hn
     rw [layAlt]
     obtain ⟨c1, c2⟩ := ih2 (fun z hz => hg z (List.mem_cons_of_mem _ hz)) (f y next L).1 (ws ++ [(f y next L).2]) a1 (by omega)
     exact ⟨by omega, fun p hp => (c2 p (by omega)).trans (a4 p hp)⟩
   exact this r (fun y hy => hg y (List.mem_cons_of_mem _ hy)) _ _ a1 (by omega)
  obtain ⟨l1, l2⟩ := hlen
  have hFx : Like F (f x next L).1 L.length (f x next L).1.length := fun p h1 h2 => (hF p h1 (by omega)).trans (l2 p h2)
  obtain ⟨b1, b2, b3⟩ := ih (fun y hy => hg y (List.mem_cons_of_mem _ hy)) (f x next L).1 (ways ++ [(f x next L).2]) a1 (by omega) (fun p h1 h2 => hF p (by omega) h2)
  refine ⟨fun q hq => ?_, fun q hq => b2 q (List.mem_append_left _ hq), fun y hy => ?_⟩
  ·rcases b1 q hq with h | ⟨y, hy, h⟩
   ·rcases List.mem_append.1 h with h | h
    ·exact .inl h
    ·simp at h
     exact .inr ⟨x, List.mem_cons_self .., L, hL, hn, hFx, h⟩
   ·exact .inr ⟨y, List.mem_cons_of_mem _ hy, h⟩
  ·rcases List.mem_cons.1 hy with rfl | hy
   ·exact ⟨L, hL, hn, hFx, b2 _ (by simp)⟩
   ·exact b3 y hy
theorem loop_like {x : T} (hg : Good f sz x) {next : Nat} {L : List Place} (hL : wf L) (hn : next < L.length) (hF : Like F (layLoop f [x] next L).1 L.length (layLoop f [x] next L).1.length) :
  wf (forkL L [next]).1 /\ L.length < (forkL L [next]).1.length /\ Like F (f x L.length (forkL L [next]).1).1 (forkL L [next]).1.length (f x L.length (forkL L [next]).1).1.length /\ F[L.length]? = some (0, [next, (f x L.length (forkL L [next]).1).2], forkLeast L [next]) := by
 obtain ⟨c1, c2, c3, c4, c5⟩ := forkL_ok hL (ways := [next]) (by simp) (by simpa using hn) (m := leastAt L next) (by simp)
 obtain ⟨a1, a2, a3, a4, a5, a6⟩ := hg L.length (forkL L [next]).1 c1 (by omega)
 rw [layLoop] at hF
 refine ⟨c1, by omega, fun p h1 h2 => ?_, ?_⟩
 ·rw [hF p (by omega) (by rw [addNext_length]; exact h2)]
  exact addNext_ne (by omega)
 ·rw [hF L.length (Nat.le_refl _) (by rw [addNext_length]; omega)]
  exact addNext_eq ((a4 _ (by omega)).trans get_snoc_eq)
theorem loop_sound {x : T} (hg : Good f sz x) (hs : Sound f g F x) {next : Nat} {L : List Place} (hL : wf L) (hn : next < L.length) (hF : Like F (layLoop f [x] next L).1 L.length (layLoop f [x] next L).1.length) :
  ∀ k w, Reads F k L.length w -> ∃ m u v k', k' <= k /\ w = u ++ v /\ LPow (g x) m u /\ Reads F k' next v := by
 obtain ⟨c1, c2, c3, c4⟩ := loop_like hg hL hn hF
 have hpos := hL.pos
 intro k
 induction k using Nat.strongRecOn with
 | _ k ih =>
  intro w h
  obtain ⟨q, hq, k1, hk1, hr⟩ := h.at_fork hpos c4 rfl
  simp at hq
  rcases hq with rfl | rfl
  ·exact ⟨0, [], w, k1, by omega, rfl, rfl, hr⟩
  ·obtain ⟨u, v, k2, hk2, rfl, hu, hv⟩ := hs L.length _ c1 c2 c3 k1 w hr
   obtain ⟨m, u', v', k3, hk3, rfl, hu', hv'⟩ := ih k2 (by omega) v hv
   exact ⟨m + 1, u ++ u', v', k3, by omega, by simp, ⟨u, u', rfl, hu, hu'⟩, hv'⟩
theorem loop_full {x : T} (hg : Good f sz x) (hs : Full f g F x) {next : Nat} {L : List Place} (hL : wf L) (hn : next < L.length) (hF : Like F (layLoop f [x] next L).1 L.length (layLoop f [x] next L).1.length) :
  ∀ m u v k, LPow (g x) m u -> Reads F k next v -> ∃ k', Reads F k' L.length (u ++ v) := by
 obtain ⟨c1, c2, c3, c4⟩ := loop_like hg hL hn hF
 intro m
 induction m with
 | zero =>
  intro u v k hu hv
  rw [LPow] at hu
  subst hu
  exact ⟨k + 1, Reads.by_fork (q := next) c4 rfl (by simp) hv⟩
 | succ m ih =>
  rintro u v k ⟨u1, u2, rfl, h1, h2⟩ hv
  obtain ⟨k1, hk1⟩ := ih u2 v k h2 hv
  obtain ⟨k2, hk2⟩ := hs L.length _ c1 c2 c3 u1 (u2 ++ v) k1 h1 hk1
  exact ⟨k2 + 1, Reads.by_fork (q := (f x L.length (forkL L [next]).1).2) c4 rfl (by simp) (by rw [List.append_assoc]; exact hk2)⟩
theorem one_ex {x : T} {p : T -> Prop} : (∃ y ∈ [x], p y) ↔ p x := by simp
theorem lay_sound : ∀ (n : Nat) (t : T), Sane K M U n t -> Sound (lay K M U n) (Lang K M U n) F t := by
 intro n
 induction n with
 | zero => intro t h; exact h.elim
 | succ n ih =>
  intro t hS next L hL hn hF k w hr
  have hG := lay_good K M U (n + 1) t hS next L hL hn
  obtain ⟨s1, s3, s4, sk⟩ := hS
  have hk : ∀ x ∈ U t, Good (lay K M U n) (size U n) x := fun x hx => lay_good K M U n x (sk x hx)
  have hs : ∀ x ∈ U t, Sound (lay K M U n) (Lang K M U n) F x := fun x hx => ih x (sk x hx)
  have hpos := hL.pos
  rw [lay] at hF hr hG
  simp only [Lang]
  by_cases k1 : K t = 1
  ·rw [if_pos k1] at hF hr hG
   simp only [if_pos k1]
   have hx : F[L.length]? = some (M t, [next], leastAt L next + 1) := (hF L.length (Nat.le_refl _) (by simp)).trans get_snoc_eq
   cases k with
   | zero => obtain ⟨e, _⟩ := hr; simp at e; simp [e] at hpos
   | succ k =>
    rcases hr with ⟨e, _⟩ | ⟨y, hy, h⟩
    ·simp at e; simp [e] at hpos
    ·have hy' : F[L.length]? = some y := hy
     rw [hx] at hy'
     cases hy'
     rcases h with ⟨h0, _⟩ | ⟨_, a, v, q, rfl, ha, hq, hv⟩
     ·exact absurd h0 (s1 k1)
     ·simp at hq
      subst hq
      exact ⟨[a], v, k, Nat.le_succ _, rfl, ⟨a, rfl, ha⟩, hv⟩
  rw [if_neg k1] at hF hr hG
  simp only [if_neg k1]
  by_cases k2 : K t = 2
  ·rw [if_pos k2] at hF hr hG
   simp only [if_pos k2]
   obtain ⟨u, v, k', h1, h2, h3, h4⟩ := laySeq_sound (U t).reverse (fun x hx => hk x (List.mem_reverse.1 hx)) (fun x hx => hs x (List.mem_reverse.1 hx)) next L hL hn hF k w hr
   rw [List.reverse_reverse] at h3
   exact ⟨u, v, k', h1, h2, h3, h4⟩
  rw [if_neg k2] at hF hr hG
  simp only [if_neg k2]
  by_cases k3 : K t = 3
  ·rw [if_pos k3] at hF hr hG
   simp only [if_pos k3]
   obtain ⟨b1, b2, b3, b4, b5, b6⟩ := layAlt_good next (U t) hk L [] hL hn (fun q hq => by cases hq)
   have hlen : (forkL (layAlt (lay K M U n) next (U t) L []).1 (layAlt (lay K M U n) next (U t) L []).2).1.length = (layAlt (lay K M U n) next (U t) L []).1.length + 1 := by simp [forkL]
   have hx : F[(layAlt (lay K M U n) next (U t) L []).1.length]? = some (0, (layAlt (lay K M U n) next (U t) L []).2, forkLeast (layAlt (lay K M U n) next (U t) L []).1 (layAlt (lay K M U n) next (U t) L []).2) := (hF _ (by omega) (by omega)).trans get_snoc_eq
   obtain ⟨q, hq, k1', hk1, hr'⟩ := Reads.at_fork (p := (layAlt (lay K M U n) next (U t) L []).1.length) (by omega) hx rfl hr
   have hF' : Like F (layAlt (lay K M U n) next (U t) L []).1 L.length (layAlt (lay K M U n) next (U t) L []).1.length := fun p h1 h2 => (hF p h1 (by omega)).trans (get_snoc_lt h2)
   rcases (layAlt_mem next (U t) hk L [] hL hn hF').1 q hq with h | ⟨x, hx, L', d1, d2, d3, rfl⟩
   ·cases h
   ·obtain ⟨u, v, k', h1, h2, h3, h4⟩ := hs x hx next L' d1 d2 d3 k1' w hr'
    exact ⟨u, v, k', by omega, h2, ⟨x, hx, h3⟩, h4⟩
  rw [if_neg k3] at hF hr hG
  simp only [if_neg k3]
  by_cases k4 : K t = 4
  ·rw [if_pos k4] at hF hr hG
   simp only [if_pos k4]
   obtain ⟨x, hx⟩ := s4 (.inl k4)
   rw [hx] at hF hr hG hk hs ⊢
   simp only [one_ex]
   obtain ⟨m, u, v, k', h1, h2, h3, h4⟩ := loop_sound (hk x (List.mem_singleton.2 rfl)) (hs x (List.mem_singleton.2 rfl)) hL hn hF k w hr
   exact ⟨u, v, k', h1, h2, ⟨m, h3⟩, h4⟩
  rw [if_neg k4] at hF hr hG
  simp only [if_neg k4]
  by_cases k5 : K t = 5
  ·rw [if_pos k5] at hF hr hG
   simp only [if_pos k5]
   obtain ⟨x, hx⟩ := s4 (.inr (.inl k5))
   rw [hx] at hF hr hG hk hs ⊢
   simp only [one_ex]
   obtain ⟨c1, c2, c3, c4⟩ := loop_like (hk x (List.mem_singleton.2 rfl)) hL hn hF
   obtain ⟨u, v, k1', hk1, rfl, hu, hv⟩ := hs x (List.mem_singleton.2 rfl) L.length _ c1 c2 c3 k w hr
   obtain ⟨m, u', v', k', h1, rfl, h3, h4⟩ := loop_sound (hk x (List.mem_singleton.2 rfl)) (hs x (List.mem_singleton.2 rfl)) hL hn hF k1' v hv
   exact ⟨u ++ u', v', k', by omega, by simp, ⟨m, u, u', rfl, hu, h3⟩, h4⟩
  rw [if_neg k5] at hF hr hG
  simp only [if_neg k5]
  by_cases k6 : K t = 6
  ·rw [if_pos k6] at hF hr hG
   simp only [if_pos k6]
   obtain ⟨x, hx⟩ := s4 (.inr (.inr k6))
   rw [hx] at hF hr hG hk hs ⊢
   simp only [one_ex]
   rw [layOpt] at hF hr
   obtain ⟨a1, a2, a3, a4, a5, a6⟩ := hk x (List.mem_singleton.2 rfl) next L hL hn
   have hlen : (forkL (lay K M U n x next L).1 [next, (lay K M U n x next L).2]).1.length = (lay K M U n x next L).1.length + 1 := by simp [forkL]
   have hat : F[(lay K M U n x next L).1.length]? = some (0, [next, (lay K M U n x next L).2], forkLeast (lay K M U n x next L).1 [next, (lay K M U n x next L).2]) := (hF _ (by omega) (by omega)).trans get_snoc_eq
   obtain ⟨q, hq, k1', hk1, hr'⟩ := Reads.at_fork (p := (lay K M U n x next L).1.length) (by omega) hat rfl hr
   simp at hq
   rcases hq with rfl | rfl
   ·exact ⟨[], w, k1', by omega, rfl, .inl rfl, hr'⟩
   ·obtain ⟨u, v, k', h1, h2, h3, h4⟩ := hs x (List.mem_singleton.2 rfl) next L hL hn (fun p h1 h2 => (hF p h1 (by omega)).trans (get_snoc_lt h2)) k1' w hr'
    exact ⟨u, v, k', by omega, h2, .inr h3, h4⟩
  rw [if_neg k6] at hF hr hG
  simp only [if_neg k6]
  exact ⟨[], w, k, Nat.le_refl _, rfl, rfl, hr⟩
theorem lay_full : ∀ (n : Nat) (t : T), Sane K M U n t -> Full (lay K M U n) (Lang K M U n) F t := by
 intro n
 induction n with
 | zero => intro t h; exact h.elim
 | succ n ih =>
  intro t hS next L hL hn hF u v k hu hv
  have hG := lay_good K M U (n + 1) t hS next L hL hn
  obtain ⟨s1, s3, s4, sk⟩ := hS
  have hk : ∀ x ∈ U t, Good (lay K M U n) (size U n) x := fun x hx => lay_good K M U n x (sk x hx)
  have hs : ∀ x ∈ U t, Full (lay K M U n) (Lang K M U n) F x := fun x hx => ih x (sk x hx)
  have hpos := hL.pos
  rw [lay] at hF hG ⊢
  rw [Lang] at hu
  by_cases k1 : K t = 1
  ·rw [if_pos k1] at hF hG hu ⊢
   obtain ⟨a, rfl, ha⟩ := hu
   exact ⟨k + 1, .inr ⟨_, (hF L.length (Nat.le_refl _) (by simp)).trans get_snoc_eq, .inr ⟨s1 k1, a, v, next, rfl, ha, rfl, hv⟩⟩⟩
  rw [if_neg k1] at hF hG hu ⊢
  by_cases k2 : K t = 2
  ·rw [if_pos k2] at hF hG hu ⊢
   exact laySeq_full (U t).reverse (fun x hx => hk x (List.mem_reverse.1 hx)) (fun x hx => hs x (List.mem_reverse.1 hx)) next L hL hn hF u v k (by rw [List.reverse_reverse]; exact hu) hv
  rw [if_neg k2] at hF hG hu ⊢
  by_cases k3 : K t = 3
  ·rw [if_pos k3] at hF hG hu ⊢
   obtain ⟨b1, b2, b3, b4, b5, b6⟩ := layAlt_good next (U t) hk L [] hL hn (fun q hq => by cases hq)
   have hlen : (forkL (layAlt (lay K M U n) next (U t) L []).1 (layAlt (lay K M U n) next (U t) L []).2).1.length = (layAlt (lay K M U n) next (U t) L []).1.length + 1 := by simp [forkL]
   have hx : F[(layAlt (lay K M U n) next (U t) L []).1.length]? = some (0, (layAlt (lay K M U n) next (U t) L []).2, forkLeast (layAlt (lay K M U n) next (U t) L []).1 (layAlt (lay K M U n) next (U t) L []).2) := (hF _ (by omega) (by omega)).trans get_snoc_eq
   have hF' : Like F (layAlt (lay K M U n) next (U t) L []).1 L.length (layAlt (lay K M U n) next (U t) L []).1.length := fun p h1 h2 => (hF p h1 (by omega)).trans (get_snoc_lt h2)
   obtain ⟨x, hxm, hxu⟩ := hu
   obtain ⟨L', d1, d2, d3, d4⟩ := (layAlt_mem next (U t) hk L [] hL hn hF').2.2 x hxm
   obtain ⟨k1', hk1⟩ := hs x hxm next L' d1 d2 d3 u v k hxu hv
   exact ⟨k1' + 1, Reads.by_fork hx rfl d4 hk1⟩
  rw [if_neg k3] at hF hG hu ⊢
  by_cases k4 : K t = 4
  ·rw [if_pos k4] at hF hG hu ⊢
   obtain ⟨x, hx⟩ := s4 (.inl k4)
   rw [hx] at hF hG hk hs hu ⊢
   simp only [one_ex] at hu
   obtain ⟨m, hm⟩ := hu
   exact loop_full (hk x (List.mem_singleton.2 rfl)) (hs x (List.mem_singleton.2 rfl)) hL hn hF m u v k hm hv
  rw [if_neg k4] at hF hG hu ⊢
  by_cases k5 : K t = 5
  ·rw [if_pos k5] at hF hG hu ⊢
   obtain ⟨x, hx⟩ := s4 (.inr (.inl k5))
   rw [hx] at hF hG hk hs hu ⊢
   simp only [one_ex] at hu
   obtain ⟨m, u1, u2, rfl, h1, h2⟩ := hu
   obtain ⟨c1, c2, c3, c4⟩ := loop_like (hk x (List.mem_singleton.2 rfl)) hL hn hF
   obtain ⟨k1', hk1⟩ := loop_full (hk x (List.mem_singleton.2 rfl)) (hs x (List.mem_singleton.2 rfl)) hL hn hF m u2 v k h2 hv
   rw [List.append_assoc]
   exact hs x (List.mem_singleton.2 rfl) L.length _ c1 c2 c3 u1 (u2 ++ v) k1' h1 hk1
  rw [if_neg k5] at hF hG hu ⊢
  by_cases k6 : K t = 6
  ·rw [if_pos k6] at hF hG hu ⊢
   obtain ⟨x, hx⟩ := s4 (.inr (.inr k6))
   rw [hx] at hF hG hk hs hu ⊢
   simp only [one_ex] at hu
   rw [layOpt] at hF ⊢
   obtain ⟨a1, a2, a3, a4, a5, a6⟩ := hk x (List.mem_singleton.2 rfl) next L hL hn
   have hlen : (forkL (lay K M U n x next L).1 [next, (lay K M U n x next L).2]).1.length = (lay K M U n x next L).1.length + 1 := by simp [forkL]
   have hat : F[(lay K M U n x next L).1.length]? = some (0, [next, (lay K M U n x next L).2], forkLeast (lay K M U n x next L).1 [next, (lay K M U n x next L).2]) := (hF _ (by omega) (by omega)).trans get_snoc_eq
   rcases hu with rfl | hu
   ·exact ⟨k + 1, Reads.by_fork (q := next) hat rfl (by simp) hv⟩
   ·obtain ⟨k1', hk1⟩ := hs x (List.mem_singleton.2 rfl) next L hL hn (fun p h1 h2 => (hF p h1 (by omega)).trans (get_snoc_lt h2)) u v k hu hv
    exact ⟨k1' + 1, Reads.by_fork (q := (lay K M U n x next L).2) hat rfl (by simp) hk1⟩
  rw [if_neg k6] at hF hG hu ⊢
  subst hu
  exact ⟨k, hv⟩
end
end Go.Proofs.YtbkpehfaofhmaaaGreatDoor

/- DBSets0: plain facts on sets of places: what forks reach, what is reached behind a type, behind a word. -/
namespace Go.Proofs.YtbkpehfaofhmaaaGreatDoor
def Via (F : List Place) : Nat -> Nat -> Nat -> Prop
 | 0, p, q => p = q
 | k + 1, p, q => p = q \/ ∃ x, F[p]? = some x /\ x.1 = 0 /\ ∃ r ∈ x.2.1, Via F k r q
theorem Via.up {F : List Place} : ∀ {k p q : Nat}, Via F k p q -> Via F (k + 1) p q := by
 intro k
 induction k with
 | zero => intro p q h; exact .inl h
 | succ k ih =>
  intro p q h
  rcases h with h | ⟨x, hx, h0, r, hr, h⟩
  ·exact .inl h
  ·exact .inr ⟨x, hx, h0, r, hr, ih h⟩
theorem Via.upto {F : List Place} {k m p q : Nat} (h : k <= m) (hr : Via F k p q) : Via F m p q := by
 induction h with
 | refl => exact hr
 | step _ ih => exact Via.up ih
theorem Via.trans {F : List Place} : ∀ {k p q : Nat}, Via F k p q -> ∀ {m r : Nat}, Via F m q r -> Via F (k + m) p r := by
 intro k
 induction k with
 | zero =>
  rintro p q rfl m r h
  simpa using h
 | succ k ih =>
  intro p q h m r h'
  rw [show k + 1 + m = k + m + 1 from by omega]
  rcases h with rfl | ⟨x, hx, h0, s, hs, h⟩
  ·exact Via.upto (by omega) h'
  ·exact .inr ⟨x, hx, h0, s, hs, ih h h'⟩
theorem Via.one {F : List Place} {p q : Nat} {x : Place} (hx : F[p]? = some x) (h0 : x.1 = 0) (hq : q ∈ x.2.1) : Via F 1 p q := .inr ⟨x, hx, h0, q, hq, rfl⟩
def Shut1 (F : List Place) (S : Nat -> Prop) : Prop := ∀ p x, S p -> F[p]? = some x -> x.1 = 0 -> ∀ q ∈ x.2.1, S q
theorem Shut1.via {F : List Place} {S : Nat -> Prop} (h : Shut1 F S) : ∀ {k p q : Nat}, S p -> Via F k p q -> S q := by
 intro k
 induction k with
 | zero => rintro p q hp rfl; exact hp
 | succ k ih =>
  intro p q hp hv
  rcases hv with rfl | ⟨x, hx, h0, r, hr, hv⟩
  ·exact hp
  ·exact ih (h p x hp hx h0 r hr) hv
def startS (F : List Place) (p : Nat) : Nat -> Prop := fun q => ∃ k, Via F k p q
theorem startS_shut (F : List Place) (p : Nat) : Shut1 F (startS F p) := fun _q _x ⟨_, hk⟩ hx h0 _ hr => ⟨_, hk.trans (Via.one hx h0 hr)⟩
def stepS (F : List Place) (S : Nat -> Prop) (t : Int) : Nat -> Prop := fun q => ∃ a x r k, S a /\ F[a]? = some x /\ takes x.1 t = true /\ x.2.1[0]? = some r /\ Via F k r q
theorem stepS_shut (F : List Place) (S : Nat -> Prop) (t : Int) : Shut1 F (stepS F S t) := fun _q _x ⟨a, y, r, _, h1, h2, h3, h4, hk⟩ hx h0 _ hr => ⟨a, y, r, _, h1, h2, h3, h4, hk.trans (Via.one hx h0 hr)⟩
def afterS (F : List Place) (S : Nat -> Prop) (w : List Int) : Nat -> Prop := w.foldl (stepS F) S
theorem afterS_snoc (F : List Place) (S : Nat -> Prop) (w : List Int) (t : Int) : afterS F S (w ++ [t]) = stepS F (afterS F S w) t := by unfold afterS; rw [List.foldl_append]; rfl
theorem afterS_empty {F : List Place} {S : Nat -> Prop} (h : ∀ p, ¬ S p) : ∀ w p, ¬ afterS F S w p := by
 intro w
 induction w generalizing S with
 | nil => exact h
 | cons t r ih => exact ih (fun p ⟨a, _, _, _, h1, _⟩ => h a h1)
theorem reads_after {F : List Place} (_h0 : F[0]? = some (0, [], 0)) : ∀ (w : List Int) (S : Nat -> Prop), Shut1 F S -> ((∃ a k, S a /\ Reads F k a w) ↔ afterS F S w 0) := by
 intro w
 induction w with
 | nil =>
  intro S hS
  constructor
  ·rintro ⟨a, k, ha, hr⟩
   show S 0
   induction k generalizing a with
   | zero => obtain ⟨rfl, _⟩ := hr; exact ha
   | succ k ih =>
    rcases hr with ⟨rfl, _⟩ | ⟨x, hx, ⟨hz, q, hq, hr⟩ | ⟨_, t, v, q, e, _⟩⟩
    ·exact ha
    ·exact ih q (hS a x ha hx hz q hq) hr
    ·cases e
  ·intro h
   exact ⟨0, 0, h, rfl, rfl⟩
 | cons t v ih =>
  intro S hS
  rw [show afterS F S (t :: v) = afterS F (stepS F S t) v from rfl, <- ih _ (stepS_shut F S t)]
  constructor
  ·rintro ⟨a, k, ha, hr⟩
   induction k generalizing a with
   | zero => obtain ⟨_, e⟩ := hr; cases e
   | succ k ihk =>
    rcases hr with ⟨_, e⟩ | ⟨x, hx, ⟨hz, q, hq, hr⟩ | ⟨hz, t', v', q, e, ht, hq, hr⟩⟩
    ·cases e
    ·exact ihk q (hS a x ha hx hz q hq) hr
    ·cases e
     exact ⟨q, k, ⟨a, x, q, 0, ha, hx, ht, hq, rfl⟩, hr⟩
  ·rintro ⟨b, k, ⟨a, x, r, m, ha, hx, ht, hr, hv⟩, hR⟩
   have hlift : ∀ {m p : Nat}, Via F m p b -> Reads F (m + k) p v := by
    intro m
    induction m with
    | zero => rintro p rfl; simpa using hR
    | succ m ihm =>
     intro p hp
     rw [show m + 1 + k = m + k + 1 from by omega]
     rcases hp with rfl | ⟨y, hy, hz, s, hs, hp⟩
     ·exact Reads.upto (by omega) hR
     ·exact .inr ⟨y, hy, .inl ⟨hz, s, hs, ihm hp⟩⟩
   refine ⟨a, m + k + 1, ha, .inr ⟨x, hx, .inr ⟨fun e => ?_, t, v, r, rfl, ht, hr, hlift hv⟩⟩⟩
   rw [e, takes_zero] at ht
   cases ht
def Grown (F : List Place) (S S' : Nat -> Bool) (p : Nat) : Prop :=
 (∀ q, S q = true -> S' q = true) /\ S' p = true /\ (∀ q, S' q = true -> S q = true \/ ∃ k, Via F k p q) /\ ∀ q x, S' q = true -> S q = false -> F[q]? = some x -> x.1 = 0 -> ∀ r ∈ x.2.1, S' r = true
def GrownS (F : List Place) (S S' : Nat -> Bool) (p : Nat) (l : List Nat) : Prop :=
 (∀ q, S q = true -> S' q = true) /\ S' p = true /\ (∀ q ∈ l, S' q = true) /\ (∀ q, S' q = true -> S q = true \/ ∃ k, Via F k p q) /\ ∀ q x, S' q = true -> S q = false -> q ≠ p -> F[q]? = some x -> x.1 = 0 -> ∀ r ∈ x.2.1, S' r = true
theorem GrownS.step {F : List Place} {S S1 S2 : Nat -> Bool} {p q : Nat} {l : List Nat} {x : Place} (hx : F[p]? = some x) (h0 : x.1 = 0) (hq : q ∈ x.2.1) (h : GrownS F S S1 p l) (g : Grown F S1 S2 q) : GrownS F S S2 p (l ++ [q]) := by
 obtain ⟨h1, h2, h3, h4, h5⟩ := h
 obtain ⟨g1, g2, g3, g4⟩ := g
 refine ⟨fun r hr => g1 r (h1 r hr), g1 p h2, fun r hr => ?_, fun r hr => ?_, fun r y hr hn hne hy hz s hs => ?_⟩
 ·rcases List.mem_append.1 hr with hr | hr
  ·exact g1 r (h3 r hr)
  ·simp at hr; rw [hr]; exact g2
 ·rcases g3 r hr with h | ⟨k, h⟩
  ·exact h4 r h
  ·exact .inr ⟨_, (Via.one hx h0 hq).trans h⟩
 ·cases hc : S1 r with
  | true => exact g1 s (h5 r y hc hn hne hy hz s hs)
  | false => exact g4 r y hr hc hy hz s hs
theorem GrownS.done {F : List Place} {S S' : Nat -> Bool} {p : Nat} {x : Place} (hx : F[p]? = some x) (h : GrownS F S S' p x.2.1) : Grown F S S' p := by
 obtain ⟨h1, h2, h3, h4, h5⟩ := h
 refine ⟨h1, h2, h4, fun q y hq hn hy hz r hr => ?_⟩
 by_cases e : q = p
 ·subst e
  rw [hx] at hy
  cases hy
  exact h3 r hr
 ·exact h5 q y hq hn e hy hz r hr
theorem Grown.refl {F : List Place} {S : Nat -> Bool} {p : Nat} (h : S p = true) : Grown F S S p := ⟨fun _ h => h, h, fun _ h => .inl h, fun q _ h1 h2 => by rw [h1] at h2; cases h2⟩
def putS (S : Nat -> Bool) (p : Nat) : Nat -> Bool := fun q => S q || (q == p)
theorem GrownS.start (F : List Place) (S : Nat -> Bool) (p : Nat) : GrownS F S (putS S p) p [] := by
 refine ⟨fun q h => by simp [putS, h], by simp [putS], fun q hq => (by cases hq), fun q h => ?_, fun q x h hn hne => ?_⟩
 ·simp [putS] at h
  rcases h with h | h
  ·exact .inl h
  ·exact .inr ⟨0, h.symm⟩
 ·simp [putS, hn] at h
  exact absurd h hne
theorem Grown.iff {F : List Place} {S S' : Nat -> Bool} {p : Nat} (h : Grown F S S' p) (hS : Shut1 F (fun q => S q = true)) : Shut1 F (fun q => S' q = true) /\ ∀ q, S' q = true ↔ (S q = true \/ startS F p q) := by
 obtain ⟨h1, h2, h3, h4⟩ := h
 have hsh : Shut1 F (fun q => S' q = true) := fun q x hq hx hz r hr => by
  cases hc : S q with
  | true => exact h1 r (hS q x hc hx hz r hr)
  | false => exact h4 q x hq hc hx hz r hr
 refine ⟨hsh, fun q => ⟨fun h => h3 q h, fun h => ?_⟩⟩
 rcases h with h | ⟨k, h⟩
 ·exact h1 q h
 ·exact hsh.via h2 h
def outS (S : Nat -> Bool) (N : Nat) : Nat := ((List.range N).filter (fun p => !S p)).length
theorem filter_le {α : Type} {p q : α -> Bool} : ∀ l : List α, (∀ x, p x = true -> q x = true) -> (l.filter p).length <= (l.filter q).length := by
 intro l h
 induction l with
 | nil => exact Nat.le_refl _
 | cons x r ih =>
  rw [List.filter_cons, List.filter_cons]
  cases hp : p x with
  | true => rw [h x hp]; simpa using ih
  | false =>
   cases q x with
   | true => simp; omega
   | false => simpa using ih
theorem filter_lt {α : Type} {p q : α -> Bool} {a : α} : ∀ l : List α, (∀ x, p x = true -> q x = true) -> a ∈ l -> p a = false -> q a = true -> (l.filter p).length < (l.filter q).length := by
 intro l h ha hp hq
 induction l with
 | nil => cases ha
 | cons x r ih =>
  rw [List.filter_cons, List.filter_cons]
  rcases List.mem_cons.1 ha with rfl | ha
  ·rw [hp, hq]
   have := filter_le r h
   simp
   omega
  ·have := ih ha
   cases hpx : p x with
   | true => rw [h x hpx]; simpa using this
   | false =>
    cases q x with
    | true => simp; omega
    | false => simpa using this
theorem outS_le {S S' : Nat -> Bool} {N : Nat} (h : ∀ q, S q = true -> S' q = true) : outS S' N <= outS S N := filter_le _ fun x hx => by
 cases hc : S x with
 | false => rfl
 | true => rw [h x hc] at hx; exact hx
theorem outS_lt {S S' : Nat -> Bool} {N p : Nat} (h : ∀ q, S q = true -> S' q = true) (hp : p < N) (h1 : S p = false) (h2 : S' p = true) : outS S' N < outS S N := filter_lt _ (fun x hx => by
 cases hc : S x with
 | false => rfl
 | true => rw [h x hc] at hx; exact hx) (List.mem_range.2 hp) (by rw [h2]; rfl) (by rw [h1]; rfl)
end Go.Proofs.YtbkpehfaofhmaaaGreatDoor

/- DBSets: sets of places in memory; reg's reach, and the search that it hands back: what they return and leave; nothing else is turned. -/
namespace Go.Proofs.YtbkpehfaofhmaaaGreatDoor
open Go.RowKit Go.Maps
theorem lawI : Keyed Tryz.prog 3 := int_keyed Tryz.underlying3
theorem zeroU (w : World) : (zeroValue 183).run Tryz.prog w = .ok (.agg #[]) w := by kernel_rfl
theorem wfN {p : Nat} (h : p < 9223372036854775808) : (Lit.int .i64 (p : Int)).wf = true := WalkArith.wf_i64 (by omega)
def SetAt (w : World) (b N : Nat) (S : Nat -> Bool) : Prop := ∃ D : DataW Unit, w.ownsMap Tryz.prog 3 unitElem b N D /\ (∀ p, S p = true -> p < N) /\ ∀ kl, Maps.has D kl = true ↔ ∃ p : Nat, kl = .int .i64 (p : Int) /\ S p = true
theorem has_iff {D : DataW Unit} {S : Nat -> Bool} (h : ∀ kl, Maps.has D kl = true ↔ ∃ p : Nat, kl = .int .i64 (p : Int) /\ S p = true) (p : Nat) : Maps.has D (.int .i64 (p : Int)) = S p := by
 rw [Bool.eq_iff_iff, h]
 constructor
 ·rintro ⟨q, e, hq⟩
  have : (p : Int) = (q : Int) := by injection e
  rw [show p = q from by omega]
  exact hq
 ·intro hp
  exact ⟨p, rfl, hp⟩
theorem size_bound {D : DataW Unit} (hD : Tidy D) {N : Nat} (h : ∀ kl, Maps.has D kl = true -> ∃ p : Nat, kl = .int .i64 (p : Int) /\ p < N) (hk : ∀ es, D = .map es -> ∀ e ∈ es, WideAt.IsKeyLit e.1) : Maps.size D <= N := by
 obtain ⟨es, rfl, hp⟩ := hD
 show es.length <= N
 have hex : ∀ e ∈ es, ∃ p : Nat, e.1 = .int .i64 (p : Int) /\ p < N := fun e he => h e.1 (List.any_eq_true.2 ⟨e, he, WideAt.sameKey_self (hk es rfl e he)⟩)
 clear h hk
 induction N generalizing es with
 | zero =>
  cases es with
  | nil => exact Nat.le_refl _
  | cons e r => obtain ⟨p, _, hp⟩ := hex e (List.mem_cons_self ..); omega
 | succ N ih =>
  have hsplit : (es.filter (fun e => !(e.1.sameKey (.int .i64 (N : Int))))).length + 1 ≥ es.length := by
   have := Maps.length_strike (k := .int .i64 (N : Int)) es hp
   split at this <;> omega
  have := ih (es.filter (fun e => !(e.1.sameKey (.int .i64 (N : Int))))) (hp.filter _) (fun e he => by
   rw [List.mem_filter] at he
   obtain ⟨p, e1, hp⟩ := hex e he.1
   refine ⟨p, e1, ?_⟩
   rcases Nat.lt_or_ge p N with hlt | hge
   ·exact hlt
   ·exfalso
    obtain rfl : p = N := by omega
    have h2 := he.2
    rw [e1, WideAt.sameKey_self (by trivial)] at h2
    cases h2)
  omega
theorem owns_size {w : World} {b n : Nat} {D : DataW Unit} (h : w.ownsMap Tryz.prog 3 unitElem b n D) {N : Nat} (hN : Maps.size D <= N) : w.ownsMap Tryz.prog 3 unitElem b N D := by
 obtain ⟨es, clock, hb, F, hs, rfl⟩ := h
 refine ⟨es, clock, hb, F, ?_, rfl⟩
 simpa [Maps.size, length_sorted] using hN
theorem set_of {w : World} {b n N : Nat} {D : DataW Unit} {S : Nat -> Bool} (h : w.ownsMap Tryz.prog 3 unitElem b n D) (hS : ∀ p, S p = true -> p < N) (hD : ∀ kl, Maps.has D kl = true ↔ ∃ p : Nat, kl = .int .i64 (p : Int) /\ S p = true) : SetAt w b N S := by
 refine ⟨D, owns_size h (size_bound (h.tidy lawI) (fun kl hk => ?_) (fun es e x hx => ?_)), hS, hD⟩
 ·obtain ⟨p, e, hp⟩ := (hD kl).1 hk
  exact ⟨p, e, hS p hp⟩
 ·obtain ⟨es', e', _, hk⟩ := h.entries lawI
  rw [e] at e'
  cases e'
  exact hk x hx
theorem SetAt.kept {w w' : World} {row : Option Nat} {b N : Nat} {S : Nat -> Bool} (h : SetAt w b N S) (hg : w.grownBy w' row) (hne : some b ≠ row) : SetAt w' b N S := by
 obtain ⟨D, h1, h2⟩ := h
 exact ⟨D, h1.kept hg hne, h2⟩
theorem SetAt.lt {w : World} {b N : Nat} {S : Nat -> Bool} (h : SetAt w b N S) : b < w.heap.size := by
 obtain ⟨D, h1, _⟩ := h
 exact h1.lt
theorem SetAt.notCells {w : World} {b N : Nat} {S : Nat -> Bool} (h : SetAt w b N S) {c : Array Value} {t : TypeId} {fz : Nat × Nat} : w.heap[b]? ≠ some (.cells c t fz) := by
 obtain ⟨D, ⟨es, clock, hb, _⟩, _⟩ := h
 rw [hb]
 intro e
 cases e
theorem SetAt.others {w w' : World} {b N : Nat} {S : Nat -> Bool} (h : SetAt w b N S) (hg : w.grownBy w' (some b)) : ∀ (k : Nat) (c : Array Value) (t : TypeId), w.heap[k]? = some (.cells c t (0, 0)) -> w'.heap[k]? = w.heap[k]? := fun k c t hk =>
 hg.block k (Array.getElem?_eq_some_iff.1 hk).1 (fun e => by cases e; exact h.notCells hk)
def Places (w : World) (lv : Value) (F : List Place) : Prop := ∃ rs : List RawP, w.ownsRow 0 178 3 lv F.length (rowP rs) /\ ∀ (i : Nat) (x : Place), F[i]? = some x -> ∃ r, rs[i]? = some r /\ r.1 = x.1 /\ r.2.2 = x.2.2 /\ w.ownsRow 0 3 1 r.2.1 x.2.1.length (numsV x.2.1)
theorem Places.others {w w' : World} {lv : Value} {F : List Place} (h : Places w lv F) (hs : ∀ (b : Nat) (c : Array Value) (t : TypeId), w.heap[b]? = some (.cells c t (0, 0)) -> w'.heap[b]? = w.heap[b]?) : Places w' lv F := by
 obtain ⟨rs, h1, h2⟩ := h
 refine ⟨rs, owns_same h1 fun g hg => ?_, fun i x hx => ?_⟩
 ·obtain ⟨_, c, hc⟩ := owns_lt h1 hg
  exact hs g _ _ hc
 ·obtain ⟨r, r1, r2, r3, r4⟩ := h2 i x hx
  exact ⟨r, r1, r2, r3, owns_same r4 fun g hg => by
   obtain ⟨_, c, hc⟩ := owns_lt r4 hg
   exact hs g _ _ hc⟩
theorem PlanIn.places {A : Nat -> Prop} {w : World} {B : Nat} {gv : Value} {L : List Place} (h : PlanIn A w B gv L) : ∃ lv, w.heap[B]? = some (.cells #[gv, lv] 180 (0, 0)) /\ Places w lv L := by
 obtain ⟨v, rs, h⟩ := h
 refine ⟨v, h.plan, rs, h.row, fun i x hx => ?_⟩
 obtain ⟨r, h1, h2, h3, h4, _⟩ := h.each i x hx
 exact ⟨r, h1, h2, h3, h4⟩
theorem Places.slice {w : World} {lv : Value} {F : List Place} (h : Places w lv F) (h0 : 0 < F.length) : ∃ g cap, lv = .slice (some ⟨g, 0, none⟩) F.length cap /\ ∀ (i : Nat) (x : Place), F[i]? = some x →
  w.cell? ⟨g, i * 3, none⟩ = some (.int .u16 (x.1 : Int)) /\ w.cell? ⟨g, i * 3 + 2, none⟩ = some (.int .i64 (x.2.2 : Int)) /\ ∃ a n c, w.cell? ⟨g, i * 3 + 1, none⟩ = some (.slice a n c) /\ w.ownsRow 0 3 1 (.slice a n c) x.2.1.length (numsV x.2.1) := by
 obtain ⟨rs, h1, h2⟩ := h
 obtain ⟨g, cap, e, hc⟩ := owns_cell h1 h0
 refine ⟨g, cap, e, fun i x hx => ?_⟩
 obtain ⟨r, r1, r2, r3, r4⟩ := h2 i x hx
 obtain ⟨f0, f1, f2⟩ := rowP_at rs i r r1
 rw [r2] at f0
 rw [r3] at f2
 have hv : ∃ a n c, r.2.1 = .slice a n c := by
  rcases r4.2 with ⟨e, _⟩ | ⟨g', c', _, e, _⟩
  ·exact ⟨_, _, _, e⟩
  ·exact ⟨_, _, _, e⟩
 obtain ⟨a, n, c, e2⟩ := hv
 rw [e2] at f1 r4
 exact ⟨hc _ _ f0, hc _ _ f2, a, n, c, hc _ _ f1, r4⟩
def Clo (w : World) (bs B1 B2 B3 : Nat) (lv : Value) : Prop := Boxed w B1 170 lv /\ Boxed w B2 172 (.map (some bs)) /\ Boxed w B3 169 (.func (.func 146) #[] #[.pointer (some ⟨B2, 0, none⟩), .pointer (some ⟨B1, 0, none⟩), .pointer (some ⟨B3, 0, none⟩)])
theorem Clo.others {w w' : World} {bs B1 B2 B3 : Nat} {lv : Value} (h : Clo w bs B1 B2 B3 lv) (hs : ∀ (b : Nat) (c : Array Value) (t : TypeId), w.heap[b]? = some (.cells c t (0, 0)) -> w'.heap[b]? = w.heap[b]?) : Clo w' bs B1 B2 B3 lv :=
 ⟨(hs _ _ _ h.1).trans h.1, (hs _ _ _ h.2.1).trans h.2.1, (hs _ _ _ h.2.2).trans h.2.2⟩
set_option maxRecDepth 100000 in
set_option maxHeartbeats 1000000 in
theorem reach_calls (w : World) (a : Option Addr) (n c bs : Nat) :
  Calls Tryz.prog 111 #[.slice a n c, .map (some bs)] w fun e w' => e = .returned (.func (.func 146) #[] #[.pointer (some ⟨w.heap.size + 1, 0, none⟩), .pointer (some ⟨w.heap.size, 0, none⟩), .pointer (some ⟨w.heap.size + 1 + 1, 0, none⟩)]) /\ Clo w' bs w.heap.size (w.heap.size + 1) (w.heap.size + 1 + 1) (.slice a n c) /\ w.grownBy w' none := by
 have hmf : ∀ (fn : Fn) (first cap : Array Value) (w : World), (Instr.makeFunc fn first cap).run Tryz.prog w = .ok (.func fn first cap) w := fun _ _ _ _ => rfl
 obtain ⟨v, hv⟩ : ∃ v, v = Value.func (.func 146) #[] #[.pointer (some ⟨w.heap.size + 1, 0, none⟩), .pointer (some ⟨w.heap.size, 0, none⟩), .pointer (some ⟨w.heap.size + 1 + 1, 0, none⟩)] := ⟨_, rfl⟩
 have HE : Hid (Clo (((w.alloc (.cells #[.slice a n c] 170)).alloc (.cells #[.map (some bs)] 172)).alloc (.cells #[v] 169)) bs w.heap.size (w.heap.size + 1) (w.heap.size + 1 + 1) (.slice a n c) /\ w.grownBy (((w.alloc (.cells #[.slice a n c] 170)).alloc (.cells #[.map (some bs)] 172)).alloc (.cells #[v] 169)) none) := by
  have b1 : Boxed ((w.alloc (.cells #[.slice a n c] 170)).alloc (.cells #[.map (some bs)] 172)) (w.heap.size + 1) 172 (.map (some bs)) := by
   have := Boxed.new (w.alloc (.cells #[.slice a n c] 170)) 172 (.map (some bs))
   rwa [World.size_alloc] at this
  have b2 : Boxed (((w.alloc (.cells #[.slice a n c] 170)).alloc (.cells #[.map (some bs)] 172)).alloc (.cells #[v] 169)) (w.heap.size + 1 + 1) 169 v := by
   have := Boxed.new ((w.alloc (.cells #[.slice a n c] 170)).alloc (.cells #[.map (some bs)] 172)) 169 v
   rwa [World.size_alloc, World.size_alloc] at this
  refine ⟨⟨((Boxed.new w 170 (.slice a n c)).alloc (.cells #[.map (some bs)] 172)).alloc (.cells #[v] 169), b1.alloc _, ?_⟩, ((World.grownBy_alloc w _ none).trans (World.grownBy_alloc _ _ none)).trans (World.grownBy_alloc _ _ none)⟩
  rw [<- hv]
  exact b2
 have HV : Hid (v = Value.func (.func 146) #[] #[.pointer (some ⟨w.heap.size + 1, 0, none⟩), .pointer (some ⟨w.heap.size, 0, none⟩), .pointer (some ⟨w.heap.size + 1 + 1, 0, none⟩)]) := hv
 clear hv
 go_enter Tryz.func111, Tryz.ntmps111
 go_wp2
 go_ret
 exact ⟨rfl, by have := HE.out; rw [HV.out] at this; exact this⟩
end Go.Proofs.YtbkpehfaofhmaaaGreatDoor
