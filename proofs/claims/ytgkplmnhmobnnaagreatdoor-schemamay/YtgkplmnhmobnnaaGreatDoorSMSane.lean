/-
  PROVED HERE: what reg's Check lets by: right trees whose places are right and few.
-/
import Derived.Test.YtgkplmnhmobnnaaGreatDoorSM18
namespace Go.Proofs.YtgkplmnhmobnnaaGreatDoor
open Go.RowKit

section
variable {T : Type} (K : T → Int) (M : T → Nat) (U : T → List T)
/-- No place takes more than sixteen types; none has more than m ways. -/
def Few (m : Nat) (L : List Place) : Prop := ∀ (i : Nat) (x : Place), L[i]? = some x → x.1 < 65536 ∧ x.2.1.length ≤ m
theorem Few.snoc {m : Nat} {L : List Place} (h : Few m L) {y : Place} (h1 : y.1 < 65536) (h2 : y.2.1.length ≤ m) : Few m (L ++ [y]) := by
  intro i x hx
  rcases Nat.lt_or_ge i L.length with hi | hi
  · rw [get_snoc_lt hi] at hx
    exact h i x hx
  · have : i = L.length := by
      have := (List.getElem?_eq_some_iff.1 hx).1
      simp at this
      omega
    subst this
    rw [get_snoc_eq] at hx
    cases hx
    exact ⟨h1, h2⟩
theorem Few.next {m : Nat} {L : List Place} (h : Few m L) {i q : Nat} {y : Place} (hy : L[i]? = some y) (h2 : y.2.1.length + 1 ≤ m) : Few m (addNext L i q) := by
  intro j x hx
  by_cases e : j = i
  · subst e
    rw [addNext_eq hy] at hx
    cases hx
    exact ⟨(h j y hy).1, by simpa using h2⟩
  · rw [addNext_ne e] at hx
    exact h j x hx
theorem seq_few {f : T → Nat → List Place → List Place × Nat} {m : Nat} : ∀ (l : List T), (∀ x ∈ l, ∀ next L, Few m L → Few m (f x next L).1) → ∀ next L, Few m L → Few m (laySeq f l next L).1 := by
  intro l
  induction l with
  | nil => intro _ next L h; exact h
  | cons x r ih => intro h next L hL; rw [laySeq]; exact ih (fun y hy => h y (List.mem_cons_of_mem _ hy)) _ _ (h x (List.mem_cons_self ..) _ _ hL)
theorem alt_few {f : T → Nat → List Place → List Place × Nat} {m : Nat} (next : Nat) : ∀ (l : List T), (∀ x ∈ l, ∀ next L, Few m L → Few m (f x next L).1) → ∀ L ws, Few m L → Few m (layAlt f next l L ws).1 ∧ (layAlt f next l L ws).2.length = ws.length + l.length := by
  intro l
  induction l with
  | nil => intro _ L ws h; exact ⟨h, rfl⟩
  | cons x r ih =>
    intro h L ws hL
    rw [layAlt]
    obtain ⟨h1, h2⟩ := ih (fun y hy => h y (List.mem_cons_of_mem _ hy)) (f x next L).1 (ws ++ [(f x next L).2]) (h x (List.mem_cons_self ..) _ _ hL)
    refine ⟨h1, ?_⟩
    rw [h2]
    simp
    omega
theorem lay_few (hM : ∀ t, M t < 65536) (m : Nat) (hm : 2 ≤ m) : ∀ (n : Nat) (t : T), Sane K M U n t → size U n t ≤ m → ∀ next L, wf L → next < L.length → Few m L → Few m (lay K M U n t next L).1 := by
  intro n
  induction n with
  | zero => intro t h; exact h.elim
  | succ n ih =>
    intro t hS hsz next L hL hn hF
    obtain ⟨s1, s3, s4, sk⟩ := hS
    have hgood : ∀ x ∈ U t, Good (lay K M U n) (size U n) x := fun x hx => lay_good K M U n x (sk x hx)
    have hszx : ∀ x ∈ U t, size U n x ≤ m := fun x hx => by
      have := sum_ge_mem (f := size U n) (U t) hx
      rw [size] at hsz
      omega
    rw [lay]
    by_cases k1 : K t = 1
    · rw [if_pos k1]
      exact hF.snoc (hM t) (by simp; omega)
    rw [if_neg k1]
    by_cases k2 : K t = 2
    · rw [if_pos k2]
      have : ∀ (l : List T), (∀ x ∈ l, x ∈ U t) → ∀ next L, wf L → next < L.length → Few m L → Few m (laySeq (lay K M U n) l next L).1 := by
        intro l
        induction l with
        | nil => intro _ next L _ _ h; exact h
        | cons x r ihl =>
          intro hl next L hL hn hF
          obtain ⟨a1, a2, _⟩ := hgood x (hl x (List.mem_cons_self ..)) next L hL hn
          rw [laySeq]
          exact ihl (fun y hy => hl y (List.mem_cons_of_mem _ hy)) _ _ a1 a2 (ih x (sk x (hl x (List.mem_cons_self ..))) (hszx x (hl x (List.mem_cons_self ..))) next L hL hn hF)
      exact this _ (fun x hx => List.mem_reverse.1 hx) next L hL hn hF
    rw [if_neg k2]
    by_cases k3 : K t = 3
    · rw [if_pos k3]
      have : ∀ (l : List T), (∀ x ∈ l, x ∈ U t) → ∀ L ws, wf L → next < L.length → Few m L → Few m (layAlt (lay K M U n) next l L ws).1 ∧ (layAlt (lay K M U n) next l L ws).2.length = ws.length + l.length := by
        intro l
        induction l with
        | nil => intro _ L ws _ _ h; exact ⟨h, rfl⟩
        | cons x r ihl =>
          intro hl L ws hL hn hF
          obtain ⟨a1, a2, a3, _⟩ := hgood x (hl x (List.mem_cons_self ..)) next L hL hn
          rw [layAlt]
          obtain ⟨h1, h2⟩ := ihl (fun y hy => hl y (List.mem_cons_of_mem _ hy)) (lay K M U n x next L).1 (ws ++ [(lay K M U n x next L).2]) a1 (by omega) (ih x (sk x (hl x (List.mem_cons_self ..))) (hszx x (hl x (List.mem_cons_self ..))) next L hL hn hF)
          refine ⟨h1, ?_⟩
          rw [h2]
          simp
          omega
      obtain ⟨h1, h2⟩ := this (U t) (fun x hx => hx) L [] hL hn hF
      refine h1.snoc (by show 0 < 65536; decide) ?_
      show (layAlt (lay K M U n) next (U t) L []).2.length ≤ m
      rw [h2]
      have : (U t).length ≤ ((U t).map (size U n)).sum ∨ n = 0 := by
        cases n with
        | zero => exact .inr rfl
        | succ n =>
          left
          have : ∀ l : List T, l.length ≤ (l.map (size U (n + 1))).sum := by
            intro l
            induction l with
            | nil => exact Nat.le_refl _
            | cons x r ih =>
              have h1 : 1 ≤ size U (n + 1) x := by rw [size]; omega
              rw [List.map_cons, List.sum_cons, List.length_cons]
              omega
          exact this _
      rcases this with h | h
      · rw [size] at hsz
        simp
        omega
      · subst h
        cases hu : U t with
        | nil => simp
        | cons x r => exact (sk x (by rw [hu]; exact List.mem_cons_self ..)).elim
    rw [if_neg k3]
    have hloop : ∀ x, U t = [x] → Few m (layLoop (lay K M U n) [x] next L).1 := fun x hx => by
      have hxm : x ∈ U t := by rw [hx]; exact List.mem_singleton.2 rfl
      obtain ⟨c1, c2, c3, c4, c5⟩ := forkL_ok hL (ways := [next]) (by simp) (by simpa using hn) (m := leastAt L next) (by simp)
      obtain ⟨a1, a2, a3, a4, _⟩ := hgood x hxm L.length (forkL L [next]).1 c1 (by omega)
      have hf1 : Few m (forkL L [next]).1 := hF.snoc (by show 0 < 65536; decide) (by simp; omega)
      have hf2 := ih x (sk x hxm) (hszx x hxm) L.length (forkL L [next]).1 c1 (by omega) hf1
      rw [layLoop]
      exact hf2.next (y := (0, [next], forkLeast L [next])) ((a4 _ (by omega)).trans get_snoc_eq) (by simpa using hm)
    by_cases k4 : K t = 4
    · rw [if_pos k4]
      obtain ⟨x, hx⟩ := s4 (.inl k4)
      rw [hx]
      exact hloop x hx
    rw [if_neg k4]
    by_cases k5 : K t = 5
    · rw [if_pos k5]
      obtain ⟨x, hx⟩ := s4 (.inr (.inl k5))
      rw [hx]
      exact hloop x hx
    rw [if_neg k5]
    by_cases k6 : K t = 6
    · rw [if_pos k6]
      obtain ⟨x, hx⟩ := s4 (.inr (.inr k6))
      have hxm : x ∈ U t := by rw [hx]; exact List.mem_singleton.2 rfl
      rw [hx, layOpt]
      exact (ih x (sk x hxm) (hszx x hxm) next L hL hn hF).snoc (by show 0 < 65536; decide) (by simpa using hm)
    rw [if_neg k6]
    exact hF
end
theorem cnt_size : ∀ (n : Nat) (t : DataW Unit), cnt n t = (size subs n t : Int) := by
  intro n
  induction n with
  | zero => intro t; rfl
  | succ n ih =>
    intro t
    rw [cnt, size]
    have : ∀ l : List (DataW Unit), total (cnt n) l = ((l.map (size subs n)).sum : Int) := by
      intro l
      induction l with
      | nil => rfl
      | cons x r ihl => rw [total, ihl, ih]; simp
    rw [this]
    omega
theorem sane_of (gs : List Grp) : ∀ (n : Nat) (t : DataW Unit), rightE n t = true → nmd gs n t = true → SaneD gs n t := by
  intro n
  induction n with
  | zero => intro t h; cases h
  | succ n ih =>
    intro t hr hn
    rw [rightE, Bool.and_eq_true, List.all_eq_true] at hr
    obtain ⟨h1, h2⟩ := hr
    rw [nmd] at hn
    unfold SaneD
    rw [Sane]
    unfold shapely at h2
    have hlen0 : (subs t).length = 0 → subs t = [] := List.length_eq_zero_iff.1
    refine ⟨fun k1 => ?_, fun k => ?_, fun k => ?_, fun x hx => ?_⟩
    · rw [if_pos k1] at hn
      intro e
      rw [e] at hn
      cases hn
    · rw [if_neg (by omega), if_neg (by omega), if_neg (by omega), if_pos k] at h2
      simp at h2
      intro e
      rw [e] at h2
      simp at h2
    · rw [if_neg (by omega), if_neg (by omega), if_pos k] at h2
      simp at h2
      exact List.length_eq_one_iff.1 h2.2
    · by_cases k1 : kindT t = 1
      · rw [if_neg (by omega), if_pos k1] at h2
        simp at h2
        rw [h2.2] at hx
        cases hx
      · rw [if_neg k1, List.all_eq_true] at hn
        have := h1 x hx
        rw [Bool.and_eq_true] at this
        exact ih x this.2 (hn x hx)
theorem chk_zero {n : Nat} {t : DataW Unit} {gs : List Grp} (h : chk n t gs = 0) : SaneD gs n t ∧ rightG gs = true ∧ size subs n t ≤ 200 := by
  unfold chk at h
  split at h
  · rename_i hc
    split at h
    · rename_i hr
      split at h
      · rename_i hn
        unfold checkE at hc
        split at hc
        · cases hc
        · rename_i h1
          split at hc
          · rename_i h2
            refine ⟨sane_of gs n t h2 hn, hr, ?_⟩
            have := cnt_size n t
            omega
          · cases hc
      · cases h
    · cases h
  · rename_i hc
    exact absurd h hc
/-- The places of a tree: all behind the end. -/
def planF (gs : List Grp) (n : Nat) (t : DataW Unit) : List Place := (layD gs n t 0 [((0, [], 0) : Place)]).1
def firstF (gs : List Grp) (n : Nat) (t : DataW Unit) : Nat := (layD gs n t 0 [((0, [], 0) : Place)]).2
theorem plan_sound {n : Nat} {t : DataW Unit} {gs : List Grp} (h : chk n t gs = 0) : Sound1 (planF gs n t) (planF gs n t).length ∧ firstF gs n t < (planF gs n t).length := by
  obtain ⟨h1, h2, h3⟩ := chk_zero h
  obtain ⟨a1, a2, a3, a4, a5, a6⟩ := layD_good gs n t h1 0 [((0, [], 0) : Place)] wf_one (by simp)
  have hf := lay_few kindT (fun t => maskG gs (nameT t)) subs (fun t => maskG_lt gs h2 _) 200 (by decide) n t h1 h3 0 [((0, [], 0) : Place)] wf_one (by simp) (fun i x hx => by
    cases i with
    | zero => simp at hx; rw [← hx]; exact ⟨by decide, by decide⟩
    | succ i => simp at hx)
  refine ⟨⟨a1, rfl, ?_, fun i x hx => (hf i x hx).1, fun i x hx => Nat.le_trans (hf i x hx).2 (by decide)⟩, a2⟩
  have : (planF gs n t).length ≤ 1 + size subs n t := a6
  omega
end Go.Proofs.YtgkplmnhmobnnaaGreatDoor
