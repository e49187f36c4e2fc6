/-
  PROVED HERE: in a document each TOpen has a TClose behind it, of which it is the partner, and between them a document; nothing else has a partner; no program in it.
-/
import Derived.Test.YtgpopploimeeaaaDoc
namespace Go.Proofs.Ytgpopploimeeaaa



theorem opened_cons (l : List Tok) (k : Nat) (hk : k < l.length) : ∃ x, l[k]? = some x ∧ kindAt l k = x.k ∧ opened l ((k + 1 : Nat) : Int) = turn x k (opened l k) := by
  have hx : l[k]? = some l[k] := List.getElem?_eq_getElem hk
  exact ⟨_, hx, kindAt_some hx, opened_succ l k _ hx⟩
/-- What is open came there by a TOpen, and has been open since. -/
theorem opened_since (l : List Tok) (k : Nat) (hk : k ≤ l.length) (Q : List Int) (e : Int) (h : (Q ++ [e]) <+: opened l k) :
    ∃ n : Nat, e = n ∧ n < k ∧ kindAt l n = 1 ∧ opened l n = Q ∧ ∀ m : Nat, n < m → m ≤ k → (Q ++ [e]) <+: opened l m := by
  induction k with
  | zero =>
    rw [show ((0 : Nat) : Int) = 0 from rfl, opened_zero] at h
    have := h.length_le
    simp at this
  | succ k ih =>
    obtain ⟨x, hx, hkx, hs⟩ := opened_cons l k (by omega)
    have keep : (Q ++ [e]) <+: opened l k → ∃ n : Nat, e = n ∧ n < k + 1 ∧ kindAt l n = 1 ∧ opened l n = Q ∧ ∀ m : Nat, n < m → m ≤ k + 1 → (Q ++ [e]) <+: opened l m := by
      intro h'
      obtain ⟨n, h1, h2, h3, h4, h5⟩ := ih (by omega) h'
      refine ⟨n, h1, by omega, h3, h4, fun m hm hm' => ?_⟩
      by_cases hmk : m = k + 1
      · subst hmk
        exact h
      · exact h5 m hm (by omega)
    rw [hs] at h
    unfold turn at h
    split at h
    · rename_i h1
      rcases List.prefix_concat_iff.1 h with h2 | h2
      · obtain ⟨h3, h4⟩ := List.append_inj' h2 rfl
        obtain rfl : e = (k : Int) := by simpa using h4
        refine ⟨k, rfl, by omega, by rw [hkx, h1], h3.symm, fun m hm hm' => ?_⟩
        obtain rfl : m = k + 1 := by omega
        rw [hs]
        unfold turn
        rw [if_pos h1]
        exact h
      · exact keep h2
    · split at h
      · exact keep (h.trans (List.dropLast_prefix _))
      · exact keep h
theorem around_last (l : List Tok) (k : Nat) (hk : k ≤ l.length) (n : Nat) (h : around l k = n) : opened l k = opened l n ++ [(n : Int)] := by
  unfold around at h
  cases hg : (opened l k).getLast? with
  | none => rw [hg] at h; simp at h
  | some x =>
    rw [hg] at h
    obtain rfl : x = (n : Int) := by simpa using h
    obtain ⟨Q, hQ⟩ := List.getLast?_eq_some_iff.1 hg
    obtain ⟨n', e, _, _, h4, _⟩ := opened_since l k hk Q n (by rw [hQ]; exact List.prefix_refl _)
    obtain rfl : n = n' := by omega
    rw [hQ, h4]
theorem around_of (l : List Tok) (k : Nat) (Q : List Int) (e : Int) (h : opened l k = Q ++ [e]) : around l k = e := by
  unfold around
  rw [h]
  simp
/-- Where i is ended: as long as it is open no TClose ahead ends it. -/
theorem seek_at (l : List Tok) (i p : Nat) (hp : p < l.length) (hi : i < p) (hk : kindAt l p = 2) (ha : around l p = i) (hpre : ∀ m : Nat, i < m → m ≤ p → (opened l i ++ [(i : Int)]) <+: opened l m) :
    ∀ (m f : Nat), i < m → m ≤ p → m + f = l.length → seek l i m f = p := by
  intro m f
  induction f generalizing m with
  | zero => intro _ h2 h3; omega
  | succ f ih =>
    intro h1 h2 h3
    rw [seek]
    by_cases hmp : m = p
    · subst hmp
      rw [if_pos ⟨hk, ha⟩]
    · rw [if_neg, ih (m + 1) (by omega) (by omega) (by omega)]
      rintro ⟨h4, h5⟩
      have h6 := around_last l m (by omega) i h5
      obtain ⟨x, hx, hkx, hs⟩ := opened_cons l m (by omega)
      have h7 := (hpre (m + 1) (by omega) (by omega)).length_le
      rw [hs, h6] at h7
      unfold turn at h7
      rw [if_neg (by omega), if_pos (by omega), List.dropLast_concat, List.length_append, List.length_singleton] at h7
      omega
theorem partner_open (l : List Tok) (i : Nat) (hi : i < l.length) (hk : kindAt l i = 1) : partner l i = seek l i (i + 1) (l.length - (i + 1)) := by
  unfold partner
  rw [if_neg (by omega), Int.toNat_natCast, if_neg (by omega), if_pos hk]
theorem partner_close (l : List Tok) (i : Nat) (hi : i < l.length) (hk : kindAt l i = 2) : partner l i = around l i := by
  unfold partner
  rw [if_neg (by omega), Int.toNat_natCast, if_pos hk]
theorem partner_else (l : List Tok) (i : Nat) (h1 : kindAt l i ≠ 1) (h2 : kindAt l i ≠ 2) : partner l i = -1 := by
  unfold partner
  split
  · rfl
  · rw [Int.toNat_natCast, if_neg h2, if_neg h1]

/-- Each TClose of a document. -/
theorem pair_close (l : List Tok) (h : goes l 0 = some 0) (i : Nat) (hi : i < l.length) (hk : kindAt l i = 2) : ∃ n : Nat, n < i ∧ partner l i = n ∧ kindAt l n = 1 ∧ partner l n = i := by
  obtain ⟨x, hx, hd⟩ := drop_getD (l := l) (k := i) hi
  obtain ⟨_, hg⟩ := mx_step l i (by omega) h
  rw [hd] at hg
  obtain ⟨hw, _, _⟩ := goes_cons hg
  have hne : opened l i ≠ [] := by
    intro e
    rw [e] at hw
    unfold wrong at hw
    rw [kindAt_some hx] at hk
    simp [hk] at hw
  obtain ⟨Q, e, hQ⟩ : ∃ Q e, opened l i = Q ++ [e] := ⟨_, _, (List.dropLast_concat_getLast hne).symm⟩
  obtain ⟨n, rfl, h2, h3, h4, h5⟩ := opened_since l i (by omega) Q e (by rw [hQ]; exact List.prefix_refl _)
  have ha := around_of l i Q n hQ
  refine ⟨n, h2, by rw [partner_close l i hi hk, ha], h3, ?_⟩
  rw [partner_open l n (by omega) h3]
  exact seek_at l n i hi h2 hk ha (by rw [h4]; exact h5) (n + 1) _ (by omega) (by omega) (by omega)

theorem ends (l : List Tok) (h : goes l 0 = some 0) : opened l l.length = [] := by
  obtain ⟨_, i2⟩ := mx_step l l.length (Nat.le_refl _) h
  rw [List.drop_length, goes] at i2
  have := Option.some.inj i2
  exact List.length_eq_zero_iff.1 (by omega)
theorem first_end (l : List Tok) (h : goes l 0 = some 0) (i : Nat) (f : Nat) : ∀ m, i < m → m + f = l.length → (∀ m' : Nat, i < m' → m' ≤ m → (opened l i ++ [(i : Int)]) <+: opened l m') →
    ∃ p : Nat, i < p ∧ p < l.length ∧ kindAt l p = 2 ∧ opened l p = opened l i ++ [(i : Int)] ∧ ∀ m' : Nat, i < m' → m' ≤ p → (opened l i ++ [(i : Int)]) <+: opened l m' := by
  induction f with
  | zero =>
    intro m h1 h2 h3
    have h4 := (h3 m h1 (Nat.le_refl _)).length_le
    rw [show m = l.length from by omega, ends l h] at h4
    simp at h4
  | succ f ih =>
    intro m h1 h2 h3
    by_cases hp : (opened l i ++ [(i : Int)]) <+: opened l ((m + 1 : Nat) : Int)
    · refine ih (m + 1) (by omega) (by omega) (fun m' h4 h5 => ?_)
      by_cases hm : m' = m + 1
      · subst hm
        exact hp
      · exact h3 m' h4 (by omega)
    · obtain ⟨x, hx, hkx, hs⟩ := opened_cons l m (by omega)
      have h4 := h3 m h1 (Nat.le_refl _)
      rw [hs] at hp
      unfold turn at hp
      split at hp
      · exact absurd (h4.trans (List.prefix_append _ _)) hp
      · split at hp
        · rename_i _ h6
          refine ⟨m, h1, by omega, by rw [hkx, h6], ?_, h3⟩
          obtain ⟨R, hR⟩ := h4
          cases R with
          | nil => rw [← hR, List.append_nil]
          | cons y R =>
            exfalso
            apply hp
            rw [← hR, List.dropLast_append_of_ne_nil (by simp)]
            exact List.prefix_append _ _
        · exact absurd h4 hp

/-- Each TOpen of a document. -/
theorem pair_open (l : List Tok) (h : goes l 0 = some 0) (i : Nat) (hi : i < l.length) (hk : kindAt l i = 1) :
    ∃ p : Nat, i < p ∧ p < l.length ∧ partner l i = p ∧ partner l p = i ∧ around l p = i ∧ goes ((l.drop (i + 1)).take (p - (i + 1))) 0 = some 0 := by
  obtain ⟨x, hx, hkx, hs⟩ := opened_cons l i hi
  have hs1 : opened l ((i + 1 : Nat) : Int) = opened l i ++ [(i : Int)] := by rw [hs]; unfold turn; rw [if_pos (by omega)]
  obtain ⟨p, p1, p2, p3, p4, p5⟩ := first_end l h i (l.length - (i + 1)) (i + 1) (by omega) (by omega) (fun m h1 h2 => by
    obtain rfl : m = i + 1 := by omega
    rw [hs1]
    exact List.prefix_refl _)
  have ha := around_of l p _ _ p4
  refine ⟨p, p1, p2, ?_, by rw [partner_close l p p2 p3, ha], ha, ?_⟩
  · rw [partner_open l i hi hk]
    exact seek_at l i p p2 p1 p3 ha p5 (i + 1) _ (by omega) (by omega) (by omega)
  · have key : ∀ (f k : Nat), i < k → k + f = p → goes ((l.drop k).take f) ((opened l k).length - ((opened l i).length + 1)) = some 0 := by
      intro f
      induction f with
      | zero =>
        intro k _ h2
        obtain rfl : k = p := by omega
        rw [List.take_zero, goes, p4]
        simp
      | succ f ih =>
        intro k h1 h2
        obtain ⟨y, hy, hd⟩ := drop_getD (l := l) (k := k) (by omega)
        obtain ⟨_, hg⟩ := mx_step l k (by omega) h
        rw [hd] at hg
        obtain ⟨hw, hdp, _⟩ := goes_cons hg
        have hl1 := (p5 (k + 1) (by omega) (by omega)).length_le
        have hl0 := (p5 k (by omega) (by omega)).length_le
        have hlen : ((opened l ((k + 1 : Nat) : Int)).length : Int) = deeper y (opened l k).length := by rw [opened_succ l k y hy, turn_length hw]
        simp only [List.length_append, List.length_singleton] at hl1 hl0
        have hdd : deeper y ((opened l k).length - ((opened l i).length + 1)) = deeper y (opened l k).length - ((opened l i).length + 1) := by unfold deeper; split <;> (try split) <;> omega
        have hw2 : wrong y ((opened l k).length - ((opened l i).length + 1)) = false := by
          unfold wrong at *
          cases hr : rightT y with
          | false => rw [hr] at hw; simp at hw
          | true =>
            simp only [Bool.not_true, Bool.false_or, Bool.and_eq_false_iff, beq_eq_false_iff_ne]
            by_cases h2' : y.k = 2
            · right
              intro e
              unfold deeper at hlen
              rw [if_neg (by omega), if_pos h2'] at hlen
              omega
            · exact .inl h2'
        rw [hd, List.take_succ_cons, goes, hw2, hdd]
        simp only [Bool.false_eq_true, if_false]
        rw [if_neg (by omega), ← hlen]
        exact ih (k + 1) (by omega) (by omega)
    have := key (p - (i + 1)) (i + 1) (by omega) (by omega)
    rw [hs1] at this
    simpa using this
end Go.Proofs.Ytgpopploimeeaaa
