/-
  PROVED HERE: what the texts Pair, PTops, DApp, DPartS, Stk say (each has its own words below).
-/
import Derived.Test.YtgpopploimeeaaaCB2
import Derived.Test.YtgpopploimeeaaaCB1
import Derived.Laws.OwnMore
import Derived.Laws.Slices
import Derived.RegionTactic
import Derived.BigRegion
import Derived.BigQuiet
import Derived.Deep.QuietTactic
import Derived.Laws.Rows
/- Pair: in a document each TOpen has a TClose behind it, of which it is the partner, and between them a document; nothing else has a partner; no program in it. -/
namespace Go.Proofs.Ytgpopploimeeaaa



theorem opened_cons (l : List Tok) (k : Nat) (hk : k < l.length) : ∃ x, l[k]? = some x ∧ kindAt l k = x.k ∧ opened l ((k + 1 : Nat) : Int) = turn x k (opened l k) := by
  have hx : l[k]? = some l[k] := List.getElem?_eq_getElem hk
  exact ⟨_, hx, kindAt_some hx, opened_succ l k _ hx⟩
/-- What is open came there by a TOpen, and has been open since. -/
theorem opened_since (l : List Tok) (k : Nat) (hk : k ≤ l.length) (Q : List Int) (e : Int) (h : (Q ++ [e]) <+: opened l k) :
    ∃ n : Nat, e = n ∧ n < k ∧ kindAt l n = 1 ∧ opened l n = Q ∧ ∀ m : Nat, n < m → m ≤ k → (Q ++ [e]) <+: opened l m := by
  induction k with
  | zero =>
    rw [show ((0 : Nat) : Int) = 0 from rfl, opened_zero] at h
    have := h.length_le
    simp at this
  | succ k ih =>
    obtain ⟨x, hx, hkx, hs⟩ := opened_cons l k (by omega)
    have keep : (Q ++ [e]) <+: opened l k → ∃ n : Nat, e = n ∧ n < k + 1 ∧ kindAt l n = 1 ∧ opened l n = Q ∧ ∀ m : Nat, n < m → m ≤ k + 1 → (Q ++ [e]) <+: opened l m := by
      intro h'
      obtain ⟨n, h1, h2, h3, h4, h5⟩ := ih (by omega) h'
      refine ⟨n, h1, by omega, h3, h4, fun m hm hm' => ?_⟩
      by_cases hmk : m = k + 1
      · subst hmk
        exact h
      · exact h5 m hm (by omega)
    rw [hs] at h
    unfold turn at h
    split at h
    · rename_i h1
      rcases List.prefix_concat_iff.1 h with h2 | h2
      · obtain ⟨h3, h4⟩ := List.append_inj' h2 rfl
        obtain rfl : e = (k : Int) := by simpa using h4
        refine ⟨k, rfl, by omega, by rw [hkx, h1], h3.symm, fun m hm hm' => ?_⟩
        obtain rfl : m = k + 1 := by omega
        rw [hs]
        unfold turn
        rw [if_pos h1]
        exact h
      · exact keep h2
    · split at h
      · exact keep (h.trans (List.dropLast_prefix _))
      · exact keep h
theorem around_last (l : List Tok) (k : Nat) (hk : k ≤ l.length) (n : Nat) (h : around l k = n) : opened l k = opened l n ++ [(n : Int)] := by
  unfold around at h
  cases hg : (opened l k).getLast? with
  | none => rw [hg] at h; simp at h
  | some x =>
    rw [hg] at h
    obtain rfl : x = (n : Int) := by simpa using h
    obtain ⟨Q, hQ⟩ := List.getLast?_eq_some_iff.1 hg
    obtain ⟨n', e, _, _, h4, _⟩ := opened_since l k hk Q n (by rw [hQ]; exact List.prefix_refl _)
    obtain rfl : n = n' := by omega
    rw [hQ, h4]
theorem around_of (l : List Tok) (k : Nat) (Q : List Int) (e : Int) (h : opened l k = Q ++ [e]) : around l k = e := by
  unfold around
  rw [h]
  simp
/-- Where i is ended: as long as it is open no TClose ahead ends it. -/
theorem seek_at (l : List Tok) (i p : Nat) (hp : p < l.length) (hi : i < p) (hk : kindAt l p = 2) (ha : around l p = i) (hpre : ∀ m : Nat, i < m → m ≤ p → (opened l i ++ [(i : Int)]) <+: opened l m) :
    ∀ (m f : Nat), i < m → m ≤ p → m + f = l.length → seek l i m f = p := by
  intro m f
  induction f generalizing m with
  | zero => intro _ h2 h3; omega
  | succ f ih =>
    intro h1 h2 h3
    rw [seek]
    by_cases hmp : m = p
    · subst hmp
      rw [if_pos ⟨hk, ha⟩]
    · rw [if_neg, ih (m + 1) (by omega) (by omega) (by omega)]
      rintro ⟨h4, h5⟩
      have h6 := around_last l m (by omega) i h5
      obtain ⟨x, hx, hkx, hs⟩ := opened_cons l m (by omega)
      have h7 := (hpre (m + 1) (by omega) (by omega)).length_le
      rw [hs, h6] at h7
      unfold turn at h7
      rw [if_neg (by omega), if_pos (by omega), List.dropLast_concat, List.length_append, List.length_singleton] at h7
      omega
theorem partner_open (l : List Tok) (i : Nat) (hi : i < l.length) (hk : kindAt l i = 1) : partner l i = seek l i (i + 1) (l.length - (i + 1)) := by
  unfold partner
  rw [if_neg (by omega), Int.toNat_natCast, if_neg (by omega), if_pos hk]
theorem partner_close (l : List Tok) (i : Nat) (hi : i < l.length) (hk : kindAt l i = 2) : partner l i = around l i := by
  unfold partner
  rw [if_neg (by omega), Int.toNat_natCast, if_pos hk]
theorem partner_else (l : List Tok) (i : Nat) (h1 : kindAt l i ≠ 1) (h2 : kindAt l i ≠ 2) : partner l i = -1 := by
  unfold partner
  split
  · rfl
  · rw [Int.toNat_natCast, if_neg h2, if_neg h1]

/-- Each TClose of a document. -/
theorem pair_close (l : List Tok) (h : goes l 0 = some 0) (i : Nat) (hi : i < l.length) (hk : kindAt l i = 2) : ∃ n : Nat, n < i ∧ partner l i = n ∧ kindAt l n = 1 ∧ partner l n = i := by
  obtain ⟨x, hx, hd⟩ := drop_getD (l := l) (k := i) hi
  obtain ⟨_, hg⟩ := mx_step l i (by omega) h
  rw [hd] at hg
  obtain ⟨hw, _, _⟩ := goes_cons hg
  have hne : opened l i ≠ [] := by
    intro e
    rw [e] at hw
    unfold wrong at hw
    rw [kindAt_some hx] at hk
    simp [hk] at hw
  obtain ⟨Q, e, hQ⟩ : ∃ Q e, opened l i = Q ++ [e] := ⟨_, _, (List.dropLast_concat_getLast hne).symm⟩
  obtain ⟨n, rfl, h2, h3, h4, h5⟩ := opened_since l i (by omega) Q e (by rw [hQ]; exact List.prefix_refl _)
  have ha := around_of l i Q n hQ
  refine ⟨n, h2, by rw [partner_close l i hi hk, ha], h3, ?_⟩
  rw [partner_open l n (by omega) h3]
  exact seek_at l n i hi h2 hk ha (by rw [h4]; exact h5) (n + 1) _ (by omega) (by omega) (by omega)

theorem ends (l : List Tok) (h : goes l 0 = some 0) : opened l l.length = [] := by
  obtain ⟨_, i2⟩ := mx_step l l.length (Nat.le_refl _) h
  rw [List.drop_length, goes] at i2
  have := Option.some.inj i2
  exact List.length_eq_zero_iff.1 (by omega)
theorem first_end (l : List Tok) (h : goes l 0 = some 0) (i : Nat) (f : Nat) : ∀ m, i < m → m + f = l.length → (∀ m' : Nat, i < m' → m' ≤ m → (opened l i ++ [(i : Int)]) <+: opened l m') →
    ∃ p : Nat, i < p ∧ p < l.length ∧ kindAt l p = 2 ∧ opened l p = opened l i ++ [(i : Int)] ∧ ∀ m' : Nat, i < m' → m' ≤ p → (opened l i ++ [(i : Int)]) <+: opened l m' := by
  induction f with
  | zero =>
    intro m h1 h2 h3
    have h4 := (h3 m h1 (Nat.le_refl _)).length_le
    rw [show m = l.length from by omega, ends l h] at h4
    simp at h4
  | succ f ih =>
    intro m h1 h2 h3
    by_cases hp : (opened l i ++ [(i : Int)]) <+: opened l ((m + 1 : Nat) : Int)
    · refine ih (m + 1) (by omega) (by omega) (fun m' h4 h5 => ?_)
      by_cases hm : m' = m + 1
      · subst hm
        exact hp
      · exact h3 m' h4 (by omega)
    · obtain ⟨x, hx, hkx, hs⟩ := opened_cons l m (by omega)
      have h4 := h3 m h1 (Nat.le_refl _)
      rw [hs] at hp
      unfold turn at hp
      split at hp
      · exact absurd (h4.trans (List.prefix_append _ _)) hp
      · split at hp
        · rename_i _ h6
          refine ⟨m, h1, by omega, by rw [hkx, h6], ?_, h3⟩
          obtain ⟨R, hR⟩ := h4
          cases R with
          | nil => rw [← hR, List.append_nil]
          | cons y R =>
            exfalso
            apply hp
            rw [← hR, List.dropLast_append_of_ne_nil (by simp)]
            exact List.prefix_append _ _
        · exact absurd h4 hp

/-- Each TOpen of a document. -/
theorem pair_open (l : List Tok) (h : goes l 0 = some 0) (i : Nat) (hi : i < l.length) (hk : kindAt l i = 1) :
    ∃ p : Nat, i < p ∧ p < l.length ∧ partner l i = p ∧ partner l p = i ∧ around l p = i ∧ goes ((l.drop (i + 1)).take (p - (i + 1))) 0 = some 0 := by
  obtain ⟨x, hx, hkx, hs⟩ := opened_cons l i hi
  have hs1 : opened l ((i + 1 : Nat) : Int) = opened l i ++ [(i : Int)] := by rw [hs]; unfold turn; rw [if_pos (by omega)]
  obtain ⟨p, p1, p2, p3, p4, p5⟩ := first_end l h i (l.length - (i + 1)) (i + 1) (by omega) (by omega) (fun m h1 h2 => by
    obtain rfl : m = i + 1 := by omega
    rw [hs1]
    exact List.prefix_refl _)
  have ha := around_of l p _ _ p4
  refine ⟨p, p1, p2, ?_, by rw [partner_close l p p2 p3, ha], ha, ?_⟩
  · rw [partner_open l i hi hk]
    exact seek_at l i p p2 p1 p3 ha p5 (i + 1) _ (by omega) (by omega) (by omega)
  · have key : ∀ (f k : Nat), i < k → k + f = p → goes ((l.drop k).take f) ((opened l k).length - ((opened l i).length + 1)) = some 0 := by
      intro f
      induction f with
      | zero =>
        intro k _ h2
        obtain rfl : k = p := by omega
        rw [List.take_zero, goes, p4]
        simp
      | succ f ih =>
        intro k h1 h2
        obtain ⟨y, hy, hd⟩ := drop_getD (l := l) (k := k) (by omega)
        obtain ⟨_, hg⟩ := mx_step l k (by omega) h
        rw [hd] at hg
        obtain ⟨hw, hdp, _⟩ := goes_cons hg
        have hl1 := (p5 (k + 1) (by omega) (by omega)).length_le
        have hl0 := (p5 k (by omega) (by omega)).length_le
        have hlen : ((opened l ((k + 1 : Nat) : Int)).length : Int) = deeper y (opened l k).length := by rw [opened_succ l k y hy, turn_length hw]
        simp only [List.length_append, List.length_singleton] at hl1 hl0
        have hdd : deeper y ((opened l k).length - ((opened l i).length + 1)) = deeper y (opened l k).length - ((opened l i).length + 1) := by unfold deeper; split <;> (try split) <;> omega
        have hw2 : wrong y ((opened l k).length - ((opened l i).length + 1)) = false := by
          unfold wrong at *
          cases hr : rightT y with
          | false => rw [hr] at hw; simp at hw
          | true =>
            simp only [Bool.not_true, Bool.false_or, Bool.and_eq_false_iff, beq_eq_false_iff_ne]
            by_cases h2' : y.k = 2
            · right
              intro e
              unfold deeper at hlen
              rw [if_neg (by omega), if_pos h2'] at hlen
              omega
            · exact .inl h2'
        rw [hd, List.take_succ_cons, goes, hw2, hdd]
        simp only [Bool.false_eq_true, if_false]
        rw [if_neg (by omega), ← hlen]
        exact ih (k + 1) (by omega) (by omega)
    have := key (p - (i + 1)) (i + 1) (by omega) (by omega)
    rw [hs1] at this
    simpa using this
end Go.Proofs.Ytgpopploimeeaaa

/- PTops:  -/
namespace Go.Proofs.Ytgpopploimeeaaa

/-- Where what begins at k ends. -/
def endE (l : List Tok) (k : Nat) : Nat := (max (partner l k) (k : Int) + 1).toNat
/-- The places from k on, f of them, at which nothing is open. -/
def topsL (l : List Tok) : Nat → Nat → List Nat
  | _, 0 => []
  | k, f + 1 => if (opened l k).length = 0 then k :: topsL l (k + 1) f else topsL l (k + 1) f
def tops (l : List Tok) : List Nat := topsL l 0 l.length

theorem tok_at {l : List Tok} (h : goes l 0 = some 0) {k : Nat} (hk : k < l.length) : ∃ x, l[k]? = some x ∧ wrong x (opened l k).length = false := by
  obtain ⟨x, hx, hd⟩ := drop_getD (l := l) (k := k) hk
  obtain ⟨_, hg⟩ := mx_step l k (by omega) h
  rw [hd] at hg
  exact ⟨x, hx, (goes_cons hg).1⟩
theorem wrong_kind {x : Tok} {d : Int} (h : wrong x d = false) : (x.k = 0 ∨ x.k = 1 ∨ x.k = 2 ∨ x.k = 3) ∧ (d = 0 → x.k ≠ 2) := by
  unfold wrong at h
  rw [Bool.or_eq_false_iff] at h
  obtain ⟨h1, h2⟩ := h
  refine ⟨?_, fun hd e => by rw [hd, e] at h2; simp at h2⟩
  have h1 : rightT x = true := by simpa using h1
  unfold rightT at h1
  split at h1
  · omega
  · split at h1
    · omega
    · split at h1
      · omega
      · cases h1
theorem around_none (l : List Tok) (k : Nat) : around l k = -1 ↔ (opened l k).length = 0 := by
  have h1 := around_neg l k
  have h2 := around_fits l k
  constructor
  · intro e
    rw [e] at h1
    simpa using h1.symm
  · intro e
    rw [e] at h1
    have : around l k < 0 := by simpa using h1
    omega
theorem kidsL_tops {l : List Tok} (h : goes l 0 = some 0) : ∀ (f k : Nat) (out : List Int), k + f = l.length → kidsL l (-1) k f out = out ++ (topsL l k f).map (fun (n : Nat) => (n : Int))
  | 0, k, out, _ => by rw [kidsL, topsL, List.map_nil, List.append_nil]
  | f + 1, k, out, hk => by
    obtain ⟨x, hx, hw⟩ := tok_at h (k := k) (by omega)
    obtain ⟨h1, h2⟩ := wrong_kind hw
    rw [kidsL, if_neg (by omega), kidsL_tops h f (k + 1) _ (by omega), topsL]
    rw [kindAt_some hx]
    by_cases e : (opened l k).length = 0
    · have := h2 (by omega)
      rw [if_pos e, if_pos ⟨this, by omega, by omega, (around_none l k).2 e⟩, List.map_cons, List.append_assoc]
      rfl
    · rw [if_neg e, if_neg (fun hh => e ((around_none l k).1 hh.2.2.2))]
theorem kids_tops {l : List Tok} (h : goes l 0 = some 0) : kids l (-1) = (tops l).map (fun (n : Nat) => (n : Int)) := by
  unfold kids tops
  rcases Nat.eq_zero_or_pos l.length with h0 | h0
  · rw [h0, topsL]
    split
    · rfl
    · rfl
  · rw [if_neg (by omega)]
    have := kidsL_tops h l.length 0 [] (by omega)
    rw [List.nil_append] at this
    exact this

/-- Where it ends nothing is open, and between something is. -/
theorem block_end {l : List Tok} (h : goes l 0 = some 0) {k : Nat} (hk : k < l.length) (ho : (opened l k).length = 0) :
    k < endE l k ∧ endE l k ≤ l.length ∧ (opened l (endE l k : Nat)).length = 0 ∧ (∀ m : Nat, k < m → m < endE l k → (opened l m).length ≠ 0) ∧ max (partner l k) (k : Int) + 1 = (endE l k : Int) := by
  obtain ⟨x, hx, hw⟩ := tok_at h hk
  obtain ⟨h1, h2⟩ := wrong_kind hw
  have h2 := h2 (by omega)
  have hs := opened_succ l k x hx
  have hn := List.length_eq_zero_iff.1 ho
  by_cases h3 : x.k = 1
  · have hk1 : kindAt l k = 1 := by rw [kindAt_some hx, h3]
    have hs1 : opened l ((k + 1 : Nat) : Int) = opened l k ++ [(k : Int)] := by rw [hs]; unfold turn; rw [if_pos h3]
    obtain ⟨p, p1, p2, p3, p4, p5⟩ := first_end l h k (l.length - (k + 1)) (k + 1) (by omega) (by omega) (fun m h1 h2 => by
      obtain rfl : m = k + 1 := by omega
      rw [hs1]
      exact List.prefix_refl _)
    have ha := around_of l p _ _ p4
    have hp : partner l k = p := by
      rw [partner_open l k hk hk1]
      exact seek_at l k p p2 p1 p3 ha p5 (k + 1) _ (by omega) (by omega) (by omega)
    have he : endE l k = p + 1 := by unfold endE; rw [hp]; omega
    obtain ⟨y, hy, hky, hs2⟩ := opened_cons l p p2
    rw [he]
    refine ⟨by omega, by omega, ?_, fun m m1 m2 => ?_, by rw [hp]; omega⟩
    · rw [hs2, p4, hn]
      unfold turn
      rw [if_neg (by omega), if_pos (by omega)]
      rfl
    · have := (p5 m m1 (by omega)).length_le
      rw [List.length_append, List.length_singleton] at this
      omega
  · have hp : partner l k = -1 := partner_else l k (by rw [kindAt_some hx]; exact h3) (by rw [kindAt_some hx]; exact h2)
    have he : endE l k = k + 1 := by unfold endE; rw [hp]; omega
    rw [he]
    refine ⟨by omega, by omega, ?_, fun m m1 m2 => by omega, by rw [hp]; omega⟩
    rw [hs]
    unfold turn
    rw [if_neg h3, if_neg h2]
    exact ho

theorem topsL_skip (l : List Tok) : ∀ (d k f : Nat), (∀ m, k ≤ m → m < k + d → (opened l m).length ≠ 0) → topsL l k (d + f) = topsL l (k + d) f
  | 0, k, f, _ => by rw [Nat.zero_add, Nat.add_zero]
  | d + 1, k, f, h => by
    rw [show d + 1 + f = (d + f) + 1 by omega, topsL, if_neg (h k (Nat.le_refl _) (by omega)), topsL_skip l d (k + 1) f (fun m m1 m2 => h m (by omega) (by omega))]
    rw [show k + 1 + d = k + (d + 1) by omega]
theorem topsL_next {l : List Tok} (h : goes l 0 = some 0) : ∀ (f k0 : Nat), k0 + f = l.length → ∀ i k, (topsL l k0 f)[i]? = some k → k0 ≤ k ∧ k < l.length ∧ (opened l k).length = 0 ∧ (topsL l k0 f)[i + 1]? = if endE l k < l.length then some (endE l k) else none
  | 0, k0, hk, i, k, hi => by
    rw [show topsL l k0 0 = [] from by unfold topsL; rfl] at hi
    simp at hi
  | f + 1, k0, hk, i, k, hi => by
    rw [topsL] at hi ⊢
    by_cases e : (opened l k0).length = 0
    · rw [if_pos e] at hi ⊢
      cases i with
      | zero =>
        obtain rfl : k0 = k := by simpa using hi
        refine ⟨Nat.le_refl _, by omega, e, ?_⟩
        obtain ⟨b1, b2, b3, b4, _⟩ := block_end h (k := k0) (by omega) e
        rw [List.getElem?_cons_succ]
        have hs := topsL_skip l (endE l k0 - (k0 + 1)) (k0 + 1) (l.length - endE l k0) (fun m m1 m2 => b4 m (by omega) (by omega))
        rw [show endE l k0 - (k0 + 1) + (l.length - endE l k0) = f by omega, show k0 + 1 + (endE l k0 - (k0 + 1)) = endE l k0 by omega] at hs
        rw [hs]
        by_cases e2 : endE l k0 < l.length
        · rw [if_pos e2]
          obtain ⟨g, hg⟩ : ∃ g, l.length - endE l k0 = g + 1 := ⟨l.length - endE l k0 - 1, by omega⟩
          rw [hg, topsL, if_pos b3]
          rfl
        · rw [if_neg e2, show l.length - endE l k0 = 0 by omega, topsL]
          rfl
      | succ i =>
        rw [List.getElem?_cons_succ] at hi ⊢
        obtain ⟨a1, a2, a3, a4⟩ := topsL_next h f (k0 + 1) (by omega) i k hi
        exact ⟨by omega, a2, a3, a4⟩
    · rw [if_neg e] at hi ⊢
      obtain ⟨a1, a2, a3, a4⟩ := topsL_next h f (k0 + 1) (by omega) i k hi
      exact ⟨by omega, a2, a3, a4⟩
/-- The i-th of them. -/
theorem tops_next {l : List Tok} (h : goes l 0 = some 0) {i k : Nat} (hi : (tops l)[i]? = some k) : k < l.length ∧ (opened l k).length = 0 ∧ (tops l)[i + 1]? = if endE l k < l.length then some (endE l k) else none := by
  obtain ⟨_, a2, a3, a4⟩ := topsL_next h l.length 0 (by omega) i k hi
  exact ⟨a2, a3, a4⟩
theorem topsL_length (l : List Tok) : ∀ (f k : Nat), (topsL l k f).length ≤ f
  | 0, k => by rw [topsL]; exact Nat.le_refl _
  | f + 1, k => by
    have := topsL_length l f (k + 1)
    rw [topsL]
    split
    · rw [List.length_cons]
      omega
    · omega

/-- The block that begins at k. -/
def blkAt (l : List Tok) (k : Nat) : List Tok := (l.drop k).take (endE l k - k)
/-- Which blocks are alike. -/
def likeB (l1 l2 : List Tok) (i j : Nat) : Bool :=
  match (tops l1)[i]?, (tops l2)[j]? with
  | some x, some y => eqL (blkAt l1 x) (blkAt l2 y)
  | _, _ => false
end Go.Proofs.Ytgpopploimeeaaa

/- DApp: parts of tokens put behind what a call owns, from none on. -/
namespace Go.Proofs.Ytgpopploimeeaaa
open Go.RowKit

/-- append of tokens to what the call owns, whatever it is. -/
theorem tok_append_any (base : Nat) (v : Value) (xs : List Tok) (W : World) (hown : W.ownsRow base 62 4 v xs.length (flat xs)) (hbase : base ≤ W.heap.size) (a : Option Addr) (len cap : Nat) (bs : List Tok) (hr : Toks W a len bs) (hz : a = none → cap = 0) (hsz : xs.length + len ≤ 4398046511104) :
    ∃ v' W1, (Builtin.append_ #[22, 22] 22 #[v, .slice a len cap]).run Try.prog W = .ok v' W1 ∧ W1.ownsRow base 62 4 v' (xs ++ bs).length (flat (xs ++ bs)) ∧
      (∀ w : World, Below base w W → Below base w W1) ∧ (∀ b, b < W.heap.size → v.ownBlock ≠ some b → W1.heap[b]? = W.heap[b]?) ∧ W.heap.size ≤ W1.heap.size := by
  obtain ⟨i0, hi, hz0, hz1, hz2⟩ := info_parts info23
  have hlen := hr.1
  cases a with
  | none =>
    obtain rfl : cap = 0 := hz rfl
    obtain rfl : len = 0 := by
      rcases hr.2 with h | ⟨b, o, h, _⟩
      · exact h
      · cases h
    obtain rfl : bs = [] := List.length_eq_zero_iff.1 hlen
    exact ⟨v, W, run_append_owned_none (P := Try.prog) W base 22 22 62 i0 4 Try.underlying22 hi v _ _ hown, by rw [List.append_nil]; exact hown, fun w h => h, fun b _ _ => rfl, Nat.le_refl _⟩
  | some p =>
    obtain ⟨v', W1, h1, h2, h3, _⟩ := run_append_own (P := Try.prog) W base 22 22 62 i0 _ 4 32 Try.underlying22 hi hz0 hz1 hz2 rfl (by decide) v xs.length _ hown p len cap (flat bs) (by rw [flat_length, hlen])
      (fun j u hj => by
        rcases hr.2 with h | ⟨b', o', e, _, hc⟩
        · obtain rfl : bs = [] := List.length_eq_zero_iff.1 (by omega)
          simp [flat] at hj
        · cases e
          rw [add_none]
          exact flat_cells bs o' hc j u hj) (flat_one bs) (by unfold maxLen; omega) (by omega) hbase
    rw [← flat_append] at h2
    rw [List.length_append, hlen]
    exact ⟨v', W1, h1, h2, fun w h => h.grown h3 hbase (fun k e => (World.ownsRow.lt hown _ e).1), fun b hb hne => h3.block b hb (fun e => hne e.symm), h3.size⟩
end Go.Proofs.Ytgpopploimeeaaa

/- DPartS: how a part of tokens that came in is taken, wherever they lie. -/
namespace Go.Proofs.Ytgpopploimeeaaa
open Go.RowKit

theorem wp_run_slice {o : Oper} {a : Act} {w : World} {K : Act → World → Prop} {Q : Exit → Act → World → Prop} (x : Operand) (lo hi : Option Operand) (t : TypeId) (ho : o.op = .slice t x lo hi none) (v u : Value) (hx : a.eval x = u)
    (hr : (Instr.sliceAt t u (lo.map a.eval) (hi.map a.eval) none).run Try.prog w = .ok v w) (h : K (a.put o.dst v) w) : o.wp Try.prog a w K Q := by
  unfold Oper.wp execOp
  simp only [ho, Sem.run_bind, Sem.run_pure, Option.map_none, hx, hr]
  exact h
theorem wpList_run_slice {ops : Array Oper} {rest : List Oper} {o : Oper} {a : Act} {w : World} {Q : Exit → Act → World → Prop} (hgd : o.guard = none) (x : Operand) (lo hi : Option Operand) (t : TypeId) (ho : o.op = .slice t x lo hi none)
    (v u : Value) (hx : a.eval x = u) (hr : (Instr.sliceAt t u (lo.map a.eval) (hi.map a.eval) none).run Try.prog w = .ok v w) (h : wpList Try.prog ops Q rest (a.put o.dst v) w) : wpList Try.prog ops Q (o :: rest) a w :=
  wpList_plain hgd fun _ hK => wp_run_slice x lo hi t ho v u hx hr (hK _ _ h)

theorem tok_size : sizeOf 62 = (sizeOf 62 : Sem Nat) := rfl
theorem run_tok_size (W : World) : (sizeOf 62).run Try.prog W = .ok 4 W := by
  obtain ⟨i0, hi, _, hz1, _⟩ := info_parts info23
  simp [sizeOf, typeInfo, hi, hz1]
/-- The address of a part. -/
def partA (a : Option Addr) (c f : Nat) : Option Addr := if c = f then a else a.map (·.add (f * 4))
theorem slice_lh (a : Option Addr) (n c f t : Nat) (hft : f ≤ t) (htc : t ≤ c) (W : World) :
    (Instr.sliceAt 22 (.slice a n c) (some (.int .i64 (f : Int))) (some (.int .i64 (t : Int))) none).run Try.prog W = .ok (.slice (partA a c f) (t - f) (c - f)) W := by
  have hu : Try.prog.underlying 22 = some (.slice (Try.prog.elem 22)) := Try.underlying22
  rw [run_sliceAt_slice (P := Try.prog) W 22 _ _ _ _ hu, run_slice_lh (P := Try.prog) W 22 a n c hu .i64 .i64 _ _ (by omega) (by omega) (by omega)]
  rw [show Try.prog.elem 22 = 62 from by kernel_rfl, run_tok_size]
  rfl
theorem slice_l (a : Option Addr) (n c f : Nat) (hfn : f ≤ n) (W : World) :
    (Instr.sliceAt 22 (.slice a n c) (some (.int .i64 (f : Int))) none none).run Try.prog W = .ok (.slice (partA a c f) (n - f) (c - f)) W := by
  have hu : Try.prog.underlying 22 = some (.slice (Try.prog.elem 22)) := Try.underlying22
  rw [run_sliceAt_slice (P := Try.prog) W 22 _ _ _ _ hu, run_slice_l (P := Try.prog) W 22 a n c hu .i64 _ (by omega) (by omega)]
  rw [show Try.prog.elem 22 = 62 from by kernel_rfl, run_tok_size]
  rfl
theorem Toks.partA {W : World} {a : Option Addr} {n c : Nat} {l : List Tok} (h : Toks W a n l) (hc : n ≤ c) (f k : Nat) (hf : f + k ≤ n) : Toks W (partA a c f) k ((l.drop f).take k) := by
  rcases Nat.eq_zero_or_pos k with h0 | h0
  · subst h0
    exact ⟨by simp, .inl rfl⟩
  · obtain ⟨b, o, x, rfl, _⟩ := h.token (show 0 < n by omega)
    unfold Go.Proofs.Ytgpopploimeeaaa.partA
    rw [if_neg (by omega)]
    show Toks W (some ((⟨b, o, none⟩ : Addr).add (f * 4))) k _
    rw [add_none]
    exact h.sub f k hf
theorem partA_none {a : Option Addr} {c f : Nat} (h : a = none → c = 0) (e : Go.Proofs.Ytgpopploimeeaaa.partA a c f = none) : c - f = 0 := by
  unfold Go.Proofs.Ytgpopploimeeaaa.partA at e
  by_cases hc : c = f
  · omega
  · rw [if_neg hc] at e
    cases a with
    | none => have := h rfl; omega
    | some p => cases e
end Go.Proofs.Ytgpopploimeeaaa

/- Stk: the stack of flat, push, pop, pass and top of it: what they leave and return; nothing else that lay before is turned. -/
namespace Go.Proofs.Ytgpopploimeeaaa
open Go.RowKit

/-- The cells of a stack that holds R, its rest being v. -/
def StkCells (v : Value) (R : List Int) (cs : Array Value) : Prop :=
  cs.size = 34 ∧ (∀ i, i < 32 → i < R.length → cs[i]? = some (.int .i64 (R.getD i 0))) ∧ (∀ i, i < 32 → ∃ z, cs[i]? = some (.int .i64 z)) ∧ cs[32]? = some v ∧ cs[33]? = some (.int .i64 (R.length : Int))
/-- The block g is a stack that holds R, its rest being v. -/
def Stk (w : World) (base g : Nat) (v : Value) (R : List Int) : Prop :=
  base ≤ g ∧ w.ownsRow base 3 1 v (R.length - 32) ((R.drop 32).map (Value.int .i64)) ∧ ∃ cs, w.heap[g]? = some (.cells cs 80 (0, 0)) ∧ StkCells v R cs

/-- Nothing but the blocks g and v is turned. -/
structure Kept (g : Nat) (v : Option Nat) (w w' : World) : Prop where
  os : w'.os = w.os
  tape : w'.tape = w.tape
  output : w'.output = w.output
  size : w.heap.size ≤ w'.heap.size
  block : ∀ k, k < w.heap.size → k ≠ g → some k ≠ v → w'.heap[k]? = w.heap[k]?
theorem Kept.refl (g : Nat) (v : Option Nat) (w : World) : Kept g v w w := ⟨rfl, rfl, rfl, Nat.le_refl _, fun _ _ _ _ => rfl⟩
theorem Kept.drew {g : Nat} {v : Option Nat} {w w' : World} (h : Kept g v w w') : Kept g v w w'.drew := ⟨h.os, h.tape, h.output, h.size, h.block⟩
theorem Kept.drewN {g : Nat} {v : Option Nat} {w w' : World} (h : Kept g v w w') (n : Nat) : Kept g v w (w'.drewN n) := ⟨h.os, h.tape, h.output, h.size, h.block⟩
theorem Kept.alloc {g : Nat} {v : Option Nat} {w w' : World} (h : Kept g v w w') (o : Obj) : Kept g v w (w'.alloc o) :=
  ⟨h.os, h.tape, h.output, by have := h.size; simp; omega, fun k h1 h2 h3 => (Below.heap_alloc w' o k (Nat.lt_of_lt_of_le h1 h.size)).trans (h.block k h1 h2 h3)⟩
theorem Kept.setCell {g : Nat} {v : Option Nat} {w w' : World} (h : Kept g v w w') (j : Nat) (u : Value) : Kept g v w (w'.setCell ⟨g, j, none⟩ u) :=
  ⟨h.os, h.tape, h.output, by simpa using h.size, fun k h1 h2 h3 => (Below.heap_setCell w' _ u k h2).trans (h.block k h1 h2 h3)⟩
theorem Kept.below {g : Nat} {v : Option Nat} {w w' : World} (h : Kept g v w w') {base : Nat} (hg : base ≤ g) (hv : ∀ k, v = some k → base ≤ k) (hb : base ≤ w.heap.size) : Below base w w' :=
  ⟨h.os, h.tape, h.output, h.size, fun k hk => h.block k (by omega) (by omega) (fun e => by have := hv k e.symm; omega)⟩

theorem own_base {w : World} {base : Nat} {e : TypeId} {v : Value} {n : Nat} {xs : List Value} (h : w.ownsRow base e 1 v n xs) : ∀ k, v.ownBlock = some k → base ≤ k ∧ k < w.heap.size ∧ ∃ cur, w.heap[k]? = some (.cells cur e (0, 0)) := by
  intro k hk
  rcases h.2 with ⟨rfl, _⟩ | ⟨g, cap, cur, rfl, hb, hg, _⟩
  · simp [Value.ownBlock] at hk
  · obtain rfl : g = k := by simpa [Value.ownBlock] using hk
    exact ⟨hb, (Array.getElem?_eq_some_iff.1 hg).1, cur, hg⟩
theorem Stk.apart {w : World} {base g : Nat} {v : Value} {R : List Int} (h : Stk w base g v R) : v.ownBlock ≠ some g := by
  intro e
  obtain ⟨_, h2, cs, h3, _⟩ := h
  obtain ⟨_, _, cur, h4⟩ := own_base h2 g e
  rw [h3] at h4
  have := (Obj.cells.inj (Option.some.inj h4)).2.1
  exact absurd this (by decide)
theorem own_set {w : World} {base : Nat} {e : TypeId} {v : Value} {n : Nat} {xs : List Value} (h : w.ownsRow base e 1 v n xs) (g j : Nat) (u : Value) (hg : v.ownBlock ≠ some g) : (w.setCell ⟨g, j, none⟩ u).ownsRow base e 1 v n xs := by
  obtain ⟨h1, h2 | ⟨b, cap, cur, rfl, hb, hc, h3⟩⟩ := h
  · exact ⟨h1, .inl h2⟩
  · refine ⟨h1, .inr ⟨b, cap, cur, rfl, hb, ?_, h3⟩⟩
    rw [Below.heap_setCell w _ u b (by intro e; exact hg (by simp [Value.ownBlock, e]))]
    exact hc
/-- What a stack's cells are. -/
theorem Stk.cells {w : World} {base g : Nat} {v : Value} {R : List Int} (h : Stk w base g v R) : w.cell? ⟨g, 32, none⟩ = some v ∧ w.cell? ⟨g, 33, none⟩ = some (.int .i64 (R.length : Int)) ∧ (∀ i, i < 32 → ∃ z, w.cell? ⟨g, i, none⟩ = some (.int .i64 z)) ∧ (∀ i, i < 32 → i < R.length → w.cell? ⟨g, i, none⟩ = some (.int .i64 (R.getD i 0))) ∧ (∀ i, w.frozen? ⟨g, i, none⟩ = false) ∧ g < w.heap.size := by
  obtain ⟨_, _, cs, hg, h0, h1, h2, h3, h4⟩ := h
  have hc := fun j => cell_of_row w g j cs _ _ hg
  refine ⟨(hc 32).trans h3, (hc 33).trans h4, fun i hi => ?_, fun i hi hr => (hc i).trans (h1 i hi hr), fun i => ?_, (Array.getElem?_eq_some_iff.1 hg).1⟩
  · obtain ⟨z, hz⟩ := h2 i hi
    exact ⟨z, (hc i).trans hz⟩
  · simp [World.frozen?, hg]
end Go.Proofs.Ytgpopploimeeaaa
