/-
  PROVED HERE, plain: what stands in nothing in a document, and where each of it ends: there the next one begins.
-/
import Derived.Test.YtgpopploimeeaaaPair
namespace Go.Proofs.Ytgpopploimeeaaa

/-- Where what begins at k ends. -/
def endE (l : List Tok) (k : Nat) : Nat := (max (partner l k) (k : Int) + 1).toNat
/-- The places from k on, f of them, at which nothing is open. -/
def topsL (l : List Tok) : Nat → Nat → List Nat
  | _, 0 => []
  | k, f + 1 => if (opened l k).length = 0 then k :: topsL l (k + 1) f else topsL l (k + 1) f
def tops (l : List Tok) : List Nat := topsL l 0 l.length

theorem tok_at {l : List Tok} (h : goes l 0 = some 0) {k : Nat} (hk : k < l.length) : ∃ x, l[k]? = some x ∧ wrong x (opened l k).length = false := by
  obtain ⟨x, hx, hd⟩ := drop_getD (l := l) (k := k) hk
  obtain ⟨_, hg⟩ := mx_step l k (by omega) h
  rw [hd] at hg
  exact ⟨x, hx, (goes_cons hg).1⟩
theorem wrong_kind {x : Tok} {d : Int} (h : wrong x d = false) : (x.k = 0 ∨ x.k = 1 ∨ x.k = 2 ∨ x.k = 3) ∧ (d = 0 → x.k ≠ 2) := by
  unfold wrong at h
  rw [Bool.or_eq_false_iff] at h
  obtain ⟨h1, h2⟩ := h
  refine ⟨?_, fun hd e => by rw [hd, e] at h2; simp at h2⟩
  have h1 : rightT x = true := by simpa using h1
  unfold rightT at h1
  split at h1
  · omega
  · split at h1
    · omega
    · split at h1
      · omega
      · cases h1
theorem around_none (l : List Tok) (k : Nat) : around l k = -1 ↔ (opened l k).length = 0 := by
  have h1 := around_neg l k
  have h2 := around_fits l k
  constructor
  · intro e
    rw [e] at h1
    simpa using h1.symm
  · intro e
    rw [e] at h1
    have : around l k < 0 := by simpa using h1
    omega
theorem kidsL_tops {l : List Tok} (h : goes l 0 = some 0) : ∀ (f k : Nat) (out : List Int), k + f = l.length → kidsL l (-1) k f out = out ++ (topsL l k f).map (fun (n : Nat) => (n : Int))
  | 0, k, out, _ => by rw [kidsL, topsL, List.map_nil, List.append_nil]
  | f + 1, k, out, hk => by
    obtain ⟨x, hx, hw⟩ := tok_at h (k := k) (by omega)
    obtain ⟨h1, h2⟩ := wrong_kind hw
    rw [kidsL, if_neg (by omega), kidsL_tops h f (k + 1) _ (by omega), topsL]
    rw [kindAt_some hx]
    by_cases e : (opened l k).length = 0
    · have := h2 (by omega)
      rw [if_pos e, if_pos ⟨this, by omega, by omega, (around_none l k).2 e⟩, List.map_cons, List.append_assoc]
      rfl
    · rw [if_neg e, if_neg (fun hh => e ((around_none l k).1 hh.2.2.2))]
theorem kids_tops {l : List Tok} (h : goes l 0 = some 0) : kids l (-1) = (tops l).map (fun (n : Nat) => (n : Int)) := by
  unfold kids tops
  rcases Nat.eq_zero_or_pos l.length with h0 | h0
  · rw [h0, topsL]
    split
    · rfl
    · rfl
  · rw [if_neg (by omega)]
    have := kidsL_tops h l.length 0 [] (by omega)
    rw [List.nil_append] at this
    exact this

/-- Where it ends nothing is open, and between something is. -/
theorem block_end {l : List Tok} (h : goes l 0 = some 0) {k : Nat} (hk : k < l.length) (ho : (opened l k).length = 0) :
    k < endE l k ∧ endE l k ≤ l.length ∧ (opened l (endE l k : Nat)).length = 0 ∧ (∀ m : Nat, k < m → m < endE l k → (opened l m).length ≠ 0) ∧ max (partner l k) (k : Int) + 1 = (endE l k : Int) := by
  obtain ⟨x, hx, hw⟩ := tok_at h hk
  obtain ⟨h1, h2⟩ := wrong_kind hw
  have h2 := h2 (by omega)
  have hs := opened_succ l k x hx
  have hn := List.length_eq_zero_iff.1 ho
  by_cases h3 : x.k = 1
  · have hk1 : kindAt l k = 1 := by rw [kindAt_some hx, h3]
    have hs1 : opened l ((k + 1 : Nat) : Int) = opened l k ++ [(k : Int)] := by rw [hs]; unfold turn; rw [if_pos h3]
    obtain ⟨p, p1, p2, p3, p4, p5⟩ := first_end l h k (l.length - (k + 1)) (k + 1) (by omega) (by omega) (fun m h1 h2 => by
      obtain rfl : m = k + 1 := by omega
      rw [hs1]
      exact List.prefix_refl _)
    have ha := around_of l p _ _ p4
    have hp : partner l k = p := by
      rw [partner_open l k hk hk1]
      exact seek_at l k p p2 p1 p3 ha p5 (k + 1) _ (by omega) (by omega) (by omega)
    have he : endE l k = p + 1 := by unfold endE; rw [hp]; omega
    obtain ⟨y, hy, hky, hs2⟩ := opened_cons l p p2
    rw [he]
    refine ⟨by omega, by omega, ?_, fun m m1 m2 => ?_, by rw [hp]; omega⟩
    · rw [hs2, p4, hn]
      unfold turn
      rw [if_neg (by omega), if_pos (by omega)]
      rfl
    · have := (p5 m m1 (by omega)).length_le
      rw [List.length_append, List.length_singleton] at this
      omega
  · have hp : partner l k = -1 := partner_else l k (by rw [kindAt_some hx]; exact h3) (by rw [kindAt_some hx]; exact h2)
    have he : endE l k = k + 1 := by unfold endE; rw [hp]; omega
    rw [he]
    refine ⟨by omega, by omega, ?_, fun m m1 m2 => by omega, by rw [hp]; omega⟩
    rw [hs]
    unfold turn
    rw [if_neg h3, if_neg h2]
    exact ho

theorem topsL_skip (l : List Tok) : ∀ (d k f : Nat), (∀ m, k ≤ m → m < k + d → (opened l m).length ≠ 0) → topsL l k (d + f) = topsL l (k + d) f
  | 0, k, f, _ => by rw [Nat.zero_add, Nat.add_zero]
  | d + 1, k, f, h => by
    rw [show d + 1 + f = (d + f) + 1 by omega, topsL, if_neg (h k (Nat.le_refl _) (by omega)), topsL_skip l d (k + 1) f (fun m m1 m2 => h m (by omega) (by omega))]
    rw [show k + 1 + d = k + (d + 1) by omega]
theorem topsL_next {l : List Tok} (h : goes l 0 = some 0) : ∀ (f k0 : Nat), k0 + f = l.length → ∀ i k, (topsL l k0 f)[i]? = some k → k0 ≤ k ∧ k < l.length ∧ (opened l k).length = 0 ∧ (topsL l k0 f)[i + 1]? = if endE l k < l.length then some (endE l k) else none
  | 0, k0, hk, i, k, hi => by
    rw [show topsL l k0 0 = [] from by unfold topsL; rfl] at hi
    simp at hi
  | f + 1, k0, hk, i, k, hi => by
    rw [topsL] at hi ⊢
    by_cases e : (opened l k0).length = 0
    · rw [if_pos e] at hi ⊢
      cases i with
      | zero =>
        obtain rfl : k0 = k := by simpa using hi
        refine ⟨Nat.le_refl _, by omega, e, ?_⟩
        obtain ⟨b1, b2, b3, b4, _⟩ := block_end h (k := k0) (by omega) e
        rw [List.getElem?_cons_succ]
        have hs := topsL_skip l (endE l k0 - (k0 + 1)) (k0 + 1) (l.length - endE l k0) (fun m m1 m2 => b4 m (by omega) (by omega))
        rw [show endE l k0 - (k0 + 1) + (l.length - endE l k0) = f by omega, show k0 + 1 + (endE l k0 - (k0 + 1)) = endE l k0 by omega] at hs
        rw [hs]
        by_cases e2 : endE l k0 < l.length
        · rw [if_pos e2]
          obtain ⟨g, hg⟩ : ∃ g, l.length - endE l k0 = g + 1 := ⟨l.length - endE l k0 - 1, by omega⟩
          rw [hg, topsL, if_pos b3]
          rfl
        · rw [if_neg e2, show l.length - endE l k0 = 0 by omega, topsL]
          rfl
      | succ i =>
        rw [List.getElem?_cons_succ] at hi ⊢
        obtain ⟨a1, a2, a3, a4⟩ := topsL_next h f (k0 + 1) (by omega) i k hi
        exact ⟨by omega, a2, a3, a4⟩
    · rw [if_neg e] at hi ⊢
      obtain ⟨a1, a2, a3, a4⟩ := topsL_next h f (k0 + 1) (by omega) i k hi
      exact ⟨by omega, a2, a3, a4⟩
/-- The i-th of them. -/
theorem tops_next {l : List Tok} (h : goes l 0 = some 0) {i k : Nat} (hi : (tops l)[i]? = some k) : k < l.length ∧ (opened l k).length = 0 ∧ (tops l)[i + 1]? = if endE l k < l.length then some (endE l k) else none := by
  obtain ⟨_, a2, a3, a4⟩ := topsL_next h l.length 0 (by omega) i k hi
  exact ⟨a2, a3, a4⟩
theorem topsL_length (l : List Tok) : ∀ (f k : Nat), (topsL l k f).length ≤ f
  | 0, k => by rw [topsL]; exact Nat.le_refl _
  | f + 1, k => by
    have := topsL_length l f (k + 1)
    rw [topsL]
    split
    · rw [List.length_cons]
      omega
    · omega

/-- The block that begins at k. -/
def blkAt (l : List Tok) (k : Nat) : List Tok := (l.drop k).take (endE l k - k)
/-- Which blocks are alike. -/
def likeB (l1 l2 : List Tok) (i j : Nat) : Bool :=
  match (tops l1)[i]?, (tops l2)[j]? with
  | some x, some y => eqL (blkAt l1 x) (blkAt l2 y)
  | _, _ => false
end Go.Proofs.Ytgpopploimeeaaa
