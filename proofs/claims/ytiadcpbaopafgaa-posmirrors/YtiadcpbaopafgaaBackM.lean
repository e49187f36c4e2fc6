/-
  PROVED HERE: plain mathematics: a place that is in no range comes back through the map turned round; a map turned round twice is itself.
-/
import Derived.Test.YtiadcpbaopafgaaOrder
import Derived.Test.YtiadcpbaopafgaaInv
namespace Go.Proofs.Ytiadcpbaopafgaa

/-- The map turned round, d the sum ahead of it. -/
def invD : List Rng → Int → List Rng
  | [], _ => []
  | x :: r, d => ⟨x.a + d, x.n, x.o⟩ :: invD r (d + x.n - x.o)
theorem invD_length (l : List Rng) : ∀ d, (invD l d).length = l.length := by
  induction l with
  | nil => intro d; rfl
  | cons x r ih => intro d; simp [invD, ih]
theorem invD_get (l : List Rng) : ∀ (d : Int) (k : Nat) (x : Rng), l[k]? = some x → (invD l d)[k]? = some ⟨x.a + d + shiftL (l.take k), x.n, x.o⟩ := by
  induction l with
  | nil => intro d k x h; simp at h
  | cons y r ih =>
    intro d k x h
    cases k with
    | zero =>
      obtain rfl : y = x := by simpa using h
      simp [invD, shiftL]
    | succ k =>
      have := ih (d + y.n - y.o) k x (by simpa using h)
      simp only [invD, List.getElem?_cons_succ, List.take_succ_cons, shiftL]
      rw [this]
      congr 2
      omega
theorem invL_invD (l : List Rng) : invL l = invD l 0 := by
  apply List.ext_getElem?
  intro k
  rcases Nat.lt_or_ge k l.length with h | h
  · have hx := nth_at h
    rw [invD_get l 0 k _ hx]
    unfold invL
    rw [List.getElem?_map, List.getElem?_eq_getElem (by simpa using h)]
    simp [invR]
  · rw [List.getElem?_eq_none (by unfold invL; simpa using h), List.getElem?_eq_none (by rw [invD_length]; exact h)]
theorem invD_invD (l : List Rng) : ∀ d, invD (invD l d) (-d) = l := by
  induction l with
  | nil => intro d; rfl
  | cons x r ih =>
    intro d
    have h1 : x.a + d + -d = x.a := by omega
    have h2 : -d + x.o - x.n = -(d + x.n - x.o) := by omega
    simp only [invD, h1, h2, ih]
theorem invL_twice (l : List Rng) : invL (invL l) = l := by
  rw [invL_invD, invL_invD]
  exact invD_invD l 0
/-- Not in any range. -/
def outside (l : List Rng) (p : Int) : Prop := ∀ x ∈ l, p < x.a ∨ x.a + x.o < p
theorem send_above : ∀ (l : List Rng) (e : Int) (i : Nat) (d p side : Int), rightL l e = true → outside l p → e < p → e + d < (sendL l i d p side).at' := by
  intro l
  induction l with
  | nil => intro e i d p side _ _ h; simp only [sendL]; omega
  | cons x r ih =>
    intro e i d p side h ho hp
    obtain ⟨h1, h2⟩ := rightL_cons h
    have hx := (rightR_iff x e).1 h1
    have hox := ho x (List.mem_cons_self ..)
    rw [sendL]
    split
    · simp only; omega
    · split
      · omega
      · have := ih (x.a + x.o) (i + 1) (d + x.n - x.o) p side h2 (fun y hy => ho y (List.mem_cons_of_mem _ hy)) (by omega)
        omega
theorem send_back : ∀ (l : List Rng) (e : Int) (i j : Nat) (d p side : Int), rightL l e = true → outside l p →
    (sendL l i d p side).gone = false ∧ (sendL l i d p side).inn = -1 ∧ (sendL (invD l d) j (-d) (sendL l i d p side).at' side).at' = p := by
  intro l
  induction l with
  | nil => intro e i j d p side _ _; refine ⟨rfl, rfl, ?_⟩; simp only [sendL, invD]; omega
  | cons x r ih =>
    intro e i j d p side h ho
    obtain ⟨h1, h2⟩ := rightL_cons h
    have hx := (rightR_iff x e).1 h1
    have hox := ho x (List.mem_cons_self ..)
    rw [sendL]
    by_cases c1 : p < x.a
    · rw [if_pos c1]
      refine ⟨rfl, rfl, ?_⟩
      simp only [invD, sendL]
      rw [if_pos (by omega)]
      simp only
      omega
    · rw [if_neg c1, if_neg (by omega)]
      have hor : outside r p := fun y hy => ho y (List.mem_cons_of_mem _ hy)
      obtain ⟨g1, g2, g3⟩ := ih (x.a + x.o) (i + 1) (j + 1) (d + x.n - x.o) p side h2 hor
      have hab := send_above r (x.a + x.o) (i + 1) (d + x.n - x.o) p side h2 hor (by omega)
      refine ⟨g1, g2, ?_⟩
      simp only [invD]
      rw [sendL]
      simp only
      rw [if_neg (by omega), if_neg (by omega)]
      rw [show -d + x.o - x.n = -(d + x.n - x.o) from by omega]
      exact g3
theorem inv_ok {l : List Rng} (h : invE l = 0) : right l = true ∧ right (invL l) = true ∧ inv l = invL l := by
  unfold invE at h
  split at h
  · rename_i h1
    exact ⟨h1.1, h1.2, by unfold inv; rw [if_pos h1]⟩
  · omega
theorem back_all {l : List Rng} {p side : Int} (h1 : mapE l p = 0) (h2 : invE l = 0) (h3 : (mapA l p side).at' ≤ 65536) (h4 : outside l p) :
    (mapA l p side).gone = false ∧ (mapA l p side).inn = -1 ∧ mapE (inv l) (mapA l p side).at' = 0 ∧ (mapA (inv l) (mapA l p side).at' side).at' = p ∧ invE (inv l) = 0 ∧ inv (inv l) = l := by
  obtain ⟨r1, r2⟩ := map_ok h1
  obtain ⟨_, r3, e⟩ := inv_ok h2
  rw [map_send r1 r2] at h3 ⊢
  rw [e]
  obtain ⟨g1, g2, g3⟩ := send_back l 0 0 0 0 p side (right_len r1).2 h4
  have hp := (within_iff p).1 r2
  have hlow := send_low l 0 0 0 p side (right_len r1).2 hp.1
  have hw : within (sendL l 0 0 p side).at' = true := (within_iff _).2 ⟨by omega, h3⟩
  refine ⟨g1, g2, map_zero r3 hw, ?_, ?_, ?_⟩
  · rw [map_send r3 hw, invL_invD]
    exact g3
  · unfold invE
    rw [invL_twice, if_pos ⟨r3, r1⟩]
  · unfold inv
    rw [invL_twice, if_pos ⟨r3, r1⟩]
end Go.Proofs.Ytiadcpbaopafgaa
