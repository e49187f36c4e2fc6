/-
  PROVED HERE: what Check and the language say of a tree behind a sign.
-/
import Derived.Test.YtajabenlkmgjeaaDoorAwake
namespace Go.Proofs.YtajabenlkmgjeaaDoor
open Go.RowKit

theorem one_tree {n : Nat} {k : Int} {t : DataW Unit} {gs : List Grp} (hk : k = 4 ∨ k = 5 ∨ k = 6) : chk (n + 1) (node k ⟨#[]⟩ [t]) gs = 0 ↔ (1 + cnt n t ≤ 200 ∧ dp n t + 1 ≤ 60 ∧ kindT t ≠ 0 ∧ rightE n t = true ∧ rightG gs = true ∧ nmd gs n t = true) := by
  have hc : cnt (n + 1) (node k ⟨#[]⟩ [t]) = 1 + cnt n t := by rw [cnt, subs_node]; simp [total]
  have hd : dp (n + 1) (node k ⟨#[]⟩ [t]) = dp n t + 1 := by
    have := dp_nonneg n t
    rw [dp, subs_node]
    simp only [greatest]
    omega
  have hr : rightE (n + 1) (node k ⟨#[]⟩ [t]) = (!(kindT t == 0) && rightE n t) := by
    rw [rightE, subs_node, kindT_node, nameT_node]
    unfold shapely
    rw [if_neg (by omega), if_neg (by omega), if_pos hk]
    simp
  have hn : nmd gs (n + 1) (node k ⟨#[]⟩ [t]) = nmd gs n t := by
    rw [nmd, kindT_node, if_neg (by omega), subs_node]
    simp
  unfold chk
  rw [hn]
  have hE : checkE (n + 1) (node k ⟨#[]⟩ [t]) = 0 ↔ (1 + cnt n t ≤ 200 ∧ dp n t + 1 ≤ 60 ∧ kindT t ≠ 0 ∧ rightE n t = true) := by
    unfold checkE
    rw [hc, hd, hr]
    by_cases h1 : 200 < 1 + cnt n t ∨ 60 < dp n t + 1
    · rw [if_pos h1]
      constructor
      · intro e; cases e
      · rintro ⟨h2, h3, _⟩; omega
    · rw [if_neg h1]
      by_cases h2 : kindT t = 0
      · simp [h2]
      · cases h3 : rightE n t with
        | false => simp
        | true => simp [h2]; omega
  constructor
  · intro h
    split at h
    · rename_i h1
      split at h
      · rename_i h2
        split at h
        · rename_i h3
          obtain ⟨e1, e2, e3, e4⟩ := hE.1 h1
          exact ⟨e1, e2, e3, e4, h2, h3⟩
        · cases h
      · cases h
    · rename_i h1
      exact absurd h h1
  · rintro ⟨e1, e2, e3, e4, h2, h3⟩
    rw [if_pos (hE.2 ⟨e1, e2, e3, e4⟩), if_pos h2, if_pos h3]
theorem one_within {n : Nat} {k : Int} {t : DataW Unit} {gs : List Grp} (hk : k = 4 ∨ k = 5 ∨ k = 6) (h : chk (n + 1) (node k ⟨#[]⟩ [t]) gs = 0) : chk n t gs = 0 := by
  obtain ⟨e1, e2, e3, e4, h2, h3⟩ := (one_tree hk).1 h
  have : checkE n t = 0 := by
    unfold checkE
    rw [if_neg (by omega), if_pos e4]
  unfold chk
  rw [if_pos this, if_pos h2, if_pos h3]
theorem one_other {n : Nat} {k k' : Int} {t : DataW Unit} {gs : List Grp} (hk : k = 4 ∨ k = 5 ∨ k = 6) (hk' : k' = 4 ∨ k' = 5 ∨ k' = 6) (h : chk (n + 1) (node k ⟨#[]⟩ [t]) gs = 0) : chk (n + 1) (node k' ⟨#[]⟩ [t]) gs = 0 := (one_tree hk').2 ((one_tree hk).1 h)
theorem lang_opt (gs : List Grp) (n : Nat) (t : DataW Unit) (zs : List Int) : LangD gs (n + 1) (node 6 ⟨#[]⟩ [t]) zs ↔ (zs = [] ∨ LangD gs n t zs) := by
  unfold LangD
  rw [Lang, kindT_node, subs_node]
  simp
theorem lang_star (gs : List Grp) (n : Nat) (t : DataW Unit) (zs : List Int) : LangD gs (n + 1) (node 4 ⟨#[]⟩ [t]) zs ↔ ∃ m, LPow (LangD gs n t) m zs := by
  unfold LangD
  rw [Lang, kindT_node, subs_node]
  simp
theorem lang_plus (gs : List Grp) (n : Nat) (t : DataW Unit) (zs : List Int) : LangD gs (n + 1) (node 5 ⟨#[]⟩ [t]) zs ↔ ∃ m, LPow (LangD gs n t) (m + 1) zs := by
  unfold LangD
  rw [Lang, kindT_node, subs_node]
  simp
theorem pow_one {f : List Int → Prop} {a : List Int} (h : f a) : LPow f 1 a := ⟨a, [], by simp, h, rfl⟩
theorem pow_two {f : List Int → Prop} {a b : List Int} (h : f a) (h' : f b) : LPow f 2 (a ++ b) := ⟨a, b, rfl, h, pow_one h'⟩
theorem pow_nil {f : List Int → Prop} {m : Nat} (h : LPow f (m + 1) []) : f [] := by
  obtain ⟨u, v, e, h1, _⟩ := h
  have : u = [] := by
    cases u with
    | nil => rfl
    | cons x r => cases e
  rwa [this] at h1
/-- A tree that is laid behind a sign, in memory. -/
theorem Ex.behind {w : World} {n : Nat} {t : DataW Unit} {b : Nat} {k : Int} {s : ByteArray} {a : Option Addr} {len cap c : Nat} (k' : Int) (hb : w.heap[b]? = some (.cells #[.int .i64 k, .string s, .slice a len cap] 24 (0, 0))) (h : Ex w n t (.agg #[.int .i64 k, .string s, .slice a len cap])) : Ex w (n + 1) (node k' ⟨#[]⟩ [t]) (.agg #[.int .i64 k', .string ⟨#[]⟩, .slice (some ⟨b, 0, none⟩) 1 c]) := by
  refine ⟨k', ⟨#[]⟩, some ⟨b, 0, none⟩, 1, c, [t], rfl, rfl, rfl, by omega, .inr ⟨b, 0, rfl, (Array.getElem?_eq_some_iff.1 hb).1, fun i x hx => ?_⟩⟩
  cases i with
  | zero =>
    simp at hx
    subst hx
    exact ⟨k, s, a, len, cap, cell_of_row w b 0 _ _ _ hb, cell_of_row w b 1 _ _ _ hb, cell_of_row w b 2 _ _ _ hb, h⟩
  | succ i => simp at hx
theorem named_behind {n : Nat} {t : DataW Unit} (k : Int) (h : named n t) : named (n + 1) (node k ⟨#[]⟩ [t]) := by
  refine ⟨by rw [nameT_node]; decide, fun x hx => ?_⟩
  rw [subs_node] at hx
  simp at hx
  rw [hx]
  exact h
end Go.Proofs.YtajabenlkmgjeaaDoor
