/-
  PROVED HERE: what Check and the language say of two trees, one behind the other, and of a choice of two.
-/
import Derived.Test.YtijeegoabobgaaaAsks6
namespace Go.Proofs.Ytijeegoabobgaaa
open Go.RowKit

theorem greatest_mem {f : DataW Unit → Int} {ts : List (DataW Unit)} {x : DataW Unit} (h : x ∈ ts) : f x ≤ greatest f ts := by
  induction ts with
  | nil => cases h
  | cons y r ih =>
    rw [greatest]
    rcases List.mem_cons.1 h with rfl | h
    · omega
    · have := ih h
      omega
theorem chk_kid {n : Nat} {t x : DataW Unit} {gs : List Grp} (hk : kindT t ≠ 1) (hx : x ∈ subs t) (h : chk (n + 1) t gs = 0) : chk n x gs = 0 := by
  unfold chk at h ⊢
  split at h
  · rename_i h1
    split at h
    · rename_i h2
      split at h
      · rename_i h3
        have hE : checkE n x = 0 := by
          unfold checkE at h1 ⊢
          split at h1
          · cases h1
          · rename_i h4
            split at h1
            · rename_i h5
              rw [cnt, dp] at h4
              have a1 := total_mem (cnt_nonneg n) hx
              have a2 := greatest_mem (f := dp n) hx
              rw [rightE, Bool.and_eq_true, List.all_eq_true] at h5
              have a3 := h5.1 x hx
              rw [Bool.and_eq_true] at a3
              rw [if_neg (by omega), if_pos a3.2]
            · cases h1
        have hn : nmd gs n x = true := by
          rw [nmd, if_neg hk, List.all_eq_true] at h3
          exact h3 x hx
        rw [if_pos hE, if_pos h2, if_pos hn]
      · cases h
    · cases h
  · rename_i h1
    exact absurd h h1
theorem lang_seq2 (gs : List Grp) (n : Nat) (t u : DataW Unit) (zs : List Int) : LangD gs (n + 1) (node 2 ⟨#[]⟩ [t, u]) zs ↔ ∃ x y, zs = x ++ y ∧ LangD gs n t x ∧ LangD gs n u y := by
  unfold LangD
  rw [Lang, kindT_node, subs_node]
  simp only [show ¬ (2 : Int) = 1 from by decide, if_false, if_true, LSeq]
  constructor
  · rintro ⟨x, v, rfl, h1, y, e, rfl, h2, rfl⟩
    exact ⟨x, y, by simp, h1, h2⟩
  · rintro ⟨x, y, rfl, h1, h2⟩
    exact ⟨x, y, rfl, h1, y, [], by simp, h2, rfl⟩
theorem lang_alt2 (gs : List Grp) (n : Nat) (t u : DataW Unit) (zs : List Int) : LangD gs (n + 1) (node 3 ⟨#[]⟩ [t, u]) zs ↔ (LangD gs n t zs ∨ LangD gs n u zs) := by
  unfold LangD
  rw [Lang, kindT_node, subs_node]
  simp
theorem Ex.two {w : World} {n : Nat} {t u : DataW Unit} {b : Nat} {k l : Int} {s r : ByteArray} {a p : Option Addr} {len cap len' cap' c : Nat} (k' : Int) (hb : w.heap[b]? = some (.cells #[.int .i64 k, .string s, .slice a len cap, .int .i64 l, .string r, .slice p len' cap'] 24 (0, 0))) (h : Ex w n t (.agg #[.int .i64 k, .string s, .slice a len cap])) (h' : Ex w n u (.agg #[.int .i64 l, .string r, .slice p len' cap'])) : Ex w (n + 1) (node k' ⟨#[]⟩ [t, u]) (.agg #[.int .i64 k', .string ⟨#[]⟩, .slice (some ⟨b, 0, none⟩) 2 c]) := by
  refine ⟨k', ⟨#[]⟩, some ⟨b, 0, none⟩, 2, c, [t, u], rfl, rfl, rfl, by omega, .inr ⟨b, 0, rfl, (Array.getElem?_eq_some_iff.1 hb).1, fun i x hx => ?_⟩⟩
  cases i with
  | zero =>
    simp at hx
    subst hx
    exact ⟨k, s, a, len, cap, cell_of_row w b 0 _ _ _ hb, cell_of_row w b 1 _ _ _ hb, cell_of_row w b 2 _ _ _ hb, h⟩
  | succ i =>
    cases i with
    | zero =>
      simp at hx
      subst hx
      exact ⟨l, r, p, len', cap', cell_of_row w b 3 _ _ _ hb, cell_of_row w b 4 _ _ _ hb, cell_of_row w b 5 _ _ _ hb, h'⟩
    | succ i => simp at hx
theorem named_two {n : Nat} {t u : DataW Unit} (k : Int) (h : named n t) (h' : named n u) : named (n + 1) (node k ⟨#[]⟩ [t, u]) := by
  refine ⟨by rw [nameT_node]; decide, fun x hx => ?_⟩
  rw [subs_node] at hx
  simp at hx
  rcases hx with rfl | rfl
  · exact h
  · exact h'
end Go.Proofs.Ytijeegoabobgaaa
