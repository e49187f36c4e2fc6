/-
  PROVED HERE: what the plain parser reads has no long names; a tree in memory is as deep as it is.
-/
import Derived.Test.YtafidabopcgkhaaDoorNam
import Derived.Test.YtafidabopcgkhaaDoorTextE
namespace Go.Proofs.YtafidabopcgkhaaDoor
open Go.RowKit

def nam2 : Nat → DataW Unit → Prop
  | 0, _ => True
  | n + 1, t => (nameT t).size ≤ 200 ∧ ∀ x ∈ subs t, nam2 n x
def Nam2A (t : DataW Unit) : Prop := ∀ m, nam2 m t
theorem Nam2A.node {k : Int} {s : ByteArray} {ts : List (DataW Unit)} (hs : s.size ≤ 200) (h : ∀ x ∈ ts, Nam2A x) : Nam2A (node k s ts) := by
  intro m
  cases m with
  | zero => trivial
  | succ m =>
    refine ⟨by rw [nameT_node]; exact hs, fun x hx => ?_⟩
    rw [subs_node] at hx
    exact h x hx m
theorem Nam2A.subs {t x : DataW Unit} (h : Nam2A t) (hx : x ∈ subs t) : Nam2A x := fun m => (h (m + 1)).2 x hx
def Nam2F (f : List UInt8 → Option (DataW Unit) × List UInt8) : Prop := ∀ s t q, f s = (some t, q) → s.length ≤ 200 → Nam2A t ∧ q.length ≤ 200
theorem signs_named2 : ∀ (s : List UInt8) (t : DataW Unit), Nam2A t → Nam2A (signsL t s).1 := by
  intro s
  induction s with
  | nil => intro t h; exact h
  | cons c r ih =>
    intro t h
    rw [signsL]
    split
    · exact ih t h
    · split
      · exact h
      · refine ih _ (Nam2A.node (by decide) fun x hx => ?_)
        obtain rfl : x = t := by simpa using hx
        exact h
theorem part_named2 {alt : List UInt8 → Option (DataW Unit) × List UInt8} (ha : Nam2F alt) (hs : Shr (partL alt)) : Nam2F (partL alt) := by
  intro s t q h hl
  refine ⟨?_, by have := hs s t q h; omega⟩
  have hsk := skip_length s
  unfold partL at h
  split at h
  · cases h
  · rename_i c r e
    rw [e] at hsk
    split at h
    · cases h
      refine signs_named2 _ _ (Nam2A.node ?_ fun x hx => by cases hx)
      have h1 := congrArg List.length (take_while (p := letter) (c :: r)).1
      rw [List.length_take] at h1
      show ((c :: r).takeWhile letter).toArray.size ≤ _
      rw [List.size_toArray]
      omega
    · split at h
      · rw [List.length_cons] at hsk
        split at h
        · cases h
        · cases h
        · rename_i t' d q' he
          split at h
          · cases h
            exact signs_named2 _ _ (ha r t' _ he (by omega)).1
          · cases h
      · cases h
theorem join_named2 {k : Int} {l : List (DataW Unit)} (h : ∀ x ∈ l, Nam2A x) (h0 : l ≠ []) : Nam2A (joinT k l) := by
  have hf : Nam2A (Go.Proofs.YtafidabopcgkhaaDoor.node k ⟨#[]⟩ (flatT k l)) := Nam2A.node (by decide) fun y hy => by
    rcases flat_mem k l y hy with hy | ⟨x, hx, hy⟩
    · exact h y hy
    · exact (h x hx).subs hy
  match l, h, h0, hf with
  | [x], h, _, _ => exact h x (List.mem_cons_self ..)
  | x :: y :: r, _, _, hf => exact hf
theorem seq_loop_named2 {part : List UInt8 → Option (DataW Unit) × List UInt8} (hp : Nam2F part) : ∀ (F : Nat) (l l' : List (DataW Unit)) (s q : List UInt8), seqLoop part F l s = (some l', q) → s.length ≤ 200 → (∀ x ∈ l, Nam2A x) → l ≠ [] → (∀ x ∈ l', Nam2A x) ∧ l' ≠ [] ∧ q.length ≤ 200 := by
  intro F
  induction F with
  | zero => intro l l' s q h; cases h
  | succ F ih =>
    intro l l' s q h hs hl h0
    cases s with
    | nil => cases h; exact ⟨hl, h0, by simp⟩
    | cons c r =>
      rw [seqLoop] at h
      split at h
      · cases h; exact ⟨hl, h0, hs⟩
      · split at h
        · cases h
        · rename_i t r' e
          have := hp _ _ _ e hs
          refine ih _ _ _ _ h this.2 (fun x hx => ?_) (by simp)
          rcases List.mem_append.1 hx with hx | hx
          · exact hl x hx
          · obtain rfl : x = t := by simpa using hx
            exact this.1
theorem alt_loop_named2 {seq : List UInt8 → Option (DataW Unit) × List UInt8} (hp : Nam2F seq) : ∀ (F : Nat) (l l' : List (DataW Unit)) (s q : List UInt8), altLoop seq F l s = (some l', q) → s.length ≤ 200 → (∀ x ∈ l, Nam2A x) → l ≠ [] → (∀ x ∈ l', Nam2A x) ∧ l' ≠ [] ∧ q.length ≤ 200 := by
  intro F
  induction F with
  | zero => intro l l' s q h; cases h
  | succ F ih =>
    intro l l' s q h hs hl h0
    cases s with
    | nil => cases h; exact ⟨hl, h0, by simp⟩
    | cons c r =>
      rw [altLoop] at h
      split at h
      · split at h
        · cases h
        · rename_i t r' e
          rw [List.length_cons] at hs
          have := hp _ _ _ e (by omega)
          refine ih _ _ _ _ h this.2 (fun x hx => ?_) (by simp)
          rcases List.mem_append.1 hx with hx | hx
          · exact hl x hx
          · obtain rfl : x = t := by simpa using hx
            exact this.1
      · cases h; exact ⟨hl, h0, hs⟩
theorem seq_named2 {part : List UInt8 → Option (DataW Unit) × List UInt8} (hp : Nam2F part) : Nam2F (seqL part) := by
  intro s t q h hs
  unfold seqL at h
  split at h
  · cases h
  · rename_i t0 r' e
    have h0 := hp _ _ _ e hs
    cases hL : seqLoop part (r'.length + 1) [t0] r' with
    | mk o q' =>
      rw [hL] at h
      cases o with
      | none => cases h
      | some l' =>
        cases h
        have := seq_loop_named2 hp _ _ _ _ _ hL h0.2 (fun x hx => (show x = t0 by simpa using hx) ▸ h0.1) (by simp)
        exact ⟨join_named2 this.1 this.2.1, this.2.2⟩
theorem alt_named2 {seq : List UInt8 → Option (DataW Unit) × List UInt8} (hp : Nam2F seq) : Nam2F (altL seq) := by
  intro s t q h hs
  unfold altL at h
  split at h
  · cases h
  · rename_i t0 r' e
    have h0 := hp _ _ _ e hs
    cases hL : altLoop seq (r'.length + 1) [t0] r' with
    | mk o q' =>
      rw [hL] at h
      cases o with
      | none => cases h
      | some l' =>
        cases h
        have := alt_loop_named2 hp _ _ _ _ _ hL h0.2 (fun x hx => (show x = t0 by simpa using hx) ▸ h0.1) (by simp)
        exact ⟨join_named2 this.1 this.2.1, this.2.2⟩
theorem altN_named2 : ∀ n, Nam2F (altN n) := by
  intro n
  induction n with
  | zero => intro s t q h; cases h
  | succ n ih => exact alt_named2 (seq_named2 (part_named2 ih (part_shr (altN_shr n))))
theorem nam2_total {n : Nat} : ∀ (ts : List (DataW Unit)), (∀ x ∈ ts, wt n x ≤ 205 * cnt n x) → total (wt n) ts ≤ 205 * total (cnt n) ts := by
  intro ts
  induction ts with
  | nil => intro _; simp [total]
  | cons x r ih =>
    intro h
    have h1 := h x (List.mem_cons_self ..)
    have h2 := ih fun y hy => h y (List.mem_cons_of_mem _ hy)
    rw [total, total]
    omega
theorem nam2_wt : ∀ (n : Nat) (t : DataW Unit), nam2 n t → wt n t ≤ 205 * cnt n t := by
  intro n
  induction n with
  | zero => intro t _; simp [wt, cnt]
  | succ n ih =>
    intro t h
    have h1 := nam2_total (subs t) fun x hx => ih x (h.2 x hx)
    have h2 := h.1
    rw [wt, cnt]
    omega
end Go.Proofs.YtafidabopcgkhaaDoor
