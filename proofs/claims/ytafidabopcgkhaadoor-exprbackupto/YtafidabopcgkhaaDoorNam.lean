/-
  PROVED HERE: what the plain parser reads has no long names; a tree in memory is as deep as it is.
-/
import Derived.Test.YtafidabopcgkhaaDoorPure5
namespace Go.Proofs.YtafidabopcgkhaaDoor
open Go.RowKit

def NamA (t : DataW Unit) : Prop := ∀ m, named m t
theorem NamA.node {k : Int} {s : ByteArray} {ts : List (DataW Unit)} (hs : s.size ≤ 1152921504606846976) (h : ∀ x ∈ ts, NamA x) : NamA (node k s ts) := by
  intro m
  cases m with
  | zero => trivial
  | succ m =>
    refine ⟨by rw [nameT_node]; exact hs, fun x hx => ?_⟩
    rw [subs_node] at hx
    exact h x hx m
theorem NamA.subs {t x : DataW Unit} (h : NamA t) (hx : x ∈ subs t) : NamA x := fun m => (h (m + 1)).2 x hx
def NamF (f : List UInt8 → Option (DataW Unit) × List UInt8) : Prop := ∀ s t q, f s = (some t, q) → s.length ≤ 200 → NamA t ∧ q.length ≤ 200
theorem signs_named : ∀ (s : List UInt8) (t : DataW Unit), NamA t → NamA (signsL t s).1 := by
  intro s
  induction s with
  | nil => intro t h; exact h
  | cons c r ih =>
    intro t h
    rw [signsL]
    split
    · exact ih t h
    · split
      · exact h
      · refine ih _ (NamA.node (by decide) fun x hx => ?_)
        obtain rfl : x = t := by simpa using hx
        exact h
theorem part_named {alt : List UInt8 → Option (DataW Unit) × List UInt8} (ha : NamF alt) (hs : Shr (partL alt)) : NamF (partL alt) := by
  intro s t q h hl
  refine ⟨?_, by have := hs s t q h; omega⟩
  have hsk := skip_length s
  unfold partL at h
  split at h
  · cases h
  · rename_i c r e
    rw [e] at hsk
    split at h
    · cases h
      refine signs_named _ _ (NamA.node ?_ fun x hx => by cases hx)
      have h1 := congrArg List.length (take_while (p := letter) (c :: r)).1
      rw [List.length_take] at h1
      show ((c :: r).takeWhile letter).toArray.size ≤ _
      rw [List.size_toArray]
      omega
    · split at h
      · rw [List.length_cons] at hsk
        split at h
        · cases h
        · cases h
        · rename_i t' d q' he
          split at h
          · cases h
            exact signs_named _ _ (ha r t' _ he (by omega)).1
          · cases h
      · cases h
theorem join_named {k : Int} {l : List (DataW Unit)} (h : ∀ x ∈ l, NamA x) (h0 : l ≠ []) : NamA (joinT k l) := by
  have hf : NamA (Go.Proofs.YtafidabopcgkhaaDoor.node k ⟨#[]⟩ (flatT k l)) := NamA.node (by decide) fun y hy => by
    rcases flat_mem k l y hy with hy | ⟨x, hx, hy⟩
    · exact h y hy
    · exact (h x hx).subs hy
  match l, h, h0, hf with
  | [x], h, _, _ => exact h x (List.mem_cons_self ..)
  | x :: y :: r, _, _, hf => exact hf
theorem seq_loop_named {part : List UInt8 → Option (DataW Unit) × List UInt8} (hp : NamF part) : ∀ (F : Nat) (l l' : List (DataW Unit)) (s q : List UInt8), seqLoop part F l s = (some l', q) → s.length ≤ 200 → (∀ x ∈ l, NamA x) → l ≠ [] → (∀ x ∈ l', NamA x) ∧ l' ≠ [] ∧ q.length ≤ 200 := by
  intro F
  induction F with
  | zero => intro l l' s q h; cases h
  | succ F ih =>
    intro l l' s q h hs hl h0
    cases s with
    | nil => cases h; exact ⟨hl, h0, by simp⟩
    | cons c r =>
      rw [seqLoop] at h
      split at h
      · cases h; exact ⟨hl, h0, hs⟩
      · split at h
        · cases h
        · rename_i t r' e
          have := hp _ _ _ e hs
          refine ih _ _ _ _ h this.2 (fun x hx => ?_) (by simp)
          rcases List.mem_append.1 hx with hx | hx
          · exact hl x hx
          · obtain rfl : x = t := by simpa using hx
            exact this.1
theorem alt_loop_named {seq : List UInt8 → Option (DataW Unit) × List UInt8} (hp : NamF seq) : ∀ (F : Nat) (l l' : List (DataW Unit)) (s q : List UInt8), altLoop seq F l s = (some l', q) → s.length ≤ 200 → (∀ x ∈ l, NamA x) → l ≠ [] → (∀ x ∈ l', NamA x) ∧ l' ≠ [] ∧ q.length ≤ 200 := by
  intro F
  induction F with
  | zero => intro l l' s q h; cases h
  | succ F ih =>
    intro l l' s q h hs hl h0
    cases s with
    | nil => cases h; exact ⟨hl, h0, by simp⟩
    | cons c r =>
      rw [altLoop] at h
      split at h
      · split at h
        · cases h
        · rename_i t r' e
          rw [List.length_cons] at hs
          have := hp _ _ _ e (by omega)
          refine ih _ _ _ _ h this.2 (fun x hx => ?_) (by simp)
          rcases List.mem_append.1 hx with hx | hx
          · exact hl x hx
          · obtain rfl : x = t := by simpa using hx
            exact this.1
      · cases h; exact ⟨hl, h0, hs⟩
theorem seq_named {part : List UInt8 → Option (DataW Unit) × List UInt8} (hp : NamF part) : NamF (seqL part) := by
  intro s t q h hs
  unfold seqL at h
  split at h
  · cases h
  · rename_i t0 r' e
    have h0 := hp _ _ _ e hs
    cases hL : seqLoop part (r'.length + 1) [t0] r' with
    | mk o q' =>
      rw [hL] at h
      cases o with
      | none => cases h
      | some l' =>
        cases h
        have := seq_loop_named hp _ _ _ _ _ hL h0.2 (fun x hx => by obtain rfl : x = t0 := by simpa using hx
                                                                    exact h0.1) (by simp)
        exact ⟨join_named this.1 this.2.1, this.2.2⟩
theorem alt_named {seq : List UInt8 → Option (DataW Unit) × List UInt8} (hp : NamF seq) : NamF (altL seq) := by
  intro s t q h hs
  unfold altL at h
  split at h
  · cases h
  · rename_i t0 r' e
    have h0 := hp _ _ _ e hs
    cases hL : altLoop seq (r'.length + 1) [t0] r' with
    | mk o q' =>
      rw [hL] at h
      cases o with
      | none => cases h
      | some l' =>
        cases h
        have := alt_loop_named hp _ _ _ _ _ hL h0.2 (fun x hx => by obtain rfl : x = t0 := by simpa using hx
                                                                    exact h0.1) (by simp)
        exact ⟨join_named this.1 this.2.1, this.2.2⟩
theorem altN_named : ∀ n, NamF (altN n) := by
  intro n
  induction n with
  | zero => intro s t q h; cases h
  | succ n ih => exact alt_named (seq_named (part_named ih (part_shr (altN_shr n))))
/-- A tree in memory, by its own depth. -/
theorem Ex.down {w : World} : ∀ (n : Nat) (t : DataW Unit) (v : Value) (m : Nat), Ex w n t v → dp n t ≤ m → Ex w m t v := by
  intro n
  induction n with
  | zero => intro t v m h; exact h.elim
  | succ n ih =>
    rintro t v m ⟨k, s, a, len, cap, ts, rfl, rfl, h3, h4, h5⟩ hd
    rw [dp, subs_node] at hd
    have hg := greatest_nonneg (dp n) ts
    cases m with
    | zero => omega
    | succ m =>
      refine ⟨k, s, a, len, cap, ts, rfl, rfl, h3, h4, ?_⟩
      rcases h5 with h5 | ⟨b, o, h5, h6, hc⟩
      · exact .inl h5
      · refine .inr ⟨b, o, h5, h6, fun i x hx => ?_⟩
        obtain ⟨k', s', a', len', cap', c0, c1, c2, c3⟩ := hc i x hx
        have := le_greatest (f := dp n) ts x (List.mem_of_getElem? hx)
        exact ⟨k', s', a', len', cap', c0, c1, c2, ih _ _ m c3 (by omega)⟩
end Go.Proofs.YtafidabopcgkhaaDoor
