/-
  PROVED HERE: the document's own comparision of two acts.
-/
import Derived.Test.YtmkcdkfjomaidaaDoorSBase
namespace Go.Proofs.YtmkcdkfjomaidaaDoor
open Go.RowKit

set_option maxRecDepth 100000 in
set_option maxHeartbeats 4000000 in
theorem rsame_calls (k a b c d n k' a' b' c' d' n' : Int) (p q : Option Addr) (pl pc ql qc : Nat) (w : World) :
    Calls Tryd.prog 23 #[.agg #[.int .i64 k, .int .i64 a, .int .i64 b, .int .i64 c, .int .i64 d, .int .i64 n, .slice p pl pc], .agg #[.int .i64 k', .int .i64 a', .int .i64 b', .int .i64 c', .int .i64 d', .int .i64 n', .slice q ql qc]] w fun e w' =>
      ∃ r, e = .returned (.bool r) ∧ (r = true ↔ (k = k' ∧ a = a' ∧ b = b' ∧ c = c' ∧ d = d' ∧ n = n' ∧ pl = 0 ∧ ql = 0)) ∧ Below w.heap.size w w' := by
  have HB : Hid (∀ o1 o2, Below w.heap.size w ((w.alloc o1).alloc o2)) := fun o1 o2 => by
    have h := (Below.refl _ w).alloc (Nat.le_refl _) o1
    exact h.alloc h.size o2
  by_cases h1 : k = k'
  · by_cases h2 : a = a'
    · by_cases h3 : b = b'
      · by_cases h4 : c = c'
        · by_cases h5 : d = d'
          · by_cases h6 : n = n'
            · by_cases h7 : pl = 0
              · by_cases h8 : ql = 0
                · subst h1 h2 h3 h4 h5 h6 h7 h8
                  go_enter Tryd.func23, Tryd.ntmps23
                  go_wp2
                  go_ret
                  exact ⟨true, rfl, by simp, HB.out _ _⟩
                · have e : ¬ (k = k' ∧ a = a' ∧ b = b' ∧ c = c' ∧ d = d' ∧ n = n' ∧ pl = 0 ∧ ql = 0) := fun e => h8 (e.2.2.2.2.2.2.2)
                  generalize (k = k' ∧ a = a' ∧ b = b' ∧ c = c' ∧ d = d' ∧ n = n' ∧ pl = 0 ∧ ql = 0) = P at *
                  have z7 : ¬ ((ql : Int) = 0) := by omega
                  subst h1 h2 h3 h4 h5 h6 h7
                  have HE := hide_ e
                  clear e
                  go_enter Tryd.func23, Tryd.ntmps23
                  go_wp2
                  go_ret
                  exact ⟨false, by first | rfl | simp [h8] | (simp; omega), ⟨fun e => (by cases e), fun e => absurd e HE.out⟩, HB.out _ _⟩
              · have e : ¬ (k = k' ∧ a = a' ∧ b = b' ∧ c = c' ∧ d = d' ∧ n = n' ∧ pl = 0 ∧ ql = 0) := fun e => h7 (e.2.2.2.2.2.2.1)
                generalize (k = k' ∧ a = a' ∧ b = b' ∧ c = c' ∧ d = d' ∧ n = n' ∧ pl = 0 ∧ ql = 0) = P at *
                have z6 : ¬ ((pl : Int) = 0) := by omega
                subst h1 h2 h3 h4 h5 h6
                have HE := hide_ e
                clear e
                go_enter Tryd.func23, Tryd.ntmps23
                go_wp2
                go_ret
                exact ⟨false, by first | rfl | simp [h7] | (simp; omega), ⟨fun e => (by cases e), fun e => absurd e HE.out⟩, HB.out _ _⟩
            · have e : ¬ (k = k' ∧ a = a' ∧ b = b' ∧ c = c' ∧ d = d' ∧ n = n' ∧ pl = 0 ∧ ql = 0) := fun e => h6 (e.2.2.2.2.2.1)
              generalize (k = k' ∧ a = a' ∧ b = b' ∧ c = c' ∧ d = d' ∧ n = n' ∧ pl = 0 ∧ ql = 0) = P at *
              subst h1 h2 h3 h4 h5
              have HE := hide_ e
              clear e
              go_enter Tryd.func23, Tryd.ntmps23
              go_wp2
              go_ret
              exact ⟨false, by first | rfl | simp [h6] | (simp; omega), ⟨fun e => (by cases e), fun e => absurd e HE.out⟩, HB.out _ _⟩
          · have e : ¬ (k = k' ∧ a = a' ∧ b = b' ∧ c = c' ∧ d = d' ∧ n = n' ∧ pl = 0 ∧ ql = 0) := fun e => h5 (e.2.2.2.2.1)
            generalize (k = k' ∧ a = a' ∧ b = b' ∧ c = c' ∧ d = d' ∧ n = n' ∧ pl = 0 ∧ ql = 0) = P at *
            subst h1 h2 h3 h4
            have HE := hide_ e
            clear e
            go_enter Tryd.func23, Tryd.ntmps23
            go_wp2
            go_ret
            exact ⟨false, by first | rfl | simp [h5] | (simp; omega), ⟨fun e => (by cases e), fun e => absurd e HE.out⟩, HB.out _ _⟩
        · have e : ¬ (k = k' ∧ a = a' ∧ b = b' ∧ c = c' ∧ d = d' ∧ n = n' ∧ pl = 0 ∧ ql = 0) := fun e => h4 (e.2.2.2.1)
          generalize (k = k' ∧ a = a' ∧ b = b' ∧ c = c' ∧ d = d' ∧ n = n' ∧ pl = 0 ∧ ql = 0) = P at *
          subst h1 h2 h3
          have HE := hide_ e
          clear e
          go_enter Tryd.func23, Tryd.ntmps23
          go_wp2
          go_ret
          exact ⟨false, by first | rfl | simp [h4] | (simp; omega), ⟨fun e => (by cases e), fun e => absurd e HE.out⟩, HB.out _ _⟩
      · have e : ¬ (k = k' ∧ a = a' ∧ b = b' ∧ c = c' ∧ d = d' ∧ n = n' ∧ pl = 0 ∧ ql = 0) := fun e => h3 (e.2.2.1)
        generalize (k = k' ∧ a = a' ∧ b = b' ∧ c = c' ∧ d = d' ∧ n = n' ∧ pl = 0 ∧ ql = 0) = P at *
        subst h1 h2
        have HE := hide_ e
        clear e
        go_enter Tryd.func23, Tryd.ntmps23
        go_wp2
        go_ret
        exact ⟨false, by first | rfl | simp [h3] | (simp; omega), ⟨fun e => (by cases e), fun e => absurd e HE.out⟩, HB.out _ _⟩
    · have e : ¬ (k = k' ∧ a = a' ∧ b = b' ∧ c = c' ∧ d = d' ∧ n = n' ∧ pl = 0 ∧ ql = 0) := fun e => h2 (e.2.1)
      generalize (k = k' ∧ a = a' ∧ b = b' ∧ c = c' ∧ d = d' ∧ n = n' ∧ pl = 0 ∧ ql = 0) = P at *
      subst h1
      have HE := hide_ e
      clear e
      go_enter Tryd.func23, Tryd.ntmps23
      go_wp2
      go_ret
      exact ⟨false, by first | rfl | simp [h2] | (simp; omega), ⟨fun e => (by cases e), fun e => absurd e HE.out⟩, HB.out _ _⟩
  · have e : ¬ (k = k' ∧ a = a' ∧ b = b' ∧ c = c' ∧ d = d' ∧ n = n' ∧ pl = 0 ∧ ql = 0) := fun e => h1 (e.1)
    generalize (k = k' ∧ a = a' ∧ b = b' ∧ c = c' ∧ d = d' ∧ n = n' ∧ pl = 0 ∧ ql = 0) = P at *
    have HE := hide_ e
    clear e
    go_enter Tryd.func23, Tryd.ntmps23
    go_wp2
    go_ret
    exact ⟨false, by first | rfl | simp [h1] | (simp; omega), ⟨fun e => (by cases e), fun e => absurd e HE.out⟩, HB.out _ _⟩
end Go.Proofs.YtmkcdkfjomaidaaDoor
