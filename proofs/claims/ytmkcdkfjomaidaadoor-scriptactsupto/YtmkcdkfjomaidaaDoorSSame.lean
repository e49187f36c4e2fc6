/-
  PROVED HERE: script.sameNumbers; the statements' own same at acts without bytes.
-/
import Derived.Test.YtmkcdkfjomaidaaDoorSAct
import Derived.Laws.BytesArg
namespace Go.Proofs.YtmkcdkfjomaidaaDoor
open Go.RowKit

set_option maxRecDepth 100000 in
set_option maxHeartbeats 1000000 in
theorem numbers_calls (k a b c d n k' a' b' c' d' n' : Int) (p q : Option Addr) (pl pc ql qc : Nat) (w : World) :
    Calls Tryd.prog 19 #[.agg #[.int .i64 k, .int .i64 a, .int .i64 b, .int .i64 c, .int .i64 d, .int .i64 n, .slice p pl pc], .agg #[.int .i64 k', .int .i64 a', .int .i64 b', .int .i64 c', .int .i64 d', .int .i64 n', .slice q ql qc]] w fun e w' =>
      ∃ r, e = .returned (.bool r) ∧ (r = true ↔ (a = a' ∧ c = c' ∧ d = d' ∧ n = n')) ∧ Below w.heap.size w w' := by
  have HB : Hid (∀ o1 o2, Below w.heap.size w ((w.alloc o1).alloc o2)) := fun o1 o2 => by
    have h := (Below.refl _ w).alloc (Nat.le_refl _) o1
    exact h.alloc h.size o2
  by_cases h1 : a = a'
  · by_cases h2 : c = c'
    · by_cases h3 : d = d'
      · by_cases h4 : n = n'
        · subst h1 h2 h3 h4
          go_enter Tryd.func19, Tryd.ntmps19
          go_wp2
          go_ret
          exact ⟨true, rfl, by simp, HB.out _ _⟩
        · have e : ¬ (a = a' ∧ c = c' ∧ d = d' ∧ n = n') := fun e => h4 e.2.2.2
          generalize (a = a' ∧ c = c' ∧ d = d' ∧ n = n') = P at *
          subst h1 h2 h3
          have HE := hide_ e
          clear e
          go_enter Tryd.func19, Tryd.ntmps19
          go_wp2
          go_ret
          exact ⟨false, by first | rfl | simp [h4], ⟨fun e => (by cases e), fun e => absurd e HE.out⟩, HB.out _ _⟩
      · have e : ¬ (a = a' ∧ c = c' ∧ d = d' ∧ n = n') := fun e => h3 e.2.2.1
        generalize (a = a' ∧ c = c' ∧ d = d' ∧ n = n') = P at *
        subst h1 h2
        have HE := hide_ e
        clear e
        go_enter Tryd.func19, Tryd.ntmps19
        go_wp2
        go_ret
        exact ⟨false, by first | rfl | simp [h3], ⟨fun e => (by cases e), fun e => absurd e HE.out⟩, HB.out _ _⟩
    · have e : ¬ (a = a' ∧ c = c' ∧ d = d' ∧ n = n') := fun e => h2 e.2.1
      generalize (a = a' ∧ c = c' ∧ d = d' ∧ n = n') = P at *
      subst h1
      have HE := hide_ e
      clear e
      go_enter Tryd.func19, Tryd.ntmps19
      go_wp2
      go_ret
      exact ⟨false, by first | rfl | simp [h2], ⟨fun e => (by cases e), fun e => absurd e HE.out⟩, HB.out _ _⟩
  · have e : ¬ (a = a' ∧ c = c' ∧ d = d' ∧ n = n') := fun e => h1 e.1
    generalize (a = a' ∧ c = c' ∧ d = d' ∧ n = n') = P at *
    have HE := hide_ e
    clear e
    go_enter Tryd.func19, Tryd.ntmps19
    go_wp2
    go_ret
    exact ⟨false, by first | rfl | simp [h1], ⟨fun e => (by cases e), fun e => absurd e HE.out⟩, HB.out _ _⟩

/-- A text of no bytes. -/
theorem conv_none (W : World) (a : Option Addr) (cap : Nat) : (convert 22 9 (.slice a 0 cap)).run Tryd.prog W = .ok (.string ⟨#[]⟩) W := by
  cases a with
  | none => exact run_convert_bytes_nil W 22 5 Tryd.underlying22 Tryd.underlying5 _ _ 9 Tryd.underlying9
  | some p =>
    obtain ⟨b, o, sp⟩ := p
    rw [run_convert_bytes_string W 22 9 5 _ 0 cap Tryd.underlying22 Tryd.underlying5 Tryd.underlying9, run_bytesToString W _ 0 cap [] (by simpa using run_loadCells_list (P := Tryd.prog) W ⟨b, o, sp⟩ [] (by simp))]
    rfl

set_option maxRecDepth 100000 in
set_option maxHeartbeats 1000000 in
theorem same_calls (k a b c d n : Int) (p q : Option Addr) (pc qc : Nat) (w : World) :
    Calls Tryd.prog 9 #[.agg #[.int .i64 k, .int .i64 a, .int .i64 b, .int .i64 c, .int .i64 d, .int .i64 n, .slice p 0 pc], .agg #[.int .i64 k, .int .i64 a, .int .i64 b, .int .i64 c, .int .i64 d, .int .i64 n, .slice q 0 qc]] w fun e w' =>
      e = .returned (.bool true) ∧ Below w.heap.size w w' := by
  have HB : Hid (∀ o1 o2, Below w.heap.size w ((w.alloc o1).alloc o2)) := fun o1 o2 => by
    have h := (Below.refl _ w).alloc (Nat.le_refl _) o1
    exact h.alloc h.size o2
  have hp := fun W => conv_none W p pc
  have hq := fun W => conv_none W q qc
  go_enter Tryd.func9, Tryd.ntmps9
  go_wp2
  go_ret
  exact ⟨rfl, HB.out _ _⟩
end Go.Proofs.YtmkcdkfjomaidaaDoor
