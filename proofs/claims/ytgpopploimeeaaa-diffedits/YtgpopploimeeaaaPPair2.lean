/-
  PROVED HERE: the program's own Pairs at every two slices of tokens.
-/
import Derived.Test.YtgpopploimeeaaaPPairs
import Derived.Test.YtgpopploimeeaaaREdits
namespace Go.Proofs.Ytgpopploimeeaaa
open Go.RowKit

theorem ppairs_long (a1 a2 : Option Addr) (n1 n2 c1 c2 : Nat) (hn : 400 < n1 ∨ 400 < n2) (h1 : n1 ≤ 35184372088832) (h2 : n2 ≤ 35184372088832) (w : World) :
    Calls Try.prog 10 #[.slice a1 n1 c1, .slice a2 n2 c2] w fun e w' => e = .returned (.tuple #[.slice none 0 0, .int .i64 2]) ∧ w' = w := by
  by_cases h3 : 400 < n1
  · have hi : (400 : Int) < (n1 : Int) := by omega
    go_enter Try.func10, Try.ntmps10
    go_wp2
    go_ret2
    exact ⟨rfl, rfl⟩
  · have hi : ¬ (400 : Int) < (n1 : Int) := by omega
    have hj : (400 : Int) < (n2 : Int) := by omega
    go_enter Try.func10, Try.ntmps10
    go_wp2
    go_ret2
    exact ⟨rfl, rfl⟩

theorem ppairs_calls (a1 a2 : Option Addr) (n m c1 c2 : Nat) (l1 l2 : List Tok) (hn : n ≤ 400) (hm : m ≤ 400) (w : World) (h1 : Toks w a1 n l1) (h2 : Toks w a2 m l2) :
    Calls Try.prog 10 #[.slice a1 n c1, .slice a2 m c2] w fun e w' => ∃ l v, e = .returned (.tuple #[v, .int .i64 0]) ∧ IsPairs (likeL l1 l2) n m 0 0 l ∧ l.length ≤ n ∧ w'.ownsRow w.heap.size 68 2 v l.length (pairV l) ∧ Below w.heap.size w w' := by
  have HP := hide_ (longest_calls a1 a2 n m c1 c2 l1 l2 hn hm w h1 h2)
  clear h1 h2
  have hni : ¬ (400 : Int) < (n : Int) := by omega
  have hmi : ¬ (400 : Int) < (m : Int) := by omega
  go_enter Try.func10, Try.ntmps10
  go_wp2_with fail
  refine HP.out.mono ?_
  rintro e W1 ⟨l, v, rfl, h⟩
  have H := hide_ h
  clear h
  go_wp2
  go_ret2
  exact ⟨l, v, rfl, H.out⟩

theorem pedits_long (a1 a2 : Option Addr) (n1 n2 c1 c2 : Nat) (hn : 400 < n1 ∨ 400 < n2) (h1 : n1 ≤ 35184372088832) (h2 : n2 ≤ 35184372088832) (w : World) :
    Calls Try.prog 12 #[.slice a1 n1 c1, .slice a2 n2 c2] w fun e w' => e = .returned (.tuple #[.slice none 0 0, .int .i64 2]) ∧ w' = w := by
  have HP := hide_ (ppairs_long a1 a2 n1 n2 c1 c2 hn h1 h2 w)
  go_enter Try.func12, Try.ntmps12
  go_wp2_with fail
  refine HP.out.mono ?_
  rintro e W1 ⟨rfl, rfl⟩
  go_wp2
  go_ret2
  exact ⟨rfl, rfl⟩
end Go.Proofs.Ytgpopploimeeaaa
