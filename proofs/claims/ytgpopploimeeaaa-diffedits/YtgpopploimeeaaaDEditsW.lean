/-
  PROVED HERE: DiffEdits answers true at every two slices of tokens, whatever their length.
-/
import Derived.Test.YtgpopploimeeaaaDEditsB
namespace Go.Proofs.Ytgpopploimeeaaa
open Go.RowKit

theorem dedits_walk (a1 a2 : Option Addr) (n m c1 c2 : Nat) (l1 l2 : List Tok) (w : World) (h1 : Toks w a1 n l1) (h2 : Toks w a2 m l2) (hc1 : n ≤ c1) (hc2 : m ≤ c2) (z1 : a1 = none → c1 = 0) (z2 : a2 = none → c2 = 0) (hn : n ≤ 4398046511104) (hm : m ≤ 4398046511104) :
    Calls Try.prog 4 #[.slice a1 n c1, .slice a2 m c2] w fun e w' => e = .returned (.bool true) ∧ Below w.heap.size w w' := by
  by_cases hle : n ≤ 60 ∧ m ≤ 60
  · exact dedits_core a1 a2 n m c1 c2 l1 l2 w h1 h2 hc1 hc2 z1 z2 hle.1 hle.2
  · have HA := awake_calls w
    clear h1 h2 hc1 hc2 z1 z2
    by_cases x1 : 60 < n
    · have y1 : (60 : Int) < (n : Int) := by omega
      go_enter Try.func4, Try.ntmps4
      go_wp2_with fail
      refine HA.mono ?_
      rintro e W1 ⟨rfl, hB⟩
      have HB := hide_ hB
      clear hB
      go_wp2
      go_ret
      exact ⟨rfl, HB.out⟩
    · have y1 : ¬ ((60 : Int) < (n : Int)) := by omega
      have y2 : (60 : Int) < (m : Int) := by omega
      go_enter Try.func4, Try.ntmps4
      go_wp2_with fail
      refine HA.mono ?_
      rintro e W1 ⟨rfl, hB⟩
      have HB := hide_ hB
      clear hB
      go_wp2
      go_ret
      exact ⟨rfl, HB.out⟩
end Go.Proofs.Ytgpopploimeeaaa
