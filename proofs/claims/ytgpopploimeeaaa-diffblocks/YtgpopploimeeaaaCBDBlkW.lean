/-
  PROVED HERE: DiffBlocks answers true at every two slices of tokens, whatever their length.
-/
import Derived.Test.YtgpopploimeeaaaCBDBlkB
namespace Go.Proofs.Ytgpopploimeeaaa
open Go.RowKit

theorem dblocks_walk (a1 a2 : Option Addr) (n m c1 c2 : Nat) (l1 l2 : List Tok) (w : World) (h1 : Toks w a1 n l1) (h2 : Toks w a2 m l2) (i1 : Lies a1 n c1) (i2 : Lies a2 m c2) (hn : n ≤ 4398046511104) (hm : m ≤ 4398046511104) :
    Calls Try.prog 5 #[.slice a1 n c1, .slice a2 m c2] w fun e w' => e = .returned (.bool true) ∧ Below w.heap.size w w' := by
  have HA : ∀ W : World, Below w.heap.size w W → Calls Try.prog 7 #[] W fun e w' => e = .returned (.bool true) ∧ Below w.heap.size w w' := fun W hW => (awake_calls W).mono fun e w' h => ⟨h.1, hW.trans (h.2.mono hW.size)⟩
  by_cases x1 : 200 < n
  · have y1 : (200 : Int) < (n : Int) := by omega
    clear h1 h2 i1 i2
    go_enter Try.func5, Try.ntmps5
    go_wp2_with fail
    refine (HA _ (Below.refl _ w)).mono ?_
    rintro e W1 ⟨rfl, hB⟩
    have HB := hide_ hB
    clear hB
    go_wp2
    go_ret
    exact ⟨rfl, HB.out⟩
  by_cases x2 : 200 < m
  · have y1 : ¬ ((200 : Int) < (n : Int)) := by omega
    have y2 : (200 : Int) < (m : Int) := by omega
    clear h1 h2 i1 i2
    go_enter Try.func5, Try.ntmps5
    go_wp2_with fail
    refine (HA _ (Below.refl _ w)).mono ?_
    rintro e W1 ⟨rfl, hB⟩
    have HB := hide_ hB
    clear hB
    go_wp2
    go_ret
    exact ⟨rfl, HB.out⟩
  by_cases hb : bothP l1 l2 = 0
  · exact dblocks_core a1 a2 n m c1 c2 l1 l2 w h1 h2 i1 i2 (by omega) (by omega) hb
  · have HR := prows_no a1 a2 n m c1 c2 l1 l2 w h1 h2 (by omega) (by omega) hb
    have y1 : ¬ ((200 : Int) < (n : Int)) := by omega
    have y2 : ¬ ((200 : Int) < (m : Int)) := by omega
    generalize bothP l1 l2 = y at *
    have hyb : (y == 0) = false := by simpa using hb
    clear h1 h2 i1 i2
    go_enter Try.func5, Try.ntmps5
    go_wp2_with fail
    refine HR.mono ?_
    rintro e W1 ⟨rfl, b1⟩
    have B1 := hide_ b1
    clear b1 HR
    go_wp2_with fail
    refine (HA _ B1.out).mono ?_
    rintro e W2 ⟨rfl, hB⟩
    have HB := hide_ hB
    clear hB
    go_wp2
    go_ret
    exact ⟨rfl, HB.out⟩
end Go.Proofs.Ytgpopploimeeaaa
