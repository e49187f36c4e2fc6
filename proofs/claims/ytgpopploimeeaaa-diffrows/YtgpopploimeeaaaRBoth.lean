/-
  PROVED HERE: the document's own both: what keeps the one, or else the other, from being a document.
-/
import Derived.Test.YtgpopploimeeaaaRCheck
import Derived.Test.YtgpopploimeeaaaPRowsC
namespace Go.Proofs.Ytgpopploimeeaaa
open Go.RowKit

set_option maxRecDepth 100000 in
theorem both_calls (a1 a2 : Option Addr) (n m c1 c2 : Nat) (l1 l2 : List Tok) (w : World) (h1 : Toks w a1 n l1) (h2 : Toks w a2 m l2) (hn : n ≤ 4398046511104) (hm : m ≤ 4398046511104) :
    Calls Try.prog 39 #[.slice a1 n c1, .slice a2 m c2] w fun e w' => e = .returned (.int .i64 (bothP l1 l2)) ∧ Below w.heap.size w w' := by
  have HC1 := check_calls a1 n c1 l1 w h1 (by omega)
  have H2 := hide_ h2
  clear h1 h2
  unfold bothP
  obtain ⟨x1, hx1⟩ : ∃ x, (check l1).1 = x := ⟨_, rfl⟩
  obtain ⟨y1, hy1⟩ : ∃ x, (check l1).2 = x := ⟨_, rfl⟩
  obtain ⟨y2, hy2⟩ : ∃ x, (check l2).2 = x := ⟨_, rfl⟩
  rw [hx1, hy1] at HC1
  rw [hy1, hy2]
  clear hx1 hy1
  by_cases h0 : y1 = 0
  · subst h0
    rw [if_pos rfl]
    go_enter Try.func39, Try.ntmps39
    go_wp2_with fail
    refine HC1.mono ?_
    rintro e W1 ⟨rfl, b1⟩
    have HC2 := check_calls a2 m c2 l2 W1 (H2.out.below b1) (by omega)
    rw [hy2] at HC2
    have B1 := hide_ b1
    clear b1 HC1 hy2
    go_wp2_with fail
    refine HC2.mono ?_
    rintro e W2 ⟨rfl, b2⟩
    have B2 := hide_ (B1.out.trans (b2.mono B1.out.size))
    clear b2 B1 HC2
    go_wp2
    go_ret
    exact ⟨rfl, B2.out⟩
  · rw [if_neg h0]
    have h0b : (y1 == 0) = false := by simpa using h0
    clear hy2
    go_enter Try.func39, Try.ntmps39
    go_wp2_with fail
    refine HC1.mono ?_
    rintro e W1 ⟨rfl, b1⟩
    have B1 := hide_ b1
    clear b1 HC1
    go_wp2
    go_ret
    exact ⟨rfl, B1.out⟩
end Go.Proofs.Ytgpopploimeeaaa
