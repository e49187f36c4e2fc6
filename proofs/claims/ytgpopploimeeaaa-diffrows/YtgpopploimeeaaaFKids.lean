/-
  PROVED HERE: flat.Kids at every slice of tokens and every number: what it returns; nothing that lay before is turned.
-/
import Derived.Test.YtgpopploimeeaaaFKidsI
namespace Go.Proofs.Ytgpopploimeeaaa
open Go.RowKit


set_option maxRecDepth 100000 in
set_option maxHeartbeats 2000000 in
theorem fkids_calls (a : Option Addr) (len cap : Nat) (l : List Tok) (i : Int) (w : World) (hl : Toks w a len l) (hsz : len ≤ 4398046511104) :
    Calls Try.prog 18 #[.slice a len cap, .int .i64 i] w fun e w' => ∃ a' cap', e = .returned (.slice a' (kids l i).length cap') ∧ Row .i64 w' a' (kids l i).length (kids l i) ∧ Below w.heap.size w w' := by
  by_cases hm : i = -1
  · subst hm
    exact fkids_out a len cap l w hl hsz
  by_cases hO : 0 ≤ i ∧ i < len ∧ kindAt l i.toNat = 1
  · obtain ⟨n, rfl⟩ := Int.eq_ofNat_of_zero_le hO.1
    exact fkids_in a len cap l n w hl hsz (by omega) (by have := hO.2.2; rwa [Int.toNat_natCast] at this)
  have HO := fisopen_calls a len cap l i w hl
  rw [decide_eq_false hO] at HO
  rw [show kids l i = [] from by unfold kids; rw [if_pos (by rw [hl.1]; omega)]]
  have e1 : (i == -1) = false := by simpa using hm
  clear hl
  go_enter Try.func18, Try.ntmps18
  go_wp2_with fail
  refine HO.mono ?_
  rintro e W ⟨rfl, rfl⟩
  go_wp2
  go_ret
  first | exact ⟨none, ⟨0, rfl⟩, ⟨rfl, .inl rfl⟩, Below.refl _ _⟩ | exact ⟨none, 0, rfl, ⟨rfl, .inl rfl⟩, Below.refl _ _⟩
end Go.Proofs.Ytgpopploimeeaaa
