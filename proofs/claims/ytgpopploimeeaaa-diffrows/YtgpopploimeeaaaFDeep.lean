/-
  PROVED HERE: flat.openAt, flat.Deep and flat.Around at every slice of tokens and every number: what they return; nothing that lay before is turned.
-/
import Derived.Test.YtgpopploimeeaaaFOpen
import Derived.Deep.WholeRow
namespace Go.Proofs.Ytgpopploimeeaaa
open Go.RowKit

theorem fopen_calls (a : Option Addr) (len cap : Nat) (l : List Tok) (p : Int) (w : World) (hl : Toks w a len l) (hsz : len ≤ 4398046511104) (hlie : Lies a len cap) : Calls Try.prog 51 #[.slice a len cap, .int .i64 p] w (Opened w (opened l p)) := by
  by_cases hp : p < 0 ∨ (len : Int) < p
  · rw [show opened l p = [] from by
      unfold opened
      rw [hl.1]
      split
      · rw [show p.toNat = 0 from by omega]
        rfl
      · rfl]
    exact fopen_none a len cap p w hp
  · obtain ⟨n, rfl⟩ := Int.eq_ofNat_of_zero_le (show 0 ≤ p by omega)
    exact fopen_some a len cap l n w hl hsz hlie (by omega)
/-- A stack that was handed back, laid into a new block. -/
theorem stk_laid {w W : World} {cs : Array Value} {v : Value} {R : List Int} (hc : StkCells v R cs) (ho : W.ownsRow w.heap.size 3 1 v (R.length - 32) ((R.drop 32).map (Value.int .i64))) (hB : Below w.heap.size w W) : Stk (W.alloc (.cells cs 80)) w.heap.size W.heap.size v R :=
  ⟨hB.size, ho.alloc _, cs, heap_alloc_new W _, hc⟩

set_option maxRecDepth 100000 in
set_option maxHeartbeats 1000000 in
theorem faround_calls (a : Option Addr) (len cap : Nat) (l : List Tok) (p : Int) (w : World) (hl : Toks w a len l) (hsz : len ≤ 4398046511104) (hlie : Lies a len cap) :
    Calls Try.prog 38 #[.slice a len cap, .int .i64 p] w fun e w' => e = .returned (.int .i64 (around l p)) ∧ Below w.heap.size w w' := by
  have h1 := fopen_calls a len cap l p w hl hsz hlie
  have hq := opened_length l p
  rw [hl.1] at hq
  unfold around
  generalize opened l p = R at *
  obtain ⟨y, hy⟩ : ∃ y, R.getLast?.getD (-1) = y := ⟨_, rfl⟩
  rw [hy]
  go_enter Try.func38, Try.ntmps38
  go_wp2_with fail
  refine h1.mono ?_
  rintro e W ⟨cs, v, rfl, hc, ho, hB⟩
  have ht := ftop_calls _ _ _ _ _ (stk_laid hc ho hB) (by omega)
  obtain ⟨a', c', hv⟩ := own_slice ho
  have h1c := hc.one hv
  have hz := hc.1
  have hB2 := hB.alloc hB.size (.cells cs 80)
  rw [hy] at ht
  clear hc ho h1 hy
  go_wp2_with (first | (refine wpList_put_row rfl 80 _ _ rfl W.heap.size cs rfl rfl 80 _ (heap_alloc_new W _) (by rw [hz]; exact info47) (by rw [hz]; rfl) h1c ?_; rw [World.setRow_alloc_new]) | (go_at_call 34; refine ht.mono ?_; rintro e W2 ⟨rfl, q, rfl⟩))
  go_ret
  exact ⟨rfl, below_drewN hB2 _⟩
end Go.Proofs.Ytgpopploimeeaaa
