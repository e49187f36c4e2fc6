/-
  PROVED HERE: emenderlaw23.awake answers true.
-/
import Derived.Test.YtgpopploimeeaaaPEnds
namespace Go.Proofs.Ytgpopploimeeaaa
open Go.RowKit

theorem toks_one (W : World) (x : Tok) (b : Nat) (h : W.heap[b]? = some (.cells #[.int .i64 x.k, .int .i64 x.t, .int .i64 x.n, .int .i64 x.m] 62 (0, 0))) : Toks W (some ⟨b, 0, none⟩) 1 [x] := by
  refine ⟨rfl, .inr ⟨b, 0, rfl, (Array.getElem?_eq_some_iff.1 h).1, fun i y hy => ?_⟩⟩
  match i, hy with
  | 0, hy =>
    obtain rfl : x = y := by simpa using hy
    simp only [World.cell?]
    rw [h]
    exact ⟨rfl, rfl, rfl, rfl⟩
  | i + 1, hy => simp at hy

set_option maxRecDepth 100000 in
set_option maxHeartbeats 1000000 in
theorem awake_calls (w : World) : Calls Try.prog 7 #[] w fun e w' => e = .returned (.bool true) ∧ Below w.heap.size w w' := by
  have hB1 : Below w.heap.size w (w.alloc (.cells #[.int .i64 0, .int .i64 0, .int .i64 120, .int .i64 0] 62)) := (Below.refl _ w).alloc (Nat.le_refl _) _
  have hB2 : Below w.heap.size w ((w.alloc (.cells #[.int .i64 0, .int .i64 0, .int .i64 120, .int .i64 0] 62)).alloc (.cells #[.int .i64 0, .int .i64 0, .int .i64 120, .int .i64 0] 62)) := hB1.alloc hB1.size _
  have t1 : Toks ((w.alloc (.cells #[.int .i64 0, .int .i64 0, .int .i64 120, .int .i64 0] 62)).alloc (.cells #[.int .i64 0, .int .i64 0, .int .i64 120, .int .i64 0] 62)) (some ⟨w.heap.size, 0, none⟩) 1 [⟨0, 0, 120, 0⟩] :=
    toks_one _ ⟨0, 0, 120, 0⟩ _ ((Below.heap_alloc _ _ _ (by rw [World.size_alloc]; omega)).trans (World.alloc_heap_new _ _))
  have t2 : Toks ((w.alloc (.cells #[.int .i64 0, .int .i64 0, .int .i64 120, .int .i64 0] 62)).alloc (.cells #[.int .i64 0, .int .i64 0, .int .i64 120, .int .i64 0] 62)) (some ⟨w.heap.size + 1, 0, none⟩) 1 [⟨0, 0, 120, 0⟩] :=
    toks_one _ ⟨0, 0, 120, 0⟩ _ (by
      have := World.alloc_heap_new (w.alloc (.cells #[.int .i64 0, .int .i64 0, .int .i64 120, .int .i64 0] 62)) (.cells #[.int .i64 0, .int .i64 0, .int .i64 120, .int .i64 0] 62)
      rw [World.size_alloc] at this
      exact this)
  have HC := hide_ (pends_calls _ _ 1 1 1 1 _ _ _ t1 t2 (by omega) (by omega))
  have HB := hide_ hB2
  have hh : headP [⟨0, 0, 120, 0⟩] [⟨0, 0, 120, 0⟩] = 1 := by simp [headP, tokEq]
  rw [hh] at HC
  clear hB1 hB2 t1 t2 hh
  go_enter Try.func7, Try.ntmps7
  go_wp2_with fail
  refine HC.out.mono ?_
  rintro e W1 ⟨rfl, hB⟩
  have HB2 := hide_ (HB.out.trans (hB.mono HB.out.size))
  clear hB HC HB
  go_wp2
  go_ret
  exact ⟨rfl, HB2.out⟩
end Go.Proofs.Ytgpopploimeeaaa
