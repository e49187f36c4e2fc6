/-
  PROVED HERE: pos.Map at every slice of ranges, place and side, and the law's own awake: what they return; nothing that lay before is turned.
-/
import Derived.Test.YtiadcpbaopafgaaSend
import Derived.Test.YtiadcpbaopafgaaRightF
import Derived.Laws.ResultCell
namespace Go.Proofs.Ytiadcpbaopafgaa
open Go.RowKit

theorem results_row_tmp {P : Program} {fn : Func} {p u : Tmp} {ty : TypeId} (h : fn.results = #[.cell p ty, .tmp u]) (tmps : Array Value) (w : World) (g : Nat) (t : TypeId) (cs : Array Value) (fr : Nat × Nat) (d : TypeDesc)
    (hp : tmps.getD p undef = .pointer (some ⟨g, 0, none⟩)) (hg : w.heap[g]? = some (.cells cs t fr))
    (hu : P.underlying ty = some d) (hd : (match d with | .struct _ | .array _ _ => true | _ => false) = true) (hi : (P.info? ty).map (·.size) = some cs.size) :
    (results fn tmps).run P w = .ok (.tuple #[.agg cs, tmps.getD u undef]) w := by
  rw [results_cell_tmp h, hp]
  simp [asAddr, run_loadVar_row w g t ty cs fr d hg hu hd hi, Result.andThen]

set_option maxRecDepth 100000 in
set_option maxHeartbeats 2000000 in
theorem map_calls (a : Option Addr) (len cap : Nat) (l : List Rng) (p side : Int) (w : World) (hl : Rngs w a len l) (hz : len ≤ 140737488355328) :
    Calls Try.prog 9 #[.slice a len cap, .int .i64 p, .int .i64 side] w fun e w' => e = .returned (.tuple #[spotV (mapA l p side), .int .i64 (mapE l p)]) ∧ Below w.heap.size w w' := by
  obtain ⟨W1, hW1⟩ : ∃ W1, w.alloc (.cells #[.int .i64 0, .bool false, .int .i64 0, .int .i64 0] 24) = W1 := ⟨_, rfl⟩
  have hB0 : Below w.heap.size w W1 := by rw [← hW1]; exact (Below.refl _ _).alloc (Nat.le_refl _) _
  have hs1 : w.heap.size < W1.heap.size := by rw [← hW1]; simp
  have m0 : W1.heap[w.heap.size]? = some (.cells #[.int .i64 0, .bool false, .int .i64 0, .int .i64 0] 24 (0, 0)) := by rw [← hW1]; exact World.alloc_heap_new w _
  have HX : Hid (∀ X, Below W1.heap.size W1 X → X.heap[w.heap.size]? = some (.cells #[.int .i64 0, .bool false, .int .i64 0, .int .i64 0] 24 (0, 0)) ∧ Rngs X a len l ∧ Below w.heap.size w X) := fun X hX => ⟨(hX.block _ hs1).trans m0, hl.below (hB0.trans (hX.mono hB0.size)), hB0.trans (hX.mono hB0.size)⟩
  have HW1 : Hid (w.alloc (.cells #[.int .i64 0, .bool false, .int .i64 0, .int .i64 0] 24) = W1) := hW1
  have c1 := right_calls a len cap l W1 (hl.below hB0) hz
  have c2 := fun X => within_calls p X
  have HS : Hid (∀ X, Below W1.heap.size W1 X → right l = true → within p = true → Calls Try.prog 28 #[.slice a len cap, .int .i64 p, .int .i64 side] X fun e w' => e = .returned (spotV (sendL l 0 0 p side)) ∧ Below X.heap.size X w') := fun X hX h1 h2 => send_calls a len cap l p side X (HX.out X hX).2.1 h1 h2
  unfold mapA mapE
  generalize right l = q1 at *
  generalize within p = q2 at *
  clear hW1 m0 hl
  cases q1 with
  | false =>
    rw [if_pos rfl, if_pos rfl]
    clear c2 HS
    go_enter Try.func9, Try.ntmps9
    go_wp2_with fail
    rw [HW1.out]
    refine c1.mono ?_
    rintro e X ⟨rfl, hX⟩
    obtain ⟨r0, _, hB⟩ := HX.out X hX
    obtain ⟨j0, j1, j2, j3⟩ := cells4 r0
    have f0 : ∀ j, X.frozen? ⟨w.heap.size, j, none⟩ = false := fun j => frozen_block r0
    go_wp2
    refine bodyPost_ret (results_row_tmp rfl _ _ w.heap.size 24 _ (0, 0) _ rfl (put4 r0 _ _ _ _) Try.underlying24 rfl sizeSpot) rfl ?_
    exact ⟨rfl, below4 hB (Nat.le_refl _) ..⟩
  | true =>
    rw [if_neg (show ¬ (true = false) from by decide), if_neg (show ¬ (true = false) from by decide)]
    cases q2 with
    | false =>
      rw [if_pos rfl, if_pos rfl]
      clear HS
      go_enter Try.func9, Try.ntmps9
      go_wp2_with fail
      rw [HW1.out]
      refine c1.mono ?_
      rintro e X ⟨rfl, hX⟩
      obtain ⟨r0, _, hB⟩ := HX.out X hX
      obtain ⟨j0, j1, j2, j3⟩ := cells4 r0
      have f0 : ∀ j, X.frozen? ⟨w.heap.size, j, none⟩ = false := fun j => frozen_block r0
      go_wp2_with fail
      refine (c2 _).mono ?_
      rintro e X' ⟨rfl, rfl⟩
      go_wp2
      refine bodyPost_ret (results_row_tmp rfl _ _ w.heap.size 24 _ (0, 0) _ rfl (put4 r0 _ _ _ _) Try.underlying24 rfl sizeSpot) rfl ?_
      exact ⟨rfl, below4 hB (Nat.le_refl _) ..⟩
    | true =>
      rw [if_neg (show ¬ (true = false) from by decide), if_neg (show ¬ (true = false) from by decide)]
      unfold spotV at *
      generalize sendL l 0 0 p side = s at *
      obtain ⟨s0, s1, s2, s3⟩ := s
      simp only at *
      go_enter Try.func9, Try.ntmps9
      go_wp2_with fail
      rw [HW1.out]
      refine c1.mono ?_
      rintro e X ⟨rfl, hX⟩
      go_wp2_with fail
      refine (c2 _).mono ?_
      rintro e X' ⟨rfl, hXX⟩
      rw [hXX]
      clear hXX
      go_wp2_with fail
      refine (HS.out X hX trivial trivial).mono ?_
      rintro e Y ⟨rfl, hXY⟩
      have hY := hX.trans (hXY.mono hX.size)
      obtain ⟨r0, _, hB⟩ := HX.out Y hY
      obtain ⟨j0, j1, j2, j3⟩ := cells4 r0
      have f0 : ∀ j, Y.frozen? ⟨w.heap.size, j, none⟩ = false := fun j => frozen_block r0
      go_wp2
      refine bodyPost_ret (results_row_tmp rfl _ _ w.heap.size 24 _ (0, 0) _ rfl (put4 r0 _ _ _ _) Try.underlying24 rfl sizeSpot) rfl ?_
      exact ⟨rfl, below4 hB (Nat.le_refl _) ..⟩

set_option maxRecDepth 100000 in
set_option maxHeartbeats 2000000 in
theorem awake_calls (w : World) : Calls Try.prog 13 #[] w fun e w' => e = .returned (.bool true) ∧ Below w.heap.size w w' := by
  obtain ⟨W1, hW1⟩ : ∃ W1, w.alloc (.cells #[.int .i64 1, .int .i64 0, .int .i64 2] 60) = W1 := ⟨_, rfl⟩
  have hB0 : Below w.heap.size w W1 := by rw [← hW1]; exact (Below.refl _ _).alloc (Nat.le_refl _) _
  have m0 : W1.heap[w.heap.size]? = some (.cells #[.int .i64 1, .int .i64 0, .int .i64 2] 60 (0, 0)) := by rw [← hW1]; exact World.alloc_heap_new w _
  have hs1 : w.heap.size < W1.heap.size := (Array.getElem?_eq_some_iff.1 m0).1
  have hr : Rngs W1 (some ⟨w.heap.size, 0, none⟩) 1 [⟨1, 0, 2⟩] := ⟨rfl, .inr ⟨_, 0, rfl, hs1, fun i x hx => by
    cases i with
    | zero =>
      obtain rfl : (⟨1, 0, 2⟩ : Rng) = x := by simpa using hx
      have hc := fun j => cell_of_row W1 w.heap.size j _ _ _ m0
      exact ⟨hc 0, hc 1, hc 2⟩
    | succ i => simp at hx⟩⟩
  have c1 := map_calls (some ⟨w.heap.size, 0, none⟩) 1 1 [⟨1, 0, 2⟩] 5 1 W1 hr (by omega)
  have e1 : mapA [⟨1, 0, 2⟩] 5 1 = ⟨7, false, -1, 0⟩ := rfl
  have e2 : mapE [⟨1, 0, 2⟩] 5 = 0 := rfl
  rw [e1, e2] at c1
  unfold spotV at c1
  simp only at c1
  have HW1 : Hid (w.alloc (.cells #[.int .i64 1, .int .i64 0, .int .i64 2] 60) = W1) := hW1
  clear hW1 m0 hr e1 e2
  go_enter Try.func13, Try.ntmps13
  go_wp2_with fail
  rw [HW1.out]
  refine c1.mono ?_
  rintro e X ⟨rfl, hX⟩
  have hB := hB0.trans (hX.mono hB0.size)
  go_wp2
  go_ret
  exact ⟨rfl, hB.alloc hB.size _⟩
end Go.Proofs.Ytiadcpbaopafgaa
