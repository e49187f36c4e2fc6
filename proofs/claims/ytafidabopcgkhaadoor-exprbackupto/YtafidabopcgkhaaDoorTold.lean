/-
  PROVED HERE: expr.told at a refusal: the place and the number; nothing that lay before is turned.
-/
import Derived.Test.YtafidabopcgkhaaDoorAs4
import Derived.Laws.CopyOwn
namespace Go.Proofs.YtafidabopcgkhaaDoor
open Go.RowKit

theorem ETy.below {w w' : World} (h : ETy w) (hB : Below w.heap.size w w') : ETy w' := (hB.cell (p := ⟨0, 0, none⟩) h.lt).trans h
set_option maxHeartbeats 4000000 in
set_option maxRecDepth 100000 in
theorem told_calls (i : Nat) (n : Int) (w : World) (hg : ETy w) :
    Calls Tryd.prog 19 #[refV i n] w fun e w' => e = .returned (.tuple #[.int .i64 (i : Int), .int .i64 n]) ∧ Below w.heap.size w w' := by
  obtain ⟨w0, hw0⟩ : ∃ w0, w0 = (w.alloc (.cells #[.int .i64 0, .nilIface] 65)).alloc (.cells #[.int .i64 0] 25) := ⟨_, rfl⟩
  have hB0 : Below w.heap.size w w0 := by rw [hw0]; exact ((Below.refl _ w).alloc (Nat.le_refl _) _).alloc (by simp) _
  have hs0 : w0.heap.size = w.heap.size + 1 + 1 := by rw [hw0]; simp
  have hb1 : w0.heap[w.heap.size]? = some (.cells #[.int .i64 0, .nilIface] 65 (0, 0)) := by rw [hw0, Below.heap_alloc _ _ _ (by simp)]; exact new_block w _
  have hb2 : w0.heap[w.heap.size + 1]? = some (.cells #[.int .i64 0] 25 (0, 0)) := by
    rw [hw0]
    have := new_block (w.alloc (.cells #[.int .i64 0, .nilIface] 65)) (.cells #[.int .i64 0] 25)
    simpa using this
  have H1 := as_where (i : Int) n w.heap.size _ w0 (hg.below hB0) hb1 rfl
  obtain ⟨w1, hw1⟩ : ∃ w1, w1 = ((((w0.alloc (.cells #[.pointer (some ⟨w.heap.size, 0, none⟩)] 70)).alloc (.cells (valC 70 w0.heap.size) 85)).alloc (.cells (valC 70 w0.heap.size) 85)).alloc (.cells #[.int .i64 (i : Int), .iface 25 (.int .i64 n)] 65)).setRow w.heap.size #[.int .i64 (i : Int), .iface 25 (.int .i64 n)] := ⟨_, rfl⟩
  rw [← hw1] at H1
  have hA1 : Below w0.heap.size w0 ((((w0.alloc (.cells #[.pointer (some ⟨w.heap.size, 0, none⟩)] 70)).alloc (.cells (valC 70 w0.heap.size) 85)).alloc (.cells (valC 70 w0.heap.size) 85)).alloc (.cells #[.int .i64 (i : Int), .iface 25 (.int .i64 n)] 65)) :=
    ((((Below.refl _ w0).alloc (Nat.le_refl _) _).alloc (by simp) _).alloc (by simp; omega) _).alloc (by simp; omega) _
  have hB1 : Below w.heap.size w w1 := by rw [hw1]; exact below_setRow (hB0.trans (hA1.mono (by omega))) (Nat.le_refl _) _
  have hr1 : w1.heap[w.heap.size]? = some (.cells #[.int .i64 (i : Int), .iface 25 (.int .i64 n)] 65 (0, 0)) := by
    rw [hw1]
    exact setRow_heap _ _ _ _ _ _ ((hA1.block _ (by omega)).trans hb1)
  have hr2 : w1.heap[w.heap.size + 1]? = some (.cells #[.int .i64 0] 25 (0, 0)) := by
    rw [hw1, setRow_other _ _ _ _ (by omega)]
    exact (hA1.block _ (by omega)).trans hb2
  have hs1 : w.heap.size + 2 ≤ w1.heap.size := by rw [hw1]; simp; omega
  have H2 := as_number (i : Int) n (w.heap.size + 1) _ w1 (hg.below hB1) hr2
  obtain ⟨w2, hw2⟩ : ∃ w2, w2 = (((((w1.alloc (.cells #[.pointer (some ⟨w.heap.size + 1, 0, none⟩)] 71)).alloc (.cells (valC 71 w1.heap.size) 85)).alloc (.cells (valC 71 w1.heap.size) 85)).alloc (.cells #[.int .i64 (i : Int), .iface 25 (.int .i64 n)] 65)).alloc (.cells #[.int .i64 n] 25)).setCell ⟨w.heap.size + 1, 0, none⟩ (.int .i64 n) := ⟨_, rfl⟩
  rw [← hw2] at H2
  have hA2 : Below w1.heap.size w1 (((((w1.alloc (.cells #[.pointer (some ⟨w.heap.size + 1, 0, none⟩)] 71)).alloc (.cells (valC 71 w1.heap.size) 85)).alloc (.cells (valC 71 w1.heap.size) 85)).alloc (.cells #[.int .i64 (i : Int), .iface 25 (.int .i64 n)] 65)).alloc (.cells #[.int .i64 n] 25)) :=
    (((((Below.refl _ w1).alloc (Nat.le_refl _) _).alloc (by simp) _).alloc (by simp; omega) _).alloc (by simp; omega) _).alloc (by simp; omega) _
  have hB2 : Below w.heap.size w w2 := by
    rw [hw2]
    exact (hB1.trans (hA2.mono (by omega))).setCell (by simp) _
  have c1 : w2.cell? ⟨w.heap.size, 0, none⟩ = some (.int .i64 (i : Int)) := by
    have h : w2.heap[w.heap.size]? = w1.heap[w.heap.size]? := by
      rw [hw2, Below.heap_setCell _ _ _ _ (by simp)]
      exact hA2.block _ (by omega)
    exact cell_of_row w2 _ 0 _ _ _ (h.trans hr1)
  have c2 : w2.cell? ⟨w.heap.size + 1, 0, none⟩ = some (.int .i64 n) := by
    have h := heap_setCell_same (((((w1.alloc (.cells #[.pointer (some ⟨w.heap.size + 1, 0, none⟩)] 71)).alloc (.cells (valC 71 w1.heap.size) 85)).alloc (.cells (valC 71 w1.heap.size) 85)).alloc (.cells #[.int .i64 (i : Int), .iface 25 (.int .i64 n)] 65)).alloc (.cells #[.int .i64 n] 25)) (w.heap.size + 1) 0 _ _ (.int .i64 n) ((hA2.block _ (by omega)).trans hr2)
    rw [← hw2] at h
    exact cell_of_row w2 _ 0 _ _ _ h
  clear hw2 hA2 hr2 hA1 hb2 hb1 hB0
  have HB : Hid (Below w.heap.size w w2) := hB2
  have h1 : Hid (Calls Tryd.prog 32 #[refV i n, .iface 70 (.pointer (some ⟨w.heap.size, 0, none⟩))] w0 fun ev w' => ev = .returned (.bool true) ∧ w' = w1) := H1
  have h2 : Hid (Calls Tryd.prog 32 #[refV i n, .iface 71 (.pointer (some ⟨w.heap.size + 1, 0, none⟩))] w1 fun ev w' => ev = .returned (.bool true) ∧ w' = w2) := H2
  clear H1 H2 hB2 hB1 hr1 hw1 hg hs1
  obtain ⟨V, hV⟩ : ∃ V, refV i n = V := ⟨_, rfl⟩
  rw [hV] at h1 h2 ⊢
  clear hV
  go_enter Tryd.func19, Tryd.ntmps19
  go_wp2_with fail
  rw [← hw0]
  refine h1.out.mono ?_
  rintro e W ⟨rfl, hW⟩
  subst hW
  go_wp2_with fail
  refine h2.out.mono ?_
  rintro e W ⟨rfl, hW⟩
  subst hW
  go_wp2_with fail
  go_quiet (fail)
  go_wp2
  go_ret2
  exact ⟨rfl, ⟨HB.out.os, HB.out.tape, HB.out.output, HB.out.size, HB.out.block⟩⟩
end Go.Proofs.YtafidabopcgkhaaDoor
