/-
  PROVED HERE: ExprParses answers true at every text, and leaves what lay before.
-/
import Derived.Test.YtafidabopcgkhaaDoorRParse
import Derived.Test.YtafidabopcgkhaaDoorAwake
import Derived.Test.YtafidabopcgkhaaDoorSame
namespace Go.Proofs.YtafidabopcgkhaaDoor
open Go.RowKit

set_option maxRecDepth 100000 in
set_option maxHeartbeats 4000000 in
theorem parses_walk (s : ByteArray) (hs : s.size ≤ 9223372036854775807) (w : World) (hg : ETy w) :
    Calls Tryd.prog 3 #[.string s] w fun e w' => e = .returned (.bool true) ∧ Below w.heap.size w w' := by
  have HA : Hid (∀ W, Below w.heap.size w W → Calls Tryd.prog 12 #[] W fun e w' => e = .returned (.bool true) ∧ Below W.heap.size W w') := fun W hW => awake_calls W (hg.below hW)
  have HP : Hid (∀ W, Below w.heap.size w W → Calls Tryd.prog 9 #[.string s] W fun e w' => Below W.heap.size W w' ∧ ∃ r, Ex w' 200 (outTree s) (rawV r) ∧ e = .returned (.tuple #[rawV r, .int .i64 (outN s : Int), .int .i64 (outE s)])) := fun W hW => parse_calls s hs W (hg.below hW)
  have HQ : Hid (∀ W, Calls Tryd.prog 10 #[.string s] W fun e w' => Below W.heap.size W w' ∧ ∃ r, Ex w' 200 (outTree s) (rawV r) ∧ e = .returned (.tuple #[rawV r, .int .i64 (outN s : Int), .int .i64 (outE s)])) := fun W => rparse_calls s hs W
  clear hg hs
  obtain ⟨N, hN⟩ : ∃ N : Int, (outN s : Int) = N := ⟨_, rfl⟩
  obtain ⟨E, hE⟩ : ∃ E : Int, outE s = E := ⟨_, rfl⟩
  obtain ⟨T, hT⟩ : ∃ T, outTree s = T := ⟨_, rfl⟩
  rw [hN, hE, hT] at HP HQ
  clear hN hE hT
  go_enter Tryd.func3, Tryd.ntmps3
  go_wp2_with fail
  refine (HP.out w (Below.refl _ _)).mono ?_
  rintro e1 W1 ⟨hB1, ⟨k1, nm1, a1, ln1, cp1⟩, hX1, rfl⟩
  unfold rawV at hX1 ⊢
  simp only at hX1 ⊢
  have HQ2 := HQ.out (W1.alloc (.cells #[.int .i64 k1, .string nm1, .slice a1 ln1 cp1] 24))
  have hBa : Below w.heap.size w (W1.alloc (.cells #[.int .i64 k1, .string nm1, .slice a1 ln1 cp1] 24)) := hB1.alloc hB1.size _
  have HW1 : Hid (Below w.heap.size w (W1.alloc (.cells #[.int .i64 k1, .string nm1, .slice a1 ln1 cp1] 24))) := hBa
  have hXa : Ex (W1.alloc (.cells #[.int .i64 k1, .string nm1, .slice a1 ln1 cp1] 24)) 200 T (.agg #[.int .i64 k1, .string nm1, .slice a1 ln1 cp1]) := Ex.below ((Below.refl _ W1).alloc (Nat.le_refl _) _) _ _ _ hX1
  have HX1 : Hid (Ex (W1.alloc (.cells #[.int .i64 k1, .string nm1, .slice a1 ln1 cp1] 24)) 200 T (.agg #[.int .i64 k1, .string nm1, .slice a1 ln1 cp1])) := hXa
  clear hB1 hX1 hBa hXa HP HQ
  go_wp2_with fail
  refine HQ2.mono ?_
  clear HQ2
  rintro e2 W2 ⟨hB2, ⟨k2, nm2, a2, ln2, cp2⟩, hX2, rfl⟩
  unfold rawV at hX2 ⊢
  simp only at hX2 ⊢
  obtain ⟨W3, hW3⟩ : ∃ W3, W3 = W2.alloc (.cells #[.int .i64 k2, .string nm2, .slice a2 ln2 cp2] 24) := ⟨_, rfl⟩
  have hB23 : Below W2.heap.size W2 W3 := by rw [hW3]; exact (Below.refl _ W2).alloc (Nat.le_refl _) _
  have hs2 := hB2.size
  have hB13 : Below (W1.alloc (.cells #[.int .i64 k1, .string nm1, .slice a1 ln1 cp1] 24)).heap.size (W1.alloc (.cells #[.int .i64 k1, .string nm1, .slice a1 ln1 cp1] 24)) W3 := hB2.trans (hB23.mono hs2)
  have hv1 : W3.heap[W1.heap.size]? = some (.cells #[.int .i64 k1, .string nm1, .slice a1 ln1 cp1] 24 (0, 0)) := (hB13.block _ (by simp)).trans (heap_alloc_new W1 _)
  have c01 : W3.cell? ⟨W1.heap.size, 0, none⟩ = some (.int .i64 k1) := cell_of_row W3 _ 0 _ _ _ hv1
  have c11 : W3.cell? ⟨W1.heap.size, 1, none⟩ = some (.string nm1) := cell_of_row W3 _ 1 _ _ _ hv1
  have c21 : W3.cell? ⟨W1.heap.size, 2, none⟩ = some (.slice a1 ln1 cp1) := cell_of_row W3 _ 2 _ _ _ hv1
  have HS := same_calls 200 200 T T (.agg #[.int .i64 k1, .string nm1, .slice a1 ln1 cp1]) (.agg #[.int .i64 k2, .string nm2, .slice a2 ln2 cp2]) W3 true (Ex.below hB13 _ _ _ HX1.out) (Ex.below hB23 _ _ _ hX2) (by simp)
  have HW3 : Hid (Below w.heap.size w W3) := HW1.out.trans (hB13.mono HW1.out.size)
  rw [hW3] at c01 c11 c21
  have HWE : Hid (W3 = W2.alloc (.cells #[.int .i64 k2, .string nm2, .slice a2 ln2 cp2] 24)) := hW3
  clear hB2 hX2 hW3 hB23 hs2 hB13 hv1 HX1 HW1
  go_wp2_with fail
  rw [← HWE.out]
  clear HWE c01 c11 c21
  refine HS.mono ?_
  clear HS
  rintro e3 W4 ⟨rfl, hB4⟩
  have hBw : Below w.heap.size w W4 := HW3.out.trans (hB4.mono HW3.out.size)
  have HA2 := HA.out W4 hBw
  have HBW : Hid (Below w.heap.size w W4) := hBw
  clear hB4 hBw HA HW3
  go_wp2_with fail
  refine HA2.mono ?_
  clear HA2
  rintro e W ⟨rfl, hW⟩
  have HB : Hid (Below w.heap.size w W) := HBW.out.trans (hW.mono HBW.out.size)
  clear hW HBW
  go_wp2
  go_ret
  exact ⟨rfl, HB.out⟩
end Go.Proofs.YtafidabopcgkhaaDoor
