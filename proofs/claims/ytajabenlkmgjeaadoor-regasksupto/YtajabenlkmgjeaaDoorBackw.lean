/-
  PROVED HERE: slices.Backward over a slice of trees: the iterator gives them from the last to the first, to whatever loop body that keeps what lay below.
-/
import Derived.RangeFuncNested
import Derived.RangeFuncBox
import Derived.RangeFuncBound
import Derived.RangeFuncCalls
import Derived.RangeFuncLeaves
import Derived.Shelf.Abstract
import Derived.Shelf.RegionOpen
import Derived.WalkKit
import Derived.OwnWalkIn
import Derived.TacticsInMore
import Derived.LoopNIn
import Derived.LoopIn
import Derived.Test.YtajabenlkmgjeaaDoorLoop
namespace Go.Proofs.YtajabenlkmgjeaaDoor
open Go.RowKit Go.Shelf
attribute [local go_sem] Oper.semAt_some

/-- The rounds of a loop from the last to the first. -/
def downTo (N : Nat) : List (Fin N) := (List.finRange N).reverse
theorem downTo_length (N : Nat) : (downTo N).length = N := by unfold downTo; simp
theorem downTo_take {N k : Nat} (h : k < N) : (downTo N).take (k + 1) = (downTo N).take k ++ [⟨N - 1 - k, by omega⟩] := by
  rw [List.take_succ_eq_append_getElem (by rw [downTo_length]; exact h)]
  congr 2
  unfold downTo
  rw [List.getElem_reverse]
  simp
/-- What a round is handed: the place and the tree there. -/
def stepE (W0 : World) (b o : Nat) {N : Nat} (i : Fin N) : Array Value := #[.int .i64 (i.val : Int), .agg #[(W0.cell? ⟨b, o + i.val * 3, none⟩).getD undef, (W0.cell? ⟨b, o + i.val * 3 + 1, none⟩).getD undef, (W0.cell? ⟨b, o + i.val * 3 + 2, none⟩).getD undef]]
set_option maxRecDepth 100000 in
set_option maxHeartbeats 1000000 in
theorem backw_in (F : Fence) (n : Nat) (h23 : F.fn 59) (hro : F.round = none) (a : Option Addr) (l c : Nat) (w : World) :
    CallsIn F n Tryd.prog 59 #[.slice a l c] w fun e w' => e = .returned (.func (.func 73) #[] #[.pointer (some ⟨w.heap.size, 0, none⟩)]) ∧ w' = w.alloc (.cells #[.slice a l c] 22) := by
  refine callsIn_of_wp Tryd.func59 rfl h23 ?_ hro
  simp only [Tryd.ntmps59, List.size_toArray, List.length_cons, List.length_nil, Nat.reduceAdd, Nat.reduceSub, Array.replicate_succ, Array.replicate_zero, List.push_toArray, List.append_toArray, List.nil_append, List.cons_append]
  gi_wp2
  go_ret
  exact ⟨rfl, rfl⟩
set_option maxRecDepth 100000 in
set_option maxHeartbeats 1000000 in
theorem backw1_in (F : Fence) (n : Nat) (h30 : F.fn 73) (hro : F.round = none) (hn : 1 ≤ n) (W0 : World) (l m : Nat) (b o len cap : Nat) (hlen : len ≤ 9223372036854775807) (hbl : b < W0.heap.size)
    (hcell : ∀ i, i < len → ∃ k s a' l' c', W0.cell? ⟨b, o + i * 3, none⟩ = some (.int .i64 k) ∧ W0.cell? ⟨b, o + i * 3 + 1, none⟩ = some (.string s) ∧ W0.cell? ⟨b, o + i * 3 + 2, none⟩ = some (.slice a' l' c'))
    (J Jx : List (Fin len) → World → Prop)
    (hY : ∀ pre i W, J pre W → pre.length < len → YieldAt F (n - 1) Tryd.prog l (stepE W0 b o i) W fun e W' =>
      (e = .returned (.bool true) ∧ J (pre ++ [i]) W' ∧ (Below W0.heap.size W W' ∧ W'.heap[m]? = W.heap[m]?)) ∨ (e = .returned (.bool false) ∧ Jx (pre ++ [i]) W'))
    (W : World) (hW : Below W0.heap.size W0 W) (hm : W.heap[m]? = some (.cells #[.slice (some ⟨b, o, none⟩) len cap] 22 (0, 0))) (h0 : J [] W) :
    CallsIn F n Tryd.prog 73 #[.func (.yield l) #[] #[], .pointer (some ⟨m, 0, none⟩)] W fun e W' => (∃ v, e = .returned v) ∧
      ((∃ ys, ys = downTo len ∧ J ys W') ∨ (∃ pre, pre <+: downTo len ∧ Jx pre W')) := by
  refine callsIn_of_wp Tryd.func73 rfl h30 ?_ hro
  simp only [Tryd.ntmps73, List.size_toArray, List.length_cons, List.length_nil, Nat.reduceAdd, Nat.reduceSub, Array.replicate_succ, Array.replicate_zero, List.push_toArray, List.append_toArray, List.nil_append, List.cons_append]
  have hm0 : W.cell? ⟨m, 0, none⟩ = some (.slice (some ⟨b, o, none⟩) len cap) := cell_of_row W m 0 _ _ _ hm
  gi_wp2
  gi_loopw [3] (fun q wr => ∃ k : Nat, k ≤ len ∧ q = .int .i64 ((len : Int) - 1 - (k : Int)) ∧ J ((downTo len).take k) wr ∧ Below W0.heap.size W0 wr ∧ wr.heap[m]? = some (.cells #[.slice (some ⟨b, o, none⟩) len cap] 22 (0, 0)))
    (fun q _ => (intOf q + 1).toNat)
  case atStart => exact ⟨0, by omega, by go_num, h0, hW, hm⟩
  case round =>
    obtain ⟨k, hk, rfl, hJs, hB, hmr⟩ := hrel
    have hm1 : wr.cell? ⟨m, 0, none⟩ = some (.slice (some ⟨b, o, none⟩) len cap) := cell_of_row wr m 0 _ _ _ hmr
    by_cases hlt : k < len
    · have hi : len - 1 - k < len := by omega
      obtain ⟨kx, sx, ax, lx, cx, e0, e1, e2⟩ := hcell (len - 1 - k) hi
      have hc0 := (hB.cell (p := ⟨b, o + (len - 1 - k) * 3, none⟩) hbl).trans e0
      have hc1 := (hB.cell (p := ⟨b, o + (len - 1 - k) * 3 + 1, none⟩) hbl).trans e1
      have hc2 := (hB.cell (p := ⟨b, o + (len - 1 - k) * 3 + 2, none⟩) hbl).trans e2
      obtain ⟨fn, tmps, assign, body, hy, hR⟩ := hY _ ⟨len - 1 - k, hi⟩ wr hJs (by rw [List.length_take, downTo_length]; omega)
      unfold stepE at hy
      simp only [e0, e1, e2, Option.getD_some] at hy
      obtain ⟨i, hi'⟩ : ∃ i, i = len - 1 - k := ⟨_, rfl⟩
      have hpk : (len : Int) - 1 - (k : Int) = (i : Int) := by omega
      rw [← hi'] at hc0 hc1 hc2
      simp only [← hi'] at hy
      rw [hpk]
      have hii : (i : Int) < (len : Int) := by omega
      have hi0 : (0 : Int) ≤ (i : Int) := by omega
      have HT : Hid ((downTo len).take (k + 1) = (downTo len).take k ++ [⟨len - 1 - k, hi⟩]) := downTo_take hlt
      have HI : Hid (i = len - 1 - k) := hi'
      clear hcell hY e0 e1 e2 hi' hpk
      gi_wp2
      refine hR.mono ?_
      rintro e W3 (⟨rfl, hJ3, hk3, hm3⟩ | ⟨rfl, hJx3⟩)
      · gi_wp2
        go_roundw
        case rel => exact ⟨k + 1, by omega, by have := HI.out; go_num, by rw [HT.out]; exact hJ3, hB.trans hk3, hm3.trans hmr⟩
        case measure => have := HI.out; simp [intOf] <;> omega
      · gi_wp2
        refine bodyPost_ret (results_none rfl _ _ _) rfl ?_
        exact ⟨⟨_, rfl⟩, .inr ⟨_, by rw [← HT.out]; exact List.take_prefix _ _, hJx3⟩⟩
    · obtain rfl : k = len := by omega
      have hpk : (k : Int) - 1 - (k : Int) = -1 := by omega
      rw [hpk]
      clear hY hcell
      gi_wp2
      go_end0
      rw [List.take_of_length_le (by rw [downTo_length]; exact Nat.le_refl _)] at hJs
      exact ⟨⟨_, rfl⟩, Or.inl ⟨_, rfl, hJs⟩⟩
end Go.Proofs.YtajabenlkmgjeaaDoor
