/-
  PROVED HERE: what the calls of a schema that is nil, or that nobody made, answer; the walk of SchemaZero.
-/
import Derived.Test.YtmihneegdkdghabDoorProg
import Derived.WalkKit
import Derived.Below
import Derived.Deep.Light
import Derived.RangeFuncRecord
import GoSem.Claim
namespace Go.Proofs.YtmihneegdkdghabDoor
open Go.RowKit

/-- A schema that is nil, or that no call made. -/
def Unmade (w : World) (v : Value) : Prop := v = .pointer none ∨ ∃ b, v = .pointer (some ⟨b, 0, none⟩) ∧ b < w.heap.size ∧ w.cell? ⟨b, 0, none⟩ = some (.slice none 0 0)
theorem Unmade.below {w w' : World} {v : Value} (h : Unmade w v) (hb : Below w.heap.size w w') : Unmade w' v := by
  rcases h with h | ⟨b, h1, h2, h3⟩
  · exact .inl h
  · exact .inr ⟨b, h1, Nat.lt_of_lt_of_le h2 hb.size, (hb.cell (p := ⟨b, 0, none⟩) h2).trans h3⟩
def noSpec : Value := .agg #[.string ⟨#[]⟩, .string ⟨#[]⟩, .bool false, .int .i64 0, .int .i64 0, .int .i64 0, .bool false]
set_option maxRecDepth 100000 in
set_option maxHeartbeats 1000000 in
theorem made_no (v : Value) (w : World) (h : Unmade w v) : Calls Tryd.prog 9 #[v] w fun e w' => e = .returned (.bool false) ∧ w' = w := by
  rcases h with rfl | ⟨b, rfl, hb, hc⟩
  all_goals
    go_enter Tryd.func9, Tryd.ntmps9
    go_wp2
    go_ret
    exact ⟨rfl, rfl⟩
set_option maxRecDepth 100000 in
set_option maxHeartbeats 1000000 in
theorem check_no (v : Value) (a : Option Addr) (len cap : Nat) (w : World) (h : Unmade w v) : Calls Tryd.prog 4 #[v, .slice a len cap] w fun e w' => e = .returned (.tuple #[.int .i64 0, .int .i64 7]) ∧ w' = w := by
  have HC := made_no v w h
  clear h
  go_enter Tryd.func4, Tryd.ntmps4
  go_wp2_with fail
  refine HC.mono ?_
  rintro e W ⟨rfl, rfl⟩
  go_wp2
  go_ret2
  exact ⟨rfl, rfl⟩
set_option maxRecDepth 100000 in
set_option maxHeartbeats 1000000 in
theorem type_no (v : Value) (t : Int) (w : World) (h : Unmade w v) : Calls Tryd.prog 12 #[v, .int .i64 t] w fun e w' => e = .returned (.pointer none) ∧ w' = w := by
  have HC := made_no v w h
  clear h
  go_enter Tryd.func12, Tryd.ntmps12
  go_wp2_with fail
  refine HC.mono ?_
  rintro e W ⟨rfl, rfl⟩
  go_wp2
  go_ret
  exact ⟨rfl, rfl⟩
set_option maxRecDepth 100000 in
set_option maxHeartbeats 1000000 in
theorem valid_no (v : Value) (a : Option Addr) (len cap : Nat) (w : World) (h : Unmade w v) : Calls Tryd.prog 14 #[v, .slice a len cap] w fun e w' => e = .returned (.bool false) ∧ w' = w := by
  have HC := check_no v a len cap w h
  clear h
  go_enter Tryd.func14, Tryd.ntmps14
  go_wp2_with fail
  refine HC.mono ?_
  rintro e W ⟨rfl, rfl⟩
  go_wp2
  go_ret
  exact ⟨rfl, rfl⟩
set_option maxRecDepth 100000 in
set_option maxHeartbeats 1000000 in
theorem fillb_no (v : Value) (a : Option Addr) (len cap : Nat) (t d : Int) (w : World) (h : Unmade w v) : Calls Tryd.prog 13 #[v, .slice a len cap, .int .i64 t, .int .i64 d] w fun e w' => e = .returned (.tuple #[.slice none 0 0, .bool false]) ∧ w' = w := by
  have HC := type_no v t w h
  clear h
  go_enter Tryd.func13, Tryd.ntmps13
  go_wp2_with fail
  refine HC.mono ?_
  rintro e W ⟨rfl, rfl⟩
  go_wp2
  go_ret2
  exact ⟨rfl, rfl⟩
set_option maxRecDepth 100000 in
set_option maxHeartbeats 1000000 in
theorem fill_no (v : Value) (t : Int) (w : World) (h : Unmade w v) : Calls Tryd.prog 6 #[v, .int .i64 t] w fun e w' => e = .returned (.tuple #[.slice none 0 0, .bool false]) ∧ w' = w := by
  have HC := fillb_no v none 0 0 t 0 w h
  clear h
  go_enter Tryd.func6, Tryd.ntmps6
  go_wp2_with fail
  refine HC.mono ?_
  rintro e W ⟨rfl, rfl⟩
  go_wp2
  go_ret2
  exact ⟨rfl, rfl⟩
set_option maxRecDepth 100000 in
set_option maxHeartbeats 1000000 in
theorem may_no (v : Value) (a : Option Addr) (len cap : Nat) (t u : Int) (w : World) (h : Unmade w v) (_hl : (len : Int) ≤ 9223372036854775807) : Calls Tryd.prog 8 #[v, .slice a len cap, .int .i64 t, .int .i64 u] w fun e w' => e = .returned (.bool false) ∧ w' = w := by
  have HC := valid_no v a len cap w h
  clear h
  go_enter Tryd.func8, Tryd.ntmps8
  go_wp2_with (first | (refine HC.mono ?_; rintro e W ⟨rfl, rfl⟩) | fail)
  all_goals
    go_ret
    exact ⟨rfl, rfl⟩
set_option maxRecDepth 100000 in
set_option maxHeartbeats 1000000 in
theorem spec_no (v : Value) (t : Int) (w : World) (h : Unmade w v) : Calls Tryd.prog 5 #[v, .int .i64 t] w fun e w' => e = .returned (.tuple #[noSpec, .bool false]) ∧ Below w.heap.size w w' := by
  have HC : Hid (∀ W, Below w.heap.size w W → Calls Tryd.prog 12 #[v, .int .i64 t] W fun e w' => e = .returned (.pointer none) ∧ w' = W) := fun W hW => type_no v t W (h.below hW)
  have HB : Hid (∀ o, Below w.heap.size w (w.alloc o)) := fun o => (Below.refl _ w).alloc (Nat.le_refl _) _
  clear h
  unfold noSpec
  go_enter Tryd.func5, Tryd.ntmps5
  go_wp2_with fail
  refine (HC.out _ (HB.out _)).mono ?_
  rintro e W ⟨rfl, rfl⟩
  go_wp2
  exact bodyPost_ret (v := .tuple #[.agg #[.string ⟨#[]⟩, .string ⟨#[]⟩, .bool false, .int .i64 0, .int .i64 0, .int .i64 0, .bool false], .bool false]) (by simp [results, Tryd.results5, go_sem]) rfl ⟨rfl, HB.out _⟩
set_option maxRecDepth 100000 in
set_option maxHeartbeats 1000000 in
theorem holds_no (v : Value) (a : Option Addr) (len cap : Nat) (t : Int) (w : World) (h : Unmade w v) : Calls Tryd.prog 7 #[v, .slice a len cap, .int .i64 t] w fun e w' => e = .returned (.tuple #[noSpec, .bool false]) ∧ Below w.heap.size w w' := by
  have HC : Hid (∀ W, Below w.heap.size w W → Calls Tryd.prog 14 #[v, .slice a len cap] W fun e w' => e = .returned (.bool false) ∧ w' = W) := fun W hW => valid_no v a len cap W (h.below hW)
  have HB : Hid (∀ o, Below w.heap.size w (w.alloc o)) := fun o => (Below.refl _ w).alloc (Nat.le_refl _) _
  clear h
  unfold noSpec
  go_enter Tryd.func7, Tryd.ntmps7
  go_wp2_with fail
  refine (HC.out _ (HB.out _)).mono ?_
  rintro e W ⟨rfl, rfl⟩
  go_wp2
  exact bodyPost_ret (v := .tuple #[.agg #[.string ⟨#[]⟩, .string ⟨#[]⟩, .bool false, .int .i64 0, .int .i64 0, .int .i64 0, .bool false], .bool false]) (by simp [results, Tryd.results7, go_sem]) rfl ⟨rfl, HB.out _⟩
set_option maxRecDepth 100000 in
set_option maxHeartbeats 4000000 in
theorem zero_walk (a : Option Addr) (len cap : Nat) (t : Int) (w : World) (hl : (len : Int) ≤ 9223372036854775807) : Calls Tryd.prog 3 #[.slice a len cap, .int .i64 t] w fun e w' => e = .returned (.bool true) ∧ Below w.heap.size w w' := by
  have U1 : ∀ W, Unmade W (.pointer none) := fun W => .inl rfl
  have HB1 : Hid (∀ o, Below w.heap.size w (w.alloc o)) := fun o => (Below.refl _ w).alloc (Nat.le_refl _) _
  obtain ⟨w1, hw1⟩ : ∃ w1, w1 = w.alloc (.cells #[.slice none 0 0, .slice none 0 0] 27) := ⟨_, rfl⟩
  have hb1 : Below w.heap.size w w1 := by rw [hw1]; exact HB1.out _
  have hs1 : w1.heap.size = w.heap.size + 1 := by rw [hw1]; simp
  have hc1 : w1.heap[w.heap.size]? = some (.cells #[.slice none 0 0, .slice none 0 0] 27 (0, 0)) := by rw [hw1]; exact World.alloc_heap_new w _
  have HU : Hid (∀ W, Below w1.heap.size w1 W → Unmade W (.pointer (some ⟨w.heap.size, 0, none⟩))) := fun W hW => by
    refine .inr ⟨_, rfl, by have := hW.size; omega, ?_⟩
    have : W.heap[w.heap.size]? = some (.cells #[.slice none 0 0, .slice none 0 0] 27 (0, 0)) := (hW.block _ (by omega)).trans hc1
    simp [World.cell?, this]
  have HW1 : Hid (w.alloc (.cells #[.slice none 0 0, .slice none 0 0] 27) = w1) := hw1.symm
  have HR : Hid (Below w1.heap.size w1 w1) := Below.refl _ _
  have HF : Hid (∀ W, Below w1.heap.size w1 W → Below w.heap.size w W) := fun W hW => hb1.trans (hW.mono hb1.size)
  have HLT : Hid (∀ W, Below w1.heap.size w1 W → w.heap.size < W.heap.size) := fun W hW => by have := hW.size; omega
  have h1 := fun W => check_no (.pointer none) a len cap W (U1 W)
  have H1 : Hid (∀ W, Calls Tryd.prog 4 #[.pointer none, .slice a len cap] W fun e w' => e = .returned (.tuple #[.int .i64 0, .int .i64 7]) ∧ w' = W) := h1
  have H2 : Hid (∀ W, Below w1.heap.size w1 W → Calls Tryd.prog 4 #[.pointer (some ⟨w.heap.size, 0, none⟩), .slice a len cap] W fun e w' => e = .returned (.tuple #[.int .i64 0, .int .i64 7]) ∧ w' = W) := fun W hW => check_no _ a len cap W (HU.out W hW)
  have H3 : Hid (∀ W, Calls Tryd.prog 5 #[.pointer none, .int .i64 t] W fun e w' => e = .returned (.tuple #[noSpec, .bool false]) ∧ Below W.heap.size W w') := fun W => spec_no _ t W (U1 W)
  have H4 : Hid (∀ W, Below w1.heap.size w1 W → Calls Tryd.prog 6 #[.pointer (some ⟨w.heap.size, 0, none⟩), .int .i64 t] W fun e w' => e = .returned (.tuple #[.slice none 0 0, .bool false]) ∧ w' = W) := fun W hW => fill_no _ t W (HU.out W hW)
  have H5 : Hid (∀ W, Below w1.heap.size w1 W → Calls Tryd.prog 7 #[.pointer (some ⟨w.heap.size, 0, none⟩), .slice a len cap, .int .i64 t] W fun e w' => e = .returned (.tuple #[noSpec, .bool false]) ∧ Below W.heap.size W w') := fun W hW => holds_no _ a len cap t W (HU.out W hW)
  have H6 : Hid (∀ W, Calls Tryd.prog 8 #[.pointer none, .slice a len cap, .int .i64 t, .int .i64 0] W fun e w' => e = .returned (.bool false) ∧ w' = W) := fun W => may_no _ a len cap t 0 W (U1 W) hl
  have H7 : Hid (∀ W, Below w1.heap.size w1 W → Calls Tryd.prog 8 #[.pointer (some ⟨w.heap.size, 0, none⟩), .slice a len cap, .int .i64 t, .int .i64 0] W fun e w' => e = .returned (.bool false) ∧ w' = W) := fun W hW => may_no _ a len cap t 0 W (HU.out W hW) hl
  have HAL : Hid (∀ (W : World) o, Below w1.heap.size w1 W → Below w1.heap.size w1 (W.alloc o)) := fun W o hW => hW.alloc hW.size _
  clear h1 U1 hb1 hs1 hc1 hw1
  go_enter Tryd.func3, Tryd.ntmps3
  go_wp2_with fail
  rw [HW1.out]
  refine (H1.out _).mono ?_
  rintro e W1 ⟨rfl, hE⟩
  subst hE
  go_wp2_with fail
  refine (H2.out _ HR.out).mono ?_
  rintro e W2 ⟨rfl, hE⟩
  subst hE
  go_wp2_with fail
  refine (H3.out _).mono ?_
  rintro e W3 ⟨rfl, h3⟩
  unfold noSpec
  have hB3 := h3
  clear h3 HW1
  go_wp2_with fail
  refine (H4.out _ (HAL.out _ _ hB3)).mono ?_
  rintro e W4 ⟨rfl, hE⟩
  subst hE
  go_wp2_with fail
  refine (H5.out _ (HAL.out _ _ hB3)).mono ?_
  rintro e W5 ⟨rfl, h5⟩
  unfold noSpec
  have hB5 : Below _ _ W5 := (HAL.out _ _ hB3).trans (h5.mono (HAL.out _ _ hB3).size)
  clear h5 hB3
  go_wp2_with fail
  refine (H6.out _).mono ?_
  rintro e W6 ⟨rfl, hE⟩
  subst hE
  go_wp2_with fail
  refine (H7.out _ (HAL.out _ _ hB5)).mono ?_
  rintro e W7 ⟨rfl, hE⟩
  subst hE
  have HE := HF.out _ (HAL.out W5 (.cells #[.string ⟨#[]⟩, .string ⟨#[]⟩, .bool false, .int .i64 0, .int .i64 0, .int .i64 0, .bool false] 32) hB5)
  have HEND : Hid (Below w.heap.size w (W5.alloc (.cells #[.string ⟨#[]⟩, .string ⟨#[]⟩, .bool false, .int .i64 0, .int .i64 0, .int .i64 0, .bool false] 32))) := HE
  clear HE
  go_wp2
  go_ret
  exact ⟨rfl, HEND.out⟩
end Go.Proofs.YtmihneegdkdghabDoor
