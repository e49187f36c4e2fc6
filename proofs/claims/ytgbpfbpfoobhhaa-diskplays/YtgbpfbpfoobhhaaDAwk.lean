/-
  PROVED HERE: the law's own awake answers true; nothing that lay before has turned.
-/
import Derived.Test.YtgbpfbpfoobhhaaDApp
namespace Go.Proofs.Ytgbpfbpfoobhhaa
open Go.RowKit

/-- What a disk's own call turned lies from base on. -/
theorem Done.to_below {w w' : World} {base b : Nat} {v : Value} {bs bs0 : List Int} {s s0 m : Int} {n : Nat} (h : Done w w' base b v bs s m) (h0 : Dk w base b v bs0 s0 m) (hn : n ≤ base) : Below n w w' := by
  obtain ⟨v', _, h2, _⟩ := h
  refine h2.below (by have := h0.ge; have := h0.lt; omega) (fun k e => ?_)
  rcases e with rfl | e
  · have := h0.ge
    omega
  · have := (h0.own_lt k e).1
    omega

set_option maxRecDepth 100000 in
set_option maxHeartbeats 1000000 in
theorem awake_calls (w : World) : Calls Try.prog 9 #[] w fun e w' => e = .returned (.bool true) ∧ Below w.heap.size w w' := by
  have hk := dk_new w 3 (by omega)
  have b1 : Below w.heap.size w (w.alloc (.cells #[.slice none 0 0, .int .i64 0, .int .i64 3, .bool true] 48)) := (Below.refl _ w).alloc (Nat.le_refl _) _
  have HA : Hid (∀ W1, W1 = w.alloc (.cells #[.slice none 0 0, .int .i64 0, .int .i64 3, .bool true] 48) → Calls Try.prog 10 #[.pointer (some ⟨w.heap.size, 0, none⟩), .slice (some ⟨W1.heap.size, 0, none⟩) 1 1] (W1.alloc (.cells #[.int .u8 1] 5)) fun e w' => e = .returned (.int .i64 0) ∧ Done (W1.alloc (.cells #[.int .u8 1] 5)) w' w.heap.size w.heap.size (.slice none 0 0) [1] 0 3) := fun W1 e => append_calls w.heap.size w.heap.size (.slice none 0 0) [] 0 3 (some ⟨W1.heap.size, 0, none⟩) 1 1 [1] (W1.alloc (.cells #[.int .u8 1] 5)) ((e ▸ hk).below ((Below.refl _ _).alloc (Nat.le_refl _) _)) (row_new W1 5 1) (fun c hc => by simp at hc; omega) (fun e => by cases e)
  have HK := hide_ hk
  have HB := hide_ b1
  clear hk b1
  go_enter Try.func9, Try.ntmps9
  go_wp2_with fail
  refine (new_good 3 w (by omega)).mono ?_
  rintro e W1 ⟨rfl, hW1⟩
  have HW := hide_ hW1
  clear hW1
  go_wp2_with fail
  refine (HA.out W1 HW.out).mono ?_
  rintro e W2 ⟨rfl, hD⟩
  have hk1 : Dk W1 w.heap.size w.heap.size (.slice none 0 0) [] 0 3 := by rw [HW.out]; exact HK.out
  have b1 : Below w.heap.size w W1 := by rw [HW.out]; exact HB.out
  have b2 : Below w.heap.size w W2 := (b1.alloc b1.size _).trans (hD.to_below (hk1.below ((Below.refl _ _).alloc (Nat.le_refl _) _)) (Nat.le_refl _))
  obtain ⟨v2, k2, _, _⟩ := hD
  have HL := hide_ (len_calls _ _ _ _ _ _ W2 k2)
  clear k2 hk1 b1
  go_wp2_with fail
  refine HL.out.mono ?_
  rintro e W3 ⟨rfl, rfl⟩
  go_wp2
  go_ret
  exact ⟨rfl, b2⟩
end Go.Proofs.Ytgbpfbpfoobhhaa
