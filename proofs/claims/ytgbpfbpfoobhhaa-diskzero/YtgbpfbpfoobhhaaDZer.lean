/-
  PROVED HERE: what a disk that nobody made answers; the body of DiskZero: it answers true.
-/
import Derived.Test.YtgbpfbpfoobhhaaDAwk
namespace Go.Proofs.Ytgbpfbpfoobhhaa
open Go.RowKit

set_option maxRecDepth 100000 in
set_option maxHeartbeats 1000000 in
theorem zAppend (p : Option Addr) (x : Value) (w : World) (hm : Calls Try.prog 22 #[.pointer p] w fun e w' => e = .returned (.bool false) ∧ w' = w) : Calls Try.prog 10 #[.pointer p, x] w fun e w' => e = .returned (.int .i64 7) ∧ w' = w := by
  have HM := hide_ hm
  clear hm
  go_enter Try.func10, Try.ntmps10
  go_wp2_with fail
  refine HM.out.mono ?_
  rintro e W1 ⟨rfl, rfl⟩
  go_wp2
  go_ret
  exact ⟨rfl, rfl⟩

set_option maxRecDepth 100000 in
set_option maxHeartbeats 1000000 in
theorem zSync (p : Option Addr)  (w : World) (hm : Calls Try.prog 22 #[.pointer p] w fun e w' => e = .returned (.bool false) ∧ w' = w) : Calls Try.prog 13 #[.pointer p] w fun e w' => e = .returned (.int .i64 7) ∧ w' = w := by
  have HM := hide_ hm
  clear hm
  go_enter Try.func13, Try.ntmps13
  go_wp2_with fail
  refine HM.out.mono ?_
  rintro e W1 ⟨rfl, rfl⟩
  go_wp2
  go_ret
  exact ⟨rfl, rfl⟩

set_option maxRecDepth 100000 in
set_option maxHeartbeats 1000000 in
theorem zCrash (p : Option Addr) (x : Value) (w : World) (hm : Calls Try.prog 22 #[.pointer p] w fun e w' => e = .returned (.bool false) ∧ w' = w) : Calls Try.prog 14 #[.pointer p, x] w fun e w' => e = .returned (.int .i64 7) ∧ w' = w := by
  have HM := hide_ hm
  clear hm
  go_enter Try.func14, Try.ntmps14
  go_wp2_with fail
  refine HM.out.mono ?_
  rintro e W1 ⟨rfl, rfl⟩
  go_wp2
  go_ret
  exact ⟨rfl, rfl⟩

set_option maxRecDepth 100000 in
set_option maxHeartbeats 1000000 in
theorem zCut (p : Option Addr) (x : Value) (w : World) (hm : Calls Try.prog 22 #[.pointer p] w fun e w' => e = .returned (.bool false) ∧ w' = w) : Calls Try.prog 16 #[.pointer p, x] w fun e w' => e = .returned (.int .i64 7) ∧ w' = w := by
  have HM := hide_ hm
  clear hm
  go_enter Try.func16, Try.ntmps16
  go_wp2_with fail
  refine HM.out.mono ?_
  rintro e W1 ⟨rfl, rfl⟩
  go_wp2
  go_ret
  exact ⟨rfl, rfl⟩

set_option maxRecDepth 100000 in
set_option maxHeartbeats 1000000 in
theorem zBytes (p : Option Addr)  (w : World) (hm : Calls Try.prog 22 #[.pointer p] w fun e w' => e = .returned (.bool false) ∧ w' = w) : Calls Try.prog 19 #[.pointer p] w fun e w' => e = .returned (.slice none 0 0) ∧ w' = w := by
  have HM := hide_ hm
  clear hm
  go_enter Try.func19, Try.ntmps19
  go_wp2_with fail
  refine HM.out.mono ?_
  rintro e W1 ⟨rfl, rfl⟩
  go_wp2
  go_ret
  exact ⟨rfl, rfl⟩

set_option maxRecDepth 100000 in
set_option maxHeartbeats 1000000 in
theorem zLen (p : Option Addr)  (w : World) (hm : Calls Try.prog 22 #[.pointer p] w fun e w' => e = .returned (.bool false) ∧ w' = w) : Calls Try.prog 20 #[.pointer p] w fun e w' => e = .returned (.int .i64 0) ∧ w' = w := by
  have HM := hide_ hm
  clear hm
  go_enter Try.func20, Try.ntmps20
  go_wp2_with fail
  refine HM.out.mono ?_
  rintro e W1 ⟨rfl, rfl⟩
  go_wp2
  go_ret
  exact ⟨rfl, rfl⟩

set_option maxRecDepth 100000 in
set_option maxHeartbeats 1000000 in
theorem zSure (p : Option Addr)  (w : World) (hm : Calls Try.prog 22 #[.pointer p] w fun e w' => e = .returned (.bool false) ∧ w' = w) : Calls Try.prog 21 #[.pointer p] w fun e w' => e = .returned (.int .i64 0) ∧ w' = w := by
  have HM := hide_ hm
  clear hm
  go_enter Try.func21, Try.ntmps21
  go_wp2_with fail
  refine HM.out.mono ?_
  rintro e W1 ⟨rfl, rfl⟩
  go_wp2
  go_ret
  exact ⟨rfl, rfl⟩

set_option maxRecDepth 100000 in
set_option maxHeartbeats 1000000 in
theorem zCopy (p : Option Addr)  (w : World) (hm : Calls Try.prog 22 #[.pointer p] w fun e w' => e = .returned (.bool false) ∧ w' = w) : Calls Try.prog 18 #[.pointer p] w fun e w' => e = .returned (.pointer none) ∧ w' = w := by
  have HM := hide_ hm
  clear hm
  go_enter Try.func18, Try.ntmps18
  go_wp2_with fail
  refine HM.out.mono ?_
  rintro e W1 ⟨rfl, rfl⟩
  go_wp2
  go_ret
  exact ⟨rfl, rfl⟩

set_option maxRecDepth 100000 in
set_option maxHeartbeats 4000000 in
theorem zero_walk (a0 : Option Addr) (len0 cap0 : Nat) (a1 : Int) (w : World) :
    Calls Try.prog 6 #[.slice a0 len0 cap0, .int .i64 a1] w fun e w' => e = .returned (.bool true) ∧ Below w.heap.size w w' := by
  have hc : (w.alloc (.cells #[.slice none 0 0, .int .i64 0, .int .i64 0, .bool false] 48)).cell? ⟨w.heap.size, 3, none⟩ = some (.bool false) := by
    have := World.alloc_heap_new w (.cells #[.slice none 0 0, .int .i64 0, .int .i64 0, .bool false] 48)
    simp only [World.cell?]
    rw [this]
    rfl
  have b1 : Below w.heap.size w (w.alloc (.cells #[.slice none 0 0, .int .i64 0, .int .i64 0, .bool false] 48)) := (Below.refl _ w).alloc (Nat.le_refl _) _
  have HC := hide_ (made_calls w.heap.size false _ hc)
  have HB := hide_ b1
  clear hc b1
  go_enter Try.func6, Try.ntmps6
  go_wp2_with fail
  refine (zAppend none (.slice a0 len0 cap0) _ (made_nil _)).mono ?_
  rintro e W1 ⟨rfl, rfl⟩
  go_wp2_with fail
  refine (zAppend (some ⟨w.heap.size, 0, none⟩) (.slice a0 len0 cap0) _ HC.out).mono ?_
  rintro e W1 ⟨rfl, rfl⟩
  go_wp2_with fail
  refine (zSync none _ (made_nil _)).mono ?_
  rintro e W1 ⟨rfl, rfl⟩
  go_wp2_with fail
  refine (zSync (some ⟨w.heap.size, 0, none⟩) _ HC.out).mono ?_
  rintro e W1 ⟨rfl, rfl⟩
  go_wp2_with fail
  refine (zCrash none (.int .i64 a1) _ (made_nil _)).mono ?_
  rintro e W1 ⟨rfl, rfl⟩
  go_wp2_with fail
  refine (zCut (some ⟨w.heap.size, 0, none⟩) (.int .i64 a1) _ HC.out).mono ?_
  rintro e W1 ⟨rfl, rfl⟩
  go_wp2_with fail
  refine (zBytes none _ (made_nil _)).mono ?_
  rintro e W1 ⟨rfl, rfl⟩
  go_wp2_with fail
  refine (zLen (some ⟨w.heap.size, 0, none⟩) _ HC.out).mono ?_
  rintro e W1 ⟨rfl, rfl⟩
  go_wp2_with fail
  refine (zSure none _ (made_nil _)).mono ?_
  rintro e W1 ⟨rfl, rfl⟩
  go_wp2_with fail
  refine (zCopy none _ (made_nil _)).mono ?_
  rintro e W1 ⟨rfl, rfl⟩
  go_wp2_with fail
  refine (zCopy (some ⟨w.heap.size, 0, none⟩) _ HC.out).mono ?_
  rintro e W1 ⟨rfl, rfl⟩
  go_wp2
  go_ret
  exact ⟨rfl, HB.out⟩
end Go.Proofs.Ytgbpfbpfoobhhaa
