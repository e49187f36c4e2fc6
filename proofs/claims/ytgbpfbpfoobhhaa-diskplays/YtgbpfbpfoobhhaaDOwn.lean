/-
  PROVED HERE: disk.own, Bytes: the bytes in memory of their own, which has no room behind them.
-/
import Derived.Test.YtgbpfbpfoobhhaaDFn
namespace Go.Proofs.Ytgbpfbpfoobhhaa
open Go.RowKit

theorem copy_new (ab : Option Addr) (lb cb : Nat) (bs : List Int) (w : World) (hrb : Row .u8 w ab lb bs) (hsz : lb ≤ maxLen) :
    ∃ v W1, (Builtin.copy_ #[22, 22] 3 #[.slice (some ⟨w.heap.size, 0, none⟩) lb lb, .slice ab lb cb]).run Try.prog (w.alloc (.cells (madeCells #[.int .u8 0] lb) 5)) = .ok v W1 ∧
      W1.ownsRow w.heap.size 5 1 (.slice (some ⟨w.heap.size, 0, none⟩) lb lb) lb (bs.map (Value.int .u8)) ∧ Below w.heap.size w W1 := by
  obtain ⟨hl, hr⟩ := hrb
  have hB : Below w.heap.size w (w.alloc (.cells (madeCells #[.int .u8 0] lb) 5)) := (Below.refl _ w).alloc (Nat.le_refl _) _
  have hg : (w.alloc (.cells (madeCells #[.int .u8 0] lb) 5)).heap[w.heap.size]? = some (.cells (madeCells #[.int .u8 0] lb) 5 (0, 0)) := World.alloc_heap_new w _
  rcases hr with h0 | ⟨b, o, rfl, hlt, hc⟩
  · subst h0
    have hbs : bs = [] := List.length_eq_zero_iff.1 hl
    subst hbs
    refine ⟨_, _, run_copy_none _ 22 22 3 5 _ _ _ _ _ _ Try.underlying22 info5s (by simp), ⟨rfl, .inr ⟨_, _, _, rfl, Nat.le_refl _, hg, by omega, hsz, by simp [size_madeCells], by simp⟩⟩, hB⟩
  · have hsrc : ∀ j v, (bs.map (Value.int .u8))[j]? = some v → (w.alloc (.cells (madeCells #[.int .u8 0] lb) 5)).cell? ((⟨b, o, none⟩ : Addr).add j) = some v := by
      intro j v hj
      have hjl : j < lb := by
        have := (List.getElem?_eq_some_iff.1 hj).1
        simp at this
        omega
      have hadd : (⟨b, o, none⟩ : Addr).add j = ⟨b, o + j, none⟩ := by unfold Addr.add; split <;> simp_all
      rw [hadd, hB.cell (p := ⟨b, o + j, none⟩) hlt, hc j hjl]
      rw [List.getElem?_map, List.getElem?_eq_getElem (by omega)] at hj
      simp at hj
      rw [← hj, List.getD_eq_getElem?_getD, List.getElem?_eq_getElem (by omega)]
      rfl
    refine ⟨_, _, run_copy_row Try.prog _ 22 22 3 5 w.heap.size 0 lb lb ⟨b, o, none⟩ lb cb _ 5 (bs.map (Value.int .u8)) Try.underlying22 info5s hg (by simp [hl]) hsrc (by simp [size_madeCells]; omega) (by simp [Value.oneCell']), ?_, ?_⟩
    · refine ⟨by simp [hl], .inr ⟨_, _, _, rfl, Nat.le_refl _, setRow_heap _ _ _ _ _ _ hg, by omega, hsz, ?_, ?_⟩⟩
      · simp [size_madeCells]; omega
      · simp [toList_madeCells_one, hl]
        exact List.take_of_length_le (by simp [hl])
    · exact below_setRow hB (Nat.le_refl _) _

set_option maxRecDepth 100000 in
set_option maxHeartbeats 1000000 in
theorem own_calls (ab : Option Addr) (n cb : Nat) (bs : List Int) (w : World) (hr : Row .u8 w ab n bs) (hsz : n ≤ 140737488355328) :
    Calls Try.prog 24 #[.slice ab n cb] w fun e w' => e = .returned (.slice (some ⟨w.heap.size, 0, none⟩) n n) ∧ w'.ownsRow w.heap.size 5 1 (.slice (some ⟨w.heap.size, 0, none⟩) n n) n (bs.map (Value.int .u8)) ∧ Below w.heap.size w w' := by
  obtain ⟨i0, hi, hz0, hz1, hz2⟩ := info_parts info5
  have hmk : ∀ u : World, (Instr.makeSlice 22 (.int .i64 (n : Int)) (.int .i64 (n : Int))).run Try.prog u = .ok (.slice (some ⟨u.heap.size, 0, none⟩) n n) (u.alloc (.cells (madeCells #[.int .u8 0] n) 5)) := fun u => by
    have h := run_make (P := Try.prog) u 22 5 i0 (.int .u8 0) Try.underlying22 hi hz0 .i64 .i64 (n : Int) (n : Int) (by omega) (by omega) (by rw [hz2]; omega) (by omega)
    have e : ((n : Int)).toNat = n := by omega
    rw [e] at h
    simpa [hz1, Value.cells] using h
  obtain ⟨cv, W1, hcopy, hown, hB1⟩ := copy_new ab n cb bs w hr (by unfold maxLen; omega)
  have HO := hide_ hown
  have HB := hide_ hB1
  clear hown hB1 hr hi
  go_enter Try.func24, Try.ntmps24
  go_wp2
  go_ret
  exact ⟨rfl, HO.out, HB.out⟩

set_option maxRecDepth 100000 in
set_option maxHeartbeats 1000000 in
theorem bytes_calls (base b : Nat) (v : Value) (bs : List Int) (s m : Int) (w : World) (h : Dk w base b v bs s m) :
    Calls Try.prog 19 #[.pointer (some ⟨b, 0, none⟩)] w fun e w' => e = .returned (.slice (some ⟨w.heap.size, 0, none⟩) bs.length bs.length) ∧ w'.ownsRow w.heap.size 5 1 (.slice (some ⟨w.heap.size, 0, none⟩) bs.length bs.length) bs.length (bs.map (Value.int .u8)) ∧ Below w.heap.size w w' := by
  have HM := hide_ (made_calls b true w h.cell3)
  have c0 := h.cell0
  have hm0 := h.m0
  have hm1 := h.m1
  obtain ⟨a, cap, rfl, _, _, hr, _⟩ := h.row
  have HO := hide_ (own_calls a bs.length cap bs w hr (by omega))
  clear h hr
  generalize bs.length = n at *
  go_enter Try.func19, Try.ntmps19
  go_wp2_with fail
  refine HM.out.mono ?_
  rintro e W1 ⟨rfl, rfl⟩
  go_wp2_with fail
  refine HO.out.mono ?_
  rintro e W2 ⟨rfl, hown, hB⟩
  go_wp2
  go_ret
  exact ⟨rfl, hown, hB⟩
end Go.Proofs.Ytgbpfbpfoobhhaa
