/-
  PROVED HERE: awake answers true; what a tree in memory shows.
-/
import Derived.Test.YtafidabopcgkhaaDoorParse
namespace Go.Proofs.YtafidabopcgkhaaDoor
open Go.RowKit

theorem Ex.shows {w : World} {n : Nat} {t : DataW Unit} {k : Int} {s : ByteArray} {a : Option Addr} {len cap : Nat} (h : Ex w n t (.agg #[.int .i64 k, .string s, .slice a len cap])) : kindT t = k ∧ nameT t = s ∧ (subs t).length = len := by
  cases n with
  | zero => exact h.elim
  | succ n =>
    obtain ⟨k', s', a', len', cap', ts, rfl, hv, hl, _⟩ := h
    have := Array.toList_inj.2 (Value.agg.inj hv)
    simp only [List.cons.injEq, Value.int.injEq, Value.string.injEq, Value.slice.injEq, and_true, true_and] at this
    rw [kindT_node, nameT_node, subs_node]
    exact ⟨this.1.symm, this.2.1.symm, by rw [hl, this.2.2.2.1]⟩
theorem letters_a : letters ⟨#[97]⟩ = true := by simp [letters, ByteArray.toList_eq, letter]
theorem name_a_check : checkE 200 (node 1 ⟨#[97]⟩ []) = 0 := by
  have h1 : cnt 200 (node 1 ⟨#[97]⟩ []) = 1 := rfl
  have h2 : dp 200 (node 1 ⟨#[97]⟩ []) = 1 := rfl
  have h3 : rightE 200 (node 1 ⟨#[97]⟩ []) = true := by
    rw [rightE, subs_node, kindT_node, nameT_node]
    simp [shapely, letters_a]
  unfold checkE
  rw [h1, h2, if_neg (by decide), if_pos h3]
theorem out_a : outTree ⟨#[97]⟩ = node 1 ⟨#[97]⟩ [] ∧ outE ⟨#[97]⟩ = 0 := by
  have hr : readT (bts ⟨#[97]⟩) = some (node 1 ⟨#[97]⟩ []) := read_signs [] (fun c hc => by cases hc)
  obtain ⟨o1, o2, _⟩ := out_some (s := ⟨#[97]⟩) (by decide) hr name_a_check
  exact ⟨by unfold outTree; rw [o1]; rfl, o2⟩
set_option maxRecDepth 100000 in
set_option maxHeartbeats 2000000 in
theorem awake_calls (w : World) (hg : ETy w) : Calls Tryd.prog 12 #[] w fun e w' => e = .returned (.bool true) ∧ Below w.heap.size w w' := by
  have H := parse_calls ⟨#[97]⟩ (by decide) w hg
  rw [out_a.1, out_a.2] at H
  generalize (outN ⟨#[97]⟩ : Int) = N at H
  have HH : Hid (Calls Tryd.prog 9 #[.string ⟨#[97]⟩] w fun e w' => Below w.heap.size w w' ∧ ∃ r, Ex w' 200 (node 1 ⟨#[97]⟩ []) (rawV r) ∧ e = .returned (.tuple #[rawV r, .int .i64 N, .int .i64 0])) := H
  clear H hg
  go_enter Tryd.func12, Tryd.ntmps12
  go_wp2_with fail
  refine HH.out.mono ?_
  rintro e W ⟨hB, r, hE, rfl⟩
  obtain ⟨k, nm, a, ln, cp⟩ := r
  unfold rawV at hE ⊢
  simp only at hE ⊢
  obtain ⟨e1, e2, e3⟩ := hE.shows
  rw [kindT_node] at e1
  rw [nameT_node] at e2
  subst e1
  subst e2
  have HB : Hid (∀ o, Below w.heap.size w (W.alloc o)) := fun o => hB.alloc hB.size o
  clear hE e3 hB
  go_wp2
  go_ret
  exact ⟨rfl, HB.out _⟩
end Go.Proofs.YtafidabopcgkhaaDoor
