/-
  PROVED HERE: slices.Repeat at a slice of one token: what it returns; nothing that lay before is turned.
-/
import Derived.Test.YtpcgedcklmdmkaaRep
namespace Go.Proofs.Ytpcgedcklmdmkaa
open Go.RowKit

theorem rep_made {W : World} {base g n : Nat} {xs : List Value} (x : Tok) (h : W.ownsRow base 35 4 (.slice (some ⟨g, 0, none⟩) n n) n xs) : RepI W g n 0 x := by
  obtain ⟨_, ⟨h1, _⟩ | ⟨g', cap, cur, e, _, hg, _, _, hc3, _⟩⟩ := h
  · simp at h1
  · simp only [Value.slice.injEq, Option.some.injEq, Addr.mk.injEq, and_true, true_and] at e
    obtain ⟨rfl, rfl⟩ := e
    exact ⟨cur.toList, by simpa using hg, by simpa using hc3, by simp [flat]⟩

set_option maxRecDepth 100000 in
set_option maxHeartbeats 400000 in
theorem repeat_calls (x : Tok) (g0 c n : Nat) (w : World) (hx : Toks w (some ⟨g0, 0, none⟩) 1 [x]) (hn : n ≤ 2097152) :
    Calls Try.prog 15 #[.slice (some ⟨g0, 0, none⟩) 1 c, .int .i64 (n : Int)] w fun e w' => ∃ g, e = .returned (.slice (some ⟨g, 0, none⟩) n n) ∧ Toks w' (some ⟨g, 0, none⟩) n (List.replicate n x) ∧ Below w.heap.size w w' := by
  obtain ⟨i0, hi, hz0, hz1, hz2⟩ := info_parts info23
  have hM := mul_calls n (by omega) w
  have c1 : IntKind.u64.wrap (n : Int) = (n : Int) := by rw [IntKind.wrap_u64]; omega
  have c2 : IntKind.i64.wrap (n : Int) = (n : Int) := by rw [IntKind.wrap_i64]; omega
  have e0 : ¬ ((n : Int) < 0) := by omega
  have e9 : ¬ ((9223372036854775807 : Int) < (n : Int)) := by omega
  obtain ⟨m, hm⟩ : ∃ m, m = Nat.min 1 n := ⟨_, rfl⟩
  have hm1 : m ≤ n ∧ (m = 1 ∨ n = 0 ∧ m = 0) := by
    have : m = min 1 n := hm
    omega
  have HM : Hid (m = Nat.min 1 n) := hm
  clear hm
  go_enter Try.func15, Try.ntmps15
  go_wp2_with fail
  refine hM.mono ?_
  rintro e W ⟨rfl, rfl⟩
  clear hM
  go_wp2_with (first
    | (at_make; refine wpList_make_full _ rfl _ _ 22 rfl W.heap.size 35 i0 _ 4 Try.underlying22 hi hz0 hz1 .i64 .i64 _ _ n rfl rfl rfl rfl (by rw [hz2]; omega) (by unfold maxLen; omega) (Nat.le_refl _) ?_; intro W1 r1 r2; have HR : Hid (RepI W1 W.heap.size n 0 x) := rep_made x r1; have hB1 : Below W.heap.size W W1 := (Below.refl _ W).grown r2 (Nat.le_refl _) (fun _ e => by simp at e); have HT : Hid (Toks W1 (some ⟨g0, 0, none⟩) 1 [x]) := hx.below hB1; clear r1 r2)
    | (refine wpList_rep rfl (.tmp 31) (.tmp 32) rfl _ _ _ _ _ rfl rfl x HR.out HT.out m HM.out W.heap.size W hB1 (Nat.le_refl _) ?_; intro W2 HR2 hB2))
  clear HR HT hB1

  go_loopw [8] (fun i w' => ∃ j : Nat, j ≤ n ∧ (1 ≤ j ∨ n = 0) ∧ i = .int .i64 (j : Int) ∧ RepI w' W.heap.size n j x ∧ Below W.heap.size W w') (fun i _ => n - (intOf i).toNat)
  case atStart => exact ⟨m, hm1.1, by omega, rfl, HR2.out, hB2⟩
  case round =>
    clear HR2 hB2 hm1 HM hx
    obtain ⟨j, hj, hj1, rfl, hR, hB⟩ := hrel
    by_cases hlt : j < n
    · obtain ⟨q, hq⟩ : ∃ q, q = Nat.min j (n - j) := ⟨_, rfl⟩
      have hq1 : q ≤ j ∧ q ≤ n - j ∧ 1 ≤ q := by
        have : q = min j (n - j) := hq
        omega
      have HQ : Hid (q = Nat.min j (n - j)) := hq
      have HR : Hid (RepI wr W.heap.size n j x) := hR
      clear hq hR
      go_wp2_with fail
      have b1 : (j : Int) ≤ (n : Int) := by omega
      have hBd : Below W.heap.size W wr.drew := ⟨hB.os, hB.tape, hB.output, hB.size, hB.block⟩
      have HRd : Hid (RepI wr.drew W.heap.size n j x) := HR.out
      have hw : IntKind.i64.wrap ((j : Int) + (q : Int)) = (j : Int) + (q : Int) := by rw [IntKind.wrap_i64]; omega
      clear HR hB
      go_region_law (refine step_rep rfl (.tmp 41) (.tmp 44) rfl (if n = j then some ⟨W.heap.size, 0, none⟩ else some ⟨W.heap.size, j * 4, none⟩) (some ⟨W.heap.size, 0, none⟩) (n - j) (n - j) j n (by simp [Act.eval, Act.put]) (by simp [Act.eval, Act.put]) _ n j x HRd.out (if_neg (by omega)) rfl rfl rfl hj q HQ.out W.heap.size W hBd (Nat.le_refl _) ?_; intro W3 HR3 hB3)
      simp only [List.getElem_toArray, List.getElem_cons_succ, List.getElem_cons_zero, Act.put, List.setIfInBounds_toArray, List.set_cons_zero, List.set_cons_succ]
      go_roundw
      case rel => exact ⟨_, _, _, _, _, _, _, _, _, _, _, _, _, _, ⟨j + q, by omega, by omega, by go_num, HR3.out, hB3⟩, rfl⟩
      case measure => simp [intOf]; omega
    · obtain rfl : j = n := by omega
      have HT : Hid (Toks wr (some ⟨W.heap.size, 0, none⟩) j (List.replicate j x)) := hR.toks
      go_wp2
      go_ret
      exact ⟨_, rfl, HT.out, hB⟩
end Go.Proofs.Ytpcgedcklmdmkaa
