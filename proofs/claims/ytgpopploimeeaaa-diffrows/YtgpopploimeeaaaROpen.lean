/-
  PROVED HERE: the document's own open at every slice of tokens and every number: what it returns; nothing that lay before is turned.
-/
import Derived.Test.YtgpopploimeeaaaRow
namespace Go.Proofs.Ytgpopploimeeaaa
open Go.RowKit

set_option maxRecDepth 100000 in
set_option maxHeartbeats 2000000 in
theorem open_calls (a : Option Addr) (len cap : Nat) (l : List Tok) (at' : Int) (w : World) (hl : Toks w a len l) (hsz : len ≤ 4398046511104) :
    Calls Try.prog 57 #[.slice a len cap, .int .i64 at'] w fun e w' => ∃ a' cap', e = .returned (.slice a' (opened l at').length cap') ∧ Row .i64 w' a' (opened l at').length (opened l at') ∧ Below w.heap.size w w' := by
  obtain ⟨i0, hi, hz0, hz1, hz2⟩ := info_parts info3
  have hN := upTo_le len at'
  have hO := opened_upTo l at'
  rw [hl.1] at hO
  have HO : Hid (opened l at' = openL ((l.take (upTo len at')).drop 0) 0 []) := hO
  clear hO
  have hU : (upTo len at' = at' ∧ 0 < at') ∨ (upTo len at' = 0 ∧ (at' ≤ 0 ∨ (len : Int) < at')) := by unfold upTo; split <;> omega
  generalize upTo len at' = N at *
  generalize hR : opened l at' = R at *
  clear hR
  go_enter Try.func57, Try.ntmps57
  go_wp2
  go_loopw [5, 6] (fun u i w' => ∃ (k : Nat) (s : List Int), k ≤ N ∧ i = .int .i64 (k : Int) ∧ s.length ≤ k ∧ w'.ownsRow w.heap.size 3 1 u s.length (s.map (Value.int .i64)) ∧ R = openL ((l.take N).drop k) k s ∧ Below w.heap.size w w') (fun _ i _ => N - (intOf i).toNat)
  case atStart => exact ⟨0, [], Nat.zero_le _, rfl, Nat.le_refl _, World.ownsRow_nil _ _ _ _, HO.out, Below.refl _ _⟩
  case round =>
    obtain ⟨k, s, hk, rfl, hs, hrow, hRs, hB⟩ := hrel
    by_cases hlt : k < N
    · obtain ⟨x, hx, hst⟩ := openL_step (l := l) hlt (by rw [hl.1]; exact hN) s
      obtain ⟨b, o, rfl, hbl, hc⟩ := hl.kind hx
      have hc0 := hc wr hB
      rw [hst] at hRs
      clear hl hst hx HO
      generalize x.k = xk at *
      obtain ⟨rfl, hat⟩ : at' = (N : Int) ∧ N ≤ len := by omega
      clear hU
      by_cases k1 : xk = 1
      · subst k1
        rw [if_pos rfl] at hRs
        have HR : Hid (R = openL ((l.take N).drop (k + 1)) (k + 1) (s ++ [(k : Int)])) := hRs
        clear hRs
        go_wp2_with (at_builtin; refine wpList_append_own _ rfl _ _ 45 rfl w.heap.size 3 i0 (.int .i64 0) 1 8 Try.underlying45 hi hz0 hz1 hz2 rfl (by decide) _ _ _ rfl (hrow.alloc _) ⟨wr.heap.size, 0, none⟩ 1 1 [.int .i64 (k : Int)] rfl rfl (cell_one_new _ _ _) (by simp [Value.oneCell']) (by unfold maxLen; omega) (by omega) (by have := hB.size; simp; omega) ?_; intro v2 w2 hown2 hgrow hnil2; have hB2 := below_append hB hrow hB.size hgrow; have hc2 := hc w2 hB2)
        go_roundw
        case rel => exact ⟨k + 1, s ++ [(k : Int)], by omega, rfl, by simp; omega, by simpa using hown2, HR.out, hB2⟩
        case measure => simp [intOf]; omega
      · rw [if_neg k1] at hRs
        by_cases k2 : xk = 2
        · subst k2
          rw [if_pos rfl] at hRs
          by_cases h0 : s.length = 0
          · rw [dropLast_none h0] at hRs
            have HR : Hid (R = openL ((l.take N).drop (k + 1)) (k + 1) s) := hRs
            have HW : Hid (wr.ownsRow w.heap.size 3 1 u5 s.length (s.map (Value.int .i64))) := hrow
            obtain ⟨a', cap', hu, hr⟩ := row_of_owns hrow
            rw [h0] at hu
            clear hRs hrow hr
            subst hu
            go_wp2
            go_roundw
            case rel => exact ⟨k + 1, s, by omega, rfl, by omega, HW.out, HR.out, hB⟩
            case measure => simp [intOf]; omega
          · have HR : Hid (R = openL ((l.take N).drop (k + 1)) (k + 1) s.dropLast) := hRs
            obtain ⟨n, hn⟩ : ∃ n, s.length = n + 1 := ⟨s.length - 1, by omega⟩
            rw [hn] at hrow
            obtain ⟨g, cp, hu, hc1, hc2, hrow2⟩ := owns_shrink hrow
            unfold maxLen at hc2
            have HS : Hid (s.dropLast.length = n) := by show s.dropLast.length = n; rw [List.length_dropLast]; omega
            clear hRs hrow
            subst hu
            go_wp2
            go_roundw
            case rel => exact ⟨k + 1, s.dropLast, by omega, rfl, by rw [HS.out]; omega, by rw [HS.out]; exact hrow2, HR.out, hB⟩
            case measure => simp [intOf]; omega
        · rw [if_neg k2] at hRs
          have e1 : (xk == 1) = false := by simpa using k1
          have e2 : (xk == 2) = false := by simpa using k2
          have HR : Hid (R = openL ((l.take N).drop (k + 1)) (k + 1) s) := hRs
          clear hRs
          go_wp2
          go_roundw
          case rel => exact ⟨k + 1, s, by omega, rfl, by omega, hrow, HR.out, hB⟩
          case measure => simp [intOf]; omega
    · obtain rfl : k = N := by omega
      rw [show (l.take k).drop k = [] from List.drop_eq_nil_of_le (by rw [List.length_take]; omega), openL] at hRs
      obtain ⟨a', cap', hu, hr⟩ := row_of_owns hrow
      rw [← hRs] at hu hr
      generalize hn : R.length = n at hu hr
      have HN : Hid (R.length = n) := hn
      clear hn hrow hRs HO hl
      subst hu
      rcases hU with ⟨hU, _⟩ | ⟨hU, hat | hat⟩
      · obtain rfl : at' = (k : Int) := by omega
        go_wp2
        go_ret
        exact ⟨a', ⟨cap', by rw [HN.out]; rfl⟩, by rw [HN.out]; exact hr, hB⟩
      · obtain rfl : k = 0 := by omega
        go_wp2
        go_ret
        exact ⟨a', ⟨cap', by rw [HN.out]; rfl⟩, by rw [HN.out]; exact hr, hB⟩
      · obtain rfl : k = 0 := by omega
        go_wp2
        all_goals go_ret
        all_goals exact ⟨a', ⟨cap', by rw [HN.out]; rfl⟩, by rw [HN.out]; exact hr, hB⟩
end Go.Proofs.Ytgpopploimeeaaa
