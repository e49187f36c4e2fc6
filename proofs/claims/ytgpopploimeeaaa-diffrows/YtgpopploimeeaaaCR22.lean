/-
  PROVED HERE: what the texts ROpen, RAround, RKids say (each has its own words below).
-/
import Derived.Test.YtgpopploimeeaaaCR2
/- ROpen: the document's own open at every slice of tokens and every number: what it returns; nothing that lay before is turned. -/
namespace Go.Proofs.Ytgpopploimeeaaa
open Go.RowKit

set_option maxRecDepth 100000 in
set_option maxHeartbeats 2000000 in
theorem open_calls (a : Option Addr) (len cap : Nat) (l : List Tok) (at' : Int) (w : World) (hl : Toks w a len l) (hsz : len ≤ 4398046511104) :
    Calls Try.prog 57 #[.slice a len cap, .int .i64 at'] w fun e w' => ∃ a' cap', e = .returned (.slice a' (opened l at').length cap') ∧ Row .i64 w' a' (opened l at').length (opened l at') ∧ Below w.heap.size w w' := by
  obtain ⟨i0, hi, hz0, hz1, hz2⟩ := info_parts info3
  have hN := upTo_le len at'
  have hO := opened_upTo l at'
  rw [hl.1] at hO
  have HO : Hid (opened l at' = openL ((l.take (upTo len at')).drop 0) 0 []) := hO
  clear hO
  have hU : (upTo len at' = at' ∧ 0 < at') ∨ (upTo len at' = 0 ∧ (at' ≤ 0 ∨ (len : Int) < at')) := by unfold upTo; split <;> omega
  generalize upTo len at' = N at *
  generalize hR : opened l at' = R at *
  clear hR
  go_enter Try.func57, Try.ntmps57
  go_wp2
  go_loopw [5, 6] (fun u i w' => ∃ (k : Nat) (s : List Int), k ≤ N ∧ i = .int .i64 (k : Int) ∧ s.length ≤ k ∧ w'.ownsRow w.heap.size 3 1 u s.length (s.map (Value.int .i64)) ∧ R = openL ((l.take N).drop k) k s ∧ Below w.heap.size w w') (fun _ i _ => N - (intOf i).toNat)
  case atStart => exact ⟨0, [], Nat.zero_le _, rfl, Nat.le_refl _, World.ownsRow_nil _ _ _ _, HO.out, Below.refl _ _⟩
  case round =>
    obtain ⟨k, s, hk, rfl, hs, hrow, hRs, hB⟩ := hrel
    by_cases hlt : k < N
    · obtain ⟨x, hx, hst⟩ := openL_step (l := l) hlt (by rw [hl.1]; exact hN) s
      obtain ⟨b, o, rfl, hbl, hc⟩ := hl.kind hx
      have hc0 := hc wr hB
      rw [hst] at hRs
      clear hl hst hx HO
      generalize x.k = xk at *
      obtain ⟨rfl, hat⟩ : at' = (N : Int) ∧ N ≤ len := by omega
      clear hU
      by_cases k1 : xk = 1
      · subst k1
        rw [if_pos rfl] at hRs
        have HR : Hid (R = openL ((l.take N).drop (k + 1)) (k + 1) (s ++ [(k : Int)])) := hRs
        clear hRs
        go_wp2_with (at_builtin; refine wpList_append_own _ rfl _ _ 45 rfl w.heap.size 3 i0 (.int .i64 0) 1 8 Try.underlying45 hi hz0 hz1 hz2 rfl (by decide) _ _ _ rfl (hrow.alloc _) ⟨wr.heap.size, 0, none⟩ 1 1 [.int .i64 (k : Int)] rfl rfl (cell_one_new _ _ _) (by simp [Value.oneCell']) (by unfold maxLen; omega) (by omega) (by have := hB.size; simp; omega) ?_; intro v2 w2 hown2 hgrow hnil2; have hB2 := below_append hB hrow hB.size hgrow; have hc2 := hc w2 hB2)
        go_roundw
        case rel => exact ⟨k + 1, s ++ [(k : Int)], by omega, rfl, by simp; omega, by simpa using hown2, HR.out, hB2⟩
        case measure => simp [intOf]; omega
      · rw [if_neg k1] at hRs
        by_cases k2 : xk = 2
        · subst k2
          rw [if_pos rfl] at hRs
          by_cases h0 : s.length = 0
          · rw [dropLast_none h0] at hRs
            have HR : Hid (R = openL ((l.take N).drop (k + 1)) (k + 1) s) := hRs
            have HW : Hid (wr.ownsRow w.heap.size 3 1 u5 s.length (s.map (Value.int .i64))) := hrow
            obtain ⟨a', cap', hu, hr⟩ := row_of_owns hrow
            rw [h0] at hu
            clear hRs hrow hr
            subst hu
            go_wp2
            go_roundw
            case rel => exact ⟨k + 1, s, by omega, rfl, by omega, HW.out, HR.out, hB⟩
            case measure => simp [intOf]; omega
          · have HR : Hid (R = openL ((l.take N).drop (k + 1)) (k + 1) s.dropLast) := hRs
            obtain ⟨n, hn⟩ : ∃ n, s.length = n + 1 := ⟨s.length - 1, by omega⟩
            rw [hn] at hrow
            obtain ⟨g, cp, hu, hc1, hc2, hrow2⟩ := owns_shrink hrow
            unfold maxLen at hc2
            have HS : Hid (s.dropLast.length = n) := by show s.dropLast.length = n; rw [List.length_dropLast]; omega
            clear hRs hrow
            subst hu
            go_wp2
            go_roundw
            case rel => exact ⟨k + 1, s.dropLast, by omega, rfl, by rw [HS.out]; omega, by rw [HS.out]; exact hrow2, HR.out, hB⟩
            case measure => simp [intOf]; omega
        · rw [if_neg k2] at hRs
          have e1 : (xk == 1) = false := by simpa using k1
          have e2 : (xk == 2) = false := by simpa using k2
          have HR : Hid (R = openL ((l.take N).drop (k + 1)) (k + 1) s) := hRs
          clear hRs
          go_wp2
          go_roundw
          case rel => exact ⟨k + 1, s, by omega, rfl, by omega, hrow, HR.out, hB⟩
          case measure => simp [intOf]; omega
    · obtain rfl : k = N := by omega
      rw [show (l.take k).drop k = [] from List.drop_eq_nil_of_le (by rw [List.length_take]; omega), openL] at hRs
      obtain ⟨a', cap', hu, hr⟩ := row_of_owns hrow
      rw [← hRs] at hu hr
      generalize hn : R.length = n at hu hr
      have HN : Hid (R.length = n) := hn
      clear hn hrow hRs HO hl
      subst hu
      rcases hU with ⟨hU, _⟩ | ⟨hU, hat | hat⟩
      · obtain rfl : at' = (k : Int) := by omega
        go_wp2
        go_ret
        exact ⟨a', ⟨cap', by rw [HN.out]; rfl⟩, by rw [HN.out]; exact hr, hB⟩
      · obtain rfl : k = 0 := by omega
        go_wp2
        go_ret
        exact ⟨a', ⟨cap', by rw [HN.out]; rfl⟩, by rw [HN.out]; exact hr, hB⟩
      · obtain rfl : k = 0 := by omega
        go_wp2
        all_goals go_ret
        all_goals exact ⟨a', ⟨cap', by rw [HN.out]; rfl⟩, by rw [HN.out]; exact hr, hB⟩
end Go.Proofs.Ytgpopploimeeaaa

/- RAround: the document's own Deep, Around and Partner at every slice of tokens and every number: what they return; nothing that lay before is turned. -/
namespace Go.Proofs.Ytgpopploimeeaaa
open Go.RowKit

set_option maxRecDepth 100000 in
set_option maxHeartbeats 1000000 in
theorem around_calls (a : Option Addr) (len cap : Nat) (l : List Tok) (p : Int) (w : World) (hl : Toks w a len l) (hsz : len ≤ 4398046511104) :
    Calls Try.prog 54 #[.slice a len cap, .int .i64 p] w fun e w' => e = .returned (.int .i64 (around l p)) ∧ Below w.heap.size w w' := by
  have h1 := open_calls a len cap l p w hl hsz
  have hq := opened_length l p
  rw [hl.1] at hq
  unfold around
  generalize opened l p = R at *
  cases hn : R.length with
  | zero =>
    obtain rfl : R = [] := List.length_eq_zero_iff.1 hn
    go_enter Try.func54, Try.ntmps54
    go_wp2_with fail
    refine h1.mono ?_
    rintro e W ⟨a', cap', rfl, hr, hB⟩
    clear h1
    go_wp2
    go_ret
    exact ⟨rfl, hB⟩
  | succ n =>
    rw [last_row hn]
    rw [hn] at h1 hq
    generalize hy : R.getD n 0 = y at *
    go_enter Try.func54, Try.ntmps54
    go_wp2_with fail
    refine h1.mono ?_
    rintro e W ⟨a', cap', rfl, hr, hB⟩
    clear h1
    obtain ⟨b, o, rfl, hbl, hc⟩ := (show ∃ b o, a' = some ⟨b, o, none⟩ ∧ b < W.heap.size ∧ ∀ i, i < n + 1 → W.cell? ⟨b, o + i, none⟩ = some (.int .i64 (R.getD i 0)) from by
      rcases hr.2 with h | h
      · omega
      · exact h)
    have hc0 := hc n (by omega)
    rw [hy] at hc0
    clear hc hy
    go_wp2
    go_ret
    exact ⟨rfl, hB⟩

set_option maxRecDepth 100000 in
set_option maxHeartbeats 2000000 in
theorem partner_calls (a : Option Addr) (len cap : Nat) (l : List Tok) (i : Int) (w : World) (hl : Toks w a len l) (hsz : len ≤ 4398046511104) :
    Calls Try.prog 53 #[.slice a len cap, .int .i64 i] w fun e w' => e = .returned (.int .i64 (partner l i)) ∧ Below w.heap.size w w' := by
  have hp : partner l i = if i < 0 ∨ (len : Int) ≤ i then -1 else if kindAt l i.toNat = 2 then around l i else if kindAt l i.toNat = 1 then seek l i (i.toNat + 1) (len - (i.toNat + 1)) else -1 := by unfold partner; rw [hl.1]
  by_cases h0 : i < 0
  · rw [hp, if_pos (.inl h0)]
    go_enter Try.func53, Try.ntmps53
    go_wp2
    go_ret
    exact ⟨rfl, Below.refl _ _⟩
  by_cases h1 : (len : Int) ≤ i
  · rw [hp, if_pos (.inr h1)]
    go_enter Try.func53, Try.ntmps53
    go_wp2
    go_ret
    exact ⟨rfl, Below.refl _ _⟩
  rw [if_neg (by omega)] at hp
  obtain ⟨n, rfl⟩ := Int.eq_ofNat_of_zero_le (show 0 ≤ i by omega)
  have hn : n < len := by omega
  rw [Int.toNat_natCast] at hp
  obtain ⟨b, o, rfl, hbl, hc⟩ := hl.kindAt hn
  have hc0 := hc w (Below.refl _ _)
  by_cases k2 : kindAt l n = 2
  · rw [if_pos k2] at hp
    rw [k2] at hc0
    rw [hp]
    have hA := fun W (hW : Below w.heap.size w W) => around_calls _ len cap l (n : Int) W (hl.below hW) hsz
    generalize around l (n : Int) = y at *
    go_enter Try.func53, Try.ntmps53
    go_wp2_with fail
    refine (hA _ (Below.refl _ _)).mono ?_
    rintro e W1 ⟨rfl, hB⟩
    go_wp2
    go_ret
    exact ⟨rfl, hB⟩
  by_cases k1 : kindAt l n = 1
  · rw [if_neg k2, if_pos k1] at hp
    rw [k1] at hc0
    have HP : Hid (partner l n = seek l n (n + 1) (len - (n + 1))) := hp
    clear hp
    go_enter Try.func53, Try.ntmps53
    go_wp2
    go_loopw [5] (fun u w' => ∃ k : Nat, k ≤ len ∧ n < k ∧ u = .int .i64 (k : Int) ∧ partner l n = seek l n k (len - k) ∧ Below w.heap.size w w') (fun u _ => len - (intOf u).toNat)
    case atStart => exact ⟨n + 1, by omega, by omega, by simp, HP.out, Below.refl _ _⟩
    case round =>
      obtain ⟨k, hk, hnk, rfl, hs, hB⟩ := hrel
      by_cases hlt : k < len
      · rw [show len - k = (len - (k + 1)) + 1 from by omega, seek] at hs
        obtain ⟨b', o', e', _, hc'⟩ := hl.kindAt hlt
        cases e'
        have hc1 := hc' wr hB
        have hA := fun W (hW : Below w.heap.size w W) => around_calls _ len cap l (k : Int) W (hl.below hW) hsz
        have hf := around_fits l k
        clear hc' HP
        by_cases q2 : kindAt l k = 2
        · rw [q2] at hc1
          generalize around l (k : Int) = y at *
          by_cases hy : y = n
          · subst hy
            rw [if_pos ⟨q2, rfl⟩] at hs
            have HS : Hid (partner l n = k) := hs
            clear hs
            go_wp2_with fail
            refine (hA _ hB).mono ?_
            rintro e W1 ⟨rfl, hB1⟩
            go_wp2
            go_ret
            exact ⟨by rw [HS.out]; rfl, hB.trans (hB1.mono hB.size)⟩
          · rw [if_neg (by omega)] at hs
            have HS : Hid (partner l n = seek l n (k + 1) (len - (k + 1))) := hs
            have ey : (y == (n : Int)) = false := by simpa using hy
            clear hs
            go_wp2_with fail
            refine (hA _ hB).mono ?_
            rintro e W1 ⟨rfl, hB1⟩
            go_wp2
            go_roundw
            case rel => exact ⟨k + 1, by omega, by omega, rfl, HS.out, hB.trans (hB1.mono hB.size)⟩
            case measure => simp [intOf]; omega
        · rw [if_neg (by intro h; exact q2 h.1)] at hs
          have HS : Hid (partner l n = seek l n (k + 1) (len - (k + 1))) := hs
          generalize kindAt l k = z at *
          have ey : (z == 2) = false := by simpa using q2
          clear hs hA
          go_wp2
          go_roundw
          case rel => exact ⟨k + 1, by omega, by omega, rfl, HS.out, hB⟩
          case measure => simp [intOf]; omega
      · obtain rfl : k = len := by omega
        rw [Nat.sub_self, seek] at hs
        have HS : Hid (partner l n = -1) := hs
        clear hs
        go_wp2
        go_ret
        exact ⟨by rw [HS.out]; rfl, hB⟩
  · rw [if_neg k2, if_neg k1] at hp
    rw [hp]
    generalize kindAt l n = z at *
    have e1 : (z == 1) = false := by simpa using k1
    have e2 : (z == 2) = false := by simpa using k2
    go_enter Try.func53, Try.ntmps53
    go_wp2
    go_ret
    exact ⟨rfl, Below.refl _ _⟩
end Go.Proofs.Ytgpopploimeeaaa

/- RKids: the document's own Kids at every slice of tokens and every number: what it returns; nothing that lay before is turned. -/
namespace Go.Proofs.Ytgpopploimeeaaa
open Go.RowKit

set_option maxRecDepth 100000 in
set_option maxHeartbeats 4000000 in
theorem kids_calls (a : Option Addr) (len cap : Nat) (l : List Tok) (i : Int) (w : World) (hl : Toks w a len l) (hsz : len ≤ 4398046511104) (hi0 : -9223372036854775808 ≤ i) :
    Calls Try.prog 41 #[.slice a len cap, .int .i64 i] w fun e w' => ∃ a' cap', e = .returned (.slice a' (kids l i).length cap') ∧ Row .i64 w' a' (kids l i).length (kids l i) ∧ Below w.heap.size w w' := by
  obtain ⟨i0, hi, hz0, hz1, hz2⟩ := info_parts info3
  have hp : kids l i = if i < -1 ∨ (len : Int) ≤ i ∨ (0 ≤ i ∧ kindAt l i.toNat ≠ 1) then [] else kidsL l i (i + 1).toNat (len - (i + 1).toNat) [] := by unfold kids; rw [hl.1]
  by_cases h0 : i < -1
  · rw [hp, if_pos (.inl h0)]
    go_enter Try.func41, Try.ntmps41
    go_wp2
    go_ret
    first | exact ⟨none, ⟨0, rfl⟩, ⟨rfl, .inl rfl⟩, Below.refl _ _⟩ | exact ⟨none, 0, rfl, ⟨rfl, .inl rfl⟩, Below.refl _ _⟩
  by_cases h1 : (len : Int) ≤ i
  · rw [hp, if_pos (.inr (.inl h1))]
    go_enter Try.func41, Try.ntmps41
    go_wp2
    go_ret
    first | exact ⟨none, ⟨0, rfl⟩, ⟨rfl, .inl rfl⟩, Below.refl _ _⟩ | exact ⟨none, 0, rfl, ⟨rfl, .inl rfl⟩, Below.refl _ _⟩
  have start : (0 ≤ i ∧ kindAt l i.toNat ≠ 1) ∨ (kids l i = kidsL l i (i + 1).toNat (len - (i + 1).toNat) [] ∧ (i = -1 ∨ (0 ≤ i ∧ kindAt l i.toNat = 1))) := by
    by_cases h2 : 0 ≤ i ∧ kindAt l i.toNat ≠ 1
    · exact .inl h2
    · refine .inr ⟨by rw [hp, if_neg (by omega)], ?_⟩
      omega
  rcases start with h2 | ⟨hk, hi1⟩
  · rw [hp, if_pos (.inr (.inr h2))]
    clear hp
    obtain ⟨n, rfl⟩ := Int.eq_ofNat_of_zero_le h2.1
    obtain ⟨b, o, rfl, hbl, hc⟩ := hl.kindAt (k := n) (by omega)
    have hc0 := hc w (Below.refl _ _)
    obtain ⟨_, h2⟩ := h2
    rw [Int.toNat_natCast] at h2
    generalize kindAt l n = z at *
    have e1 : (z == 1) = false := by simpa using h2
    go_enter Try.func41, Try.ntmps41
    go_wp2
    go_ret
    first | exact ⟨none, ⟨0, rfl⟩, ⟨rfl, .inl rfl⟩, Below.refl _ _⟩ | exact ⟨none, 0, rfl, ⟨rfl, .inl rfl⟩, Below.refl _ _⟩
  · clear hp
    rcases hi1 with rfl | ⟨hi1, hi2⟩
    · have HK : Hid (kids l (-1) = kidsL l (-1) 0 (len - 0) []) := hk
      clear hk
      generalize kids l (-1) = R at *
      go_enter Try.func41, Try.ntmps41
      go_wp2
      go_loopw [5, 6] (fun u q w' => ∃ (k : Nat) (s : List Int), k ≤ len ∧ 0 ≤ k ∧ q = .int .i64 (k : Int) ∧ s.length ≤ k ∧ w'.ownsRow w.heap.size 3 1 u s.length (s.map (Value.int .i64)) ∧ R = kidsL l (-1) k (len - k) s ∧ Below w.heap.size w w') (fun _ q _ => len - (intOf q).toNat)
      case atStart => exact ⟨0, [], by omega, by omega, by simp, by simp, World.ownsRow_nil _ _ _ _, HK.out, Below.refl _ _⟩
      case round =>
        obtain ⟨k, s, hk, hk1, rfl, hs, hrow, hR, hB⟩ := hrel
        by_cases hlt : k < len
        · rw [show len - k = (len - (k + 1)) + 1 from by omega, kidsL] at hR
          obtain ⟨b, o, rfl, hbl, hc'⟩ := hl.kindAt hlt
          have hc1 := hc' wr hB
          have hA := fun W (hW : Below w.heap.size w W) => around_calls _ len cap l (k : Int) W (hl.below hW) hsz
          have hf := around_fits l k
          clear HK hl
          generalize around l (k : Int) = y at *
          by_cases q2 : kindAt l k = 2
          · rw [q2] at hc1 hc' hR
            rw [if_neg (by omega), if_neg (by omega)] at hR
            have HR : Hid (R = kidsL l (-1) (k + 1) (len - (k + 1)) s) := hR
            clear hR
            by_cases hy : y = -1
            · rw [hy] at hA
              go_wp2_with fail
              refine (hA _ hB).mono ?_
              rintro e W1 ⟨rfl, hB1⟩
              have hB2 := hB.trans (hB1.mono hB.size)
              have hc2 := hc' W1 hB2
              have hrow2 := own_below hrow hB1 hB.size
              go_wp2
              go_roundw
              case rel => exact ⟨k + 1, s, by omega, by omega, rfl, by omega, hrow2, HR.out, hB2⟩
              case measure => simp [intOf]; omega
            · have ey : (y == (-1)) = false := by simpa using hy
              go_wp2_with fail
              refine (hA _ hB).mono ?_
              rintro e W1 ⟨rfl, hB1⟩
              have hB2 := hB.trans (hB1.mono hB.size)
              have hc2 := hc' W1 hB2
              have hrow2 := own_below hrow hB1 hB.size
              go_wp2
              go_roundw
              case rel => exact ⟨k + 1, s, by omega, by omega, rfl, by omega, hrow2, HR.out, hB2⟩
              case measure => simp [intOf]; omega
          · rw [if_neg (by intro h; exact q2 h.1)] at hR
            generalize kindAt l k = z at *
            have ez : (z == 2) = false := by simpa using q2
            by_cases hz : 0 ≤ z ∧ z ≤ 3
            · obtain ⟨hz3, hz4⟩ := hz
              by_cases hy : y = (-1)
              · rw [if_pos ⟨q2, hz3, hz4, hy⟩] at hR
                rw [hy] at hA
                have HR : Hid (R = kidsL l (-1) (k + 1) (len - (k + 1)) (s ++ [(k : Int)])) := hR
                clear hR
                go_wp2_with fail
                refine (hA _ hB).mono ?_
                rintro e W1 ⟨rfl, hB1⟩
                have hB2 := hB.trans (hB1.mono hB.size)
                have hc2 := hc' W1 hB2
                have hrow2 := own_below hrow hB1 hB.size
                go_wp2_with (at_builtin; refine wpList_append_own _ rfl _ _ 45 rfl w.heap.size 3 i0 (.int .i64 0) 1 8 Try.underlying45 hi hz0 hz1 hz2 rfl (by decide) _ _ _ rfl (hrow2.alloc _) ⟨W1.heap.size, 0, none⟩ 1 1 [.int .i64 (k : Int)] rfl rfl (cell_one_new _ _ _) (by simp [Value.oneCell']) (by unfold maxLen; omega) (by omega) (by have := hB2.size; simp; omega) ?_; intro v2 w2 hown2 hgrow hnil2; have hB3 := below_append hB2 hrow2 hB2.size hgrow)
                go_roundw
                case rel => exact ⟨k + 1, s ++ [(k : Int)], by omega, by omega, rfl, by simp; omega, by simpa using hown2, HR.out, hB3⟩
                case measure => simp [intOf]; omega
              · rw [if_neg (by omega)] at hR
                have HR : Hid (R = kidsL l (-1) (k + 1) (len - (k + 1)) s) := hR
                have ey : (y == (-1)) = false := by simpa using hy
                clear hR
                go_wp2_with fail
                refine (hA _ hB).mono ?_
                rintro e W1 ⟨rfl, hB1⟩
                have hB2 := hB.trans (hB1.mono hB.size)
                have hc2 := hc' W1 hB2
                have hrow2 := own_below hrow hB1 hB.size
                go_wp2
                go_roundw
                case rel => exact ⟨k + 1, s, by omega, by omega, rfl, by omega, hrow2, HR.out, hB2⟩
                case measure => simp [intOf]; omega
            · rw [if_neg (by omega)] at hR
              have HR : Hid (R = kidsL l (-1) (k + 1) (len - (k + 1)) s) := hR
              clear hR hA
              go_wp2
              all_goals go_roundw
              case' rel => exact ⟨k + 1, s, by omega, by omega, rfl, by omega, hrow, HR.out, hB⟩
              case' measure => simp [intOf]; omega
              all_goals first | exact ⟨k + 1, s, by omega, by omega, rfl, by omega, hrow, HR.out, hB⟩ | (simp [intOf]; omega)
        · obtain rfl : k = len := by omega
          rw [Nat.sub_self, kidsL] at hR
          obtain ⟨a', cap', hu, hr⟩ := row_of_owns hrow
          rw [← hR] at hu hr
          generalize hn' : R.length = N at hu hr
          have HN : Hid (R.length = N) := hn'
          clear hn' hR hrow
          subst hu
          go_wp2
          go_ret
          first | exact ⟨a', ⟨cap', by rw [HN.out]; rfl⟩, by rw [HN.out]; exact hr, hB⟩ | exact ⟨a', cap', by rw [HN.out]; rfl, by rw [HN.out]; exact hr, hB⟩
    · obtain ⟨n, rfl⟩ := Int.eq_ofNat_of_zero_le hi1
      rw [show ((n : Int) + 1).toNat = n + 1 from by omega] at hk
      rw [Int.toNat_natCast] at hi2
      have hn : n < len := by omega
      obtain ⟨b0, o0, rfl, hbl0, hcn⟩ := hl.kindAt hn
      have hcn0 := hcn w (Below.refl _ _)
      rw [hi2] at hcn0
      clear hcn hi2
      have HK : Hid (kids l n = kidsL l n (n + 1) (len - (n + 1)) []) := hk
      clear hk
      generalize kids l n = R at *
      go_enter Try.func41, Try.ntmps41
      go_wp2
      go_loopw [5, 6] (fun u q w' => ∃ (k : Nat) (s : List Int), k ≤ len ∧ (n + 1) ≤ k ∧ q = .int .i64 (k : Int) ∧ s.length ≤ k ∧ w'.ownsRow w.heap.size 3 1 u s.length (s.map (Value.int .i64)) ∧ R = kidsL l (n : Int) k (len - k) s ∧ Below w.heap.size w w') (fun _ q _ => len - (intOf q).toNat)
      case atStart => exact ⟨(n + 1), [], by omega, by omega, by simp, by simp, World.ownsRow_nil _ _ _ _, HK.out, Below.refl _ _⟩
      case round =>
        obtain ⟨k, s, hk, hk1, rfl, hs, hrow, hR, hB⟩ := hrel
        by_cases hlt : k < len
        · rw [show len - k = (len - (k + 1)) + 1 from by omega, kidsL] at hR
          obtain ⟨b, o, eb, hbl, hc'⟩ := hl.kindAt hlt
          cases eb
          have hc1 := hc' wr hB
          have hA := fun W (hW : Below w.heap.size w W) => around_calls _ len cap l (k : Int) W (hl.below hW) hsz
          have hf := around_fits l k
          clear HK hl
          generalize around l (k : Int) = y at *
          by_cases q2 : kindAt l k = 2
          · rw [q2] at hc1 hc' hR
            by_cases hy : y = (n : Int)
            · rw [hy] at hR hA
              rw [if_pos ⟨rfl, rfl, by omega⟩] at hR
              obtain ⟨a', cap', hu, hr⟩ := row_of_owns hrow
              rw [← hR] at hu hr
              generalize hn' : R.length = N at hu hr
              have HN : Hid (R.length = N) := hn'
              clear hn' hR hrow
              subst hu
              go_wp2_with fail
              refine (hA _ hB).mono ?_
              rintro e W1 ⟨rfl, hB1⟩
              have hB2 := hB.trans (hB1.mono hB.size)
              have hr2 := hr.below hB1
              go_wp2
              go_ret
              first | exact ⟨a', ⟨cap', by rw [HN.out]; rfl⟩, by rw [HN.out]; exact hr2, hB2⟩ | exact ⟨a', cap', by rw [HN.out]; rfl, by rw [HN.out]; exact hr2, hB2⟩
            · rw [if_neg (by omega), if_neg (by omega)] at hR
              have HR : Hid (R = kidsL l (n : Int) (k + 1) (len - (k + 1)) s) := hR
              have ey : (y == (n : Int)) = false := by simpa using hy
              clear hR
              go_wp2_with fail
              refine (hA _ hB).mono ?_
              rintro e W1 ⟨rfl, hB1⟩
              have hB2 := hB.trans (hB1.mono hB.size)
              have hc2 := hc' W1 hB2
              have hrow2 := own_below hrow hB1 hB.size
              go_wp2
              go_roundw
              case rel => exact ⟨k + 1, s, by omega, by omega, rfl, by omega, hrow2, HR.out, hB2⟩
              case measure => simp [intOf]; omega
          · rw [if_neg (by intro h; exact q2 h.1)] at hR
            generalize kindAt l k = z at *
            have ez : (z == 2) = false := by simpa using q2
            by_cases hz : 0 ≤ z ∧ z ≤ 3
            · obtain ⟨hz3, hz4⟩ := hz
              by_cases hy : y = (n : Int)
              · rw [if_pos ⟨q2, hz3, hz4, hy⟩] at hR
                rw [hy] at hA
                have HR : Hid (R = kidsL l (n : Int) (k + 1) (len - (k + 1)) (s ++ [(k : Int)])) := hR
                clear hR
                go_wp2_with fail
                refine (hA _ hB).mono ?_
                rintro e W1 ⟨rfl, hB1⟩
                have hB2 := hB.trans (hB1.mono hB.size)
                have hc2 := hc' W1 hB2
                have hrow2 := own_below hrow hB1 hB.size
                go_wp2_with (at_builtin; refine wpList_append_own _ rfl _ _ 45 rfl w.heap.size 3 i0 (.int .i64 0) 1 8 Try.underlying45 hi hz0 hz1 hz2 rfl (by decide) _ _ _ rfl (hrow2.alloc _) ⟨W1.heap.size, 0, none⟩ 1 1 [.int .i64 (k : Int)] rfl rfl (cell_one_new _ _ _) (by simp [Value.oneCell']) (by unfold maxLen; omega) (by omega) (by have := hB2.size; simp; omega) ?_; intro v2 w2 hown2 hgrow hnil2; have hB3 := below_append hB2 hrow2 hB2.size hgrow)
                go_roundw
                case rel => exact ⟨k + 1, s ++ [(k : Int)], by omega, by omega, rfl, by simp; omega, by simpa using hown2, HR.out, hB3⟩
                case measure => simp [intOf]; omega
              · rw [if_neg (by omega)] at hR
                have HR : Hid (R = kidsL l (n : Int) (k + 1) (len - (k + 1)) s) := hR
                have ey : (y == (n : Int)) = false := by simpa using hy
                clear hR
                go_wp2_with fail
                refine (hA _ hB).mono ?_
                rintro e W1 ⟨rfl, hB1⟩
                have hB2 := hB.trans (hB1.mono hB.size)
                have hc2 := hc' W1 hB2
                have hrow2 := own_below hrow hB1 hB.size
                go_wp2
                go_roundw
                case rel => exact ⟨k + 1, s, by omega, by omega, rfl, by omega, hrow2, HR.out, hB2⟩
                case measure => simp [intOf]; omega
            · rw [if_neg (by omega)] at hR
              have HR : Hid (R = kidsL l (n : Int) (k + 1) (len - (k + 1)) s) := hR
              clear hR hA
              go_wp2
              all_goals go_roundw
              case' rel => exact ⟨k + 1, s, by omega, by omega, rfl, by omega, hrow, HR.out, hB⟩
              case' measure => simp [intOf]; omega
              all_goals first | exact ⟨k + 1, s, by omega, by omega, rfl, by omega, hrow, HR.out, hB⟩ | (simp [intOf]; omega)
        · obtain rfl : k = len := by omega
          rw [Nat.sub_self, kidsL] at hR
          obtain ⟨a', cap', hu, hr⟩ := row_of_owns hrow
          rw [← hR] at hu hr
          generalize hn' : R.length = N at hu hr
          have HN : Hid (R.length = N) := hn'
          clear hn' hR hrow
          subst hu
          go_wp2
          go_ret
          first | exact ⟨a', ⟨cap', by rw [HN.out]; rfl⟩, by rw [HN.out]; exact hr, hB⟩ | exact ⟨a', cap', by rw [HN.out]; rfl, by rw [HN.out]; exact hr, hB⟩
end Go.Proofs.Ytgpopploimeeaaa
