/-
  PROVED HERE: the document's own Kids at every slice of tokens and every number: what it returns; nothing that lay before is turned.
-/
import Derived.Test.YtgpopploimeeaaaRAround
namespace Go.Proofs.Ytgpopploimeeaaa
open Go.RowKit

set_option maxRecDepth 100000 in
set_option maxHeartbeats 4000000 in
theorem kids_calls (a : Option Addr) (len cap : Nat) (l : List Tok) (i : Int) (w : World) (hl : Toks w a len l) (hsz : len ≤ 4398046511104) (hi0 : -9223372036854775808 ≤ i) :
    Calls Try.prog 41 #[.slice a len cap, .int .i64 i] w fun e w' => ∃ a' cap', e = .returned (.slice a' (kids l i).length cap') ∧ Row .i64 w' a' (kids l i).length (kids l i) ∧ Below w.heap.size w w' := by
  obtain ⟨i0, hi, hz0, hz1, hz2⟩ := info_parts info3
  have hp : kids l i = if i < -1 ∨ (len : Int) ≤ i ∨ (0 ≤ i ∧ kindAt l i.toNat ≠ 1) then [] else kidsL l i (i + 1).toNat (len - (i + 1).toNat) [] := by unfold kids; rw [hl.1]
  by_cases h0 : i < -1
  · rw [hp, if_pos (.inl h0)]
    go_enter Try.func41, Try.ntmps41
    go_wp2
    go_ret
    first | exact ⟨none, ⟨0, rfl⟩, ⟨rfl, .inl rfl⟩, Below.refl _ _⟩ | exact ⟨none, 0, rfl, ⟨rfl, .inl rfl⟩, Below.refl _ _⟩
  by_cases h1 : (len : Int) ≤ i
  · rw [hp, if_pos (.inr (.inl h1))]
    go_enter Try.func41, Try.ntmps41
    go_wp2
    go_ret
    first | exact ⟨none, ⟨0, rfl⟩, ⟨rfl, .inl rfl⟩, Below.refl _ _⟩ | exact ⟨none, 0, rfl, ⟨rfl, .inl rfl⟩, Below.refl _ _⟩
  have start : (0 ≤ i ∧ kindAt l i.toNat ≠ 1) ∨ (kids l i = kidsL l i (i + 1).toNat (len - (i + 1).toNat) [] ∧ (i = -1 ∨ (0 ≤ i ∧ kindAt l i.toNat = 1))) := by
    by_cases h2 : 0 ≤ i ∧ kindAt l i.toNat ≠ 1
    · exact .inl h2
    · refine .inr ⟨by rw [hp, if_neg (by omega)], ?_⟩
      omega
  rcases start with h2 | ⟨hk, hi1⟩
  · rw [hp, if_pos (.inr (.inr h2))]
    clear hp
    obtain ⟨n, rfl⟩ := Int.eq_ofNat_of_zero_le h2.1
    obtain ⟨b, o, rfl, hbl, hc⟩ := hl.kindAt (k := n) (by omega)
    have hc0 := hc w (Below.refl _ _)
    obtain ⟨_, h2⟩ := h2
    rw [Int.toNat_natCast] at h2
    generalize kindAt l n = z at *
    have e1 : (z == 1) = false := by simpa using h2
    go_enter Try.func41, Try.ntmps41
    go_wp2
    go_ret
    first | exact ⟨none, ⟨0, rfl⟩, ⟨rfl, .inl rfl⟩, Below.refl _ _⟩ | exact ⟨none, 0, rfl, ⟨rfl, .inl rfl⟩, Below.refl _ _⟩
  · clear hp
    rcases hi1 with rfl | ⟨hi1, hi2⟩
    · have HK : Hid (kids l (-1) = kidsL l (-1) 0 (len - 0) []) := hk
      clear hk
      generalize kids l (-1) = R at *
      go_enter Try.func41, Try.ntmps41
      go_wp2
      go_loopw [5, 6] (fun u q w' => ∃ (k : Nat) (s : List Int), k ≤ len ∧ 0 ≤ k ∧ q = .int .i64 (k : Int) ∧ s.length ≤ k ∧ w'.ownsRow w.heap.size 3 1 u s.length (s.map (Value.int .i64)) ∧ R = kidsL l (-1) k (len - k) s ∧ Below w.heap.size w w') (fun _ q _ => len - (intOf q).toNat)
      case atStart => exact ⟨0, [], by omega, by omega, by simp, by simp, World.ownsRow_nil _ _ _ _, HK.out, Below.refl _ _⟩
      case round =>
        obtain ⟨k, s, hk, hk1, rfl, hs, hrow, hR, hB⟩ := hrel
        by_cases hlt : k < len
        · rw [show len - k = (len - (k + 1)) + 1 from by omega, kidsL] at hR
          obtain ⟨b, o, rfl, hbl, hc'⟩ := hl.kindAt hlt
          have hc1 := hc' wr hB
          have hA := fun W (hW : Below w.heap.size w W) => around_calls _ len cap l (k : Int) W (hl.below hW) hsz
          have hf := around_fits l k
          clear HK hl
          generalize around l (k : Int) = y at *
          by_cases q2 : kindAt l k = 2
          · rw [q2] at hc1 hc' hR
            rw [if_neg (by omega), if_neg (by omega)] at hR
            have HR : Hid (R = kidsL l (-1) (k + 1) (len - (k + 1)) s) := hR
            clear hR
            by_cases hy : y = -1
            · rw [hy] at hA
              go_wp2_with fail
              refine (hA _ hB).mono ?_
              rintro e W1 ⟨rfl, hB1⟩
              have hB2 := hB.trans (hB1.mono hB.size)
              have hc2 := hc' W1 hB2
              have hrow2 := own_below hrow hB1 hB.size
              go_wp2
              go_roundw
              case rel => exact ⟨k + 1, s, by omega, by omega, rfl, by omega, hrow2, HR.out, hB2⟩
              case measure => simp [intOf]; omega
            · have ey : (y == (-1)) = false := by simpa using hy
              go_wp2_with fail
              refine (hA _ hB).mono ?_
              rintro e W1 ⟨rfl, hB1⟩
              have hB2 := hB.trans (hB1.mono hB.size)
              have hc2 := hc' W1 hB2
              have hrow2 := own_below hrow hB1 hB.size
              go_wp2
              go_roundw
              case rel => exact ⟨k + 1, s, by omega, by omega, rfl, by omega, hrow2, HR.out, hB2⟩
              case measure => simp [intOf]; omega
          · rw [if_neg (by intro h; exact q2 h.1)] at hR
            generalize kindAt l k = z at *
            have ez : (z == 2) = false := by simpa using q2
            by_cases hz : 0 ≤ z ∧ z ≤ 3
            · obtain ⟨hz3, hz4⟩ := hz
              by_cases hy : y = (-1)
              · rw [if_pos ⟨q2, hz3, hz4, hy⟩] at hR
                rw [hy] at hA
                have HR : Hid (R = kidsL l (-1) (k + 1) (len - (k + 1)) (s ++ [(k : Int)])) := hR
                clear hR
                go_wp2_with fail
                refine (hA _ hB).mono ?_
                rintro e W1 ⟨rfl, hB1⟩
                have hB2 := hB.trans (hB1.mono hB.size)
                have hc2 := hc' W1 hB2
                have hrow2 := own_below hrow hB1 hB.size
                go_wp2_with (at_builtin; refine wpList_append_own _ rfl _ _ 45 rfl w.heap.size 3 i0 (.int .i64 0) 1 8 Try.underlying45 hi hz0 hz1 hz2 rfl (by decide) _ _ _ rfl (hrow2.alloc _) ⟨W1.heap.size, 0, none⟩ 1 1 [.int .i64 (k : Int)] rfl rfl (cell_one_new _ _ _) (by simp [Value.oneCell']) (by unfold maxLen; omega) (by omega) (by have := hB2.size; simp; omega) ?_; intro v2 w2 hown2 hgrow hnil2; have hB3 := below_append hB2 hrow2 hB2.size hgrow)
                go_roundw
                case rel => exact ⟨k + 1, s ++ [(k : Int)], by omega, by omega, rfl, by simp; omega, by simpa using hown2, HR.out, hB3⟩
                case measure => simp [intOf]; omega
              · rw [if_neg (by omega)] at hR
                have HR : Hid (R = kidsL l (-1) (k + 1) (len - (k + 1)) s) := hR
                have ey : (y == (-1)) = false := by simpa using hy
                clear hR
                go_wp2_with fail
                refine (hA _ hB).mono ?_
                rintro e W1 ⟨rfl, hB1⟩
                have hB2 := hB.trans (hB1.mono hB.size)
                have hc2 := hc' W1 hB2
                have hrow2 := own_below hrow hB1 hB.size
                go_wp2
                go_roundw
                case rel => exact ⟨k + 1, s, by omega, by omega, rfl, by omega, hrow2, HR.out, hB2⟩
                case measure => simp [intOf]; omega
            · rw [if_neg (by omega)] at hR
              have HR : Hid (R = kidsL l (-1) (k + 1) (len - (k + 1)) s) := hR
              clear hR hA
              go_wp2
              all_goals go_roundw
              case' rel => exact ⟨k + 1, s, by omega, by omega, rfl, by omega, hrow, HR.out, hB⟩
              case' measure => simp [intOf]; omega
              all_goals first | exact ⟨k + 1, s, by omega, by omega, rfl, by omega, hrow, HR.out, hB⟩ | (simp [intOf]; omega)
        · obtain rfl : k = len := by omega
          rw [Nat.sub_self, kidsL] at hR
          obtain ⟨a', cap', hu, hr⟩ := row_of_owns hrow
          rw [← hR] at hu hr
          generalize hn' : R.length = N at hu hr
          have HN : Hid (R.length = N) := hn'
          clear hn' hR hrow
          subst hu
          go_wp2
          go_ret
          first | exact ⟨a', ⟨cap', by rw [HN.out]; rfl⟩, by rw [HN.out]; exact hr, hB⟩ | exact ⟨a', cap', by rw [HN.out]; rfl, by rw [HN.out]; exact hr, hB⟩
    · obtain ⟨n, rfl⟩ := Int.eq_ofNat_of_zero_le hi1
      rw [show ((n : Int) + 1).toNat = n + 1 from by omega] at hk
      rw [Int.toNat_natCast] at hi2
      have hn : n < len := by omega
      obtain ⟨b0, o0, rfl, hbl0, hcn⟩ := hl.kindAt hn
      have hcn0 := hcn w (Below.refl _ _)
      rw [hi2] at hcn0
      clear hcn hi2
      have HK : Hid (kids l n = kidsL l n (n + 1) (len - (n + 1)) []) := hk
      clear hk
      generalize kids l n = R at *
      go_enter Try.func41, Try.ntmps41
      go_wp2
      go_loopw [5, 6] (fun u q w' => ∃ (k : Nat) (s : List Int), k ≤ len ∧ (n + 1) ≤ k ∧ q = .int .i64 (k : Int) ∧ s.length ≤ k ∧ w'.ownsRow w.heap.size 3 1 u s.length (s.map (Value.int .i64)) ∧ R = kidsL l (n : Int) k (len - k) s ∧ Below w.heap.size w w') (fun _ q _ => len - (intOf q).toNat)
      case atStart => exact ⟨(n + 1), [], by omega, by omega, by simp, by simp, World.ownsRow_nil _ _ _ _, HK.out, Below.refl _ _⟩
      case round =>
        obtain ⟨k, s, hk, hk1, rfl, hs, hrow, hR, hB⟩ := hrel
        by_cases hlt : k < len
        · rw [show len - k = (len - (k + 1)) + 1 from by omega, kidsL] at hR
          obtain ⟨b, o, eb, hbl, hc'⟩ := hl.kindAt hlt
          cases eb
          have hc1 := hc' wr hB
          have hA := fun W (hW : Below w.heap.size w W) => around_calls _ len cap l (k : Int) W (hl.below hW) hsz
          have hf := around_fits l k
          clear HK hl
          generalize around l (k : Int) = y at *
          by_cases q2 : kindAt l k = 2
          · rw [q2] at hc1 hc' hR
            by_cases hy : y = (n : Int)
            · rw [hy] at hR hA
              rw [if_pos ⟨rfl, rfl, by omega⟩] at hR
              obtain ⟨a', cap', hu, hr⟩ := row_of_owns hrow
              rw [← hR] at hu hr
              generalize hn' : R.length = N at hu hr
              have HN : Hid (R.length = N) := hn'
              clear hn' hR hrow
              subst hu
              go_wp2_with fail
              refine (hA _ hB).mono ?_
              rintro e W1 ⟨rfl, hB1⟩
              have hB2 := hB.trans (hB1.mono hB.size)
              have hr2 := hr.below hB1
              go_wp2
              go_ret
              first | exact ⟨a', ⟨cap', by rw [HN.out]; rfl⟩, by rw [HN.out]; exact hr2, hB2⟩ | exact ⟨a', cap', by rw [HN.out]; rfl, by rw [HN.out]; exact hr2, hB2⟩
            · rw [if_neg (by omega), if_neg (by omega)] at hR
              have HR : Hid (R = kidsL l (n : Int) (k + 1) (len - (k + 1)) s) := hR
              have ey : (y == (n : Int)) = false := by simpa using hy
              clear hR
              go_wp2_with fail
              refine (hA _ hB).mono ?_
              rintro e W1 ⟨rfl, hB1⟩
              have hB2 := hB.trans (hB1.mono hB.size)
              have hc2 := hc' W1 hB2
              have hrow2 := own_below hrow hB1 hB.size
              go_wp2
              go_roundw
              case rel => exact ⟨k + 1, s, by omega, by omega, rfl, by omega, hrow2, HR.out, hB2⟩
              case measure => simp [intOf]; omega
          · rw [if_neg (by intro h; exact q2 h.1)] at hR
            generalize kindAt l k = z at *
            have ez : (z == 2) = false := by simpa using q2
            by_cases hz : 0 ≤ z ∧ z ≤ 3
            · obtain ⟨hz3, hz4⟩ := hz
              by_cases hy : y = (n : Int)
              · rw [if_pos ⟨q2, hz3, hz4, hy⟩] at hR
                rw [hy] at hA
                have HR : Hid (R = kidsL l (n : Int) (k + 1) (len - (k + 1)) (s ++ [(k : Int)])) := hR
                clear hR
                go_wp2_with fail
                refine (hA _ hB).mono ?_
                rintro e W1 ⟨rfl, hB1⟩
                have hB2 := hB.trans (hB1.mono hB.size)
                have hc2 := hc' W1 hB2
                have hrow2 := own_below hrow hB1 hB.size
                go_wp2_with (at_builtin; refine wpList_append_own _ rfl _ _ 45 rfl w.heap.size 3 i0 (.int .i64 0) 1 8 Try.underlying45 hi hz0 hz1 hz2 rfl (by decide) _ _ _ rfl (hrow2.alloc _) ⟨W1.heap.size, 0, none⟩ 1 1 [.int .i64 (k : Int)] rfl rfl (cell_one_new _ _ _) (by simp [Value.oneCell']) (by unfold maxLen; omega) (by omega) (by have := hB2.size; simp; omega) ?_; intro v2 w2 hown2 hgrow hnil2; have hB3 := below_append hB2 hrow2 hB2.size hgrow)
                go_roundw
                case rel => exact ⟨k + 1, s ++ [(k : Int)], by omega, by omega, rfl, by simp; omega, by simpa using hown2, HR.out, hB3⟩
                case measure => simp [intOf]; omega
              · rw [if_neg (by omega)] at hR
                have HR : Hid (R = kidsL l (n : Int) (k + 1) (len - (k + 1)) s) := hR
                have ey : (y == (n : Int)) = false := by simpa using hy
                clear hR
                go_wp2_with fail
                refine (hA _ hB).mono ?_
                rintro e W1 ⟨rfl, hB1⟩
                have hB2 := hB.trans (hB1.mono hB.size)
                have hc2 := hc' W1 hB2
                have hrow2 := own_below hrow hB1 hB.size
                go_wp2
                go_roundw
                case rel => exact ⟨k + 1, s, by omega, by omega, rfl, by omega, hrow2, HR.out, hB2⟩
                case measure => simp [intOf]; omega
            · rw [if_neg (by omega)] at hR
              have HR : Hid (R = kidsL l (n : Int) (k + 1) (len - (k + 1)) s) := hR
              clear hR hA
              go_wp2
              all_goals go_roundw
              case' rel => exact ⟨k + 1, s, by omega, by omega, rfl, by omega, hrow, HR.out, hB⟩
              case' measure => simp [intOf]; omega
              all_goals first | exact ⟨k + 1, s, by omega, by omega, rfl, by omega, hrow, HR.out, hB⟩ | (simp [intOf]; omega)
        · obtain rfl : k = len := by omega
          rw [Nat.sub_self, kidsL] at hR
          obtain ⟨a', cap', hu, hr⟩ := row_of_owns hrow
          rw [← hR] at hu hr
          generalize hn' : R.length = N at hu hr
          have HN : Hid (R.length = N) := hn'
          clear hn' hR hrow
          subst hu
          go_wp2
          go_ret
          first | exact ⟨a', ⟨cap', by rw [HN.out]; rfl⟩, by rw [HN.out]; exact hr, hB⟩ | exact ⟨a', cap', by rw [HN.out]; rfl, by rw [HN.out]; exact hr, hB⟩
end Go.Proofs.Ytgpopploimeeaaa
