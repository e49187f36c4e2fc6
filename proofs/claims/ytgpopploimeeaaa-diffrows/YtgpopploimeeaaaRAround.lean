/-
  PROVED HERE: the document's own Deep, Around and Partner at every slice of tokens and every number: what they return; nothing that lay before is turned.
-/
import Derived.Test.YtgpopploimeeaaaROpen
namespace Go.Proofs.Ytgpopploimeeaaa
open Go.RowKit

set_option maxRecDepth 100000 in
set_option maxHeartbeats 1000000 in
theorem around_calls (a : Option Addr) (len cap : Nat) (l : List Tok) (p : Int) (w : World) (hl : Toks w a len l) (hsz : len ≤ 4398046511104) :
    Calls Try.prog 54 #[.slice a len cap, .int .i64 p] w fun e w' => e = .returned (.int .i64 (around l p)) ∧ Below w.heap.size w w' := by
  have h1 := open_calls a len cap l p w hl hsz
  have hq := opened_length l p
  rw [hl.1] at hq
  unfold around
  generalize opened l p = R at *
  cases hn : R.length with
  | zero =>
    obtain rfl : R = [] := List.length_eq_zero_iff.1 hn
    go_enter Try.func54, Try.ntmps54
    go_wp2_with fail
    refine h1.mono ?_
    rintro e W ⟨a', cap', rfl, hr, hB⟩
    clear h1
    go_wp2
    go_ret
    exact ⟨rfl, hB⟩
  | succ n =>
    rw [last_row hn]
    rw [hn] at h1 hq
    generalize hy : R.getD n 0 = y at *
    go_enter Try.func54, Try.ntmps54
    go_wp2_with fail
    refine h1.mono ?_
    rintro e W ⟨a', cap', rfl, hr, hB⟩
    clear h1
    obtain ⟨b, o, rfl, hbl, hc⟩ := (show ∃ b o, a' = some ⟨b, o, none⟩ ∧ b < W.heap.size ∧ ∀ i, i < n + 1 → W.cell? ⟨b, o + i, none⟩ = some (.int .i64 (R.getD i 0)) from by
      rcases hr.2 with h | h
      · omega
      · exact h)
    have hc0 := hc n (by omega)
    rw [hy] at hc0
    clear hc hy
    go_wp2
    go_ret
    exact ⟨rfl, hB⟩

set_option maxRecDepth 100000 in
set_option maxHeartbeats 2000000 in
theorem partner_calls (a : Option Addr) (len cap : Nat) (l : List Tok) (i : Int) (w : World) (hl : Toks w a len l) (hsz : len ≤ 4398046511104) :
    Calls Try.prog 53 #[.slice a len cap, .int .i64 i] w fun e w' => e = .returned (.int .i64 (partner l i)) ∧ Below w.heap.size w w' := by
  have hp : partner l i = if i < 0 ∨ (len : Int) ≤ i then -1 else if kindAt l i.toNat = 2 then around l i else if kindAt l i.toNat = 1 then seek l i (i.toNat + 1) (len - (i.toNat + 1)) else -1 := by unfold partner; rw [hl.1]
  by_cases h0 : i < 0
  · rw [hp, if_pos (.inl h0)]
    go_enter Try.func53, Try.ntmps53
    go_wp2
    go_ret
    exact ⟨rfl, Below.refl _ _⟩
  by_cases h1 : (len : Int) ≤ i
  · rw [hp, if_pos (.inr h1)]
    go_enter Try.func53, Try.ntmps53
    go_wp2
    go_ret
    exact ⟨rfl, Below.refl _ _⟩
  rw [if_neg (by omega)] at hp
  obtain ⟨n, rfl⟩ := Int.eq_ofNat_of_zero_le (show 0 ≤ i by omega)
  have hn : n < len := by omega
  rw [Int.toNat_natCast] at hp
  obtain ⟨b, o, rfl, hbl, hc⟩ := hl.kindAt hn
  have hc0 := hc w (Below.refl _ _)
  by_cases k2 : kindAt l n = 2
  · rw [if_pos k2] at hp
    rw [k2] at hc0
    rw [hp]
    have hA := fun W (hW : Below w.heap.size w W) => around_calls _ len cap l (n : Int) W (hl.below hW) hsz
    generalize around l (n : Int) = y at *
    go_enter Try.func53, Try.ntmps53
    go_wp2_with fail
    refine (hA _ (Below.refl _ _)).mono ?_
    rintro e W1 ⟨rfl, hB⟩
    go_wp2
    go_ret
    exact ⟨rfl, hB⟩
  by_cases k1 : kindAt l n = 1
  · rw [if_neg k2, if_pos k1] at hp
    rw [k1] at hc0
    have HP : Hid (partner l n = seek l n (n + 1) (len - (n + 1))) := hp
    clear hp
    go_enter Try.func53, Try.ntmps53
    go_wp2
    go_loopw [5] (fun u w' => ∃ k : Nat, k ≤ len ∧ n < k ∧ u = .int .i64 (k : Int) ∧ partner l n = seek l n k (len - k) ∧ Below w.heap.size w w') (fun u _ => len - (intOf u).toNat)
    case atStart => exact ⟨n + 1, by omega, by omega, by simp, HP.out, Below.refl _ _⟩
    case round =>
      obtain ⟨k, hk, hnk, rfl, hs, hB⟩ := hrel
      by_cases hlt : k < len
      · rw [show len - k = (len - (k + 1)) + 1 from by omega, seek] at hs
        obtain ⟨b', o', e', _, hc'⟩ := hl.kindAt hlt
        cases e'
        have hc1 := hc' wr hB
        have hA := fun W (hW : Below w.heap.size w W) => around_calls _ len cap l (k : Int) W (hl.below hW) hsz
        have hf := around_fits l k
        clear hc' HP
        by_cases q2 : kindAt l k = 2
        · rw [q2] at hc1
          generalize around l (k : Int) = y at *
          by_cases hy : y = n
          · subst hy
            rw [if_pos ⟨q2, rfl⟩] at hs
            have HS : Hid (partner l n = k) := hs
            clear hs
            go_wp2_with fail
            refine (hA _ hB).mono ?_
            rintro e W1 ⟨rfl, hB1⟩
            go_wp2
            go_ret
            exact ⟨by rw [HS.out]; rfl, hB.trans (hB1.mono hB.size)⟩
          · rw [if_neg (by omega)] at hs
            have HS : Hid (partner l n = seek l n (k + 1) (len - (k + 1))) := hs
            have ey : (y == (n : Int)) = false := by simpa using hy
            clear hs
            go_wp2_with fail
            refine (hA _ hB).mono ?_
            rintro e W1 ⟨rfl, hB1⟩
            go_wp2
            go_roundw
            case rel => exact ⟨k + 1, by omega, by omega, rfl, HS.out, hB.trans (hB1.mono hB.size)⟩
            case measure => simp [intOf]; omega
        · rw [if_neg (by intro h; exact q2 h.1)] at hs
          have HS : Hid (partner l n = seek l n (k + 1) (len - (k + 1))) := hs
          generalize kindAt l k = z at *
          have ey : (z == 2) = false := by simpa using q2
          clear hs hA
          go_wp2
          go_roundw
          case rel => exact ⟨k + 1, by omega, by omega, rfl, HS.out, hB⟩
          case measure => simp [intOf]; omega
      · obtain rfl : k = len := by omega
        rw [Nat.sub_self, seek] at hs
        have HS : Hid (partner l n = -1) := hs
        clear hs
        go_wp2
        go_ret
        exact ⟨by rw [HS.out]; rfl, hB⟩
  · rw [if_neg k2, if_neg k1] at hp
    rw [hp]
    generalize kindAt l n = z at *
    have e1 : (z == 1) = false := by simpa using k1
    have e2 : (z == 2) = false := by simpa using k2
    go_enter Try.func53, Try.ntmps53
    go_wp2
    go_ret
    exact ⟨rfl, Below.refl _ _⟩
end Go.Proofs.Ytgpopploimeeaaa
