/-
  PROVED HERE: the walk of CaretKeeps.
-/
import Derived.Test.YtbkpehfaofhmaaaGreatDoorCB11
import Derived.Test.YtbkpehfaofhmaaaGreatDoorCB35
namespace Go.Proofs.YtbkpehfaofhmaaaGreatDoor
open Go.RowKit

theorem sendC_zero {l : List Rng} {p q : Int} : (sendC l p q).2.2 = 0 ↔ mapE l p = 0 ∧ mapE l q = 0 := by
  unfold sendC
  by_cases h1 : mapE l p = 0
  · rw [if_pos h1]
    by_cases h2 : mapE l q = 0
    · rw [if_pos h2]; exact ⟨fun _ => ⟨h1, h2⟩, fun _ => rfl⟩
    · rw [if_neg h2]; exact ⟨fun h => absurd h h2, fun h => absurd h.2 h2⟩
  · rw [if_neg h1]; exact ⟨fun h => absurd h h1, fun h => absurd h.1 h1⟩
theorem sendC_bad {l : List Rng} {p q : Int} (h : (sendC l p q).2.2 ≠ 0) : (sendC l p q).1 = 0 ∧ (sendC l p q).2.1 = 0 := by
  unfold sendC at *
  by_cases h1 : mapE l p = 0
  · rw [if_pos h1] at *
    by_cases h2 : mapE l q = 0
    · rw [if_pos h2] at h; exact absurd rfl h
    · rw [if_neg h2]; exact ⟨rfl, rfl⟩
  · rw [if_neg h1]; exact ⟨rfl, rfl⟩
theorem sendC_ok {l : List Rng} {p q : Int} (h1 : mapE l p = 0) (h2 : mapE l q = 0) : sendC l p q = ((mapA l p (sendW p q)).at', (mapA l q (-(sendW p q))).at', 0) := by
  unfold sendC; rw [if_pos h1, if_pos h2]
theorem keeps_plain {l : List Rng} {p q : Int} (hpq : p ≤ q) (h : (sendC l p q).2.2 = 0) : (sendC l p q).1 ≤ (sendC l p q).2.1 ∧ (p ≠ q → (sendC l q p).1 = (sendC l p q).2.1 ∧ (sendC l q p).2.1 = (sendC l p q).1) := by
  obtain ⟨h1, h2⟩ := sendC_zero.1 h
  have e1 : sendW p q = -1 := by unfold sendW; rw [if_neg (by omega)]
  rw [sendC_ok h1 h2, e1]
  refine ⟨?_, fun hne => ?_⟩
  · exact Int.le_trans (order_side h1).1 (order_all 1 h1 h2 hpq)
  · have e2 : sendW q p = 1 := by unfold sendW; rw [if_pos (by omega)]
    rw [sendC_ok h2 h1, e2]
    exact ⟨rfl, rfl⟩
set_option maxRecDepth 100000 in
set_option maxHeartbeats 4000000 in
theorem keeps_walk (a : Option Addr) (len cap : Nat) (l : List Rng) (x y : Int) (w : World) (hl : Rngs w a len l) (hz : len ≤ 9223372036854775807) (hE : ETy w) :
    Calls Tryz.prog 7 #[.slice a len cap, .int .i64 x, .int .i64 y] w fun e w' => e = .returned (.bool true) ∧ Below w.heap.size w w' := by
  obtain ⟨lo, emn⟩ : ∃ lo, min x y = lo := ⟨_, rfl⟩
  obtain ⟨hi, emx⟩ : ∃ hi, max x y = hi := ⟨_, rfl⟩
  have hlh : lo ≤ hi := by omega
  have hne : x ≠ y → lo ≠ hi := by omega
  have H1 := hidC (csend_calls a len cap l lo hi w hl hz)
  have H2 : Hid (∀ X, Below w.heap.size w X → _) := fun X (hX : Below w.heap.size w X) => csend_calls a len cap l hi lo X (hl.below hX) hz
  have HA : Hid (∀ X, Below w.heap.size w X → _) := fun X (hX : Below w.heap.size w X) => awakec_calls X (hE.below hX)
  have HZ : (sendC l lo hi).2.2 = 0 → (sendC l hi lo).2.2 = 0 := fun h => sendC_zero.2 (sendC_zero.1 h).symm
  have HB : (sendC l lo hi).2.2 ≠ 0 → (sendC l lo hi).1 = 0 ∧ (sendC l lo hi).2.1 = 0 := sendC_bad
  have HK : (sendC l lo hi).2.2 = 0 → (sendC l lo hi).1 ≤ (sendC l lo hi).2.1 ∧ (lo ≠ hi → (sendC l hi lo).1 = (sendC l lo hi).2.1 ∧ (sendC l hi lo).2.1 = (sendC l lo hi).1) := fun h => keeps_plain hlh h
  generalize sendC l lo hi = S1 at *
  generalize sendC l hi lo = S2 at *
  obtain ⟨p1, p2, p3⟩ := S1
  obtain ⟨q1, q2, q3⟩ := S2
  simp only at *
  clear hl hE
  by_cases h0 : p3 = 0
  · obtain rfl := HZ h0
    subst h0
    obtain ⟨k1, k2⟩ := HK rfl
    clear HZ HB HK
    by_cases hxy : x = y
    · subst hxy
      go_enter Tryz.func7, Tryz.ntmps7
      go_wp2_with fail
      refine H1.out.mono ?_
      rintro e X1 ⟨rfl, hB1⟩
      have HB1 := hidC hB1
      clear hB1
      go_wp2_with fail
      refine (H2.out X1 HB1.out).mono ?_
      rintro e X2 ⟨rfl, hB2⟩
      have HB2 := hidC (HB1.out.trans (hB2.mono HB1.out.size))
      clear hB2
      go_wp2_with fail
      refine (HA.out X2 HB2.out).mono ?_
      rintro e X3 ⟨rfl, hB3⟩
      have HB3 := hidC (HB2.out.trans (hB3.mono HB2.out.size))
      clear hB3
      go_wp2
      go_ret
      exact ⟨rfl, HB3.out⟩
    · obtain ⟨e1, e2⟩ := k2 (hne hxy)
      subst e1 e2
      have hb : (x == y) = false := by simpa using hxy
      clear k2 hne
      go_enter Tryz.func7, Tryz.ntmps7
      go_wp2_with fail
      refine H1.out.mono ?_
      rintro e X1 ⟨rfl, hB1⟩
      have HB1 := hidC hB1
      clear hB1
      go_wp2_with fail
      refine (H2.out X1 HB1.out).mono ?_
      rintro e X2 ⟨rfl, hB2⟩
      have HB2 := hidC (HB1.out.trans (hB2.mono HB1.out.size))
      clear hB2
      go_wp2_with fail
      refine (HA.out X2 HB2.out).mono ?_
      rintro e X3 ⟨rfl, hB3⟩
      have HB3 := hidC (HB2.out.trans (hB3.mono HB2.out.size))
      clear hB3
      go_wp2
      go_ret
      exact ⟨rfl, HB3.out⟩
  · obtain ⟨rfl, rfl⟩ := HB h0
    have hb : (p3 != 0) = true := by simpa using h0
    clear HZ HB HK
    go_enter Tryz.func7, Tryz.ntmps7
    go_wp2_with fail
    refine H1.out.mono ?_
    rintro e X1 ⟨rfl, hB1⟩
    have HB1 := hidC hB1
    clear hB1
    go_wp2_with fail
    refine (H2.out X1 HB1.out).mono ?_
    rintro e X2 ⟨rfl, hB2⟩
    have HB2 := hidC (HB1.out.trans (hB2.mono HB1.out.size))
    clear hB2
    go_wp2_with fail
    refine (HA.out X2 HB2.out).mono ?_
    rintro e X3 ⟨rfl, hB3⟩
    have HB3 := hidC (HB2.out.trans (hB3.mono HB2.out.size))
    clear hB3
    go_wp2
    go_ret
    exact ⟨rfl, HB3.out⟩
end Go.Proofs.YtbkpehfaofhmaaaGreatDoor
