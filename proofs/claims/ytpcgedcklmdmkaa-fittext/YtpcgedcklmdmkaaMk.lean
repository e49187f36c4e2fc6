/-
  PROVED HERE: marks within others, as plain numbers; mark.Within and the document's own.
-/
import Derived.Test.YtpcgedcklmdmkaaFTok
import Derived.Test.YtpcgedcklmdmkaaRTok
import Derived.Laws.BitsAllLaws
namespace Go.Proofs.Ytpcgedcklmdmkaa
open Go.RowKit

/-- The marks of a set that others have too. -/
def both (s t : Int) : Int := ((s.toNat &&& (t % 8).toNat : Nat) : Int)
def within (s t : Int) : Int := if rightM s = true then both s t else 0
theorem rightM_iff (s : Int) : rightM s = true ↔ 0 ≤ s ∧ s ≤ 4 := by simp [rightM]
theorem wrap_small (x : Int) (h0 : 0 ≤ x) (h1 : x < 1000) : IntKind.i64.wrap x = x := by
  simp [IntKind.wrap, IntKind.bits, IntKind.signed]
  omega
theorem ofInt_low (s : Nat) (hs : s < 8) (t : Int) : s &&& (BitVec.ofInt 64 t).toNat = s &&& (t % 8).toNat := by
  have h1 : s = s &&& 7 := by
    rw [Nat.and_two_pow_sub_one_eq_mod s 3]
    omega
  rw [h1, Nat.and_assoc, Nat.and_assoc]
  have h2 : ∀ n, 7 &&& n = n % 8 := fun n => by rw [Nat.and_comm]; exact Nat.and_two_pow_sub_one_eq_mod n 3
  rw [h2, h2, BitVec.toNat_ofInt]
  have h3 : ((t % ((2 ^ 64 : Nat) : Int)).toNat) % 8 = (t % 8).toNat % 8 := by
    have : ((2 ^ 64 : Nat) : Int) = 18446744073709551616 := rfl
    rw [this]
    omega
  rw [h3]
theorem and_both (s t : Int) (h0 : 0 ≤ s) (h1 : s ≤ 4) : bits BinOp.and IntKind.i64 s t = both s t := by
  obtain ⟨n, rfl⟩ := Int.eq_ofNat_of_zero_le h0
  show IntKind.i64.wrap ((BitVec.ofInt 64 (n : Int) &&& BitVec.ofInt 64 t).toNat : Int) = _
  have hn : n ≤ 4 := by omega
  rw [BitVec.toNat_and, ofInt_u64 n (by omega), ofInt_low n (by omega) t]
  have hle : n &&& (t % 8).toNat ≤ n := Nat.and_le_left
  rw [wrap_small _ (by omega) (by omega)]
  rfl
theorem eight (t : Int) : ∃ r : Nat, r < 8 ∧ (t % 8).toNat = r := ⟨_, by omega, rfl⟩
theorem fin1 : ∀ s < 5, ∀ r < 8, (s &&& r) ≤ s ∧ (s &&& r) &&& r = s &&& r := by decide +kernel
theorem both_nonneg (s t : Int) : 0 ≤ both s t := by unfold both; omega
theorem both_le (s t : Int) (h0 : 0 ≤ s) : both s t ≤ s := by
  have : s.toNat &&& (t % 8).toNat ≤ s.toNat := Nat.and_le_left
  unfold both
  omega
theorem within_fits (s t : Int) : 0 ≤ within s t ∧ within s t ≤ 4 := by
  unfold within
  split
  · rename_i h
    have h := (rightM_iff s).1 h
    have h1 := both_nonneg s t
    have h2 := both_le s t h.1
    omega
  · omega
theorem within_right (s t : Int) : rightM (within s t) = true := (rightM_iff _).2 (within_fits s t)
theorem within_of_right {s : Int} (h : rightM s = true) (t : Int) : within s t = both s t := by unfold within; rw [if_pos h]
theorem within_again (s t : Int) : within (within s t) t = within s t := by
  rw [within_of_right (within_right s t)]
  unfold within
  split
  · rename_i hs
    have hs := (rightM_iff s).1 hs
    obtain ⟨r, hr, e⟩ := eight t
    have := (fin1 s.toNat (by omega) r hr).2
    unfold both
    rw [e, Int.toNat_natCast, this]
  · simp [both]
/-- What the law asks of a set: and with the others it is itself. -/
theorem within_and (s t : Int) : bits BinOp.and IntKind.i64 (within s t) t = within s t := by
  have h := within_fits s t
  rw [and_both _ _ h.1 h.2, ← within_of_right (within_right s t), within_again]

set_option maxHeartbeats 400000 in
theorem fwithin_calls (s t : Int) (w : World) : Calls Try.prog 16 #[.int .i64 s, .int .i64 t] w fun e w' => e = .returned (.int .i64 (within s t)) ∧ w' = w := by
  have h1 := fun W => fmark_calls s W
  unfold within
  by_cases hs : rightM s = true
  · have hs' := (rightM_iff s).1 hs
    have hb := and_both s t hs'.1 hs'.2
    rw [if_pos hs]
    rw [hs] at h1
    generalize both s t = x at *
    go_enter Try.func16, Try.ntmps16
    go_wp2_with fail
    refine (h1 _).mono ?_
    rintro e w' ⟨rfl, rfl⟩
    go_wp2
    go_ret
    exact ⟨rfl, rfl⟩
  · have hs' : rightM s = false := by simpa using hs
    rw [hs'] at h1
    rw [if_neg hs]
    go_enter Try.func16, Try.ntmps16
    go_wp2_with fail
    refine (h1 _).mono ?_
    rintro e w' ⟨rfl, rfl⟩
    go_wp2
    go_ret
    exact ⟨rfl, rfl⟩
set_option maxHeartbeats 400000 in
theorem rwithin_calls (s t : Int) (w : World) : Calls Try.prog 18 #[.int .i64 s, .int .i64 t] w fun e w' => e = .returned (.int .i64 (within s t)) ∧ w' = w := by
  have h1 := fun W => rightM_calls s W
  unfold within
  by_cases hs : rightM s = true
  · have hs' := (rightM_iff s).1 hs
    have hb := and_both s t hs'.1 hs'.2
    rw [if_pos hs]
    rw [hs] at h1
    generalize both s t = x at *
    go_enter Try.func18, Try.ntmps18
    go_wp2_with fail
    refine (h1 _).mono ?_
    rintro e w' ⟨rfl, rfl⟩
    go_wp2
    go_ret
    exact ⟨rfl, rfl⟩
  · have hs' : rightM s = false := by simpa using hs
    rw [hs'] at h1
    rw [if_neg hs]
    go_enter Try.func18, Try.ntmps18
    go_wp2_with fail
    refine (h1 _).mono ?_
    rintro e w' ⟨rfl, rfl⟩
    go_wp2
    go_ret
    exact ⟨rfl, rfl⟩
end Go.Proofs.Ytpcgedcklmdmkaa
