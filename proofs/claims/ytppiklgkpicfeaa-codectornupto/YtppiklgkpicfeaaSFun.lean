/-
  PROVED HERE: sum.rest, sum.parts, sum.whole, sum.Join and the document's own Join at every number: what they return; they leave the world as it was.
-/
import Derived.Test.YtppiklgkpicfeaaSNum
import Derived.WalkKit
import Derived.Laws.BitsAllLaws
import Derived.Deep.Light
namespace Go.Proofs.Ytppiklgkpicfeaa
open Go.RowKit

set_option maxHeartbeats 400000 in
theorem rest32_calls (x : Int) (w : World) (h0 : 0 ≤ x) (h1 : x ≤ 4294967295) :
    Calls Try.prog 43 #[.int .u32 x] w fun e w' => e = .returned (.int .u32 (x % 65521)) ∧ w' = w := by
  go_enter Try.func43, Try.ntmps43
  go_wp2
  go_ret
  exact ⟨rfl, rfl⟩
theorem and_low (s : Int) (h0 : 0 ≤ s) (h1 : s ≤ 4294967295) : bits BinOp.and IntKind.u32 s 65535 = s % 65536 := by
  obtain ⟨m, rfl⟩ := Int.eq_ofNat_of_zero_le h0
  have := u32_and_nat m 65535 (by omega) (by omega)
  rw [show m &&& 65535 = m % 65536 from Nat.and_two_pow_sub_one_eq_mod m 16] at this
  exact this
theorem or_high (a b : Int) (h0 : 0 ≤ a) (h1 : a ≤ 65535) (h2 : 0 ≤ b) (h3 : b ≤ 65535) : bits BinOp.or IntKind.u32 (b * 65536) a = whole (a, b) := by
  obtain ⟨m, rfl⟩ := Int.eq_ofNat_of_zero_le h0
  obtain ⟨n, rfl⟩ := Int.eq_ofNat_of_zero_le h2
  have := u32_or_nat (n * 65536) m (by omega) (by omega)
  have h4 : n * 65536 ||| m = n * 65536 + m := by
    have h5 := Nat.shiftLeft_add_eq_or_of_lt (b := m) (i := 16) (by omega) n
    rw [Nat.shiftLeft_eq] at h5
    have h7 : 2 ^ 16 = 65536 := rfl
    rw [h7] at h5
    exact h5.symm
  rw [h4] at this
  unfold whole
  simp only
  rw [show ((n : Int) * 65536) = ((n * 65536 : Nat) : Int) from by omega, this]
  omega

set_option maxHeartbeats 400000 in
theorem parts_calls (s : Int) (w : World) (h0 : 0 ≤ s) (h1 : s ≤ 4294967295) :
    Calls Try.prog 41 #[.int .u32 s] w fun e w' => e = .returned (.tuple #[.int .u32 (parts s).1, .int .u32 (parts s).2]) ∧ w' = w := by
  have ha := and_low s h0 h1
  go_enter Try.func41, Try.ntmps41
  go_wp2_with fail
  refine (rest32_calls (s % 65536) w (by omega) (by omega)).mono ?_
  rintro e w' ⟨rfl, rfl⟩
  go_wp2_with fail
  refine (rest32_calls (s / 65536) w' (by omega) (by omega)).mono ?_
  rintro e w' ⟨rfl, rfl⟩
  go_wp2
  go_ret2
  exact ⟨rfl, rfl⟩
set_option maxHeartbeats 400000 in
theorem whole_calls (a b : Int) (w : World) (h0 : 0 ≤ a) (h1 : a ≤ 65535) (h2 : 0 ≤ b) (h3 : b ≤ 65535) :
    Calls Try.prog 44 #[.int .u32 a, .int .u32 b] w fun e w' => e = .returned (.int .u32 (whole (a, b))) ∧ w' = w := by
  go_enter Try.func44, Try.ntmps44
  go_wp2
  go_ret
  exact ⟨ret_int (or_high a b h0 h1 h2 h3), rfl⟩

end Go.Proofs.Ytppiklgkpicfeaa
