/-
  PROVED HERE: math/bits.Len64, quad.Len and the law's own awake return what they should at every uint64, and leave the world as it was: Len64 the bits of the number, Len one byte for each seven bits and one at least, awake true.
-/
import Derived.Test.YtppiklgkpicfeaaProg
import Derived.WalkKit
import Derived.Lib.Strings
import Derived.Lib.Slices
import Derived.Lib.Small
import Derived.Lib.Walk
import Derived.Lib.BitFns
import Derived.Deep.Light
namespace Go.Proofs.Ytppiklgkpicfeaa
open Go.RowKit

set_option maxRecDepth 100000 in
theorem len8tab_size : (Lib.len8tab.size : Int) = 256 := by
  have : Lib.len8tab.size = 256 := by decide
  omega
/-- One way through Len64's three tests, said once for all eight: k bits have been shifted out, y is what is left. -/
theorem way (k : Nat) (x y : Int) (h : y.toNat < Lib.len8tab.size) (hk : k ≤ 56) (hy0 : 0 ≤ y) (hy8 : y ≤ 255) (hs : Lib.bitLen x.toNat = k + Lib.bitLen y.toNat) :
    wrap64 ((k : Int) + wrap64 ((Lib.len8tab[y.toNat]'h).toNat : Int)) = (Lib.bitLen x.toNat : Int) := by
  have ht : ((Lib.len8tab[y.toNat]'h).toNat : Int) = (Lib.bitLen y.toNat : Int) := by
    rw [← Lib.len8_of y hy0 hy8]
    unfold Lib.len8
    rw [getElem?_pos Lib.len8tab y.toNat h]
    rfl
  have h8 := Lib.bitLen_le8' y hy0 hy8
  rw [ht, hs]
  generalize Lib.bitLen y.toNat = z at h8
  unfold wrap64
  omega
/-- The way on which no test was met: nothing is added. -/
theorem way0 (x : Int) (h : x.toNat < Lib.len8tab.size) (h0 : 0 ≤ x) (h8 : x ≤ 255) : wrap64 (wrap64 ((Lib.len8tab[x.toNat]'h).toNat : Int)) = (Lib.bitLen x.toNat : Int) := by
  have ht : ((Lib.len8tab[x.toNat]'h).toNat : Int) = (Lib.bitLen x.toNat : Int) := by
    rw [← Lib.len8_of x h0 h8]
    unfold Lib.len8
    rw [getElem?_pos Lib.len8tab x.toNat h]
    rfl
  have hl := Lib.bitLen_le8' x h0 h8
  rw [ht]
  unfold wrap64
  omega

set_option maxHeartbeats 4000000 in
set_option maxRecDepth 100000 in
theorem len64_calls (x : Int) (w : World) (h0 : 0 ≤ x) (h1 : x ≤ 18446744073709551615) :
    Calls Try.prog 33 #[.int .u64 x] w fun e w' => e = .returned (.int .i64 (Lib.bitLen x.toNat)) ∧ w' = w := by
  go_enter Try.func33, Try.ntmps33
  go_wp2
  all_goals first
    | (go_ret; refine ⟨congrArg Ending.returned (congrArg (Value.int IntKind.i64) ?_), rfl⟩; go_light)
    | (exfalso; go_light; have hs := len8tab_size; omega)
  all_goals first
    | (refine way 56 x (x / 4294967296 / 65536 / 256) _ (by decide) ?_ ?_ ?_
       · omega
       · omega
       · have s := Lib.bitLen_shift56 x.toNat (by omega) (by omega)
         rw [show x.toNat / 72057594037927936 = (x / 4294967296 / 65536 / 256).toNat from by omega] at s
         exact s)
    | (refine way 48 x (x / 4294967296 / 65536) _ (by decide) ?_ ?_ ?_
       · omega
       · omega
       · have s := Lib.bitLen_shift48 x.toNat (by omega) (by omega)
         rw [show x.toNat / 281474976710656 = (x / 4294967296 / 65536).toNat from by omega] at s
         exact s)
    | (refine way 40 x (x / 4294967296 / 256) _ (by decide) ?_ ?_ ?_
       · omega
       · omega
       · have s := Lib.bitLen_shift40 x.toNat (by omega) (by omega)
         rw [show x.toNat / 1099511627776 = (x / 4294967296 / 256).toNat from by omega] at s
         exact s)
    | (refine way 32 x (x / 4294967296) _ (by decide) ?_ ?_ ?_
       · omega
       · omega
       · have s := Lib.bitLen_shift32 x.toNat (by omega) (by omega)
         rw [show x.toNat / 4294967296 = (x / 4294967296).toNat from by omega] at s
         exact s)
    | (refine way 24 x (x / 65536 / 256) _ (by decide) ?_ ?_ ?_
       · omega
       · omega
       · have s := Lib.bitLen_shift24 x.toNat (by omega) (by omega)
         rw [show x.toNat / 16777216 = (x / 65536 / 256).toNat from by omega] at s
         exact s)
    | (refine way 16 x (x / 65536) _ (by decide) ?_ ?_ ?_
       · omega
       · omega
       · have s := Lib.bitLen_shift16 x.toNat (by omega) (by omega)
         rw [show x.toNat / 65536 = (x / 65536).toNat from by omega] at s
         exact s)
    | (refine way 8 x (x / 256) _ (by decide) ?_ ?_ ?_
       · omega
       · omega
       · have s := Lib.bitLen_shift8 x.toNat (by omega) (by omega)
         rw [show x.toNat / 256 = (x / 256).toNat from by omega] at s
         exact s)
    | exact way0 x _ h0 (by omega)

/-- One byte for each seven bits, and one at least. -/
def qlen (n : Nat) : Nat := max 1 ((Lib.bitLen n + 6) / 7)

theorem bitLen_le64 (x : Int) (h0 : 0 ≤ x) (h1 : x ≤ 18446744073709551615) : Lib.bitLen x.toNat ≤ 64 := Lib.bitLen_le x.toNat 64 (by omega) (by omega)

theorem qlen_le (x : Int) (h0 : 0 ≤ x) (h1 : x ≤ 18446744073709551615) : 1 ≤ qlen x.toNat ∧ qlen x.toNat ≤ 10 := by
  have := bitLen_le64 x h0 h1
  unfold qlen
  omega
theorem ret_int {k : IntKind} {a b : Int} (h : a = b) : Ending.returned (.int k a) = .returned (.int k b) := by rw [h]

set_option maxHeartbeats 400000 in
theorem len_calls (x : Int) (w : World) (h0 : 0 ≤ x) (h1 : x ≤ 18446744073709551615) :
    Calls Try.prog 20 #[.int .u64 x] w fun e w' => e = .returned (.int .i64 (qlen x.toNat)) ∧ w' = w := by
  have hb := bitLen_le64 x h0 h1
  go_enter Try.func20, Try.ntmps20
  go_wp2_with (go_at_call 33; refine (len64_calls x _ h0 h1).mono ?_; rintro e w' ⟨rfl, rfl⟩)
  go_ret
  exact ⟨ret_int (by unfold qlen; omega), rfl⟩

end Go.Proofs.Ytppiklgkpicfeaa
