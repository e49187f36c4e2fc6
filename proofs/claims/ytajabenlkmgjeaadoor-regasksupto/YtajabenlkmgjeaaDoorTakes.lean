/-
  PROVED HERE: reg's takes at every place and number: what it returns; nothing that lay before is turned.
-/
import Derived.Test.YtajabenlkmgjeaaDoorSrch
namespace Go.Proofs.YtajabenlkmgjeaaDoor
open Go.RowKit Go.Maps

set_option maxRecDepth 100000 in
set_option maxHeartbeats 1000000 in
theorem takes_calls (m : Nat) (hm : m < 65536) (a : Option Addr) (n c : Nat) (l t : Int) (w : World) :
    Calls Tryd.prog 54 #[.agg #[.int .u16 (m : Int), .slice a n c, .int .i64 l], .int .i64 t] w fun e w' => e = .returned (.bool (takes m t)) ∧ w.grownBy w' none := by
  have HT : Hid (∀ W, Calls Tryd.prog 40 #[.int .i64 t] W fun e w' => e = .returned (.bool (isTy t)) ∧ w' = W) := fun W => istype_calls t W
  have HG : Hid (∀ o, w.grownBy (w.alloc o) none) := fun o => World.grownBy_alloc w o none
  have htk : takes m t = (isTy t && m.testBit t.toNat) := by unfold takes isTy; rfl
  rw [htk]
  cases hi : isTy t with
  | false =>
    rw [hi] at HT
    go_enter Tryd.func54, Tryd.ntmps54
    go_wp2_with fail
    refine (HT.out _).mono ?_
    rintro e W ⟨rfl, hW⟩
    rw [hW]
    go_wp2
    go_ret
    exact ⟨rfl, HG.out _⟩
  | true =>
    rw [hi] at HT
    have ht : 0 ≤ t ∧ t < 16 := by unfold isTy at hi; simpa using hi
    obtain ⟨t0, t1⟩ := ht
    have hb : (bits BinOp.and IntKind.u16 ((m : Int) / 2 ^ t.toNat) 1 != 0) = m.testBit t.toNat := by
      generalize t.toNat = k
      have e1 : ((m : Int) / 2 ^ k) = ((m / 2 ^ k : Nat) : Int) := by
        rw [Int.natCast_ediv]
        simp
      have hlt : m / 2 ^ k < 65536 := Nat.lt_of_le_of_lt (Nat.div_le_self _ _) hm
      have e2 := u16_and_nat (m / 2 ^ k) 1 hlt (by decide)
      rw [e1, show (1 : Int) = ((1 : Nat) : Int) from rfl, e2]
      unfold Nat.testBit
      rw [Nat.shiftRight_eq_div_pow, Nat.and_comm]
      rw [Bool.eq_iff_iff]
      simp
      omega
    go_enter Tryd.func54, Tryd.ntmps54
    go_wp2_with fail
    refine (HT.out _).mono ?_
    rintro e W ⟨rfl, hW⟩
    rw [hW]
    go_wp2
    go_ret
    exact ⟨rfl, HG.out _⟩
end Go.Proofs.YtajabenlkmgjeaaDoor
