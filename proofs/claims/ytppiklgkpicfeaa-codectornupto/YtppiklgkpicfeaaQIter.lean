/-
  PROVED HERE: the iterator that quad.bytesOf hands back gives the bytes of its number, in their order, to whatever loop body; where the body says 'no more' it has given a part of them.
-/
import Derived.RangeFuncNested
import Derived.RangeFuncBox
import Derived.RangeFuncBound
import Derived.RangeFuncCalls
import Derived.RangeFuncLeaves
import Derived.Shelf.Abstract
import Derived.Shelf.RegionOpen
import Derived.WalkKit
import Derived.OwnWalkIn
import Derived.TacticsInMore
import Derived.LoopNIn
import Derived.LoopIn
import Derived.Maps.AppendAt
import Derived.Test.YtppiklgkpicfeaaQLeb
namespace Go.Proofs.Ytppiklgkpicfeaa
open Go.RowKit Go.Shelf
attribute [local go_sem] Oper.semAt_some

theorem or128_fin : ∀ r : Fin 256, bits BinOp.or IntKind.u8 (r.val : Int) 128 = (r.val : Int) % 128 + 128 := by decide +kernel
theorem or128 (m : Int) : bits BinOp.or IntKind.u8 (m % 256) 128 = m % 128 + 128 := by
  have := or128_fin ⟨(m % 256).toNat, by omega⟩
  simp only at this
  rw [show (((m % 256).toNat : Nat) : Int) = m % 256 from by omega] at this
  rw [this]
  omega

set_option maxRecDepth 100000 in
set_option maxHeartbeats 1000000 in
theorem bytesOf1_in (F : Fence) (n : Nat) (h24 : F.fn 34) (hro : F.round = none) (hn : 1 ≤ n) (l Bn : Nat) (x : Int) (hx0 : 0 ≤ x) (hx1 : x ≤ 18446744073709551615) (Kp : World → World → Prop) (J Jx : List Int → World → Prop)
    (hY : ∀ pre c W, J pre W → pre.length < (leb x.toNat).length → YieldAt F (n - 1) Try.prog l #[.int .u8 c] W fun e W' =>
      (e = .returned (.bool true) ∧ J (pre ++ [c]) W' ∧ Kp W W') ∨ (e = .returned (.bool false) ∧ Jx (pre ++ [c]) W'))
    (W : World) (hBn : W.cell? ⟨Bn, 0, none⟩ = some (.int .u64 x)) (h0 : J [] W) :
    CallsIn F n Try.prog 34 #[.func (.yield l) #[] #[], .pointer (some ⟨Bn, 0, none⟩)] W fun e W' => (∃ v, e = .returned v) ∧
      ((∃ ys, ys = leb x.toNat ∧ J ys W') ∨ (∃ pre, pre <+: leb x.toNat ∧ Jx pre W')) := by
  refine callsIn_of_wp Try.func34 rfl h24 ?_ hro
  simp only [Try.ntmps34, List.size_toArray, List.length_cons, List.length_nil, Nat.reduceAdd, Nat.reduceSub, Array.replicate_succ, Array.replicate_zero, List.push_toArray, List.append_toArray, List.nil_append, List.cons_append]
  gi_wp2
  gi_loopw [3] (fun p wr => ∃ (pre : List Int) (m : Int), p = .int .u64 m ∧ 0 ≤ m ∧ m ≤ 18446744073709551615 ∧ leb x.toNat = pre ++ leb m.toNat ∧ J pre wr)
    (fun p _ => (intOf p).toNat)
  case atStart =>
    exact ⟨[], x, rfl, hx0, hx1, rfl, h0⟩
  case round =>
    obtain ⟨pre, m, rfl, hm0, hm1, hx, hJs⟩ := hrel
    by_cases hlt : m < 128
    · have hl := leb_lt (n := m.toNat) (by omega)
      have hm : ((m.toNat : Nat) : Int) = m := by omega
      rw [hm] at hl
      obtain ⟨fn, tmps, assign, body, hy, hR⟩ := hY pre m wr hJs (by rw [hx, hl]; simp)
      clear hm
      have HX : Hid (leb x.toNat = pre ++ leb m.toNat) := hx
      have HL : Hid (leb m.toNat = [m]) := hl
      clear hx hl
      gi_wp2
      refine hR.mono ?_
      rintro e W3 (⟨rfl, hJ3, hk3⟩ | ⟨rfl, hJx3⟩)
      · gi_wp2
        go_end0
        exact ⟨⟨_, rfl⟩, .inl ⟨pre ++ [m], by rw [HX.out, HL.out], hJ3⟩⟩
      · gi_wp2
        go_end0
        exact ⟨⟨_, rfl⟩, .inr ⟨pre ++ [m], by rw [HX.out, HL.out]; exact List.prefix_refl _, hJx3⟩⟩
    · have HX : Hid (leb x.toNat = pre ++ leb m.toNat) := hx
      clear hx
      have hge : 128 ≤ m := by omega
      have ho := or128 m
      have HL : Hid (leb m.toNat = (m % 128 + 128) :: leb (m / 128).toNat) := by
        show leb m.toNat = _
        rw [leb_ge (by omega), show ((m.toNat % 128 + 128 : Nat) : Int) = m % 128 + 128 from by omega, show m.toNat / 128 = (m / 128).toNat from by omega]
      obtain ⟨fn, tmps, assign, body, hy, hR⟩ := hY pre (m % 128 + 128) wr hJs (by rw [HX.out, HL.out]; simp)
      gi_wp2
      refine hR.mono ?_
      rintro e W3 (⟨rfl, hJ3, hk3⟩ | ⟨rfl, hJx3⟩)
      · gi_wp2
        go_roundw
        case rel => exact ⟨pre ++ [m % 128 + 128], m / 128, rfl, by omega, by omega, by rw [HX.out, HL.out]; simp, hJ3⟩
        case measure => simp [intOf]; omega
      · gi_wp2
        refine bodyPost_ret (results_none rfl _ _ _) rfl ?_
        exact ⟨⟨_, rfl⟩, .inr ⟨pre ++ [m % 128 + 128], by rw [HX.out, HL.out]; exact ⟨leb (m / 128).toNat, by simp⟩, hJx3⟩⟩

set_option maxHeartbeats 1000000 in
theorem bytesOf_in (F : Fence) (n : Nat) (h21 : F.fn 21) (hro : F.round = none) (x : Int) (w : World) :
    CallsIn F n Try.prog 21 #[.int .u64 x] w fun e w' => e = .returned (.func (.func 34) #[] #[.pointer (some ⟨w.heap.size, 0, none⟩)]) ∧ w' = w.alloc (.cells #[.int .u64 x] 38) := by
  refine callsIn_of_wp Try.func21 rfl h21 ?_ hro
  simp only [Try.ntmps21, List.size_toArray, List.length_cons, List.length_nil, Nat.reduceAdd, Nat.reduceSub, Array.replicate_succ, Array.replicate_zero, List.push_toArray, List.append_toArray, List.nil_append, List.cons_append]
  gi_wp2
  go_ret
  exact ⟨rfl, rfl⟩

theorem bytesOf_stops (F : Fence) (n : Nat) (h24 : F.fn 34) (hro : F.round = none) (hn : 1 ≤ n) (Bn n₀ : Nat) (x : Int) (hx0 : 0 ≤ x) (hx1 : x ≤ 18446744073709551615) (w : World) (hBn : Bn < w.heap.size)
    (hc : w.cell? ⟨Bn, 0, none⟩ = some (.int .u64 x)) :
    SeqStopsK F n Try.prog 34 #[.pointer (some ⟨Bn, 0, none⟩)] (fun c : Int => #[Value.int .u8 c]) (Below n₀) (fun ys => ys = leb x.toNat) (fun pre => pre <+: leb x.toNat) (leb x.toNat).length w := fun l J Jx W hW _ _ hY h0 =>
  bytesOf1_in F n h24 hro hn l Bn x hx0 hx1 (Below n₀) J Jx hY W ((hW.cell (p := ⟨Bn, 0, none⟩) hBn).trans hc) h0
end Go.Proofs.Ytppiklgkpicfeaa
