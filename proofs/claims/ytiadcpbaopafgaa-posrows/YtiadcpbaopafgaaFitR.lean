/-
  PROVED HERE: how long a slice of ranges that came in may be; a range that came in; integers that fit; two spots, two ranges compared.
-/
import Derived.Test.YtiadcpbaopafgaaRows
import Derived.Test.YtiadcpbaopafgaaArgsR
import Derived.OpenShut
import Derived.DataShut
import Derived.SizedLaws
import Derived.Carry
import Derived.WalkSmall
import Derived.BigQuiet
import Derived.Deep.QuietTactic
import Derived.Laws.StructEq
namespace Go.Proofs.Ytiadcpbaopafgaa
open Go.ChangeShapes Go.WideShapes Go.ChangeAt Go.RowKit

theorem rngs_sized {H : Type} {ts : List TypeId} {ds : List (DataW H)} (h : (DataW.weightsEach Try.prog ts ds).all (· ≤ reachBytes) = true) {j : Nat} {d : DataW H} {len cap : Nat} (ht : ts[j]? = some 22) (hd : ds[j]? = some d)
    (hh : len = 0 ∨ ∃ elems spare, d = .slice elems spare ∧ len ≤ elems.length ∧ cap ≤ elems.length + spare.length) : len ≤ 6000000000000 := by
  rcases hh with h0 | ⟨elems, spare, rfl, hl, hc⟩
  · omega
  · have := sized_slice h ht hd Try.underlying22
    rw [show Try.prog.bytesOf 60 = 24 from by kernel_rfl] at this
    have h2 : reachBytes ≤ 140737488351232 := by decide
    omega
theorem open_rng {H : Type} {enc : TypeId × Value → H} {W : World} {base : Nat} {v : Value} {d : DataW H} {p : List MemPlace} (hv : Value.okWide Try.prog W .any base 60 v) (h : DataW.Trod enc Try.prog W 0 (fun _ => true) true 60 v d p) : ∃ x : Rng, v = rngV x ∧ RngFits x := by
  obtain ⟨cs, rfl, _⟩ := okWide_struct Try.underlying60 hv
  obtain ⟨fuel, hf⟩ := h
  obtain ⟨y, hy, hfit, _⟩ := rng_of_cells hf
  refine ⟨y, ?_, hfit⟩
  unfold rngV
  rw [show cs = cs.toList.toArray from by simp, show cs.toList = _ from hy]
theorem of_wf_i64 {x : Int} (h : (Lit.int .i64 x).wf = true) : -9223372036854775808 ≤ x ∧ x ≤ 9223372036854775807 := (Lit.wf_int_iff .i64 x).1 h

theorem spot_eqGuard (op : BinOp) (x y : Operand) (xs ys : Array Value) (W : World) : (eqGuard op 24 x y (.agg xs) (.agg ys)).run Try.prog W = .ok () W := run_eqGuard_agg W op 24 x y xs ys (by kernel_rfl)
theorem spot_self (a : Int) (b : Bool) (c d : Int) (W : World) : (binOp .eql 24 (.agg #[.int .i64 a, .bool b, .int .i64 c, .int .i64 d]) (.agg #[.int .i64 a, .bool b, .int .i64 c, .int .i64 d])).run Try.prog W = .ok (.bool true) W := by
  rw [run_eql_struct]
  have u3 := Try.underlying3
  have a3 := Try.isAgg3
  have z3 := Try.sizeOf3
  have u4 := Try.underlying4
  have a4 := Try.isAgg4
  have z4 := Try.sizeOf4
  have hS : Try.prog.underlying 24 = some (.struct (Try.prog.fieldsOf 24)) := by kernel_rfl
  have hp : Try.prog.stoodInHeld 24 = false := by kernel_rfl
  have h : (Op.equalIn 10000 24 (.agg #[.int .i64 a, .bool b, .int .i64 c, .int .i64 d]) (.agg #[.int .i64 a, .bool b, .int .i64 c, .int .i64 d])).run Try.prog W = .ok true W := by
    rw [show (10000 : Nat) = 9999 + 1 from rfl, run_equalIn_agg W 9999 24 _ _ hS hp]
    simp only [Program.fieldsOf, Try.underlying24]
    go_simp
  rw [h]
  rfl
end Go.Proofs.Ytiadcpbaopafgaa
