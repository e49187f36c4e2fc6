/-
  PROVED HERE: how long a slice of tokens that came in may be; a token that came in; integers that fit.
-/
import Derived.Test.YtpcgedcklmdmkaaRows
import Derived.Test.YtpcgedcklmdmkaaArgs
import Derived.OpenShut
import Derived.DataShut
import Derived.SizedLaws
import Derived.Carry
namespace Go.Proofs.Ytpcgedcklmdmkaa
open Go.ChangeShapes Go.WideShapes Go.ChangeAt Go.RowKit

theorem toks_sized {H : Type} {ts : List TypeId} {ds : List (DataW H)} (h : (DataW.weightsEach Try.prog ts ds).all (· ≤ reachBytes) = true) {j : Nat} {d : DataW H} {len cap : Nat} (ht : ts[j]? = some 22) (hd : ds[j]? = some d)
    (hh : len = 0 ∨ ∃ elems spare, d = .slice elems spare ∧ len ≤ elems.length ∧ cap ≤ elems.length + spare.length) : len ≤ 4398046511104 := by
  rcases hh with h0 | ⟨elems, spare, rfl, hl, hc⟩
  · omega
  · have := sized_slice h ht hd Try.underlying22
    rw [show Try.prog.bytesOf 35 = 32 from by kernel_rfl] at this
    have h2 : reachBytes ≤ 140737488351232 := by decide
    omega
theorem open_tok {H : Type} {enc : TypeId × Value → H} {W : World} {base : Nat} {v : Value} {d : DataW H} {p : List MemPlace} (hv : Value.okWide Try.prog W .any base 35 v) (h : DataW.Trod enc Try.prog W 0 (fun _ => true) true 35 v d p) : ∃ x : Tok, v = tokV x ∧ TokFits x := by
  obtain ⟨cs, rfl, _⟩ := okWide_struct Try.underlying35 hv
  obtain ⟨fuel, hf⟩ := h
  obtain ⟨y, hy, hfit, _⟩ := tok_of_cells hf
  refine ⟨y, ?_, hfit⟩
  unfold tokV
  rw [show cs = cs.toList.toArray from by simp, show cs.toList = _ from hy]
theorem of_wf_i64 {x : Int} (h : (Lit.int .i64 x).wf = true) : -9223372036854775808 ≤ x ∧ x ≤ 9223372036854775807 := (Lit.wf_int_iff .i64 x).1 h
theorem of_wf_u8 {x : Int} (h : (Lit.int .u8 x).wf = true) : 0 ≤ x ∧ x ≤ 255 := (Lit.wf_int_iff .u8 x).1 h
theorem of_wf_u16 {x : Int} (h : (Lit.int .u16 x).wf = true) : 0 ≤ x ∧ x ≤ 65535 := (Lit.wf_int_iff .u16 x).1 h
end Go.Proofs.Ytpcgedcklmdmkaa
