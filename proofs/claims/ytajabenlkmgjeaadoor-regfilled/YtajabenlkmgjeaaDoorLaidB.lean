/-
  PROVED HERE: what the row's list says of the two package variables (the table of bits, and what errors.As reads); a world that meets it.
-/
import Derived.Test.YtajabenlkmgjeaaDoorLaidTab
import Derived.Test.YtajabenlkmgjeaaDoorParseC
namespace Go.Proofs.YtajabenlkmgjeaaDoor
open Go.ChangeShapes Go.WideShapes Go.ChangeAt Go.RowKit

theorem q_et : Tryd.prog.globalNamed "errors.errorType" = some 1 := by kernel_rfl
theorem q_rt : (Tryd.prog.cutTypes.find? (·.1 == "internal/reflectlite.rtype")).map (·.2) = some 135 := by kernel_rfl
theorem q_oneRow : ((List.range 179).filter fun t => Tryd.prog.rowNamed t [101, 114, 114, 111, 114]) = [64] := by kernel_rfl
theorem q_size : Tryd.prog.types.size = 179 := by kernel_rfl
def listedB : List (String × DataW Unit) := [("math/bits.deBruijn32tab", Rows.laid_math_bits_deBruijn32tab), ("errors.errorType", Rows.laid_errors_errorType)]
theorem parts_of_laidB {W : World} (h : laidMetH Tryd.prog listedB W) : laidMet Tryd.prog listedT W ∧ handlesMet Tryd.prog [("errors.errorType", Rows.laid_errors_errorType)] W := h
theorem tab_of_laidB {W : World} (h : laidMetH Tryd.prog listedB W) : Tab W := tab_var (r := []) (parts_of_laidB h).1
/-- What the condition gives a walk: the variable's one cell. -/
theorem ety_of_laidB {W : World} (h : laidMetH Tryd.prog listedB W) : ETy W := by
  obtain ⟨name, u, ty, e1, e2, e3, e4, e5⟩ := (parts_of_laidB h).2 _ (List.mem_singleton.2 rfl)
  have en : name = [101, 114, 114, 111, 114] := (Option.some.inj e1).symm
  subst en
  obtain rfl := Option.some.inj (q_rt.symm.trans e2)
  have hm : ty ∈ (List.range 179).filter fun t => Tryd.prog.rowNamed t [101, 114, 114, 111, 114] := List.mem_filter.2 ⟨List.mem_range.2 (by rw [← q_size]; exact e3), e4⟩
  rw [q_oneRow] at hm
  obtain rfl := List.mem_singleton.1 hm
  have hh : typeHandle Tryd.prog 64 = .pointer (some ⟨3, 64, none⟩) := by kernel_rfl
  rw [hh] at e5
  unfold ETy
  simpa using World.var?_cell q_et e5 0
/-- A world that meets the condition: the settled one, both laid. -/
noncomputable def laidWorldB (os : Os) : World :=
  let w0 := World.holding Tryd.prog os ⟨#[], #[], []⟩
  { w0 with heap := (w0.heap.modify 0 fun
      | .cells _ t frozen => .cells tabCells t frozen
      | o => o).modify 1 fun
      | .cells _ t frozen => .cells #[.iface 135 (.agg #[.pointer (some ⟨3, 64, none⟩)])] t frozen
      | o => o }
theorem laid_metB (os : Os) (args : Array Value) : laidMetH Tryd.prog listedB ((laidWorldB os).forCall (fun _ _ => 0) ⟨#[], args, []⟩).memory :=
  laidMetH_of_parts (laidMet_of_run' 8 (by kernel_rfl) (by kernel_rfl)) (by kernel_rfl)
end Go.Proofs.YtajabenlkmgjeaaDoor
