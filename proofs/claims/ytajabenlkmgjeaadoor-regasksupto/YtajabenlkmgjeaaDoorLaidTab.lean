/-
  PROVED HERE: what the row's list says of the table of bits, cell by cell.
-/
import Derived.Test.YtajabenlkmgjeaaDoorLaidT
import Derived.Test.YtajabenlkmgjeaaDoorTz6
namespace Go.Proofs.YtajabenlkmgjeaaDoor
open Go.ChangeShapes Go.WideShapes Go.ChangeAt Go.RowKit

theorem tab_var {W : World} {r : List (String × DataW Unit)} (h : laidMet Tryd.prog (("math/bits.deBruijn32tab", Rows.laid_math_bits_deBruijn32tab) :: r) W) : Tab W := by
  obtain ⟨ps, ⟨g, t, cs, fuel, p, q, e1, e2, e3, e4, _⟩, _⟩ := h
  obtain rfl := Option.some.inj (q_tab.symm.trans e1)
  obtain rfl := Option.some.inj (q_tabT.symm.trans e2)
  obtain ⟨xs, m, rfl, hx, hl, hn, he⟩ := DataW.trod_array Tryd.underlying103 e4
  have hc1 : Tryd.prog.cellsOf 5 = 1 := by kernel_rfl
  have hd : (Rows.laid_math_bits_deBruijn32tab : DataW Unit) = DataW.agg (tabL.map (fun x => DataW.lit (Lit.int .u8 x))) := rfl
  rw [hd] at hx
  simp only [Prod.mk.injEq, DataW.agg.injEq] at hx
  intro i x hi
  have hi32 : i < 32 := by have := (List.getElem?_eq_some_iff.1 hi).1; simpa [tabL] using this
  have h1 := he i hi32
  obtain ⟨y, hy⟩ : ∃ y, xs[i]? = some y := ⟨_, List.getElem?_eq_getElem (by omega)⟩
  rw [hy, hc1] at h1
  obtain ⟨n, f1, f2, _⟩ := DataW.trod_int Tryd.underlying5 h1
  have h2 : (xs.map (·.1))[i]? = some (DataW.lit (Lit.int .u8 x)) := by rw [← hx.1, List.getElem?_map, hi]; rfl
  rw [List.getElem?_map, hy] at h2
  simp only [Option.map_some, Option.some.injEq] at h2
  rw [f2] at h2
  simp only [DataW.lit.injEq, Lit.int.injEq, true_and] at h2
  subst h2
  rw [World.var?_cell q_tab e3 i]
  have h3 : (cs.toList.drop (i * 1)).take 1 = [Value.int .u8 n] := f1
  rw [Nat.mul_one] at h3
  have h4 : ((cs.toList.drop i).take 1)[0]? = some (Value.int .u8 n) := by rw [h3]; rfl
  rw [List.getElem?_take, if_pos (by decide), List.getElem?_drop, Nat.add_zero] at h4
  simpa using h4
theorem tab_of_laidT {W : World} (h : laidMetH Tryd.prog listedT W) : Tab W := tab_var (r := []) h
theorem tab_size {W : World} (h : Tab W) : 0 < W.heap.size := by
  have := h 0 0 rfl
  rcases Nat.eq_zero_or_pos W.heap.size with e | e
  · simp [World.cell?, Array.getElem?_eq_none (Nat.le_of_eq e)] at this
  · exact e
end Go.Proofs.YtajabenlkmgjeaaDoor
