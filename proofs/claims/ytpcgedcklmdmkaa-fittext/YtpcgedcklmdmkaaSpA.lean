/-
  PROVED HERE: how a type's word of itself that came in is read; how many tokens came in, by the bulk.
-/
import Derived.Test.YtpcgedcklmdmkaaFit
import Derived.Test.YtpcgedcklmdmkaaPlai
namespace Go.Proofs.Ytpcgedcklmdmkaa
open Go.ChangeShapes Go.WideShapes Go.ChangeAt Go.RowKit

theorem open_spc {H : Type} {enc : TypeId × Value → H} {W : World} {base : Nat} {v : Value} {d : DataW H} {p : List MemPlace} (hv : Value.okWide Try.prog W .any base 24 v) (h : DataW.Trod enc Try.prog W 0 (fun _ => true) true 24 v d p) : ∃ s : Spc, v = spcV s := by
  obtain ⟨cs, rfl, _⟩ := okWide_struct Try.underlying24 hv
  obtain ⟨fuel, hf⟩ := h
  obtain ⟨xs, k, _, hxy, hlen, hxl, hf⟩ := DataW.trod_struct Try.underlying24 hf
  rw [show Try.prog.cellsOf 24 = 7 from by kernel_rfl] at hlen
  have c9 : Try.prog.cellsOf 9 = 1 := by kernel_rfl
  have c3 : Try.prog.cellsOf 3 = 1 := by kernel_rfl
  have c4 : Try.prog.cellsOf 4 = 1 := by kernel_rfl
  rw [show (Value.agg cs).cells.toList = cs.toList from rfl] at hlen hf
  obtain ⟨L, hL⟩ : ∃ L, cs.toList = L := ⟨_, rfl⟩
  rw [hL] at hlen hf
  match xs, hxl, L, hlen, hf, hL with
  | [y0, y1, y2, y3, y4, y5, y6], _, [v0, v1, v2, v3, v4, v5, v6], _, hf, hL =>
    have g0 := hf 0 _ rfl
    have g1 := hf 1 _ rfl
    have g2 := hf 2 _ rfl
    have g3 := hf 3 _ rfl
    have g4 := hf 4 _ rfl
    have g5 := hf 5 _ rfl
    have g6 := hf 6 _ rfl
    simp [c3, c4, c9] at g0 g1 g2 g3 g4 g5 g6
    obtain ⟨s0, e0, _, _⟩ := DataW.trod_string Try.underlying9 g0
    obtain ⟨s1, e1, _, _⟩ := DataW.trod_string Try.underlying9 g1
    obtain ⟨s2, e2, _⟩ := DataW.trod_bool Try.underlying4 g2
    obtain ⟨s3, e3, _, _⟩ := DataW.trod_int Try.underlying3 g3
    obtain ⟨s4, e4, _, _⟩ := DataW.trod_int Try.underlying3 g4
    obtain ⟨s5, e5, _, _⟩ := DataW.trod_int Try.underlying3 g5
    obtain ⟨s6, e6, _⟩ := DataW.trod_bool Try.underlying4 g6
    simp at e0 e1 e2 e3 e4 e5 e6
    subst e0 e1 e2 e3 e4 e5 e6
    refine ⟨⟨s0, s1, s2, s3, s4, s5, s6⟩, ?_⟩
    unfold spcV
    rw [show cs = cs.toList.toArray from by simp, hL]

/-- What is read of many is at least as much as there are. -/
theorem bulk_all {H : Type} (ds : List (DataW H)) : ds.length ≤ Rows.uptoBulkAll ds := by
  induction ds with
  | nil => exact Nat.zero_le _
  | cons d r ih =>
    have : 1 ≤ Rows.uptoBulk d := by
      cases d with
      | lit x => cases x <;> simp [Rows.uptoBulk]
      | _ => simp [Rows.uptoBulk]
    rw [Rows.uptoBulkAll, List.length_cons]
    omega
theorem toks_bulk {H : Type} {d : DataW H} {len cap : Nat} (hh : len = 0 ∨ ∃ elems spare, d = .slice elems spare ∧ len ≤ elems.length ∧ cap ≤ elems.length + spare.length) : len ≤ Rows.uptoBulk d := by
  rcases hh with h0 | ⟨elems, spare, rfl, hl, _⟩
  · omega
  · have := bulk_all elems
    rw [Rows.uptoBulk]
    omega
end Go.Proofs.Ytpcgedcklmdmkaa
