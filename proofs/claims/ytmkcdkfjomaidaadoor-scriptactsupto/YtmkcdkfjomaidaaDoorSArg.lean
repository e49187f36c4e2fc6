/-
  PROVED HERE: how an act that comes in is read: six numbers and a slice.
-/
import Derived.Test.YtmkcdkfjomaidaaDoorLaidS
import Derived.Test.YtmkcdkfjomaidaaDoorSLine
import Derived.SizedLaws
namespace Go.Proofs.YtmkcdkfjomaidaaDoor
open Go.ChangeShapes Go.WideShapes Go.ChangeAt Go.RowKit

theorem of_wf64 {x : Int} (h : (Lit.int .i64 x).wf = true) : I64 x := (Lit.wf_int_iff .i64 x).1 h
set_option maxRecDepth 100000 in
theorem open_act {H : Type} {enc : TypeId × Value → H} {W : World} {base : Nat} {v : Value} {x : DataW H} {p : List MemPlace} (hv : Value.okWide Tryd.prog W .any base 24 v) (h : DataW.Trod enc Tryd.prog W 0 (fun _ => true) true 24 v x p) :
    ∃ k a b c d n bp bl bc, v = .agg #[.int .i64 k, .int .i64 a, .int .i64 b, .int .i64 c, .int .i64 d, .int .i64 n, .slice bp bl bc] ∧ I64 a ∧ I64 c ∧ I64 d ∧ I64 n := by
  obtain ⟨cs, rfl, _⟩ := okWide_struct Tryd.underlying24 hv
  obtain ⟨fuel, hf⟩ := h
  obtain ⟨xs, k, _, hxy, hlen, hxl, hf⟩ := DataW.trod_struct Tryd.underlying24 hf
  rw [show Tryd.prog.cellsOf 24 = 7 from by kernel_rfl] at hlen
  have c3 : Tryd.prog.cellsOf 3 = 1 := by kernel_rfl
  have c22 : Tryd.prog.cellsOf 22 = 1 := by kernel_rfl
  rw [show (Value.agg cs).cells.toList = cs.toList from rfl] at hlen hf
  obtain ⟨L, hL⟩ : ∃ L, cs.toList = L := ⟨_, rfl⟩
  rw [hL] at hlen hf
  match xs, hxl, L, hlen, hf, hL with
  | [y0, y1, y2, y3, y4, y5, y6], _, [v0, v1, v2, v3, v4, v5, v6], _, hf, hL =>
    have g0 := hf 0 _ rfl
    have g1 := hf 1 _ rfl
    have g2 := hf 2 _ rfl
    have g3 := hf 3 _ rfl
    have g4 := hf 4 _ rfl
    have g5 := hf 5 _ rfl
    have g6 := hf 6 _ rfl
    simp [c3, c22] at g0 g1 g2 g3 g4 g5 g6
    obtain ⟨s0, e0, _, _⟩ := DataW.trod_int Tryd.underlying3 g0
    obtain ⟨s1, e1, _, w1⟩ := DataW.trod_int Tryd.underlying3 g1
    obtain ⟨s2, e2, _, _⟩ := DataW.trod_int Tryd.underlying3 g2
    obtain ⟨s3, e3, _, w3⟩ := DataW.trod_int Tryd.underlying3 g3
    obtain ⟨s4, e4, _, w4⟩ := DataW.trod_int Tryd.underlying3 g4
    obtain ⟨s5, e5, _, w5⟩ := DataW.trod_int Tryd.underlying3 g5
    have g6' : ∃ bp bl bc, v6 = .slice bp bl bc := by
      rcases DataW.trod_slice Tryd.underlying22 g6 with ⟨e, _⟩ | ⟨q, l, m, _, _, _, _, e, _⟩
      · exact ⟨_, _, _, (List.cons.inj e).1⟩
      · exact ⟨_, _, _, (List.cons.inj e).1⟩
    obtain ⟨bp, bl, bc, e6⟩ := g6'
    simp at e0 e1 e2 e3 e4 e5
    subst e0 e1 e2 e3 e4 e5 e6
    refine ⟨s0, s1, s2, s3, s4, s5, bp, bl, bc, ?_, ?_, ?_, ?_, ?_⟩
    · rw [show cs = cs.toList.toArray from by simp, hL]
    · exact of_wf64 w1
    · exact of_wf64 w3
    · exact of_wf64 w4
    · exact of_wf64 w5
theorem reach_le {s : ByteArray} (h : s.data.toList.length ≤ reachBytes) : s.size ≤ 281474976710656 := by
  have h1 := reachBytes_lt
  have e : s.data.toList.length = s.size := rfl
  have h2 : (2 : Nat) ^ 47 = 140737488355328 := by decide
  omega
end Go.Proofs.YtmkcdkfjomaidaaDoor
