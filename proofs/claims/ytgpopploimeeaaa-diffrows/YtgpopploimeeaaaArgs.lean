/-
  PROVED HERE: how a slice of tokens, and a token, that came in is read.
-/
import Derived.Test.YtgpopploimeeaaaOwn
import Derived.Deep.Slices
import Derived.ChangeSame
import Derived.ChangeArms
namespace Go.Proofs.Ytgpopploimeeaaa
open Go.ChangeShapes Go.WideShapes Go.ChangeAt Go.RowKit

/-- Each number of a token fits. -/
def TokFits (x : Tok) : Prop := (Lit.int .i64 x.k).wf = true ∧ (Lit.int .i64 x.t).wf = true ∧ (Lit.int .i64 x.n).wf = true ∧ (Lit.int .i64 x.m).wf = true
theorem tok_of_cells {H : Type} {enc : TypeId × Value → H} {w : World} {base : Nat} {spare : Nat → Bool} {held : Bool} {fuel : Nat} {cs : List Value} {x : DataW H × List MemPlace} (h : DataW.trod enc Try.prog w base spare held fuel 62 cs = some x) :
    ∃ y : Tok, cs = [.int .i64 y.k, .int .i64 y.t, .int .i64 y.n, .int .i64 y.m] ∧ TokFits y ∧ x = (.agg [.lit (.int .i64 y.k), .lit (.int .i64 y.t), .lit (.int .i64 y.n), .lit (.int .i64 y.m)], []) := by
  obtain ⟨xs, k, _, hxy, hlen, hxl, hf⟩ := DataW.trod_struct Try.underlying62 h
  rw [show Try.prog.cellsOf 62 = 4 from by kernel_rfl] at hlen
  match xs, hxl, cs, hlen with
  | [y0, y1, y2, y3], _, [v0, v1, v2, v3], _ =>
    have c3 : Try.prog.cellsOf 3 = 1 := by kernel_rfl
    have g0 := hf 0 _ rfl
    have g1 := hf 1 _ rfl
    have g2 := hf 2 _ rfl
    have g3 := hf 3 _ rfl
    simp [c3] at g0 g1 g2 g3
    obtain ⟨n0, e0, d0, f0⟩ := DataW.trod_int Try.underlying3 g0
    obtain ⟨n1, e1, d1, f1⟩ := DataW.trod_int Try.underlying3 g1
    obtain ⟨n2, e2, d2, f2⟩ := DataW.trod_int Try.underlying3 g2
    obtain ⟨n3, e3, d3, f3⟩ := DataW.trod_int Try.underlying3 g3
    simp at e0 e1 e2 e3
    subst e0 e1 e2 e3 d0 d1 d2 d3
    exact ⟨⟨n0, n1, n2, n3⟩, rfl, ⟨f0, f1, f2, f3⟩, by rw [hxy]; rfl⟩

/-- A slice of tokens that came in. -/
theorem open_toks {H : Type} {enc : TypeId × Value → H} {W : World} {a : Option Addr} {len cap : Nat} {d : DataW H} {p : List MemPlace} (h : DataW.Trod enc Try.prog W 0 (fun _ => true) true 22 (.slice a len cap) d p) :
    ∃ l : List Tok, Toks W a len l ∧ (∀ x ∈ l, TokFits x) ∧ len ≤ cap ∧ cap ≤ maxLen ∧ (a = none → cap = 0) ∧ (∀ x, a = some x → 0 < cap → x.spot = none) ∧ (len = 0 ∨ ∃ elems spare, d = .slice elems spare ∧ len ≤ elems.length ∧ cap ≤ elems.length + spare.length) := by
  obtain ⟨fuel, hf⟩ := h
  have hc4 : Try.prog.cellsOf 62 = 4 := by kernel_rfl
  rcases Deep.open_slice Try.underlying22 hf with ⟨hcs, hx⟩ | ⟨x, l, c, m, n, D, Pl, hcs, _, hl, hm, hmm, hx, hD⟩
  · simp [Value.cells] at hcs
    obtain ⟨rfl, rfl, rfl⟩ := hcs
    exact ⟨[], ⟨rfl, .inl rfl⟩, by simp, Nat.le_refl _, Nat.zero_le _, fun _ => rfl, fun _ _ h => absurd h (by omega), .inl rfl⟩
  · simp [Value.cells] at hcs
    obtain ⟨rfl, rfl, rfl⟩ := hcs
    simp only [if_true] at hmm
    subst hmm
    rw [hc4] at hD
    have each : ∀ i, i < m → ∃ y : Tok, TokFits y ∧ W.cell? (x.add (i * 4)) = some (.int .i64 y.k) ∧ W.cell? ((x.add (i * 4)).add 1) = some (.int .i64 y.t) ∧ W.cell? ((x.add (i * 4)).add 2) = some (.int .i64 y.n) ∧ W.cell? ((x.add (i * 4)).add 3) = some (.int .i64 y.m) := by
      intro i hi
      obtain ⟨cs', h1, h2⟩ := hD i hi
      obtain ⟨_, _, hcell⟩ := World.cells?_some h1
      obtain ⟨y, rfl, hy, _⟩ := tok_of_cells h2
      refine ⟨y, hy, ?_, hcell 1 (by omega), hcell 2 (by omega), hcell 3 (by omega)⟩
      have := hcell 0 (by omega)
      rw [show (x.add (i * 4)).add 0 = x.add (i * 4) from by obtain ⟨b, o, s⟩ := x; cases s <;> simp [Addr.add]] at this
      exact this
    haveI : Inhabited Tok := ⟨⟨0, 0, 0, 0⟩⟩
    obtain ⟨Y, hY⟩ := Deep.choose_lt each
    have hspot : 0 < m → x.spot = none := by
      intro h0
      have := World.cell?_spot (hY 0 h0).2.1
      obtain ⟨b, o, s⟩ := x
      simpa [Addr.add] using this
    refine ⟨(List.range len).map Y, ⟨by simp, ?_⟩, ?_, hl, hm, (fun e => by cases e), (fun z e h0 => by cases e; exact hspot h0), .inr ⟨_, _, congrArg Prod.fst hx, by simp, by simp; omega⟩⟩
    · rcases Nat.eq_zero_or_pos len with h0 | h0
      · exact .inl h0
      · obtain ⟨b, o, s⟩ := x
        obtain rfl : s = none := hspot (by omega)
        refine .inr ⟨b, o, rfl, ?_, fun i y hy => ?_⟩
        · have := (hY 0 (by omega)).2.1
          rw [add_none] at this
          rcases Nat.lt_or_ge b W.heap.size with hlt | hge
          · exact hlt
          · simp [World.cell?, Array.getElem?_eq_none hge] at this
        · have hi : i < len := by
            have := (List.getElem?_eq_some_iff.1 hy).1
            simpa using this
          obtain rfl : Y i = y := by simpa [List.getElem?_map, List.getElem?_range hi] using hy
          have := (hY i (by omega)).2
          simp only [add_none] at this
          exact this
    · intro y hy
      obtain ⟨i, hi, rfl⟩ := List.mem_map.1 hy
      exact (hY i (by have := List.mem_range.1 hi; omega)).1
end Go.Proofs.Ytgpopploimeeaaa
