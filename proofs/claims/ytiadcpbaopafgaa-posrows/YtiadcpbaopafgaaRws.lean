/-
  PROVED HERE: how a slice of maps, and one of pairs of numbers, that came in is read.
-/
import Derived.Test.YtiadcpbaopafgaaFitR
namespace Go.Proofs.Ytiadcpbaopafgaa
open Go.ChangeShapes Go.WideShapes Go.ChangeAt Go.RowKit

/-- A map of a slice of maps. -/
structure Rw where
  a : Option Addr
  len : Nat
  cap : Nat
  l : List Rng
def RwOk (W : World) (x : Rw) : Prop := Rngs W x.a x.len x.l ∧ (x.a = none → x.cap = 0) ∧ x.len ≤ x.cap ∧ x.cap ≤ 9223372036854775807
theorem RwOk.below {W W' : World} {x : Rw} (h : RwOk W x) (hb : Below W.heap.size W W') : RwOk W' x := ⟨h.1.below hb, h.2⟩
/-- A slice's elements are the maps xs. -/
def Rws (W : World) (a : Option Addr) (len : Nat) (xs : List Rw) : Prop :=
  xs.length = len ∧ (len = 0 ∨ ∃ b o, a = some ⟨b, o, none⟩ ∧ b < W.heap.size ∧ ∀ i x, xs[i]? = some x → W.cell? ⟨b, o + i, none⟩ = some (.slice x.a x.len x.cap) ∧ RwOk W x)
theorem Rws.at_ {W : World} {a : Option Addr} {len : Nat} {xs : List Rw} (h : Rws W a len xs) {k : Nat} (hk : k < len) : ∃ b o x, a = some ⟨b, o, none⟩ ∧ b < W.heap.size ∧ xs[k]? = some x ∧ ∀ X, Below W.heap.size W X → X.cell? ⟨b, o + k, none⟩ = some (.slice x.a x.len x.cap) ∧ RwOk X x := by
  obtain ⟨h1, h2 | ⟨b, o, rfl, hlt, hc⟩⟩ := h
  · omega
  · obtain ⟨x, hx⟩ : ∃ x, xs[k]? = some x := ⟨_, List.getElem?_eq_getElem (by omega)⟩
    obtain ⟨c0, c1⟩ := hc k x hx
    exact ⟨b, o, x, rfl, hlt, hx, fun X hX => ⟨(hX.cell (p := ⟨b, _, none⟩) hlt).trans c0, c1.below hX⟩⟩
theorem open_rows {H : Type} {enc : TypeId × Value → H} {W : World} {a : Option Addr} {len cap : Nat} {d : DataW H} {p : List MemPlace} (h : DataW.Trod enc Try.prog W 0 (fun _ => true) true 42 (.slice a len cap) d p) :
    ∃ xs : List Rw, Rws W a len xs ∧ len ≤ 9223372036854775807 := by
  obtain ⟨fuel, hf⟩ := h
  have hc1 : Try.prog.cellsOf 22 = 1 := by kernel_rfl
  rcases Deep.open_slice1 Try.underlying42 hc1 hf with ⟨hcs, hx⟩ | ⟨x, l, c, m, n, V, D, Pl, hcs, _, hl, hm, hmm, hx, hD⟩
  · simp [Value.cells] at hcs
    obtain ⟨rfl, rfl, rfl⟩ := hcs
    exact ⟨[], ⟨rfl, .inl rfl⟩, by omega⟩
  · simp [Value.cells] at hcs
    obtain ⟨rfl, rfl, rfl⟩ := hcs
    simp only [if_true] at hmm
    subst hmm
    have each : ∀ i, i < m → ∃ y : Rw, W.cell? (x.add i) = some (.slice y.a y.len y.cap) ∧ RwOk W y := by
      intro i hi
      obtain ⟨h1, h2⟩ := hD i hi
      obtain ⟨a', l', c', hv⟩ : ∃ a' l' c', V i = .slice a' l' c' := by
        rcases Deep.open_slice Try.underlying22 h2 with ⟨e, _⟩ | ⟨y, ll, cc, _, _, _, _, e, _⟩
        · exact ⟨none, 0, 0, by simpa using e⟩
        · exact ⟨some y, ll, cc, by simpa using e⟩
      rw [hv] at h1 h2
      obtain ⟨lr, g1, _, g3, g4, g5, _⟩ := open_rngs (a := a') (len := l') (cap := c') ⟨n, h2⟩
      exact ⟨⟨a', l', c', lr⟩, h1, g1, g5, g3, by unfold maxLen at g4; simp only; omega⟩
    haveI : Inhabited Rw := ⟨⟨none, 0, 0, []⟩⟩
    obtain ⟨Y, hY⟩ := Deep.choose_lt each
    have hspot : 0 < m → x.spot = none := by
      intro h0
      have := World.cell?_spot (hY 0 h0).1
      obtain ⟨b, o, s⟩ := x
      simpa [Addr.add] using this
    refine ⟨(List.range len).map Y, ⟨by simp, ?_⟩, by unfold maxLen at hm; omega⟩
    rcases Nat.eq_zero_or_pos len with h0 | h0
    · exact .inl h0
    · obtain ⟨b, o, s⟩ := x
      obtain rfl : s = none := hspot (by omega)
      refine .inr ⟨b, o, rfl, ?_, fun i y hy => ?_⟩
      · have := (hY 0 (by omega)).1
        rw [add_none] at this
        rcases Nat.lt_or_ge b W.heap.size with hlt | hge
        · exact hlt
        · simp [World.cell?, Array.getElem?_eq_none hge] at this
      · have hi : i < len := by
          have := (List.getElem?_eq_some_iff.1 hy).1
          simpa using this
        obtain rfl : Y i = y := by simpa [List.getElem?_map, List.getElem?_range hi] using hy
        have := hY i (by omega)
        simp only [add_none] at this
        exact this
end Go.Proofs.Ytiadcpbaopafgaa
