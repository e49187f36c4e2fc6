/-
  PROVED HERE: how a slice of pairs of numbers that came in is read; two mappings of the same ranges and mirrors.
-/
import Derived.Test.YtiadcpbaopafgaaRws
import Derived.Test.YtiadcpbaopafgaaRefMM
namespace Go.Proofs.Ytiadcpbaopafgaa
open Go.ChangeShapes Go.WideShapes Go.ChangeAt Go.RowKit

/-- A slice's elements are the pairs xs. -/
def Prs (W : World) (a : Option Addr) (len : Nat) (xs : List (Int × Int)) : Prop :=
  xs.length = len ∧ (len = 0 ∨ ∃ b o, a = some ⟨b, o, none⟩ ∧ b < W.heap.size ∧ ∀ i x, xs[i]? = some x → W.cell? ⟨b, o + i * 2, none⟩ = some (.int .i64 x.1) ∧ W.cell? ⟨b, o + i * 2 + 1, none⟩ = some (.int .i64 x.2))
theorem Prs.at_ {W : World} {a : Option Addr} {len : Nat} {xs : List (Int × Int)} (h : Prs W a len xs) {k : Nat} (hk : k < len) : ∃ b o, ∃ x y : Int, a = some ⟨b, o, none⟩ ∧ b < W.heap.size ∧ ∀ X, Below W.heap.size W X → X.cell? ⟨b, o + k * 2, none⟩ = some (.int .i64 x) ∧ X.cell? ⟨b, o + k * 2 + 1, none⟩ = some (.int .i64 y) := by
  obtain ⟨h1, h2 | ⟨b, o, rfl, hlt, hc⟩⟩ := h
  · omega
  · obtain ⟨x, hx⟩ : ∃ x, xs[k]? = some x := ⟨_, List.getElem?_eq_getElem (by omega)⟩
    obtain ⟨c0, c1⟩ := hc k x hx
    exact ⟨b, o, x.1, x.2, rfl, hlt, fun X hX => ⟨(hX.cell (p := ⟨b, _, none⟩) hlt).trans c0, (hX.cell (p := ⟨b, _, none⟩) hlt).trans c1⟩⟩
theorem pair_of_cells {H : Type} {enc : TypeId × Value → H} {w : World} {base : Nat} {spare : Nat → Bool} {held : Bool} {fuel : Nat} {cs : List Value} {x : DataW H × List MemPlace} (h : DataW.trod enc Try.prog w base spare held fuel 53 cs = some x) :
    ∃ y : Int × Int, cs = [.int .i64 y.1, .int .i64 y.2] := by
  obtain ⟨xs, k, _, hxy, hlen, hxl, hf⟩ := DataW.trod_array Try.underlying53 h
  rw [show Try.prog.cellsOf 53 = 2 from by kernel_rfl] at hlen
  match xs, hxl, cs, hlen with
  | [y0, y1], _, [v0, v1], _ =>
    have c3 : Try.prog.cellsOf 3 = 1 := by kernel_rfl
    have g0 := hf 0 (by omega)
    have g1 := hf 1 (by omega)
    simp [c3] at g0 g1
    obtain ⟨n0, e0, _, _⟩ := DataW.trod_int Try.underlying3 g0
    obtain ⟨n1, e1, _, _⟩ := DataW.trod_int Try.underlying3 g1
    simp at e0 e1
    subst e0 e1
    exact ⟨⟨n0, n1⟩, rfl⟩
theorem open_pairs {H : Type} {enc : TypeId × Value → H} {W : World} {a : Option Addr} {len cap : Nat} {d : DataW H} {p : List MemPlace} (h : DataW.Trod enc Try.prog W 0 (fun _ => true) true 43 (.slice a len cap) d p) :
    ∃ xs : List (Int × Int), Prs W a len xs ∧ len ≤ 9223372036854775807 := by
  obtain ⟨fuel, hf⟩ := h
  have hc4 : Try.prog.cellsOf 53 = 2 := by kernel_rfl
  rcases Deep.open_slice Try.underlying43 hf with ⟨hcs, hx⟩ | ⟨x, l, c, m, n, D, Pl, hcs, _, hl, hm, hmm, hx, hD⟩
  · simp [Value.cells] at hcs
    obtain ⟨rfl, rfl, rfl⟩ := hcs
    exact ⟨[], ⟨rfl, .inl rfl⟩, by omega⟩
  · simp [Value.cells] at hcs
    obtain ⟨rfl, rfl, rfl⟩ := hcs
    simp only [if_true] at hmm
    subst hmm
    rw [hc4] at hD
    have each : ∀ i, i < m → ∃ y : Int × Int, W.cell? (x.add (i * 2)) = some (.int .i64 y.1) ∧ W.cell? ((x.add (i * 2)).add 1) = some (.int .i64 y.2) := by
      intro i hi
      obtain ⟨cs', h1, h2⟩ := hD i hi
      obtain ⟨_, _, hcell⟩ := World.cells?_some h1
      obtain ⟨y, rfl⟩ := pair_of_cells h2
      refine ⟨y, ?_, hcell 1 (by omega)⟩
      have := hcell 0 (by omega)
      rw [show (x.add (i * 2)).add 0 = x.add (i * 2) from by obtain ⟨b, o, s⟩ := x; cases s <;> simp [Addr.add]] at this
      exact this
    obtain ⟨Y, hY⟩ := Deep.choose_lt each
    have hspot : 0 < m → x.spot = none := by
      intro h0
      have := World.cell?_spot (hY 0 h0).1
      obtain ⟨b, o, s⟩ := x
      simpa [Addr.add] using this
    refine ⟨(List.range len).map Y, ⟨by simp, ?_⟩, by unfold maxLen at hm; omega⟩
    rcases Nat.eq_zero_or_pos len with h0 | h0
    · exact .inl h0
    · obtain ⟨b, o, s⟩ := x
      obtain rfl : s = none := hspot (by omega)
      refine .inr ⟨b, o, rfl, ?_, fun i y hy => ?_⟩
      · have := (hY 0 (by omega)).1
        rw [add_none] at this
        rcases Nat.lt_or_ge b W.heap.size with hlt | hge
        · exact hlt
        · simp [World.cell?, Array.getElem?_eq_none hge] at this
      · have hi : i < len := by
          have := (List.getElem?_eq_some_iff.1 hy).1
          simpa using this
        obtain rfl : Y i = y := by simpa [List.getElem?_map, List.getElem?_range hi] using hy
        have := hY i (by omega)
        simp only [add_none] at this
        exact this

/-- The same ranges, the same mirrors. -/
def like (M N : List Lk) : Prop := M.map (fun x => (x.l, x.m)) = N.map (fun x => (x.l, x.m))
theorem like.len {M N : List Lk} (h : like M N) : M.length = N.length := by
  have := congrArg List.length h
  simpa using this
theorem like.get {M N : List Lk} (h : like M N) (i : Nat) : (M[i]?).map (fun x => (x.l, x.m)) = (N[i]?).map (fun x => (x.l, x.m)) := by
  have := congrArg (fun q => q[i]?) h
  simpa [List.getElem?_map] using this
theorem like.cases {M N : List Lk} (h : like M N) (i : Nat) : (M[i]? = none ∧ N[i]? = none) ∨ ∃ x y, M[i]? = some x ∧ N[i]? = some y ∧ x.l = y.l ∧ x.m = y.m := by
  have hg := h.get i
  cases hM : M[i]? with
  | none => cases hN : N[i]? with
    | none => exact .inl ⟨rfl, rfl⟩
    | some y => rw [hM, hN] at hg; simp at hg
  | some x => cases hN : N[i]? with
    | none => rw [hM, hN] at hg; simp at hg
    | some y =>
      rw [hM, hN] at hg
      simp at hg
      exact .inr ⟨x, y, rfl, rfl, hg.1, hg.2⟩
theorem like.mir {M N : List Lk} (h : like M N) (i : Nat) : mirAt M i = mirAt N i := by
  unfold mirAt
  rcases h.cases i with ⟨h1, h2⟩ | ⟨x, y, h1, h2, _, h4⟩
  · rw [h1, h2]
  · rw [h1, h2]; exact h4
theorem like.lat {M N : List Lk} (h : like M N) (i : Nat) : lAt M i = lAt N i := by
  unfold lAt
  rcases h.cases i with ⟨h1, h2⟩ | ⟨x, y, h1, h2, h3, _⟩
  · rw [h1, h2]
  · rw [h1, h2]; exact h3
theorem like.rec_ {M N : List Lk} (h : like M N) (i : Nat) (s : Spt) : recP M i s = recP N i s := by
  unfold recP
  rw [h.mir i]
  rcases h.cases (mirAt N i).toNat with ⟨h1, h2⟩ | ⟨x, y, h1, h2, h3, _⟩
  · rw [h1, h2]
  · rw [h1, h2]; simp only [h3]
theorem like.go {M N : List Lk} (h : like M N) (side : Int) : ∀ (f i : Nat) (p : Int) (g : Bool), goM M side f i p g = goM N side f i p g := by
  intro f
  induction f with
  | zero => intro i p g; rfl
  | succ f ih =>
    intro i p g
    rw [goM, goM, h.len, h.lat i, h.rec_ i, h.mir i]
    simp only [ih]
theorem like.mm {M N : List Lk} (h : like M N) (from' p side : Int) : mmR M from' p side = mmR N from' p side := by
  unfold mmR
  rw [h.len, h.go]
theorem like.snoc {M N : List Lk} (h : like M N) (x y : Lk) (h1 : x.l = y.l) (h2 : x.m = y.m) : like (M ++ [x]) (N ++ [y]) := by
  unfold like at *
  rw [List.map_append, List.map_append, h]
  simp [h1, h2]
theorem like.set_ {M N : List Lk} (h : like M N) (k : Nat) (v : Int) : like (setM M k v) (setM N k v) := by
  have h0 : M.map (fun x => (x.l, x.m)) = N.map (fun x => (x.l, x.m)) := h
  unfold setM
  rcases h.cases k with ⟨h1, h2⟩ | ⟨x, y, h1, h2, h3, _⟩
  · rw [h1, h2]; exact h
  · rw [h1, h2]
    show (M.set k _).map _ = (N.set k _).map _
    rw [List.map_set, List.map_set, h0, h3]
theorem mirAt_setM (M : List Lk) (k : Nat) (v : Int) (i : Nat) (hk : k < M.length) : mirAt (setM M k v) i = if i = k then v else mirAt M i := by
  unfold setM
  rw [List.getElem?_eq_getElem hk]
  unfold mirAt
  simp only [List.getElem?_set]
  by_cases h : k = i
  · subst h; simp [hk]
  · rw [if_neg h, if_neg (fun e => h e.symm)]
/-- Each mirror is another map's number, or none. -/
def mirFit (M : List Lk) : Prop := ∀ i, i < M.length → -1 ≤ mirAt M i ∧ mirAt M i < M.length ∧ mirAt M i ≠ i
theorem mirFit_none {M : List Lk} (h : ∀ x ∈ M, x.m = -1) : mirFit M := fun i hi => by
  have : mirAt M i = -1 := by
    unfold mirAt
    rw [List.getElem?_eq_getElem hi]
    exact h _ (List.getElem_mem hi)
  omega
theorem mirFit_set {M : List Lk} {i j : Int} (h : mirFit M) (hok : mirOk M i j) : mirFit (setM (setM M i.toNat j) j.toNat i) := fun k hk => by
  obtain ⟨h1, h2, h3, _⟩ := hok
  rw [setM_length, setM_length] at hk
  rw [setM_length, setM_length, mirAt_setM _ _ _ _ (by rw [setM_length]; omega), mirAt_setM _ _ _ _ (by omega)]
  have := h k hk
  split
  · omega
  · split <;> omega
end Go.Proofs.Ytiadcpbaopafgaa
