/-
  PROVED HERE: how slices of integers, groups and trees that came in are read.
-/
import Derived.Test.YtajabenlkmgjeaaDoorGrp
import Derived.Test.YtajabenlkmgjeaaDoorRows
import Derived.WalkKit
import Derived.ProofKit
import Derived.OpenShut
import Derived.Deep.Slices
import Derived.Deep.DeepHandedRow
import Derived.ChangeSlices
import Derived.ChangeSame
import Derived.ChangeArms
import Derived.ChangeMaps5
import Derived.DataShut
import Derived.SizedLaws
namespace Go.Proofs.YtajabenlkmgjeaaDoor
open Go.ChangeShapes Go.WideShapes Go.ChangeAt Go.RowKit

theorem add_none (b o i : Nat) : (⟨b, o, none⟩ : Addr).add i = ⟨b, o + i, none⟩ := by unfold Addr.add; split <;> simp_all
theorem open_intsF {H : Type} {enc : TypeId × Value → H} {W : World} {sp : Nat → Bool} {hd : Bool} {fuel : Nat} {cs : List Value} {x : DataW H × List MemPlace} (h : DataW.trod enc Tryd.prog W 0 sp hd fuel 26 cs = some x) : ∃ a len cap zs, cs = [.slice a len cap] ∧ Ints W a len zs := by
  rcases open_ints Tryd.underlying26 Tryd.underlying3 (by kernel_rfl) h with ⟨hcs, hx⟩ | ⟨y, l, c, zs, hcs, _, hl, hm, hz, hx, hcell, hwz⟩
  · exact ⟨none, 0, 0, [], hcs, rfl, by omega, .inl rfl⟩
  · have hlz : l ≤ zs.length := by rw [hz]; split <;> omega
    refine ⟨some y, l, c, zs.take l, hcs, by rw [List.length_take]; omega, by unfold maxLen at hm; omega, ?_⟩
    rcases Nat.eq_zero_or_pos l with h0 | h0
    · exact .inl h0
    · obtain ⟨b, o, sp⟩ := y
      have hc0 := hcell 0 (by omega)
      have hspot : sp = none := by simpa [Addr.add] using World.cell?_spot hc0
      subst hspot
      refine .inr ⟨b, o, rfl, ?_, fun i z hz => ?_⟩
      · rw [add_none] at hc0
        rcases Nat.lt_or_ge b W.heap.size with hlt | hge
        · exact hlt
        · simp [World.cell?, Array.getElem?_eq_none hge] at hc0
      · have hi : i < l := by
          have := (List.getElem?_eq_some_iff.1 hz).1
          rw [List.length_take] at this
          omega
        have := hcell i (by omega)
        rw [add_none] at this
        rw [this]
        rw [List.getElem?_take, if_pos hi] at hz
        simp [List.getD_eq_getElem?_getD, hz]
theorem open_row {H : Type} {enc : TypeId × Value → H} {W : World} {a : Option Addr} {len cap : Nat} {d : DataW H} {p : List MemPlace} (h : DataW.Trod enc Tryd.prog W 0 (fun _ => true) true 26 (.slice a len cap) d p) : ∃ zs : List Int, Ints W a len zs := by
  obtain ⟨fuel, hf⟩ := h
  obtain ⟨a', len', cap', zs, hcs, hI⟩ := open_intsF hf
  simp [Value.cells] at hcs
  obtain ⟨rfl, rfl, rfl⟩ := hcs
  exact ⟨zs, hI⟩
set_option maxRecDepth 100000 in
theorem open_groups {H : Type} {enc : TypeId × Value → H} {W : World} {a : Option Addr} {len cap : Nat} {d : DataW H} {p : List MemPlace} (h : DataW.Trod enc Tryd.prog W 0 (fun _ => true) true 25 (.slice a len cap) d p) : ∃ gs : List Grp, Groups W a len gs := by
  have c9 : Tryd.prog.cellsOf 9 = 1 := by kernel_rfl
  have c26 : Tryd.prog.cellsOf 26 = 1 := by kernel_rfl
  have c37 : Tryd.prog.cellsOf 42 = 2 := by kernel_rfl
  obtain ⟨fuel, hf⟩ := h
  rcases DataW.trod_slice Tryd.underlying25 hf with ⟨e2, d2⟩ | ⟨y, l, c, elems, rest, n', hn, e2, d2, _, hlc, hcm, hel, hes, _, _⟩
  · simp [Value.cells] at e2
    obtain ⟨rfl, rfl, rfl⟩ := e2
    exact ⟨[], rfl, by omega, .inl rfl⟩
  · simp [Value.cells] at e2
    obtain ⟨rfl, rfl, rfl⟩ := e2
    have each : ∀ i, i < len → ∃ (g : Grp) (a' : Option Addr) (len' cap' : Nat), W.cell? (y.add (i * 2)) = some (.string g.1) ∧ W.cell? ((y.add (i * 2)).add 1) = some (.slice a' len' cap') ∧ Ints W a' len' g.2 := by
      intro i hi
      have hq := hes i hi
      rw [List.getElem?_eq_getElem (by omega), c37] at hq
      obtain ⟨cs', q1, q2⟩ := Option.bind_eq_some_iff.1 hq
      obtain ⟨_, _, hcell⟩ := World.cells?_some q1
      obtain ⟨xs, m, _, hxy, hlen, hxl, hfi⟩ := DataW.trod_struct Tryd.underlying42 q2
      rw [c37] at hlen
      match xs, hxl, cs', hlen with
      | [y0, y1], _, [v0, v1], _ =>
        have g0 := hfi 0 _ rfl
        have g1 := hfi 1 _ rfl
        simp [c9, c26] at g0 g1
        obtain ⟨s, e0, _, _⟩ := DataW.trod_string Tryd.underlying9 g0
        obtain ⟨a', len', cap', zs, e1, hI⟩ := open_intsF g1
        simp at e0 e1
        subst e0 e1
        have m0 := hcell 0 (by omega)
        rw [show (y.add (i * 2)).add 0 = y.add (i * 2) from by obtain ⟨b, o, sp⟩ := y; cases sp <;> simp [Addr.add]] at m0
        exact ⟨(s, zs), a', len', cap', m0, hcell 1 (by omega), hI⟩
    haveI : Inhabited Grp := ⟨(⟨#[]⟩, [])⟩
    obtain ⟨Y, hY⟩ := Deep.choose_lt each
    refine ⟨(List.range len).map Y, by simp, by unfold maxLen at hcm; omega, ?_⟩
    rcases Nat.eq_zero_or_pos len with h0 | h0
    · exact .inl h0
    · obtain ⟨b, o, sp⟩ := y
      obtain rfl : sp = none := by
        obtain ⟨_, _, _, q, _⟩ := hY 0 h0
        have := World.cell?_spot q
        simpa [Addr.add] using this
      refine .inr ⟨b, o, rfl, ?_, fun i g hg => ?_⟩
      · obtain ⟨_, _, _, q, _⟩ := hY 0 h0
        rw [add_none] at q
        rcases Nat.lt_or_ge b W.heap.size with hlt | hge
        · exact hlt
        · simp [World.cell?, Array.getElem?_eq_none hge] at q
      · have hi : i < len := by
          have := (List.getElem?_eq_some_iff.1 hg).1
          simpa using this
        obtain rfl : Y i = g := by simpa [List.getElem?_map, List.getElem?_range hi] using hg
        obtain ⟨a', len', cap', q0, q1, q2⟩ := hY i hi
        simp only [add_none] at q0 q1
        exact ⟨a', len', cap', q0, q1, q2⟩
theorem Ex.more {w : World} : ∀ (n m : Nat) (t : DataW Unit) (v : Value), n ≤ m → Ex w n t v → Ex w m t v := by
  intro n
  induction n with
  | zero => intro m t v _ h; exact h.elim
  | succ n ih =>
    intro m t v hm h
    obtain ⟨m, rfl⟩ : ∃ m', m = m' + 1 := ⟨m - 1, by omega⟩
    obtain ⟨k, s, a, len, cap, ts, h1, h2, h3, h4, h5⟩ := h
    refine ⟨k, s, a, len, cap, ts, h1, h2, h3, h4, ?_⟩
    rcases h5 with h5 | ⟨b, o, e, hlt, hc⟩
    · exact .inl h5
    · refine .inr ⟨b, o, e, hlt, fun i x hx => ?_⟩
      obtain ⟨k', s', a', len', cap', c0, c1, c2, c3⟩ := hc i x hx
      exact ⟨k', s', a', len', cap', c0, c1, c2, ih m x _ (by omega) c3⟩
/-- Trees whose names are not too long, whatever the fuel. -/
theorem named_more {w : World} : ∀ (n m : Nat) (t : DataW Unit) (v : Value), n ≤ m → Ex w n t v → named n t → named m t := by
  intro n
  induction n with
  | zero => intro m t v _ h; exact h.elim
  | succ n ih =>
    intro m t v hm h hN
    obtain ⟨m, rfl⟩ : ∃ m', m = m' + 1 := ⟨m - 1, by omega⟩
    obtain ⟨k, s, a, len, cap, ts, rfl, h2, h3, h4, h5⟩ := h
    refine ⟨hN.1, fun x hx => ?_⟩
    rw [subs_node] at hx
    obtain ⟨i, hi, rfl⟩ := List.getElem_of_mem hx
    have hxi : ts[i]? = some ts[i] := List.getElem?_eq_getElem hi
    rcases h5 with h5 | ⟨b, o, e, hlt, hc⟩
    · omega
    · obtain ⟨k', s', a', len', cap', c0, c1, c2, c3⟩ := hc i _ hxi
      exact ih m _ _ (by omega) c3 (hN.2 _ (by rw [subs_node]; exact hx))
set_option maxRecDepth 100000 in
/-- A tree that came in. -/
theorem open_exprF {H : Type} {enc : TypeId × Value → H} {W : World} {sp : Nat → Bool} {hd : Bool} : ∀ (fuel : Nat) (cs : List Value) (x : DataW H × List MemPlace), DataW.trod enc Tryd.prog W 0 sp hd fuel 24 cs = some x →
      ∃ (t : DataW Unit) (k : Int) (s : ByteArray) (a : Option Addr) (len cap : Nat), cs = [.int .i64 k, .string s, .slice a len cap] ∧ Ex W fuel t (.agg #[.int .i64 k, .string s, .slice a len cap]) ∧ named fuel t := by
  have c3 : Tryd.prog.cellsOf 3 = 1 := by kernel_rfl
  have c9 : Tryd.prog.cellsOf 9 = 1 := by kernel_rfl
  have c22 : Tryd.prog.cellsOf 22 = 1 := by kernel_rfl
  have c24 : Tryd.prog.cellsOf 24 = 3 := by kernel_rfl
  intro fuel
  induction fuel using Nat.strongRecOn with
  | _ fuel ih =>
    intro cs x h
    obtain ⟨xs, n, rfl, hxy, hlen, hxl, hf⟩ := DataW.trod_struct Tryd.underlying24 h
    rw [c24] at hlen
    match xs, hxl, cs, hlen with
    | [y0, y1, y2], _, [v0, v1, v2], _ =>
      have g0 := hf 0 _ rfl
      have g1 := hf 1 _ rfl
      have g2 := hf 2 _ rfl
      simp [c3, c9, c22] at g0 g1 g2
      obtain ⟨k, e0, d0, _⟩ := DataW.trod_int Tryd.underlying3 g0
      obtain ⟨s, e1, d1, hsz⟩ := DataW.trod_string Tryd.underlying9 g1
      simp at e0 e1
      subst e0 e1 d0 d1
      rcases DataW.trod_slice Tryd.underlying22 g2 with ⟨e2, d2⟩ | ⟨a, len, cap, elems, rest, n', hn, e2, d2, _, hlc, hcm, hel, hes, _, _⟩
      · simp at e2
        subst e2 d2
        refine ⟨node k s [], k, s, none, 0, 0, rfl, ⟨k, s, none, 0, 0, [], rfl, rfl, rfl, by omega, .inl rfl⟩, ?_, fun x hx => by cases hx⟩
        rw [nameT_node]
        unfold maxLen at hsz
        omega
      · simp at e2
        subst e2 d2
        have each : ∀ i, i < len → ∃ (t : DataW Unit) (k' : Int) (s' : ByteArray) (a' : Option Addr) (len' cap' : Nat), W.cell? (a.add (i * 3)) = some (.int .i64 k') ∧ W.cell? ((a.add (i * 3)).add 1) = some (.string s') ∧ W.cell? ((a.add (i * 3)).add 2) = some (.slice a' len' cap') ∧ Ex W n t (.agg #[.int .i64 k', .string s', .slice a' len' cap']) ∧ named n t := by
          intro i hi
          have hq := hes i hi
          rw [List.getElem?_eq_getElem (by omega), c24] at hq
          obtain ⟨cs', q1, q2⟩ := Option.bind_eq_some_iff.1 hq
          obtain ⟨_, _, hcell⟩ := World.cells?_some q1
          obtain ⟨t, k', s', a', len', cap', rfl, hE, hN⟩ := ih n' (by omega) cs' _ q2
          have m0 := hcell 0 (by omega)
          rw [show (a.add (i * 3)).add 0 = a.add (i * 3) from by obtain ⟨b, o, sp⟩ := a; cases sp <;> simp [Addr.add]] at m0
          exact ⟨t, k', s', a', len', cap', m0, hcell 1 (by omega), hcell 2 (by omega), Ex.more _ _ _ _ (by omega) hE, named_more _ _ _ _ (by omega) hE hN⟩
        haveI : Inhabited (DataW Unit) := ⟨.nil⟩
        obtain ⟨Y, hY⟩ := Deep.choose_lt each
        refine ⟨node k s ((List.range len).map Y), k, s, some a, len, cap, rfl, ⟨k, s, some a, len, cap, (List.range len).map Y, rfl, rfl, by simp, by unfold maxLen at hcm; omega, ?_⟩, ?_, fun x hx => ?_⟩
        · rcases Nat.eq_zero_or_pos len with h0 | h0
          · exact .inl h0
          · obtain ⟨b, o, sp⟩ := a
            obtain rfl : sp = none := by
              obtain ⟨_, _, _, _, _, q, _⟩ := hY 0 h0
              have := World.cell?_spot q
              simpa [Addr.add] using this
            refine .inr ⟨b, o, rfl, ?_, fun i y hy => ?_⟩
            · obtain ⟨_, _, _, _, _, q, _⟩ := hY 0 h0
              rw [add_none] at q
              rcases Nat.lt_or_ge b W.heap.size with hlt | hge
              · exact hlt
              · simp [World.cell?, Array.getElem?_eq_none hge] at q
            · have hi : i < len := by
                have := (List.getElem?_eq_some_iff.1 hy).1
                simpa using this
              obtain rfl : Y i = y := by simpa [List.getElem?_map, List.getElem?_range hi] using hy
              obtain ⟨k', s', a', len', cap', q0, q1, q2, q3, _⟩ := hY i hi
              simp only [add_none] at q0 q1 q2
              exact ⟨k', s', a', len', cap', q0, q1, q2, q3⟩
        · rw [nameT_node]
          unfold maxLen at hsz
          omega
        · rw [subs_node] at hx
          obtain ⟨i, hi, rfl⟩ := List.mem_map.1 hx
          obtain ⟨_, _, _, _, _, _, _, _, _, hN⟩ := hY i (List.mem_range.1 hi)
          exact hN
set_option maxRecDepth 100000 in
theorem open_tree {H : Type} {enc : TypeId × Value → H} {W : World} {base : Nat} {v : Value} {d : DataW H} {p : List MemPlace} (hv : Value.okWide Tryd.prog W .any base 24 v) (h : DataW.Trod enc Tryd.prog W 0 (fun _ => true) true 24 v d p) :
    ∃ n t k nm a ln cp, v = .agg #[.int .i64 k, .string nm, .slice a ln cp] ∧ Ex W n t (.agg #[.int .i64 k, .string nm, .slice a ln cp]) ∧ named n t := by
  obtain ⟨cs, rfl, _⟩ := okWide_struct Tryd.underlying24 hv
  obtain ⟨fuel, hf⟩ := h
  obtain ⟨t, k, nm, a, ln, cp, hcs, hX, hN⟩ := open_exprF fuel _ (d, p) hf
  refine ⟨fuel, t, k, nm, a, ln, cp, ?_, hX, hN⟩
  rw [show cs = cs.toList.toArray from by simp, show cs.toList = _ from hcs]
theorem own : ownKnob Tryd.prog.godebug = none := by kernel_rfl
theorem laidOut : laidOutB Tryd.prog = true := by kernel_rfl
end Go.Proofs.YtajabenlkmgjeaaDoor
