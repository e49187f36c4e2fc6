/-
  PROVED HERE: what the texts DBLaidE, DBTok, DBOwn, DBArgsT, DBAuto, DBGrp, DBArgs, DBP8Rng say (each has its own words below).
-/
import Derived.Test.YtbkpehfaofhmaaaGreatDoorCards
import Derived.Test.YtbkpehfaofhmaaaGreatDoorTie
import Derived.Test.YtbkpehfaofhmaaaGreatDoorCBDBParseC
import Derived.WalkKit
import Derived.ProofKit
import Derived.OpenShut
import Derived.Deep.DeepHandedRow
import Derived.LaidLaws
import Derived.LaidHandle
import Derived.ChangeMaps5
import Derived.DataShut
import Derived.ChangeSame
import Derived.ChangeArms
import Derived.Test.YtbkpehfaofhmaaaGreatDoorProg
import Derived.Below
import Derived.Deep.Light
import Derived.Deep.AppendSrc
import Derived.OwnWalkIn
import Derived.Maps.AppendAt
import Derived.RangeFuncRecord
import Derived.Deep.Slices
import Derived.Test.YtbkpehfaofhmaaaGreatDoorCBDBPRight
import Derived.Test.YtbkpehfaofhmaaaGreatDoorRows
import Derived.ChangeSlices
import Derived.SizedLaws
import Derived.Laws.Rows
/- DBLaidE: what the row's list says of the package variable that errors.As reads; a world that meets it. -/
namespace Go.Proofs.YtbkpehfaofhmaaaGreatDoor
open Go.ChangeShapes Go.WideShapes Go.ChangeAt Go.RowKit
theorem q_et : Tryz.prog.globalNamed "errors.errorType" = some 0 := by kernel_rfl
theorem q_rt : (Tryz.prog.cutTypes.find? (·.1 == "internal/reflectlite.rtype")).map (·.2) = some 247 := by kernel_rfl
theorem q_oneRow : ((List.range 292).filter fun t => Tryz.prog.rowNamed t [101, 114, 114, 111, 114]) = [197] := by kernel_rfl
theorem q_size : Tryz.prog.types.size = 292 := by kernel_rfl
def listedE : List (String × DataW Unit) := [("errors.errorType", Rows.laid_errors_errorType)]
theorem ety_of_laidE {W : World} (h : laidMetH Tryz.prog listedE W) : ETy W := by
 have h' : laidMet Tryz.prog [] W /\ handlesMet Tryz.prog listedE W := h
 obtain ⟨name, u, ty, e1, e2, e3, e4, e5⟩ := h'.2 _ (List.mem_singleton.2 rfl)
 have en : name = [101, 114, 114, 111, 114] := (Option.some.inj e1).symm
 subst en
 obtain rfl := Option.some.inj (q_rt.symm.trans e2)
 have hm : ty ∈ (List.range 292).filter fun t => Tryz.prog.rowNamed t [101, 114, 114, 111, 114] := List.mem_filter.2 ⟨List.mem_range.2 (by rw [<- q_size]; exact e3), e4⟩
 rw [q_oneRow] at hm
 obtain rfl := List.mem_singleton.1 hm
 have hh : typeHandle Tryz.prog 197 = .pointer (some ⟨2, 197, none⟩) := by kernel_rfl
 rw [hh] at e5
 unfold ETy
 simpa using World.var?_cell q_et e5 0
noncomputable def laidWorldE (os : Os) : World :=
 let w0 := World.holding Tryz.prog os ⟨#[], #[], []⟩
 { w0 with heap := w0.heap.modify 0 fun
   | .cells _ t frozen => .cells #[.iface 247 (.agg #[.pointer (some ⟨2, 197, none⟩)])] t frozen
   | o => o }
theorem laid_metE (os : Os) (args : Array Value) : laidMetH Tryz.prog listedE ((laidWorldE os).forCall (fun _ _ => 0) ⟨#[], args, []⟩).memory :=
 laidMetH_of_parts (laidMet_nil _ _) (by kernel_rfl)
end Go.Proofs.YtbkpehfaofhmaaaGreatDoor

/- DBTok: tokens as plain data, and in a slice; plain functions on them. -/
namespace Go.Proofs.YtbkpehfaofhmaaaGreatDoor
open Go.RowKit
structure Tok where
 k : Int
 t : Int
 n : Int
 m : Int
def tokEq (x y : Tok) : Bool := x.k == y.k && (x.t == y.t && (x.n == y.n && x.m == y.m))
def tokV (x : Tok) : Value := .agg #[.int .i64 x.k, .int .i64 x.t, .int .i64 x.n, .int .i64 x.m]
def point (n : Int) : Bool := decide (0 <= n) && decide (n <= 1114111) && (decide (n < 55296) || decide (57343 < n))
def rightM (s : Int) : Bool := decide (0 <= s) && decide (s <= 4)
def rightT (x : Tok) : Bool :=
 if x.k = 0 then x.t == 0 && point x.n && rightM x.m
 else if x.k = 1 \/ x.k = 3 then decide (1 <= x.t) && decide (x.t < 16) && decide (0 <= x.n) && decide (x.n <= 15) && x.m == 0
 else if x.k = 2 then x.t == 0 && x.n == 0 && x.m == 0
 else false
def Toks (w : World) (a : Option Addr) (len : Nat) (l : List Tok) : Prop :=
 l.length = len /\ (len = 0 \/ ∃ b o, a = some ⟨b, o, none⟩ /\ b < w.heap.size /\ ∀ i x, l[i]? = some x -> w.cell? ⟨b, o + i * 4, none⟩ = some (.int .i64 x.k) /\ w.cell? ⟨b, o + i * 4 + 1, none⟩ = some (.int .i64 x.t) ∧
  w.cell? ⟨b, o + i * 4 + 2, none⟩ = some (.int .i64 x.n) /\ w.cell? ⟨b, o + i * 4 + 3, none⟩ = some (.int .i64 x.m))
theorem Toks.below {w w' : World} {a : Option Addr} {len : Nat} {l : List Tok} (h : Toks w a len l) (hb : Below w.heap.size w w') : Toks w' a len l := by
 obtain ⟨h1, h2⟩ := h
 refine ⟨h1, ?_⟩
 rcases h2 with h2 | ⟨b, o, rfl, hlt, hc⟩
 ·exact .inl h2
 ·refine .inr ⟨b, o, rfl, Nat.lt_of_lt_of_le hlt hb.size, fun i x hx => ?_⟩
  obtain ⟨c0, c1, c2, c3⟩ := hc i x hx
  exact ⟨(hb.cell (p := ⟨b, _, none⟩) hlt).trans c0, (hb.cell (p := ⟨b, _, none⟩) hlt).trans c1, (hb.cell (p := ⟨b, _, none⟩) hlt).trans c2, (hb.cell (p := ⟨b, _, none⟩) hlt).trans c3⟩
def checkL : List Tok -> Nat -> Int -> Int × Int
 | [], i, d => if 0 < d then (i, 3) else (i, 0)
 | x :: r, i, d =>
  if (!rightT x || (x.k == 2 && d == 0)) = true then (i, 4)
  else if 32 < (if x.k = 1 then d + 1 else if x.k = 2 then d - 1 else d) then (i, 8)
  else checkL r (i + 1) (if x.k = 1 then d + 1 else if x.k = 2 then d - 1 else d)
def check (l : List Tok) : Int × Int := if 2048 < l.length then (0, 2) else checkL l 0 0
theorem drop_getD {l : List Tok} {k : Nat} (h : k < l.length) : ∃ x, l[k]? = some x /\ l.drop k = x :: l.drop (k + 1) := ⟨l[k], List.getElem?_eq_getElem h, List.drop_eq_getElem_cons h⟩
theorem Toks.token {w : World} {a : Option Addr} {len : Nat} {l : List Tok} (h : Toks w a len l) {k : Nat} (hk : k < len) : ∃ b o x, a = some ⟨b, o, none⟩ /\ b < w.heap.size /\ l[k]? = some x /\ ∀ W : World, Below w.heap.size w W →
  W.cell? ⟨b, o + k * 4, none⟩ = some (.int .i64 x.k) /\ W.cell? ⟨b, o + k * 4 + 1, none⟩ = some (.int .i64 x.t) /\ W.cell? ⟨b, o + k * 4 + 2, none⟩ = some (.int .i64 x.n) /\ W.cell? ⟨b, o + k * 4 + 3, none⟩ = some (.int .i64 x.m) := by
 obtain ⟨h1, h2 | ⟨b, o, rfl, hlt, hc⟩⟩ := h
 ·omega
 ·have hx : l[k]? = some (l[k]'(by omega)) := List.getElem?_eq_getElem (by omega)
  refine ⟨b, o, _, rfl, hlt, hx, fun W hb => ?_⟩
  obtain ⟨c0, c1, c2, c3⟩ := hc k _ hx
  exact ⟨(hb.cell (p := ⟨b, _, none⟩) hlt).trans c0, (hb.cell (p := ⟨b, _, none⟩) hlt).trans c1, (hb.cell (p := ⟨b, _, none⟩) hlt).trans c2, (hb.cell (p := ⟨b, _, none⟩) hlt).trans c3⟩
end Go.Proofs.YtbkpehfaofhmaaaGreatDoor

/- DBOwn: tokens that a call owns, appended to; parts of tokens. -/
namespace Go.Proofs.YtbkpehfaofhmaaaGreatDoor
open Go.RowKit
theorem add_none4 (b o i : Nat) : (⟨b, o, none⟩ : Addr).add i = ⟨b, o + i, none⟩ := by unfold Addr.add; split <;> simp_all
end Go.Proofs.YtbkpehfaofhmaaaGreatDoor

/- DBArgsT: how a slice of tokens, and a token, that came in is read. -/
namespace Go.Proofs.YtbkpehfaofhmaaaGreatDoor
open Go.ChangeShapes Go.WideShapes Go.ChangeAt Go.RowKit
def TokFits (x : Tok) : Prop := (Lit.int .i64 x.k).wf = true /\ (Lit.int .i64 x.t).wf = true /\ (Lit.int .i64 x.n).wf = true /\ (Lit.int .i64 x.m).wf = true
set_option maxRecDepth 100000 in
theorem tok_of_cells {H : Type} {enc : TypeId × Value -> H} {w : World} {base : Nat} {spare : Nat -> Bool} {held : Bool} {fuel : Nat} {cs : List Value} {x : DataW H × List MemPlace} (h : DataW.trod enc Tryz.prog w base spare held fuel 48 cs = some x) :
  ∃ y : Tok, cs = [.int .i64 y.k, .int .i64 y.t, .int .i64 y.n, .int .i64 y.m] /\ TokFits y /\ x = (.agg [.lit (.int .i64 y.k), .lit (.int .i64 y.t), .lit (.int .i64 y.n), .lit (.int .i64 y.m)], []) := by
 obtain ⟨xs, k, _, hxy, hlen, hxl, hf⟩ := DataW.trod_struct Tryz.underlying48 h
 rw [show Tryz.prog.cellsOf 48 = 4 from by kernel_rfl] at hlen
 match xs, hxl, cs, hlen with
 | [y0, y1, y2, y3], _, [v0, v1, v2, v3], _ =>
  have c3 : Tryz.prog.cellsOf 3 = 1 := by kernel_rfl
  have g0 := hf 0 _ rfl
  have g1 := hf 1 _ rfl
  have g2 := hf 2 _ rfl
  have g3 := hf 3 _ rfl
  simp [c3] at g0 g1 g2 g3
  obtain ⟨n0, e0, d0, f0⟩ := DataW.trod_int Tryz.underlying3 g0
  obtain ⟨n1, e1, d1, f1⟩ := DataW.trod_int Tryz.underlying3 g1
  obtain ⟨n2, e2, d2, f2⟩ := DataW.trod_int Tryz.underlying3 g2
  obtain ⟨n3, e3, d3, f3⟩ := DataW.trod_int Tryz.underlying3 g3
  simp at e0 e1 e2 e3
  subst e0 e1 e2 e3 d0 d1 d2 d3
  exact ⟨⟨n0, n1, n2, n3⟩, rfl, ⟨f0, f1, f2, f3⟩, by rw [hxy]; rfl⟩
theorem open_toks {H : Type} {enc : TypeId × Value -> H} {W : World} {a : Option Addr} {len cap : Nat} {d : DataW H} {p : List MemPlace} (h : DataW.Trod enc Tryz.prog W 0 (fun _ => true) true 22 (.slice a len cap) d p) :
  ∃ l : List Tok, Toks W a len l /\ (∀ x ∈ l, TokFits x) /\ len <= cap /\ cap <= maxLen /\ (a = none -> cap = 0) /\ (∀ x, a = some x -> 0 < cap -> x.spot = none) /\ (len = 0 \/ ∃ elems spare, d = .slice elems spare /\ len <= elems.length /\ cap <= elems.length + spare.length) := by
 obtain ⟨fuel, hf⟩ := h
 have hc4 : Tryz.prog.cellsOf 48 = 4 := by kernel_rfl
 rcases Deep.open_slice Tryz.underlying22 hf with ⟨hcs, hx⟩ | ⟨x, l, c, m, n, D, Pl, hcs, _, hl, hm, hmm, hx, hD⟩
 ·simp [Value.cells] at hcs
  obtain ⟨rfl, rfl, rfl⟩ := hcs
  exact ⟨[], ⟨rfl, .inl rfl⟩, by simp, Nat.le_refl _, Nat.zero_le _, fun _ => rfl, fun _ _ h => absurd h (by omega), .inl rfl⟩
 ·simp [Value.cells] at hcs
  obtain ⟨rfl, rfl, rfl⟩ := hcs
  simp only [if_true] at hmm
  subst hmm
  rw [hc4] at hD
  have each : ∀ i, i < m -> ∃ y : Tok, TokFits y /\ W.cell? (x.add (i * 4)) = some (.int .i64 y.k) /\ W.cell? ((x.add (i * 4)).add 1) = some (.int .i64 y.t) /\ W.cell? ((x.add (i * 4)).add 2) = some (.int .i64 y.n) /\ W.cell? ((x.add (i * 4)).add 3) = some (.int .i64 y.m) := by
   intro i hi
   obtain ⟨cs', h1, h2⟩ := hD i hi
   obtain ⟨_, _, hcell⟩ := World.cells?_some h1
   obtain ⟨y, rfl, hy, _⟩ := tok_of_cells h2
   refine ⟨y, hy, ?_, hcell 1 (by omega), hcell 2 (by omega), hcell 3 (by omega)⟩
   have := hcell 0 (by omega)
   rw [show (x.add (i * 4)).add 0 = x.add (i * 4) from by obtain ⟨b, o, s⟩ := x; cases s <;> simp [Addr.add]] at this
   exact this
  haveI : Inhabited Tok := ⟨⟨0, 0, 0, 0⟩⟩
  obtain ⟨Y, hY⟩ := Deep.choose_lt each
  have hspot : 0 < m -> x.spot = none := by
   intro h0
   have := World.cell?_spot (hY 0 h0).2.1
   obtain ⟨b, o, s⟩ := x
   simpa [Addr.add] using this
  refine ⟨(List.range len).map Y, ⟨by simp, ?_⟩, ?_, hl, hm, (fun e => by cases e), (fun z e h0 => by cases e; exact hspot h0), .inr ⟨_, _, congrArg Prod.fst hx, by simp, by simp; omega⟩⟩
  ·rcases Nat.eq_zero_or_pos len with h0 | h0
   ·exact .inl h0
   ·obtain ⟨b, o, s⟩ := x
    obtain rfl : s = none := hspot (by omega)
    refine .inr ⟨b, o, rfl, ?_, fun i y hy => ?_⟩
    ·have := (hY 0 (by omega)).2.1
     rw [add_none4] at this
     rcases Nat.lt_or_ge b W.heap.size with hlt | hge
     ·exact hlt
     ·simp [World.cell?, Array.getElem?_eq_none hge] at this
    ·have hi : i < len := by
      have := (List.getElem?_eq_some_iff.1 hy).1
      simpa using this
     obtain rfl : Y i = y := by simpa [List.getElem?_map, List.getElem?_range hi] using hy
     have := (hY i (by omega)).2
     simp only [add_none4] at this
     exact this
  ·intro y hy
   obtain ⟨i, hi, rfl⟩ := List.mem_map.1 hy
   exact (hY i (by have := List.mem_range.1 hi; omega)).1
end Go.Proofs.YtbkpehfaofhmaaaGreatDoor

/- DBAuto: plain facts on places, as the program lays them: what each place needs to the end, and what words lead there. -/
namespace Go.Proofs.YtbkpehfaofhmaaaGreatDoor
abbrev Place : Type := Nat × List Nat × Nat
def leastAt (L : List Place) (p : Nat) : Nat :=
 match L[p]? with
 | some x => x.2.2
 | none => 0
def takes (m : Nat) (t : Int) : Bool := decide (0 <= t) && decide (t < 16) && m.testBit t.toNat
theorem takes_zero (t : Int) : takes 0 t = false := by unfold takes; simp
theorem leastAt_some {L : List Place} {p : Nat} {x : Place} (h : L[p]? = some x) : leastAt L p = x.2.2 := by unfold leastAt; rw [h]
theorem leastAt_congr {L L' : List Place} {p : Nat} (h : L'[p]? = L[p]?) : leastAt L' p = leastAt L p := by unfold leastAt; rw [h]
def StepAt (L : List Place) (p : Nat) (x : Place) : Prop := x.1 ≠ 0 /\ ∃ q, x.2.1 = [q] /\ q < p /\ x.2.2 = leastAt L q + 1
def ForkAt (L : List Place) (p : Nat) (x : Place) : Prop := x.1 = 0 /\ (∀ q ∈ x.2.1, q < L.length /\ x.2.2 <= leastAt L q) /\ ∃ q ∈ x.2.1, q < p /\ x.2.2 = leastAt L q
def wf (L : List Place) : Prop := L[0]? = some (0, [], 0) /\ ∀ p x, 0 < p -> L[p]? = some x -> StepAt L p x \/ ForkAt L p x
theorem wf.pos {L : List Place} (h : wf L) : 0 < L.length := (List.getElem?_eq_some_iff.1 h.1).1
theorem wf_one : wf [((0, [], 0) : Place)] := ⟨rfl, fun p x hp hx => by
 have := (List.getElem?_eq_some_iff.1 hx).1
 simp at this
 omega⟩
theorem get_snoc_lt {L : List Place} {y : Place} {p : Nat} (h : p < L.length) : (L ++ [y])[p]? = L[p]? := List.getElem?_append_left h
theorem get_snoc_eq {L : List Place} {y : Place} : (L ++ [y])[L.length]? = some y := by simp
theorem wf_add {L : List Place} (h : wf L) {y : Place} (hy : (y.1 ≠ 0 /\ ∃ q, y.2.1 = [q] /\ q < L.length /\ y.2.2 = leastAt L q + 1) \/ (y.1 = 0 /\ (∀ q ∈ y.2.1, q < L.length /\ y.2.2 <= leastAt L q) /\ ∃ q ∈ y.2.1, y.2.2 = leastAt L q)) : wf (L ++ [y]) := by
 have hl : ∀ q, q < L.length -> leastAt (L ++ [y]) q = leastAt L q := fun q hq => leastAt_congr (get_snoc_lt hq)
 refine ⟨by rw [get_snoc_lt h.pos]; exact h.1, fun p x hp hx => ?_⟩
 rcases Nat.lt_or_ge p L.length with hlt | hge
 ·rw [get_snoc_lt hlt] at hx
  rcases h.2 p x hp hx with ⟨h1, q, h2, h3, h4⟩ | ⟨h1, h2, q, h3, h4, h5⟩
  ·exact .inl ⟨h1, q, h2, h3, by rw [hl q (by omega)]; exact h4⟩
  ·refine .inr ⟨h1, fun r hr => ?_, q, h3, h4, by rw [hl q (by omega)]; exact h5⟩
   obtain ⟨g1, g2⟩ := h2 r hr
   exact ⟨by simp; omega, by rw [hl r g1]; exact g2⟩
 ·have hpl : p = L.length := by
   have := (List.getElem?_eq_some_iff.1 hx).1
   simp at this
   omega
  subst hpl
  rw [get_snoc_eq] at hx
  cases hx
  rcases hy with ⟨h1, q, h2, h3, h4⟩ | ⟨h1, h2, q, h3, h4⟩
  ·exact .inl ⟨h1, q, h2, h3, by rw [hl q h3]; exact h4⟩
  ·refine .inr ⟨h1, fun r hr => ?_, q, h3, (h2 q h3).1, by rw [hl q (h2 q h3).1]; exact h4⟩
   obtain ⟨g1, g2⟩ := h2 r hr
   exact ⟨by simp; omega, by rw [hl r g1]; exact g2⟩
def addNext (L : List Place) (i q : Nat) : List Place := L.modify i (fun x => (x.1, x.2.1 ++ [q], x.2.2))
theorem addNext_length (L : List Place) (i q : Nat) : (addNext L i q).length = L.length := by unfold addNext; simp
theorem addNext_ne {L : List Place} {i q p : Nat} (h : p ≠ i) : (addNext L i q)[p]? = L[p]? := by unfold addNext; rw [List.getElem?_modify]; simp [Ne.symm h]
theorem addNext_eq {L : List Place} {i q : Nat} {x : Place} (h : L[i]? = some x) : (addNext L i q)[i]? = some (x.1, x.2.1 ++ [q], x.2.2) := by unfold addNext; rw [List.getElem?_modify, h]; simp
theorem addNext_least (L : List Place) (i q p : Nat) : leastAt (addNext L i q) p = leastAt L p := by
 by_cases h : p = i
 ·subst h
  cases hx : L[p]? with
  | none =>
   have : (addNext L p q)[p]? = none := by
    rw [List.getElem?_eq_none_iff] at hx ⊢
    rw [addNext_length]
    exact hx
   unfold leastAt
   rw [hx, this]
  | some x => rw [leastAt_some hx, leastAt_some (addNext_eq hx)]
 ·exact leastAt_congr (addNext_ne h)
theorem wf_next {L : List Place} (h : wf L) {i q : Nat} {y : Place} (hi : 0 < i) (hy : L[i]? = some y) (hz : y.1 = 0) (hq : q < L.length) (hl : y.2.2 <= leastAt L q) : wf (addNext L i q) := by
 refine ⟨by rw [addNext_ne (by omega)]; exact h.1, fun p x hp hx => ?_⟩
 by_cases hpi : p = i
 ·subst hpi
  rw [addNext_eq hy] at hx
  cases hx
  rcases h.2 p y hp hy with ⟨h1, _⟩ | ⟨h1, h2, r, h3, h4, h5⟩
  ·exact absurd hz h1
  ·refine .inr ⟨h1, fun s hs => ?_, r, List.mem_append_left _ h3, h4, by rw [addNext_least]; exact h5⟩
   rw [addNext_length, addNext_least]
   rcases List.mem_append.1 hs with hs | hs
   ·exact h2 s hs
   ·simp at hs
    subst hs
    exact ⟨hq, hl⟩
 ·rw [addNext_ne hpi] at hx
  rcases h.2 p x hp hx with ⟨h1, r, h2, h3, h4⟩ | ⟨h1, h2, r, h3, h4, h5⟩
  ·exact .inl ⟨h1, r, h2, h3, by rw [addNext_least]; exact h4⟩
  ·refine .inr ⟨h1, fun s hs => ?_, r, h3, h4, by rw [addNext_least]; exact h5⟩
   rw [addNext_length, addNext_least]
   exact h2 s hs
def Reads (F : List Place) : Nat -> Nat -> List Int -> Prop
 | 0, p, w => p = 0 /\ w = []
 | k + 1, p, w => (p = 0 /\ w = []) \/ ∃ x, F[p]? = some x /\ ((x.1 = 0 /\ ∃ q ∈ x.2.1, Reads F k q w) \/ (x.1 ≠ 0 /\ ∃ t v q, w = t :: v /\ takes x.1 t = true /\ x.2.1[0]? = some q /\ Reads F k q v))
theorem Reads.up {F : List Place} : ∀ {k p : Nat} {w : List Int}, Reads F k p w -> Reads F (k + 1) p w := by
 intro k
 induction k with
 | zero => intro p w h; exact .inl h
 | succ k ih =>
  intro p w h
  rcases h with h | ⟨x, hx, ⟨h0, q, hq, hr⟩ | ⟨h0, t, v, q, e, ht, hq, hr⟩⟩
  ·exact .inl h
  ·exact .inr ⟨x, hx, .inl ⟨h0, q, hq, ih hr⟩⟩
  ·exact .inr ⟨x, hx, .inr ⟨h0, t, v, q, e, ht, hq, ih hr⟩⟩
theorem Reads.upto {F : List Place} {k m p : Nat} {w : List Int} (h : k <= m) (hr : Reads F k p w) : Reads F m p w := by
 induction h with
 | refl => exact hr
 | step _ ih => exact Reads.up ih
end Go.Proofs.YtbkpehfaofhmaaaGreatDoor

/- DBGrp: groups in memory; reg's isType, rightGroups, typesOf: what they return; nothing that lay before is turned. -/
namespace Go.Proofs.YtbkpehfaofhmaaaGreatDoor
open Go.RowKit
def Ints (w : World) (a : Option Addr) (len : Nat) (zs : List Int) : Prop :=
 zs.length = len /\ len <= 9223372036854775807 /\ (len = 0 \/ ∃ b o, a = some ⟨b, o, none⟩ /\ b < w.heap.size /\ ∀ i x, zs[i]? = some x -> w.cell? ⟨b, o + i, none⟩ = some (.int .i64 x))
theorem Ints.below {w w' : World} {a : Option Addr} {len : Nat} {zs : List Int} (h : Ints w a len zs) (hb : Below w.heap.size w w') : Ints w' a len zs := by
 obtain ⟨h1, h2, h3⟩ := h
 refine ⟨h1, h2, ?_⟩
 rcases h3 with h3 | ⟨b, o, rfl, hlt, hc⟩
 ·exact .inl h3
 ·exact .inr ⟨b, o, rfl, Nat.lt_of_lt_of_le hlt hb.size, fun i x hx => (hb.cell (p := ⟨b, o + i, none⟩) hlt).trans (hc i x hx)⟩
theorem Ints.at {w : World} {a : Option Addr} {len : Nat} {zs : List Int} (h : Ints w a len zs) {i : Nat} (hi : i < len) : ∃ b o x, a = some ⟨b, o, none⟩ /\ zs[i]? = some x /\ ∀ W : World, Below w.heap.size w W -> W.cell? ⟨b, o + i, none⟩ = some (.int .i64 x) := by
 obtain ⟨h1, _, h3⟩ := h
 rcases h3 with h3 | ⟨b, o, rfl, hlt, hc⟩
 ·omega
 ·have hx : zs[i]? = some (zs[i]'(by omega)) := List.getElem?_eq_getElem (by omega)
  exact ⟨b, o, _, rfl, hx, fun W hb => (hb.cell (p := ⟨b, o + i, none⟩) hlt).trans (hc i _ hx)⟩
abbrev Grp : Type := ByteArray × List Int
def Groups (w : World) (a : Option Addr) (len : Nat) (gs : List Grp) : Prop :=
 gs.length = len /\ len <= 9223372036854775807 /\ (len = 0 \/ ∃ b o, a = some ⟨b, o, none⟩ /\ b < w.heap.size /\ ∀ i g, gs[i]? = some g -> ∃ a' len' cap',
  w.cell? ⟨b, o + i * 2, none⟩ = some (.string g.1) /\ w.cell? ⟨b, o + i * 2 + 1, none⟩ = some (.slice a' len' cap') /\ Ints w a' len' g.2)
theorem Groups.below {w w' : World} {a : Option Addr} {len : Nat} {gs : List Grp} (h : Groups w a len gs) (hb : Below w.heap.size w w') : Groups w' a len gs := by
 obtain ⟨h1, h2, h3⟩ := h
 refine ⟨h1, h2, ?_⟩
 rcases h3 with h3 | ⟨b, o, rfl, hlt, hc⟩
 ·exact .inl h3
 ·refine .inr ⟨b, o, rfl, Nat.lt_of_lt_of_le hlt hb.size, fun i g hg => ?_⟩
  obtain ⟨a', len', cap', c0, c1, c2⟩ := hc i g hg
  exact ⟨a', len', cap', (hb.cell (p := ⟨b, _, none⟩) hlt).trans c0, (hb.cell (p := ⟨b, _, none⟩) hlt).trans c1, c2.below hb⟩
theorem Groups.at {w : World} {a : Option Addr} {len : Nat} {gs : List Grp} (h : Groups w a len gs) {i : Nat} (hi : i < len) : ∃ b o g a' len' cap', a = some ⟨b, o, none⟩ /\ gs[i]? = some g /\ Ints w a' len' g.2 /\ ∀ W : World, Below w.heap.size w W →
  W.cell? ⟨b, o + i * 2, none⟩ = some (.string g.1) /\ W.cell? ⟨b, o + i * 2 + 1, none⟩ = some (.slice a' len' cap') := by
 obtain ⟨h1, _, h3⟩ := h
 rcases h3 with h3 | ⟨b, o, rfl, hlt, hc⟩
 ·omega
 ·have hx : gs[i]? = some (gs[i]'(by omega)) := List.getElem?_eq_getElem (by omega)
  obtain ⟨a', len', cap', c0, c1, c2⟩ := hc i _ hx
  exact ⟨b, o, _, a', len', cap', rfl, hx, c2, fun W hb => ⟨(hb.cell (p := ⟨b, _, none⟩) hlt).trans c0, (hb.cell (p := ⟨b, _, none⟩) hlt).trans c1⟩⟩
def isTy (t : Int) : Bool := decide (0 <= t) && decide (t < 16)
set_option maxRecDepth 100000 in
set_option maxHeartbeats 2000000 in
theorem istype_calls (t : Int) (w : World) : Calls Tryz.prog 160 #[.int .i64 t] w fun e w' => e = .returned (.bool (isTy t)) /\ w' = w := by
 unfold isTy
 by_cases h1 : 0 <= t
 ·go_enter Tryz.func160, Tryz.ntmps160
  go_wp2
  go_ret
  exact ⟨by first | rfl | simp [h1], rfl⟩
 ·have h2 : decide (0 <= t) = false := by simpa using h1
  go_enter Tryz.func160, Tryz.ntmps160
  go_wp2
  go_ret
  exact ⟨by first | rfl | simp [h1], rfl⟩
def rightTs (l : List Int) : Bool := decide (l.length <= 16) && l.all isTy
def rightG (gs : List Grp) : Bool := decide (gs.length <= 16) && gs.all (fun g => rightTs g.2)
theorem allI_step {α : Type} {p : α -> Bool} {ts : List α} {i : Nat} {x : α} (h : ts[i]? = some x) : (ts.take (i + 1)).all p = ((ts.take i).all p && p x) := by
 rw [List.take_add_one, h, List.all_append]
 simp
theorem allI_not {α : Type} {p : α -> Bool} {ts : List α} {i : Nat} {x : α} (h : ts[i]? = some x) (hp : p x = false) : ts.all p = false := by
 cases ha : ts.all p with
 | false => rfl
 | true =>
  have := List.all_eq_true.1 ha x (List.mem_of_getElem? h)
  rw [hp] at this
  cases this
set_option maxRecDepth 100000 in
set_option maxHeartbeats 2000000 in
theorem rightgroups_calls (a : Option Addr) (len cap : Nat) (gs : List Grp) (w : World) (h : Groups w a len gs) :
  Calls Tryz.prog 128 #[.slice a len cap] w fun e w' => e = .returned (.bool (rightG gs)) /\ Below w.heap.size w w' := by
 obtain ⟨hl, hz, _⟩ := id h
 obtain ⟨R, hR⟩ : ∃ R, rightG gs = R := ⟨_, rfl⟩
 rw [hR]
 have HR : Hid (rightG gs = R) := hR
 clear hR
 have HT : Hid (∀ t W, Calls Tryz.prog 160 #[.int .i64 t] W fun e w' => e = .returned (.bool (isTy t)) /\ w' = W) := fun t W => istype_calls t W
 by_cases hlen : len <= 16
 ·have hn : ¬ ((16 : Int) < (len : Int)) := by omega
  go_enter Tryz.func128, Tryz.ntmps128
  go_wp2
  go_loopw [12] (fun i w' => ∃ j : Nat, j <= len /\ i = .int .i64 (j : Int) /\ (gs.take j).all (fun g => rightTs g.2) = true /\ Below w.heap.size w w') (fun i _ => len - (intOf i).toNat)
  case atStart => exact ⟨0, by omega, rfl, rfl, Below.refl _ _⟩
  case round =>
   obtain ⟨i, hi, rfl, hT, hB⟩ := hrel
   by_cases hlt : i < len
   ·obtain ⟨b, o, g, a', len', cap', rfl, hg, hI, hc⟩ := h.at hlt
    obtain ⟨c0, c1⟩ := hc wr hB
    obtain ⟨hl2, hz2, _⟩ := id hI
    have hst : (gs.take (i + 1)).all (fun g => rightTs g.2) = rightTs g.2 := by rw [allI_step hg, hT, Bool.true_and]
    have hno : rightTs g.2 = false -> R = false := fun e => by
     rw [<- HR.out]
     unfold rightG
     rw [allI_not hg e, Bool.and_false]
    have HST : Hid ((gs.take (i + 1)).all (fun g => rightTs g.2) = rightTs g.2) := hst
    have HNO : Hid (rightTs g.2 = false -> R = false) := hno
    obtain ⟨nm, zs⟩ := g
    simp only at hI hl2 HST HNO c0
    have HB0 : Hid (∀ o, Below w.heap.size w (wr.alloc o)) := fun o => hB.alloc hB.size o
    have hBI : Hid (∀ W, Below w.heap.size w W -> ∀ i, i < len' -> ∃ b o x, a' = some ⟨b, o, none⟩ /\ zs[i]? = some x /\ W.cell? ⟨b, o + i, none⟩ = some (.int .i64 x)) := fun W hW i hi => by
     obtain ⟨b, o, x, h1, h2, h3⟩ := hI.at hi
     exact ⟨b, o, x, h1, h2, h3 W hW⟩
    clear hc hI hst hno hg hT
    by_cases hlen2 : len' <= 16
    ·have hn2 : ¬ ((16 : Int) < (len' : Int)) := by omega
     go_wp2
     go_loopw [23] (fun i2 w' => ∃ j : Nat, j <= len' /\ i2 = .int .i64 (j : Int) /\ (zs.take j).all isTy = true /\ w' = (wr.alloc (.cells #[.string nm, .slice a' len' cap'] 61))) (fun i2 _ => len' - (intOf i2).toNat)
     case atStart => exact ⟨0, by omega, rfl, rfl, rfl⟩
     case round =>
      obtain ⟨j, hj, rfl, hT2, rfl⟩ := hrel
      by_cases hlt2 : j < len'
      ·obtain ⟨b2, o2, x, rfl, hx, hc2⟩ := hBI.out (wr.alloc (.cells #[.string nm, .slice a' len' cap'] 61)) (HB0.out _) j hlt2
       have HS2 : Hid ((zs.take (j + 1)).all isTy = isTy x) := by show _ = _; rw [allI_step hx, hT2, Bool.true_and]
       have HN2 : Hid (isTy x = false -> R = false) := fun e => HNO.out (by unfold rightTs; rw [allI_not hx e, Bool.and_false])
       have HTx := fun W => HT.out x W
       clear hx hT2
       generalize isTy x = q at *
       cases q with
       | true =>
        go_wp2_with fail
        refine (HTx _).mono ?_
        rintro e W ⟨rfl, hW⟩
        rw [hW]
        go_wp2
        go_roundw
        case rel => exact ⟨j + 1, by omega, rfl, HS2.out, by first | rfl | trivial⟩
        case measure => simp [intOf]; omega
       | false =>
        have HF : Hid (R = false) := HN2.out rfl
        clear HN2
        go_wp2_with fail
        refine (HTx _).mono ?_
        rintro e W ⟨rfl, hW⟩
        rw [hW]
        go_wp2
        go_ret
        exact ⟨by rw [HF.out]; rfl, HB0.out _⟩
      ·obtain rfl : j = len' := by omega
       have HF : Hid (rightTs zs = true) := by
        show _ = _
        rw [List.take_of_length_le (Nat.le_of_eq hl2)] at hT2
        unfold rightTs
        rw [hT2, hl2]
        simpa using hlen2
       clear hT2
       go_wp2
       go_roundw
       case rel => exact ⟨i + 1, by omega, rfl, by rw [HST.out, HF.out], HB0.out _⟩
       case measure => simp [intOf]; omega
    ·have hn2 : (16 : Int) < (len' : Int) := by omega
     have HF : Hid (R = false) := HNO.out (by unfold rightTs; rw [hl2]; simp; omega)
     go_wp2
     go_ret
     exact ⟨by rw [HF.out]; rfl, HB0.out _⟩
   ·obtain rfl : i = len := by omega
    have HF : Hid (R = true) := by
     show _ = _
     rw [<- HR.out]
     rw [List.take_of_length_le (Nat.le_of_eq hl)] at hT
     unfold rightG
     rw [hT, hl]
     simpa using hlen
    clear hT h
    go_wp2
    go_ret
    exact ⟨by rw [HF.out]; rfl, hB⟩
 ·have hn : (16 : Int) < (len : Int) := by omega
  have HF : Hid (R = false) := by
   show _ = _
   rw [<- HR.out]
   unfold rightG
   rw [hl]
   simp
   omega
  clear h
  go_enter Tryz.func128, Tryz.ntmps128
  go_wp2
  go_ret
  exact ⟨by rw [HF.out]; rfl, Below.refl _ _⟩
end Go.Proofs.YtbkpehfaofhmaaaGreatDoor

/- DBArgs: how slices of integers, groups and trees that came in are read. -/
namespace Go.Proofs.YtbkpehfaofhmaaaGreatDoor
open Go.ChangeShapes Go.WideShapes Go.ChangeAt Go.RowKit
theorem add_none (b o i : Nat) : (⟨b, o, none⟩ : Addr).add i = ⟨b, o + i, none⟩ := by unfold Addr.add; split <;> simp_all
theorem own : ownKnob Tryz.prog.godebug = none := by kernel_rfl
theorem laidOut : laidOutB Tryz.prog = true := by kernel_rfl
end Go.Proofs.YtbkpehfaofhmaaaGreatDoor

/- DBP8Rng: maps as plain data, and in a slice; plain functions on them. -/
namespace Go.Proofs.YtbkpehfaofhmaaaGreatDoor
open Go.RowKit
structure Rng where
 a : Int
 o : Int
 n : Int
structure Spt where
 at' : Int
 gone : Bool
 inn : Int
 off : Int
def spotV (s : Spt) : Value := .agg #[.int .i64 s.at', .bool s.gone, .int .i64 s.inn, .int .i64 s.off]
def partV (x : Rng) (i d : Int) : Value := .agg #[.int .i64 x.a, .int .i64 x.o, .int .i64 x.n, .int .i64 i, .int .i64 d]
def withinP (n : Int) : Bool := decide (0 <= n) && decide (n <= 65536)
def rightR (x : Rng) (e : Int) : Bool := withinP x.a && (withinP x.o && (withinP x.n && decide (e <= x.a)))
def rightL : List Rng -> Int -> Bool
 | [], _ => true
 | x :: r, e => rightR x e && rightL r (x.a + x.o)
def right (l : List Rng) : Bool := decide (l.length <= 4) && rightL l 0
theorem within_iff (n : Int) : withinP n = true ↔ 0 <= n /\ n <= 65536 := by simp [withinP]
theorem rightR_iff (x : Rng) (e : Int) : rightR x e = true ↔ (0 <= x.a /\ x.a <= 65536) /\ (0 <= x.o /\ x.o <= 65536) /\ (0 <= x.n /\ x.n <= 65536) /\ e <= x.a := by
 simp [rightR, withinP]
theorem rightL_cons {x : Rng} {r : List Rng} {e : Int} (h : rightL (x :: r) e = true) : rightR x e = true /\ rightL r (x.a + x.o) = true := by
 rw [rightL, Bool.and_eq_true] at h
 exact h
def shiftL : List Rng -> Int
 | [] => 0
 | x :: r => (x.n - x.o) + shiftL r
theorem shiftL_snoc (l : List Rng) (x : Rng) : shiftL (l ++ [x]) = shiftL l + x.n - x.o := by
 induction l with
 | nil => simp [shiftL]
 | cons y r ih => simp only [List.cons_append, shiftL, ih]; omega
def inner (x : Rng) (p : Int) : Bool := decide (x.a < p) && decide (p < x.a + x.o)
def outer (x : Rng) (p side : Int) : Bool := if side < 0 then p == x.a else p == x.a + x.o
def goal (x : Rng) (d p side : Int) : Int :=
 if x.o = 0 \/ inner x p = true then (if side < 0 then x.a + d else x.a + d + x.n) else if p = x.a + x.o then x.a + d + x.n else x.a + d
def spotR (x : Rng) (i d p side : Int) : Spt := ⟨goal x d p side, inner x p, if outer x p side then -1 else i, if outer x p side then 0 else p - x.a⟩
def sendL : List Rng -> Nat -> Int -> Int -> Int -> Spt
 | [], _, d, p, _ => ⟨p + d, false, -1, 0⟩
 | x :: r, i, d, p, side => if p < x.a then ⟨p + d, false, -1, 0⟩ else if p <= x.a + x.o then spotR x i d p side else sendL r (i + 1) (d + x.n - x.o) p side
def zeroSp : Spt := ⟨0, false, 0, 0⟩
def mapA (l : List Rng) (p side : Int) : Spt := if right l = false then zeroSp else if withinP p = false then zeroSp else sendL l 0 0 p side
def mapE (l : List Rng) (p : Int) : Int := if right l = false then 4 else if withinP p = false then 1 else 0
def Rngs (w : World) (a : Option Addr) (len : Nat) (l : List Rng) : Prop :=
 l.length = len /\ (len = 0 \/ ∃ b o, a = some ⟨b, o, none⟩ /\ b < w.heap.size /\ ∀ i x, l[i]? = some x -> w.cell? ⟨b, o + i * 3, none⟩ = some (.int .i64 x.a) /\ w.cell? ⟨b, o + i * 3 + 1, none⟩ = some (.int .i64 x.o) ∧
  w.cell? ⟨b, o + i * 3 + 2, none⟩ = some (.int .i64 x.n))
theorem Rngs.same {w w' : World} {a : Option Addr} {len : Nat} {l : List Rng} (h : Rngs w a len l) (hs : 0 < len -> ∀ b o, a = some ⟨b, o, none⟩ -> w'.heap[b]? = w.heap[b]?) : Rngs w' a len l := by
 obtain ⟨h1, h2⟩ := h
 refine ⟨h1, ?_⟩
 rcases h2 with h2 | ⟨b, o, rfl, hlt, hc⟩
 ·exact .inl h2
 ·rcases Nat.eq_zero_or_pos len with h0 | h0
  ·exact .inl h0
  ·have hb := hs h0 b o rfl
   have hlt' : b < w'.heap.size := by
    have h3 := hb.trans (Array.getElem?_eq_getElem hlt)
    exact (Array.getElem?_eq_some_iff.1 h3).1
   refine .inr ⟨b, o, rfl, hlt', fun i x hx => ?_⟩
   obtain ⟨c0, c1, c2⟩ := hc i x hx
   exact ⟨(World.cell?_of_block (w := w) (a := ⟨b, _, none⟩) hb).trans c0, (World.cell?_of_block (w := w) (a := ⟨b, _, none⟩) hb).trans c1, (World.cell?_of_block (w := w) (a := ⟨b, _, none⟩) hb).trans c2⟩
theorem Rngs.below {w w' : World} {a : Option Addr} {len : Nat} {l : List Rng} (h : Rngs w a len l) (hb : Below w.heap.size w w') : Rngs w' a len l := by
 obtain ⟨h1, h2⟩ := h
 refine ⟨h1, ?_⟩
 rcases h2 with h2 | ⟨b, o, rfl, hlt, hc⟩
 ·exact .inl h2
 ·refine .inr ⟨b, o, rfl, Nat.lt_of_lt_of_le hlt hb.size, fun i x hx => ?_⟩
  obtain ⟨c0, c1, c2⟩ := hc i x hx
  exact ⟨(hb.cell (p := ⟨b, _, none⟩) hlt).trans c0, (hb.cell (p := ⟨b, _, none⟩) hlt).trans c1, (hb.cell (p := ⟨b, _, none⟩) hlt).trans c2⟩
theorem drop_getR {l : List Rng} {k : Nat} (h : k < l.length) : ∃ x, l[k]? = some x /\ l.drop k = x :: l.drop (k + 1) := ⟨l[k], List.getElem?_eq_getElem h, List.drop_eq_getElem_cons h⟩
theorem Rngs.range {w : World} {a : Option Addr} {len : Nat} {l : List Rng} (h : Rngs w a len l) {k : Nat} (hk : k < len) : ∃ b o x, a = some ⟨b, o, none⟩ /\ b < w.heap.size /\ l[k]? = some x /\ l.drop k = x :: l.drop (k + 1) /\ ∀ W : World, Below w.heap.size w W →
  W.cell? ⟨b, o + k * 3, none⟩ = some (.int .i64 x.a) /\ W.cell? ⟨b, o + k * 3 + 1, none⟩ = some (.int .i64 x.o) /\ W.cell? ⟨b, o + k * 3 + 2, none⟩ = some (.int .i64 x.n) := by
 obtain ⟨h1, h2 | ⟨b, o, rfl, hlt, hc⟩⟩ := h
 ·omega
 ·obtain ⟨x, hx, hd⟩ := drop_getR (l := l) (k := k) (by omega)
  refine ⟨b, o, x, rfl, hlt, hx, hd, fun W hb => ?_⟩
  obtain ⟨c0, c1, c2⟩ := hc k _ hx
  exact ⟨(hb.cell (p := ⟨b, _, none⟩) hlt).trans c0, (hb.cell (p := ⟨b, _, none⟩) hlt).trans c1, (hb.cell (p := ⟨b, _, none⟩) hlt).trans c2⟩
theorem right_len {l : List Rng} (h : right l = true) : l.length <= 4 /\ rightL l 0 = true := by
 rw [right, Bool.and_eq_true, decide_eq_true_iff] at h
 exact h
theorem rightL_all {l : List Rng} {e : Int} (h : rightL l e = true) : ∀ x ∈ l, (0 <= x.a /\ x.a <= 65536) /\ (0 <= x.o /\ x.o <= 65536) /\ (0 <= x.n /\ x.n <= 65536) /\ e <= x.a := by
 induction l generalizing e with
 | nil => intro x hx; cases hx
 | cons y r ih =>
  obtain ⟨h1, h2⟩ := rightL_cons h
  have hy := (rightR_iff y e).1 h1
  intro x hx
  rcases List.mem_cons.1 hx with rfl | hx
  ·exact hy
  ·have := ih h2 x hx
   omega
theorem shiftL_bound {l : List Rng} {e : Int} (h : rightL l e = true) : -65536 * (l.length : Int) <= shiftL l /\ shiftL l <= 65536 * (l.length : Int) := by
 induction l generalizing e with
 | nil => simp [shiftL]
 | cons y r ih =>
  obtain ⟨h1, h2⟩ := rightL_cons h
  have hy := (rightR_iff y e).1 h1
  have := ih h2
  simp only [shiftL, List.length_cons]
  omega
theorem rightL_take {l : List Rng} : ∀ {e : Int} (k : Nat), rightL l e = true -> rightL (l.take k) e = true := by
 induction l with
 | nil => intro e k h; simpa using h
 | cons y r ih =>
  intro e k h
  cases k with
  | zero => rfl
  | succ k =>
   obtain ⟨h1, h2⟩ := rightL_cons h
   rw [List.take_succ_cons, rightL, h1, ih k h2]
   rfl
theorem shift_take {l : List Rng} (h : right l = true) (k : Nat) : -262144 <= shiftL (l.take k) /\ shiftL (l.take k) <= 262144 := by
 obtain ⟨h1, h2⟩ := right_len h
 have := shiftL_bound (rightL_take k h2)
 rw [List.length_take] at this
 omega
theorem shift_succ {l : List Rng} {k : Nat} {x : Rng} (h : l[k]? = some x) : shiftL (l.take (k + 1)) = shiftL (l.take k) + x.n - x.o := by
 rw [List.take_add_one, h, Option.toList_some, shiftL_snoc]
theorem cells5 {w : World} {B : Nat} {a b c d e : Value} {t : TypeId} (h : w.heap[B]? = some (.cells #[a, b, c, d, e] t (0, 0))) : w.cell? ⟨B, 0, none⟩ = some a /\ w.cell? ⟨B, 1, none⟩ = some b /\ w.cell? ⟨B, 2, none⟩ = some c /\ w.cell? ⟨B, 3, none⟩ = some d /\ w.cell? ⟨B, 4, none⟩ = some e := by
 have hc := fun j => cell_of_row w B j _ _ _ h
 exact ⟨hc 0, hc 1, hc 2, hc 3, hc 4⟩
theorem cells4 {w : World} {B : Nat} {a b c d : Value} {t : TypeId} (h : w.heap[B]? = some (.cells #[a, b, c, d] t (0, 0))) : w.cell? ⟨B, 0, none⟩ = some a /\ w.cell? ⟨B, 1, none⟩ = some b /\ w.cell? ⟨B, 2, none⟩ = some c /\ w.cell? ⟨B, 3, none⟩ = some d := by
 have hc := fun j => cell_of_row w B j _ _ _ h
 exact ⟨hc 0, hc 1, hc 2, hc 3⟩
theorem cells1 {w : World} {B : Nat} {a : Value} {t : TypeId} (h : w.heap[B]? = some (.cells #[a] t (0, 0))) : w.cell? ⟨B, 0, none⟩ = some a /\ w.frozen? ⟨B, 0, none⟩ = false := ⟨cell_of_row w B 0 _ _ _ h, by simp [World.frozen?, h]⟩
end Go.Proofs.YtbkpehfaofhmaaaGreatDoor
