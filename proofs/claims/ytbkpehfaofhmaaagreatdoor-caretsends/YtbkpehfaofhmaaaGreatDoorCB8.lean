/-
  PROVED HERE: what the texts DBP8ArgsR, DBP8Small, DBP8Held, DBP8Parts, DBP8Goal say (each has its own words below).
-/
import Derived.Test.YtbkpehfaofhmaaaGreatDoorCB7
import Derived.ProofKit
import Derived.Deep.Slices
import Derived.ChangeSame
import Derived.ChangeArms
import Derived.Test.YtbkpehfaofhmaaaGreatDoorCB1
import Derived.BigQuiet
import Derived.Deep.QuietTactic
import Derived.RegionTactic
import Derived.BigRegion
import Derived.Deep.RegionWith
import Derived.Deep.RegionHeld3
import Derived.OrdersIn
import Derived.RangeFuncCalls
import Derived.Laws.Rows
import Derived.Laws.Tables
import Derived.Laws.CopyOwn
import Derived.RangeFuncNested
import Derived.RangeFuncBox
import Derived.RangeFuncBound
import Derived.RangeFuncLeaves
import Derived.Shelf.Abstract
import Derived.Shelf.RegionOpen
import Derived.WalkKit
import Derived.OwnWalkIn
import Derived.TacticsInMore
import Derived.LoopNIn
import Derived.LoopIn
/- DBP8ArgsR: how a slice of ranges, and a range, that came in is read. -/
namespace Go.Proofs.YtbkpehfaofhmaaaGreatDoor
open Go.ChangeShapes Go.WideShapes Go.ChangeAt Go.RowKit
def RngFits (x : Rng) : Prop := (Lit.int .i64 x.a).wf = true /\ (Lit.int .i64 x.o).wf = true /\ (Lit.int .i64 x.n).wf = true
set_option maxRecDepth 100000 in
theorem rng_of_cells {H : Type} {enc : TypeId × Value -> H} {w : World} {base : Nat} {spare : Nat -> Bool} {held : Bool} {fuel : Nat} {cs : List Value} {x : DataW H × List MemPlace} (h : DataW.trod enc Tryz.prog w base spare held fuel 117 cs = some x) :
  ∃ y : Rng, cs = [.int .i64 y.a, .int .i64 y.o, .int .i64 y.n] /\ RngFits y /\ x = (.agg [.lit (.int .i64 y.a), .lit (.int .i64 y.o), .lit (.int .i64 y.n)], []) := by
 obtain ⟨xs, k, _, hxy, hlen, hxl, hf⟩ := DataW.trod_struct Tryz.underlying117 h
 rw [show Tryz.prog.cellsOf 117 = 3 from by kernel_rfl] at hlen
 match xs, hxl, cs, hlen with
 | [y0, y1, y2], _, [v0, v1, v2], _ =>
  have c3 : Tryz.prog.cellsOf 3 = 1 := by kernel_rfl
  have g0 := hf 0 _ rfl
  have g1 := hf 1 _ rfl
  have g2 := hf 2 _ rfl
  simp [c3] at g0 g1 g2
  obtain ⟨n0, e0, d0, f0⟩ := DataW.trod_int Tryz.underlying3 g0
  obtain ⟨n1, e1, d1, f1⟩ := DataW.trod_int Tryz.underlying3 g1
  obtain ⟨n2, e2, d2, f2⟩ := DataW.trod_int Tryz.underlying3 g2
  simp at e0 e1 e2
  subst e0 e1 e2 d0 d1 d2
  exact ⟨⟨n0, n1, n2⟩, rfl, ⟨f0, f1, f2⟩, by rw [hxy]; rfl⟩
theorem open_rngs {H : Type} {enc : TypeId × Value -> H} {W : World} {a : Option Addr} {len cap : Nat} {d : DataW H} {p : List MemPlace} (h : DataW.Trod enc Tryz.prog W 0 (fun _ => true) true 38 (.slice a len cap) d p) :
  ∃ l : List Rng, Rngs W a len l /\ (∀ x ∈ l, RngFits x) /\ len <= cap /\ cap <= maxLen /\ (a = none -> cap = 0) /\ (∀ x, a = some x -> 0 < cap -> x.spot = none) /\ (len = 0 \/ ∃ elems spare, d = .slice elems spare /\ len <= elems.length /\ cap <= elems.length + spare.length) := by
 obtain ⟨fuel, hf⟩ := h
 have hc4 : Tryz.prog.cellsOf 117 = 3 := by kernel_rfl
 rcases Deep.open_slice Tryz.underlying38 hf with ⟨hcs, hx⟩ | ⟨x, l, c, m, n, D, Pl, hcs, _, hl, hm, hmm, hx, hD⟩
 ·simp [Value.cells] at hcs
  obtain ⟨rfl, rfl, rfl⟩ := hcs
  exact ⟨[], ⟨rfl, .inl rfl⟩, by simp, Nat.le_refl _, Nat.zero_le _, fun _ => rfl, fun _ _ h => absurd h (by omega), .inl rfl⟩
 ·simp [Value.cells] at hcs
  obtain ⟨rfl, rfl, rfl⟩ := hcs
  simp only [if_true] at hmm
  subst hmm
  rw [hc4] at hD
  have each : ∀ i, i < m -> ∃ y : Rng, RngFits y /\ W.cell? (x.add (i * 3)) = some (.int .i64 y.a) /\ W.cell? ((x.add (i * 3)).add 1) = some (.int .i64 y.o) /\ W.cell? ((x.add (i * 3)).add 2) = some (.int .i64 y.n) := by
   intro i hi
   obtain ⟨cs', h1, h2⟩ := hD i hi
   obtain ⟨_, _, hcell⟩ := World.cells?_some h1
   obtain ⟨y, rfl, hy, _⟩ := rng_of_cells h2
   refine ⟨y, hy, ?_, hcell 1 (by omega), hcell 2 (by omega)⟩
   have := hcell 0 (by omega)
   rw [show (x.add (i * 3)).add 0 = x.add (i * 3) from by obtain ⟨b, o, s⟩ := x; cases s <;> simp [Addr.add]] at this
   exact this
  haveI : Inhabited Rng := ⟨⟨0, 0, 0⟩⟩
  obtain ⟨Y, hY⟩ := Deep.choose_lt each
  have hspot : 0 < m -> x.spot = none := by
   intro h0
   have := World.cell?_spot (hY 0 h0).2.1
   obtain ⟨b, o, s⟩ := x
   simpa [Addr.add] using this
  refine ⟨(List.range len).map Y, ⟨by simp, ?_⟩, ?_, hl, hm, (fun e => by cases e), (fun z e h0 => by cases e; exact hspot h0), .inr ⟨_, _, congrArg Prod.fst hx, by simp, by simp; omega⟩⟩
  ·rcases Nat.eq_zero_or_pos len with h0 | h0
   ·exact .inl h0
   ·obtain ⟨b, o, s⟩ := x
    obtain rfl : s = none := hspot (by omega)
    refine .inr ⟨b, o, rfl, ?_, fun i y hy => ?_⟩
    ·have := (hY 0 (by omega)).2.1
     rw [add_none] at this
     rcases Nat.lt_or_ge b W.heap.size with hlt | hge
     ·exact hlt
     ·simp [World.cell?, Array.getElem?_eq_none hge] at this
    ·have hi : i < len := by
      have := (List.getElem?_eq_some_iff.1 hy).1
      simpa using this
     obtain rfl : Y i = y := by simpa [List.getElem?_map, List.getElem?_range hi] using hy
     have := (hY i (by omega)).2
     simp only [add_none] at this
     exact this
  ·intro y hy
   obtain ⟨i, hi, rfl⟩ := List.mem_map.1 hy
   exact (hY i (by have := List.mem_range.1 hi; omega)).1
end Go.Proofs.YtbkpehfaofhmaaaGreatDoor

/- DBP8Small: pos's small functions (isWithin, isLeft, and of a part: begin, end, isInner, isOuter, goal): what they return; nothing that lay before is turned. -/
namespace Go.Proofs.YtbkpehfaofhmaaaGreatDoor
open Go.RowKit
set_option maxHeartbeats 400000 in
theorem within_calls (n : Int) (w : World) : Calls Tryz.prog 61 #[.int .i64 n] w fun e w' => e = .returned (.bool (withinP n)) /\ w' = w := by
 unfold withinP
 cases h1 : decide (0 <= n)
 all_goals
  go_enter Tryz.func61, Tryz.ntmps61
  go_wp2
  go_ret
  exact ⟨rfl, rfl⟩
set_option maxHeartbeats 400000 in
theorem left_calls (s : Int) (w : World) : Calls Tryz.prog 154 #[.int .i64 s] w fun e w' => e = .returned (.bool (decide (s < 0))) /\ w' = w := by
 go_enter Tryz.func154, Tryz.ntmps154
 go_wp2
 go_ret
 exact ⟨rfl, rfl⟩
def Small (n : Int) : Prop := -4294967296 <= n /\ n <= 4294967296
set_option maxHeartbeats 400000 in
theorem begin_calls (x : Rng) (i d : Int) (w : World) (hx : Small x.a) (hd : Small d) : Calls Tryz.prog 153 #[partV x i d] w fun e w' => e = .returned (.int .i64 (x.a + d)) /\ Below w.heap.size w w' := by
 obtain ⟨a, o, n⟩ := x
 unfold Small at *
 simp only [partV] at *
 go_enter Tryz.func153, Tryz.ntmps153
 go_wp2
 go_ret
 exact ⟨rfl, (Below.refl _ _).alloc (Nat.le_refl _) _⟩
set_option maxHeartbeats 400000 in
theorem end_calls (x : Rng) (i d : Int) (w : World) (hx : Small x.a) (ho : Small x.o) : Calls Tryz.prog 93 #[partV x i d] w fun e w' => e = .returned (.int .i64 (x.a + x.o)) /\ Below w.heap.size w w' := by
 obtain ⟨a, o, n⟩ := x
 unfold Small at *
 simp only [partV] at *
 go_enter Tryz.func93, Tryz.ntmps93
 go_wp2
 go_ret
 exact ⟨rfl, (Below.refl _ _).alloc (Nat.le_refl _) _⟩
set_option maxHeartbeats 1000000 in
theorem inner_calls (x : Rng) (i d p : Int) (w : World) (hx : Small x.a) (ho : Small x.o) : Calls Tryz.prog 122 #[partV x i d, .int .i64 p] w fun e w' => e = .returned (.bool (inner x p)) /\ Below w.heap.size w w' := by
 have c1 := fun W => end_calls x i d W hx ho
 obtain ⟨a, o, n⟩ := x
 unfold Small at *
 simp only [partV, inner] at *
 cases h1 : decide (a < p)
 ·simp only [Bool.false_and]
  go_enter Tryz.func122, Tryz.ntmps122
  go_wp2_with fail
  go_ret
  exact ⟨rfl, (Below.refl _ _).alloc (Nat.le_refl _) _⟩
 ·simp only [Bool.true_and]
  go_enter Tryz.func122, Tryz.ntmps122
  go_wp2_with fail
  refine (c1 _).mono ?_
  rintro e W1 ⟨rfl, hB1⟩
  have hB := ((Below.refl w.heap.size w).alloc (Nat.le_refl _) (.cells #[.int .i64 a, .int .i64 o, .int .i64 n, .int .i64 i, .int .i64 d] 153)).trans (hB1.mono (by simp))
  go_wp2
  go_ret
  exact ⟨rfl, hB⟩
set_option maxHeartbeats 1000000 in
theorem outer_calls (x : Rng) (i d p side : Int) (w : World) (hx : Small x.a) (ho : Small x.o) : Calls Tryz.prog 123 #[partV x i d, .int .i64 p, .int .i64 side] w fun e w' => e = .returned (.bool (outer x p side)) /\ Below w.heap.size w w' := by
 have c1 := fun W => end_calls x i d W hx ho
 have c2 := fun W => left_calls side W
 obtain ⟨a, o, n⟩ := x
 unfold Small at *
 simp only [partV, outer] at *
 by_cases h1 : side < 0
 ·rw [if_pos h1]
  rw [show decide (side < 0) = true from by simpa using h1] at c2
  clear h1
  go_enter Tryz.func123, Tryz.ntmps123
  go_wp2_with fail
  refine (c2 _).mono ?_
  rintro e w' ⟨rfl, rfl⟩
  go_wp2_with fail
  go_ret
  exact ⟨rfl, (Below.refl _ _).alloc (Nat.le_refl _) _⟩
 ·rw [if_neg h1]
  rw [show decide (side < 0) = false from by simpa using h1] at c2
  clear h1
  go_enter Tryz.func123, Tryz.ntmps123
  go_wp2_with fail
  refine (c2 _).mono ?_
  rintro e w' ⟨rfl, rfl⟩
  go_wp2_with fail
  refine (c1 _).mono ?_
  rintro e W1 ⟨rfl, hB1⟩
  have hB := ((Below.refl w.heap.size w).alloc (Nat.le_refl _) (.cells #[.int .i64 a, .int .i64 o, .int .i64 n, .int .i64 i, .int .i64 d] 153)).trans (hB1.mono (by simp))
  go_wp2
  go_ret
  exact ⟨rfl, hB⟩
end Go.Proofs.YtbkpehfaofhmaaaGreatDoor

/- DBP8Held: how a region that draws its order is taken, one operation at a time, also withinP a round of a loop over an iterator. -/
namespace Go.Proofs.YtbkpehfaofhmaaaGreatDoor
open Go.RowKit
def onlyN (Q : Exit -> Act -> World -> Prop) : Exit -> Act -> World -> Prop
 | .normal, a, w => Q .normal a w
 | _, _, _ => False
def noDefer (ops : Array Oper) : Bool := ops.all fun o => match o.op with
 | .defer _ => false
 | _ => true
theorem noDefer_spec {ops : Array Oper} (h : noDefer ops = true) {i : Nat} {o : Oper} (ho : ops[i]? = some o) : ∀ c, o.op ≠ .defer c := by
 intro c e
 obtain ⟨hi, rfl⟩ := Array.getElem?_eq_some_iff.1 ho
 have := Array.all_eq_true.1 h i hi
 simp only [e] at this
 cases this
theorem wpIn_of_wp {P : Program} {o : Oper} {a : Act} {w : World} {K : Act -> World -> Prop} {Q : Exit -> Act -> World -> Prop} {l n : Nat} (hd : ∀ c, o.op ≠ .defer c) (h : o.wp P a w K (onlyN Q)) : o.wpIn (Fence.wide.inRound l) n P a w K Q := by
 unfold Oper.wpIn
 refine ⟨fun _ _ => trivial, ?_⟩
 rw [Oper.semAt_eq _ _ _ hd]
 unfold Oper.wp at h
 generalize (execOp a.eval o).run P w = r at h
 cases r with
 | ok x w' =>
  cases x with
  | value v => exact h
  | skip => exact h
  | defer d => exact h
  | enter f args =>
   refine ⟨(fun e => by cases e), CallsIn.inRound l (callsIn_wide.2 (h.mono ?_))⟩
   intro e w'' he
   cases e with
   | returned v => exact he
   | panicked c => exact he.elim
   | outgrown => obtain ⟨_, _, h⟩ := he; exact h.elim
  | row row args =>
   refine ⟨(fun e => by cases e), fun c cs _ => ?_⟩
   obtain ⟨v, w', r, s⟩ := h c cs
   exact ⟨v, w', r, stepsIn_wide.2 s⟩
  | _ => exact h.elim
 | halt x w' =>
  cases x with
  | panic v => exact h.elim
  | _ => exact h.elim
theorem wpAnyIn_of_any {P : Program} {md : Region.Mode} {ops : Array Oper} {Q : Exit -> Act -> World -> Prop} {l n : Nat} (hd : noDefer ops = true) : ∀ (fuel : Nat) (listed : Array Bool) (a : Act) (w : World), wpAny P md ops (onlyN Q) fuel listed a w -> wpAnyIn (Fence.wide.inRound l) n P md ops Q fuel listed a w
 | 0, _, _, _, h => h
 | fuel + 1, listed, a, w, h => by
  refine ⟨h.1, fun i hi => ?_⟩
  have h2 := wpOp_mono (fun a' w' h' => wpAnyIn_of_any (n := n) (l := l) hd fuel (listed.setIfInBounds i true) a' w' h') (h.2 i hi)
  unfold wpOp at h2
  unfold wpOpIn
  split
  ·rename_i e
   simp only [e] at h2
   exact h2
  ·rename_i o ho
   simp only [ho] at h2
   split
   ·rename_i hw
    simp only [hw, if_true] at h2
    rcases h2 with h2 | ⟨_, _, _, h2⟩
    ·exact wpIn_of_wp (noDefer_spec hd ho) h2
    ·exact h2.elim
   ·rename_i hw
    simp only [hw] at h2
    exact ⟨fun _ _ => trivial, h2⟩
theorem wpIn_round_held {P : Program} {S : World -> Prop} {id : Nat} {ops : Array Oper} {Q : Exit -> Act -> World -> Prop} {a : Act} {w : World} {l n : Nat} (hm : P.follows .mixedOrders = true) (hd : noDefer ops = true) (hS : S w.drew)
  (h : S w.drew -> wpAnyH P .any ops (onlyN Q) S ops.size (Array.replicate ops.size false) a w.drew) : (Code.region id ops true).wpIn (Fence.wide.inRound l) n P Q a w :=
 wpIn_region_any hm (wpAnyIn_of_any hd _ _ _ _ (wpAny_of_held _ _ _ _ (h hS)))
theorem below_drewNP {n : Nat} {w w' : World} (h : Below n w w') (k : Nat) : Below n w (w'.drewN k) := ⟨h.os, h.tape, h.output, h.size, h.block⟩
theorem put4 {w : World} {B : Nat} {a b c d : Value} {t : TypeId} (h : w.heap[B]? = some (.cells #[a, b, c, d] t (0, 0))) (a' b' c' d' : Value) : ((((w.setCell ⟨B, 0, none⟩ a').setCell ⟨B, 1, none⟩ b').setCell ⟨B, 2, none⟩ c').setCell ⟨B, 3, none⟩ d').heap[B]? = some (.cells #[a', b', c', d'] t (0, 0)) := by
 have h1 := heap_setCell_same w B 0 _ t a' h
 have h2 := heap_setCell_same _ B 1 _ t b' h1
 have h3 := heap_setCell_same _ B 2 _ t c' h2
 exact heap_setCell_same _ B 3 _ t d' h3
theorem below4 {n : Nat} {w v : World} (h : Below n w v) {B : Nat} (hB : n <= B) (a' b' c' d' : Value) : Below n w ((((v.setCell ⟨B, 0, none⟩ a').setCell ⟨B, 1, none⟩ b').setCell ⟨B, 2, none⟩ c').setCell ⟨B, 3, none⟩ d') :=
 (((h.setCell (p := ⟨B, 0, none⟩) hB _).setCell (p := ⟨B, 1, none⟩) hB _).setCell (p := ⟨B, 2, none⟩) hB _).setCell (p := ⟨B, 3, none⟩) hB _
theorem laid1 (w : World) (o0 : Obj) {k : Nat} {o : Obj} (h : w.heap[k]? = some o) : (w.alloc o0).heap[k]? = some o := (Below.heap_alloc w _ k (Array.getElem?_eq_some_iff.1 h).1).trans h
theorem laid2 (w : World) (o0 o1 : Obj) : ((w.alloc o0).alloc o1).heap[w.heap.size]? = some o0 /\ ((w.alloc o0).alloc o1).heap[w.heap.size + 1]? = some o1 := by
 refine ⟨laid1 _ _ (World.alloc_heap_new w o0), ?_⟩
 have := World.alloc_heap_new (w.alloc o0) o1
 rwa [World.size_alloc] at this
theorem laid3P (w : World) (o0 o1 o2 : Obj) : (((w.alloc o0).alloc o1).alloc o2).heap[w.heap.size]? = some o0 /\ (((w.alloc o0).alloc o1).alloc o2).heap[w.heap.size + 1]? = some o1 /\ (((w.alloc o0).alloc o1).alloc o2).heap[w.heap.size + 1 + 1]? = some o2 := by
 obtain ⟨h0, h1⟩ := laid2 w o0 o1
 have := World.alloc_heap_new ((w.alloc o0).alloc o1) o2
 rw [World.size_alloc, World.size_alloc] at this
 exact ⟨laid1 _ _ h0, laid1 _ _ h1, this⟩
theorem laid4 (w : World) (o0 o1 o2 o3 : Obj) : ((((w.alloc o0).alloc o1).alloc o2).alloc o3).heap[w.heap.size]? = some o0 /\ ((((w.alloc o0).alloc o1).alloc o2).alloc o3).heap[w.heap.size + 1]? = some o1 /\ ((((w.alloc o0).alloc o1).alloc o2).alloc o3).heap[w.heap.size + 1 + 1]? = some o2 /\ ((((w.alloc o0).alloc o1).alloc o2).alloc o3).heap[w.heap.size + 1 + 1 + 1]? = some o3 := by
 obtain ⟨h0, h1, h2⟩ := laid3P w o0 o1 o2
 have := World.alloc_heap_new (((w.alloc o0).alloc o1).alloc o2) o3
 rw [World.size_alloc, World.size_alloc, World.size_alloc] at this
 exact ⟨laid1 _ _ h0, laid1 _ _ h1, laid1 _ _ h2, this⟩
theorem laid5 (w : World) (o0 o1 o2 o3 o4 : Obj) : (((((w.alloc o0).alloc o1).alloc o2).alloc o3).alloc o4).heap[w.heap.size]? = some o0 /\ (((((w.alloc o0).alloc o1).alloc o2).alloc o3).alloc o4).heap[w.heap.size + 1]? = some o1 /\ (((((w.alloc o0).alloc o1).alloc o2).alloc o3).alloc o4).heap[w.heap.size + 1 + 1]? = some o2 /\ (((((w.alloc o0).alloc o1).alloc o2).alloc o3).alloc o4).heap[w.heap.size + 1 + 1 + 1]? = some o3 /\ (((((w.alloc o0).alloc o1).alloc o2).alloc o3).alloc o4).heap[w.heap.size + 1 + 1 + 1 + 1]? = some o4 := by
 obtain ⟨h0, h1, h2, h3⟩ := laid4 w o0 o1 o2 o3
 have := World.alloc_heap_new ((((w.alloc o0).alloc o1).alloc o2).alloc o3) o4
 rw [World.size_alloc, World.size_alloc, World.size_alloc, World.size_alloc] at this
 exact ⟨laid1 _ _ h0, laid1 _ _ h1, laid1 _ _ h2, laid1 _ _ h3, this⟩
theorem mixed : Tryz.prog.follows .mixedOrders = true := by kernel_rfl
end Go.Proofs.YtbkpehfaofhmaaaGreatDoor

/- DBP8Parts: the iterator that pos.parts hands back gives each range of a right map, with its number and the sum ahead of it, to whatever loop body that keeps the map. -/
namespace Go.Proofs.YtbkpehfaofhmaaaGreatDoor
open Go.RowKit Go.Shelf
attribute [local go_sem] Oper.semAt_some
def nth (l : List Rng) (k : Nat) : Rng := (l[k]?).getD ⟨0, 0, 0⟩
theorem nth_some {l : List Rng} {k : Nat} {x : Rng} (h : l[k]? = some x) : nth l k = x := by unfold nth; rw [h]; rfl
def stepP (l : List Rng) {N : Nat} (i : Fin N) : Array Value := #[partV (nth l i.val) (i.val : Int) (shiftL (l.take i.val))]
def KpP (n₀ m b : Nat) (R : Option Obj -> Nat -> Prop) (W W' : World) : Prop :=
 W.heap.size <= W'.heap.size /\ (∀ k c t fr, W.heap[k]? = some (.cells c t fr) -> (k < n₀ \/ m <= k) -> ¬ R W.heap[b]? k -> W'.heap[k]? = W.heap[k]?) ∧
  ∀ k, R W'.heap[b]? k -> R W.heap[b]? k \/ (W.heap.size <= k /\ k < W'.heap.size)
theorem KpP.trans {n₀ m b : Nat} {R : Option Obj -> Nat -> Prop} {A B C : World} (h : KpP n₀ m b R A B) (k : KpP n₀ m b R B C) : KpP n₀ m b R A C := by
 obtain ⟨h1, h2, h3⟩ := h
 obtain ⟨k1, k2, k3⟩ := k
 refine ⟨Nat.le_trans h1 k1, fun i c t fr hi hn hr => ?_, fun i hi => ?_⟩
 ·have e := h2 i c t fr hi hn hr
  rw [<- e]
  refine k2 i c t fr (e.trans hi) hn (fun hr' => ?_)
  rcases h3 i hr' with h | h
  ·exact hr h
  ·have := (Array.getElem?_eq_some_iff.1 hi).1
   omega
 ·rcases k3 i hi with h4 | h4
  ·rcases h3 i h4 with h5 | h5
   ·exact .inl h5
   ·exact .inr (by omega)
  ·exact .inr (by omega)
theorem KpP.put {n₀ m b : Nat} {R : Option Obj -> Nat -> Prop} {W : World} {l : Nat} {o : Obj} (o' : Obj) (hl : W.heap[l]? = some o) (ho : o.isCells = false) (hb : b ≠ l) : KpP n₀ m b R W (W.putObj l o') := by
 refine ⟨by simp, fun k c t fr hk _ _ => World.putObj_heap_other (fun e => ?_), fun k hk => ?_⟩
 ·subst e
  rw [hl] at hk
  cases hk
  cases ho
 ·rw [World.putObj_heap_other hb] at hk
  exact .inl hk
theorem cell_cells {W : World} {b j : Nat} {v : Value} (h : W.cell? ⟨b, j, none⟩ = some v) : ∃ c t fr, W.heap[b]? = some (.cells c t fr) := by
 unfold World.cell? at h
 simp only at h
 split at h
 ·rename_i c t fr e
  exact ⟨c, t, fr, e⟩
 ·cases h
theorem Rngs.cells {w : World} {a : Option Addr} {len : Nat} {l : List Rng} (h : Rngs w a len l) (h0 : 0 < len) {b o : Nat} (ha : a = some ⟨b, o, none⟩) : b < w.heap.size /\ ∃ c t fr, w.heap[b]? = some (.cells c t fr) := by
 obtain ⟨b', o', x, e, hbl, _, _, hc⟩ := h.range h0
 rw [ha] at e
 cases e
 exact ⟨hbl, cell_cells (hc w (Below.refl _ _)).1⟩
theorem takeFin {N k : Nat} (h : k < N) : (List.finRange N).take (k + 1) = (List.finRange N).take k ++ [⟨k, h⟩] := by
 rw [List.take_succ_eq_append_getElem (by simpa using h)]
 simp
set_option maxHeartbeats 1000000 in
theorem parts_in (F : Fence) (n : Nat) (h30 : F.fn 92) (hro : F.round = none) (a : Option Addr) (l c : Nat) (w : World) :
  CallsIn F n Tryz.prog 92 #[.slice a l c] w fun e w' => e = .returned (.func (.func 120) #[] #[.pointer (some ⟨w.heap.size, 0, none⟩)]) /\ w' = w.alloc (.cells #[.slice a l c] 38) := by
 refine callsIn_of_wp Tryz.func92 rfl h30 ?_ hro
 simp only [Tryz.ntmps92, List.size_toArray, List.length_cons, List.length_nil, Nat.reduceAdd, Nat.reduceSub, Array.replicate_succ, Array.replicate_zero, List.push_toArray, List.append_toArray, List.nil_append, List.cons_append]
 gi_wp2
 go_ret
 exact ⟨rfl, rfl⟩
set_option maxRecDepth 100000 in
set_option maxHeartbeats 2000000 in
theorem parts1_in (F : Fence) (n : Nat) (h38 : F.fn 120) (hro : F.round = none) (hn : 1 <= n) (li m n₀ b : Nat) (R : Option Obj -> Nat -> Prop) (a : Option Addr) (len cap : Nat) (l : List Rng) (hr : right l = true) (hlen : len <= 4)
  (J Jx : List (Fin len) -> World -> Prop) (W : World) (hJ : AbidesFrom W.heap.size J)
  (hY : ∀ pre i W1, J pre W1 -> pre.length < len -> YieldAt F (n - 1) Tryz.prog li (stepP l i) W1 fun e W' =>
   (e = .returned (.bool true) /\ J (pre ++ [i]) W' /\ KpP n₀ m b R W1 W') \/ (e = .returned (.bool false) /\ Jx (pre ++ [i]) W'))
  (hm : W.heap[m]? = some (.cells #[.slice a len cap] 38 (0, 0))) (hbm : b < m) (hnm : n₀ <= m) (hR0 : ∀ k, R W.heap[b]? k -> m < k /\ k < W.heap.size) (hrow : Rngs W a len l) (hcells : 0 < len -> ∀ p o, a = some ⟨p, o, none⟩ -> p < n₀) (h0 : J [] W) :
  CallsIn F n Tryz.prog 120 #[.func (.yield li) #[] #[], .pointer (some ⟨m, 0, none⟩)] W fun e W' => (∃ v, e = .returned v) ∧
   ((∃ ys, ys = List.finRange len /\ J ys W') \/ (∃ pre, pre <+: List.finRange len /\ Jx pre W')) := by
 refine callsIn_of_wp Tryz.func120 rfl h38 ?_ hro
 simp only [Tryz.ntmps120, List.size_toArray, List.length_cons, List.length_nil, Nat.reduceAdd, Nat.reduceSub, Array.replicate_succ, Array.replicate_zero, List.push_toArray, List.append_toArray, List.nil_append, List.cons_append]
 have hm0 : W.cell? ⟨m, 0, none⟩ = some (.slice a len cap) := cell_of_row W m 0 _ _ _ hm
 have hm1 : m < W.heap.size := (Array.getElem?_eq_some_iff.1 hm).1
 have HJ : Hid (AbidesFrom W.heap.size J) := hJ
 have HY : Hid (∀ pre i W1, J pre W1 -> pre.length < len -> YieldAt F (n - 1) Tryz.prog li (stepP l i) W1 fun e W' =>
   (e = .returned (.bool true) /\ J (pre ++ [i]) W' /\ KpP n₀ m b R W1 W') \/ (e = .returned (.bool false) /\ Jx (pre ++ [i]) W')) := hY
 have HC : Hid (0 < len -> ∀ p o, a = some ⟨p, o, none⟩ -> p < n₀ /\ ∃ c t fr, W.heap[p]? = some (.cells c t fr)) := fun h p o e => ⟨hcells h p o e, (hrow.cells h e).2⟩
 clear hJ hY hcells
 gi_wp2
 gi_loopw [3, 8] (fun u q wr => ∃ k : Nat, k <= len /\ u = .int .i64 (shiftL (l.take k)) /\ q = .int .i64 (k : Int) /\ J ((List.finRange len).take k) wr /\ (∀ i, R wr.heap[b]? i -> m < i /\ i < wr.heap.size) /\ W.heap.size <= wr.heap.size /\ (0 < len -> ∀ p o, a = some ⟨p, o, none⟩ -> wr.heap[p]? = W.heap[p]?))
  (fun _ q _ => len - (intOf q).toNat)
 case atStart => exact ⟨0, by omega, rfl, rfl, h0, hR0, Nat.le_refl _, fun _ _ _ _ => rfl⟩
 case round =>
  obtain ⟨k, hk, rfl, rfl, hJs, hRi, hsz, hrw⟩ := hrel
  by_cases hlt : k < len
  ·have hrow' := hrow.same hrw
   obtain ⟨p, o, x, rfl, hbl, hx, _, hc⟩ := hrow'.range hlt
   obtain ⟨p0, p1, p2⟩ := hc wr (Below.refl _ _)
   obtain ⟨hp1, c0, t0, fr0, hp2⟩ := HC.out (by omega) p o rfl
   have hb1 := shift_take hr k
   have hss := shift_succ hx
   have hx' := rightL_all (right_len hr).2 x (List.mem_of_getElem? hx)
   have hJ1 : J ((List.finRange len).take k) (wr.alloc (.cells #[.int .i64 x.a, .int .i64 x.o, .int .i64 x.n] 117)) := HJ.out _ _ _ none hJs (World.grownBy_alloc wr _ none) (fun r e => by cases e)
   obtain ⟨fn, tmps, assign, body, hy, hY1⟩ := HY.out _ ⟨k, hlt⟩ _ hJ1 (by simp; omega)
   unfold stepP at hy
   simp only [nth_some hx] at hy
   have HX : Hid (shiftL (l.take (k + 1)) = shiftL (l.take k) + x.n - x.o) := hss
   obtain ⟨xa, xo, xn⟩ := x
   simp only [partV] at *
   generalize shiftL (l.take k) = d at *
   have HK : Hid (∀ W3, KpP n₀ m b R (wr.alloc (.cells #[.int .i64 xa, .int .i64 xo, .int .i64 xn] 117)) W3 -> W3.heap[wr.heap.size]? = some (.cells #[.int .i64 xa, .int .i64 xo, .int .i64 xn] 117 (0, 0)) /\ (∀ i, R W3.heap[b]? i -> m < i /\ i < W3.heap.size) /\ W.heap.size <= W3.heap.size /\ (0 < len -> ∀ p' o', (some ⟨p, o, none⟩ : Option Addr) = some ⟨p', o', none⟩ -> W3.heap[p']? = W.heap[p']?)) := by
    rintro W3 ⟨q1, q2, q3⟩
    have hnew := World.alloc_heap_new wr (.cells #[.int .i64 xa, .int .i64 xo, .int .i64 xn] 117)
    have hbb : (wr.alloc (.cells #[.int .i64 xa, .int .i64 xo, .int .i64 xn] 117)).heap[b]? = wr.heap[b]? := Below.heap_alloc _ _ _ (by omega)
    rw [hbb] at q2 q3
    simp only [World.size_alloc] at q1 q3
    refine ⟨(q2 _ _ _ _ hnew (by omega) (fun h => ?_)).trans hnew, fun i hi => ?_, by omega, fun _ p' o' e => ?_⟩
    ·have := (hRi _ h).2
     omega
    ·rcases q3 i hi with h1 | h1
     ·have := hRi i h1
      omega
     ·omega
    ·cases e
     have h1 : (wr.alloc (.cells #[.int .i64 xa, .int .i64 xo, .int .i64 xn] 117)).heap[p]? = some (.cells c0 t0 fr0) := by
      rw [Below.heap_alloc _ _ _ hbl, hrw (by omega) p o rfl]
      exact hp2
     rw [q2 p _ _ _ h1 (.inl hp1) (fun h => by have := (hRi p h).1; omega), h1, hp2]
   clear hx hss hc hrow hrow' hRi hrw hJs hJ1
   gi_wp2
   refine hY1.mono ?_
   rintro e W3 (⟨rfl, hJ3, hk3⟩ | ⟨rfl, hJx3⟩)
   ·obtain ⟨b3, hR3, hs3, hw3⟩ := HK.out W3 hk3
    have e0 := cell_of_row W3 wr.heap.size 0 _ _ _ b3
    have e1 := cell_of_row W3 wr.heap.size 1 _ _ _ b3
    have e2 := cell_of_row W3 wr.heap.size 2 _ _ _ b3
    simp only [List.getElem?_toArray, List.getElem?_cons_zero, List.getElem?_cons_succ] at e0 e1 e2
    have HR3 : Hid (∀ i, R W3.heap[b]? i -> m < i /\ i < W3.heap.size) := hR3
    have HW3 : Hid (0 < len -> ∀ p' o', (some ⟨p, o, none⟩ : Option Addr) = some ⟨p', o', none⟩ -> W3.heap[p']? = W.heap[p']?) := hw3
    clear hR3 hw3 b3 hk3
    gi_wp2
    go_roundw
    case rel => exact ⟨k + 1, by omega, by rw [HX.out]; go_num, by go_num, by rw [takeFin hlt]; exact hJ3, HR3.out, hs3, HW3.out⟩
    case measure => simp [intOf]; omega
   ·gi_wp2
    refine bodyPost_ret (results_none rfl _ _ _) rfl ?_
    exact ⟨⟨_, rfl⟩, .inr ⟨_, by rw [<- takeFin hlt]; exact List.take_prefix _ _, hJx3⟩⟩
  ·obtain rfl : k = len := by omega
   clear hRi hrw hrow
   gi_wp2
   go_end0
   rw [List.take_of_length_le (by simp)] at hJs
   exact ⟨⟨_, rfl⟩, Or.inl ⟨_, rfl, hJs⟩⟩
end Go.Proofs.YtbkpehfaofhmaaaGreatDoor

/- DBP8Goal: a part's goal: what it returns; nothing that lay before is turned. -/
namespace Go.Proofs.YtbkpehfaofhmaaaGreatDoor
open Go.RowKit
set_option maxRecDepth 100000 in
set_option maxHeartbeats 2000000 in
theorem goal_calls (x : Rng) (i d p side : Int) (w : World) (hx : Small x.a) (ho : Small x.o) (hn : Small x.n) (hd : Small d) : Calls Tryz.prog 121 #[partV x i d, .int .i64 p, .int .i64 side] w fun e w' => e = .returned (.int .i64 (goal x d p side)) /\ Below w.heap.size w w' := by
 have c1 := fun W => begin_calls x i d W hx hd
 have c2 := fun W => inner_calls x i d p W hx ho
 have c3 := fun W => end_calls x i d W hx ho
 have c4 := fun W => left_calls side W
 obtain ⟨W0, hW0⟩ : ∃ W0, w.alloc (.cells #[.int .i64 x.a, .int .i64 x.o, .int .i64 x.n, .int .i64 i, .int .i64 d] 153) = W0 := ⟨_, rfl⟩
 have hB0 : Below w.heap.size w W0 := by rw [<- hW0]; exact (Below.refl _ _).alloc (Nat.le_refl _) _
 have hs0 : w.heap.size < W0.heap.size := by rw [<- hW0]; simp
 have m0 : W0.heap[w.heap.size]? = some (.cells #[.int .i64 x.a, .int .i64 x.o, .int .i64 x.n, .int .i64 i, .int .i64 d] 153 (0, 0)) := by rw [<- hW0]; exact World.alloc_heap_new w _
 have k := fun W (hW : Below W0.heap.size W0 W) => cells5 ((hW.block _ hs0).trans m0)
 have HW0 : Hid (w.alloc (.cells #[.int .i64 x.a, .int .i64 x.o, .int .i64 x.n, .int .i64 i, .int .i64 d] 153) = W0) := hW0
 have K : Hid (∀ W, Below W0.heap.size W0 W -> W.cell? ⟨w.heap.size, 0, none⟩ = some (.int .i64 x.a) /\ W.cell? ⟨w.heap.size, 1, none⟩ = some (.int .i64 x.o) /\ W.cell? ⟨w.heap.size, 2, none⟩ = some (.int .i64 x.n) /\ W.cell? ⟨w.heap.size, 3, none⟩ = some (.int .i64 i) /\ W.cell? ⟨w.heap.size, 4, none⟩ = some (.int .i64 d)) := k
 clear k hW0 m0
 obtain ⟨a, o, n⟩ := x
 unfold Small at *
 simp only [partV, goal] at *
 generalize inner ⟨a, o, n⟩ p = q at *
 by_cases h0 : o = 0
 ·subst h0
  rw [if_pos (.inl rfl)]
  by_cases hs : side < 0
  ·rw [if_pos hs]
   rw [show decide (side < 0) = true from by simpa using hs] at c4
   clear hs
   go_enter Tryz.func121, Tryz.ntmps121
   go_wp2_with fail
   rw [HW0.out]
   obtain ⟨k0, k1, k2, k3, k4⟩ := K.out W0 (Below.refl _ _)
   refine (c1 _).mono ?_
   rintro e W1 ⟨rfl, hB1⟩
   obtain ⟨k0, k1, k2, k3, k4⟩ := K.out W1 hB1
   have hB := hB0.trans (hB1.mono hB0.size)
   go_wp2_with fail
   refine (c4 _).mono ?_
   rintro e w' ⟨rfl, rfl⟩
   go_wp2
   go_ret
   exact ⟨rfl, hB⟩
  ·rw [if_neg hs]
   rw [show decide (side < 0) = false from by simpa using hs] at c4
   clear hs
   go_enter Tryz.func121, Tryz.ntmps121
   go_wp2_with fail
   rw [HW0.out]
   refine (c1 _).mono ?_
   rintro e W1 ⟨rfl, hB1⟩
   obtain ⟨k0, k1, k2, k3, k4⟩ := K.out W1 hB1
   have hB := hB0.trans (hB1.mono hB0.size)
   go_wp2_with fail
   refine (c4 _).mono ?_
   rintro e w' ⟨rfl, rfl⟩
   go_wp2
   go_ret
   exact ⟨rfl, hB⟩
 ·have e0 : (o == 0) = false := by simpa using h0
  cases q with
  | true =>
   rw [if_pos (.inr rfl)]
   by_cases hs : side < 0
   ·rw [if_pos hs]
    rw [show decide (side < 0) = true from by simpa using hs] at c4
    clear hs
    go_enter Tryz.func121, Tryz.ntmps121
    go_wp2_with fail
    rw [HW0.out]
    refine (c1 _).mono ?_
    rintro e W1 ⟨rfl, hB1⟩
    obtain ⟨k0, k1, k2, k3, k4⟩ := K.out W1 hB1
    go_wp2_with fail
    refine (c2 _).mono ?_
    rintro e W2 ⟨rfl, hB2⟩
    have hB3 := hB1.trans (hB2.mono hB1.size)
    clear k0 k1 k2 k3 k4
    obtain ⟨k0, k1, k2, k3, k4⟩ := K.out W2 hB3
    have hB := hB0.trans (hB3.mono hB0.size)
    go_wp2_with fail
    refine (c4 _).mono ?_
    rintro e w' ⟨rfl, rfl⟩
    go_wp2
    go_ret
    exact ⟨rfl, hB⟩
   ·rw [if_neg hs]
    rw [show decide (side < 0) = false from by simpa using hs] at c4
    clear hs
    go_enter Tryz.func121, Tryz.ntmps121
    go_wp2_with fail
    rw [HW0.out]
    refine (c1 _).mono ?_
    rintro e W1 ⟨rfl, hB1⟩
    obtain ⟨k0, k1, k2, k3, k4⟩ := K.out W1 hB1
    go_wp2_with fail
    refine (c2 _).mono ?_
    rintro e W2 ⟨rfl, hB2⟩
    have hB3 := hB1.trans (hB2.mono hB1.size)
    clear k0 k1 k2 k3 k4
    obtain ⟨k0, k1, k2, k3, k4⟩ := K.out W2 hB3
    have hB := hB0.trans (hB3.mono hB0.size)
    go_wp2_with fail
    refine (c4 _).mono ?_
    rintro e w' ⟨rfl, rfl⟩
    go_wp2
    go_ret
    exact ⟨rfl, hB⟩
  | false =>
   rw [if_neg (by simp [h0])]
   by_cases hp : p = a + o
   ·rw [if_pos hp]
    have ep : (p == a + o) = true := by simpa using hp
    clear hp
    go_enter Tryz.func121, Tryz.ntmps121
    go_wp2_with fail
    rw [HW0.out]
    refine (c1 _).mono ?_
    rintro e W1 ⟨rfl, hB1⟩
    obtain ⟨k0, k1, k2, k3, k4⟩ := K.out W1 hB1
    go_wp2_with fail
    refine (c2 _).mono ?_
    rintro e W2 ⟨rfl, hB2⟩
    have hB3 := hB1.trans (hB2.mono hB1.size)
    clear k0 k1 k2 k3 k4
    obtain ⟨k0, k1, k2, k3, k4⟩ := K.out W2 hB3
    go_wp2_with fail
    refine (c3 _).mono ?_
    rintro e W3 ⟨rfl, hB4⟩
    have hB5 := hB3.trans (hB4.mono hB3.size)
    clear k0 k1 k2 k3 k4
    obtain ⟨k0, k1, k2, k3, k4⟩ := K.out W3 hB5
    have hB := hB0.trans (hB5.mono hB0.size)
    go_wp2
    go_ret
    exact ⟨rfl, hB⟩
   ·rw [if_neg hp]
    have ep : (p == a + o) = false := by simpa using hp
    clear hp
    go_enter Tryz.func121, Tryz.ntmps121
    go_wp2_with fail
    rw [HW0.out]
    refine (c1 _).mono ?_
    rintro e W1 ⟨rfl, hB1⟩
    obtain ⟨k0, k1, k2, k3, k4⟩ := K.out W1 hB1
    go_wp2_with fail
    refine (c2 _).mono ?_
    rintro e W2 ⟨rfl, hB2⟩
    have hB3 := hB1.trans (hB2.mono hB1.size)
    clear k0 k1 k2 k3 k4
    obtain ⟨k0, k1, k2, k3, k4⟩ := K.out W2 hB3
    go_wp2_with fail
    refine (c3 _).mono ?_
    rintro e W3 ⟨rfl, hB4⟩
    have hB5 := hB3.trans (hB4.mono hB3.size)
    have hB := hB0.trans (hB5.mono hB0.size)
    go_wp2
    go_ret
    exact ⟨rfl, hB⟩
end Go.Proofs.YtbkpehfaofhmaaaGreatDoor
