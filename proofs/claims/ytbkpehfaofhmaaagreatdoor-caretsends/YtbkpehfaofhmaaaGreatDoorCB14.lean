/-
  PROVED HERE: what the texts DBPlan, DBAdd, DBFork, DBNext say (each has its own words below).
-/
import Derived.Test.YtbkpehfaofhmaaaGreatDoorCB13
import Derived.OwnWalkIn
import Derived.Maps.AppendAt
import Derived.ProofKit
import Derived.Laws.Tables
import Derived.Laws.CopyOwn
import Derived.Laws.ResultCell
import Derived.RangeFuncBox
import Derived.Test.YtbkpehfaofhmaaaGreatDoorCB3
/- DBPlan: places in memory: a plan whose blocks all lie where A says; what a place more makes of it. -/
namespace Go.Proofs.YtbkpehfaofhmaaaGreatDoor
open Go.RowKit
abbrev RawP : Type := Nat × Value × Nat
def rowP : List RawP -> List Value
 | [] => []
 | x :: r => .int .u16 (x.1 : Int) :: x.2.1 :: .int .i64 (x.2.2 : Int) :: rowP r
theorem rowP_append (l m : List RawP) : rowP (l ++ m) = rowP l ++ rowP m := by
 induction l with
 | nil => rfl
 | cons x r ih => simp [rowP, ih]
theorem rowP_length (l : List RawP) : (rowP l).length = l.length * 3 := by
 induction l with
 | nil => rfl
 | cons x r ih => simp [rowP, ih]; omega
theorem rowP_at (l : List RawP) (i : Nat) (x : RawP) (h : l[i]? = some x) : (rowP l)[i * 3]? = some (.int .u16 (x.1 : Int)) /\ (rowP l)[i * 3 + 1]? = some x.2.1 /\ (rowP l)[i * 3 + 2]? = some (.int .i64 (x.2.2 : Int)) := by
 induction l generalizing i with
 | nil => simp at h
 | cons y r ih =>
  cases i with
  | zero =>
   obtain rfl : y = x := by simpa using h
   exact ⟨rfl, rfl, rfl⟩
  | succ i =>
   have := ih i (by simpa using h)
   rw [show (i + 1) * 3 = i * 3 + 3 from by omega, show i * 3 + 3 + 1 = i * 3 + 1 + 3 from by omega, show i * 3 + 3 + 2 = i * 3 + 2 + 3 from by omega]
   exact this
def numsV (l : List Nat) : List Value := l.map (fun q : Nat => Value.int .i64 (q : Int))
theorem numsV_append (l m : List Nat) : numsV (l ++ m) = numsV l ++ numsV m := by unfold numsV; simp
theorem numsV_at {l : List Nat} {i q : Nat} (h : l[i]? = some q) : (numsV l)[i]? = some (.int .i64 (q : Int)) := by unfold numsV; rw [List.getElem?_map, h]; rfl
theorem owns_same {w w' : World} {base : Nat} {e : TypeId} {sz : Nat} {v : Value} {n : Nat} {xs : List Value} (h : w.ownsRow base e sz v n xs) (hs : ∀ g, v.ownBlock = some g -> w'.heap[g]? = w.heap[g]?) : w'.ownsRow base e sz v n xs := by
 obtain ⟨h1, h2⟩ := h
 refine ⟨h1, ?_⟩
 rcases h2 with h2 | ⟨g, cap, cur, rfl, hb, hg, hr⟩
 ·exact .inl h2
 ·exact .inr ⟨g, cap, cur, rfl, hb, (hs g rfl).trans hg, hr⟩
theorem owns_lt {w : World} {base : Nat} {e : TypeId} {sz : Nat} {v : Value} {n : Nat} {xs : List Value} (h : w.ownsRow base e sz v n xs) {g : Nat} (hg : v.ownBlock = some g) : g < w.heap.size /\ ∃ cur, w.heap[g]? = some (.cells cur e (0, 0)) := by
 rcases h.2 with ⟨rfl, _⟩ | ⟨g', cap, cur, rfl, hb, hg', _⟩
 ·cases hg
 ·cases hg
  exact ⟨(Array.getElem?_eq_some_iff.1 hg').1, cur, hg'⟩
theorem owns_one {w : World} {base : Nat} {e : TypeId} {sz : Nat} {v : Value} {n : Nat} {xs : List Value} (h : w.ownsRow base e sz v n xs) : v.oneCell' = true := by
 rcases h.2 with ⟨rfl, _⟩ | ⟨g', cap, cur, rfl, _⟩ <;> rfl
theorem owns_cell {w : World} {base : Nat} {e : TypeId} {sz : Nat} {v : Value} {n : Nat} {xs : List Value} (h : w.ownsRow base e sz v n xs) (hn : 0 < n) : ∃ g cap, v = .slice (some ⟨g, 0, none⟩) n cap /\ ∀ j u, xs[j]? = some u -> w.cell? ⟨g, j, none⟩ = some u := by
 obtain ⟨h1, h2⟩ := h
 rcases h2 with ⟨_, rfl⟩ | ⟨g, cap, cur, rfl, hb, hg, _, _, _, hx⟩
 ·omega
 ·refine ⟨g, cap, rfl, fun j u hj => ?_⟩
  have hjl : j < n * sz := by
   have := (List.getElem?_eq_some_iff.1 hj).1
   omega
  rw [<- hx, List.getElem?_take, if_pos hjl, Array.getElem?_toList] at hj
  simp [World.cell?, hg, hj]
structure PlanAt (A : Nat -> Prop) (w : World) (B : Nat) (gv v : Value) (rs : List RawP) (L : List Place) : Prop where
 plan : w.heap[B]? = some (.cells #[gv, v] 180 (0, 0))
 own : A B
 row : w.ownsRow 0 178 3 v L.length (rowP rs)
 rowA : ∀ g, v.ownBlock = some g -> A g
 len : rs.length = L.length
 each : ∀ (i : Nat) (x : Place), L[i]? = some x -> ∃ r, rs[i]? = some r /\ r.1 = x.1 /\ r.2.2 = x.2.2 /\ w.ownsRow 0 3 1 r.2.1 x.2.1.length (numsV x.2.1) /\ ∀ g, r.2.1.ownBlock = some g -> A g
 apart : ∀ (i j : Nat) (ri rj : RawP) (g : Nat), rs[i]? = some ri -> rs[j]? = some rj -> ri.2.1.ownBlock = some g -> rj.2.1.ownBlock = some g -> i = j
def PlanIn (A : Nat -> Prop) (w : World) (B : Nat) (gv : Value) (L : List Place) : Prop := ∃ v rs, PlanAt A w B gv v rs L
theorem PlanAt.kept {A A' : Nat -> Prop} {w w' : World} {B : Nat} {gv v : Value} {rs : List RawP} {L : List Place} (h : PlanAt A w B gv v rs L) (hA : ∀ b, A b -> A' b) (hs : ∀ b, b < w.heap.size -> A b -> w'.heap[b]? = w.heap[b]?) : PlanAt A' w' B gv v rs L := by
 refine ⟨(hs B (Array.getElem?_eq_some_iff.1 h.plan).1 h.own).trans h.plan, hA _ h.own, owns_same h.row fun g hg => hs g (owns_lt h.row hg).1 (h.rowA g hg), fun g hg => hA g (h.rowA g hg), h.len, fun i x hx => ?_, h.apart⟩
 obtain ⟨r, h1, h2, h3, h4, h5⟩ := h.each i x hx
 exact ⟨r, h1, h2, h3, owns_same h4 fun g hg => hs g (owns_lt h4 hg).1 (h5 g hg), fun g hg => hA g (h5 g hg)⟩
theorem PlanIn.kept {A A' : Nat -> Prop} {w w' : World} {B : Nat} {gv : Value} {L : List Place} (h : PlanIn A w B gv L) (hA : ∀ b, A b -> A' b) (hs : ∀ b, b < w.heap.size -> A b -> w'.heap[b]? = w.heap[b]?) : PlanIn A' w' B gv L := by
 obtain ⟨v, rs, h⟩ := h
 exact ⟨v, rs, h.kept hA hs⟩
structure Fr (A : Nat -> Prop) (w : World) (A' : Nat -> Prop) (w' : World) : Prop where
 below : Below 0 w w'
 same : ∀ b, b < w.heap.size -> ¬ A b -> w'.heap[b]? = w.heap[b]?
 sub : ∀ b, A' b -> A b \/ w.heap.size <= b
theorem Fr.refl (A : Nat -> Prop) (w : World) : Fr A w A w := ⟨Below.refl _ _, fun _ _ _ => rfl, fun _ h => .inl h⟩
theorem Fr.trans {A A' A'' : Nat -> Prop} {w w' w'' : World} (h : Fr A w A' w') (k : Fr A' w' A'' w'') : Fr A w A'' w'' := by
 have hs := h.below.size
 refine ⟨h.below.trans k.below, fun b hb hA => ?_, fun b hb => ?_⟩
 ·rw [k.same b (by omega) (fun h' => by rcases h.sub b h' with h1 | h1; exact hA h1; omega), h.same b hb hA]
 ·rcases k.sub b hb with h1 | h1
  ·exact h.sub b h1
  ·exact .inr (by omega)
theorem Fr.alloc {A A' : Nat -> Prop} {w w' : World} (h : Fr A w A' w') (o : Obj) : Fr A w A' (w'.alloc o) :=
 ⟨h.below.alloc (Nat.zero_le _) o, fun b hb hA => (Below.heap_alloc w' o b (Nat.lt_of_lt_of_le hb h.below.size)).trans (h.same b hb hA), h.sub⟩
theorem Fr.toBelow {A A' : Nat -> Prop} {w w' : World} (h : Fr A w A' w') {base : Nat} (hb : base <= w.heap.size) (hA : ∀ b, b < base -> ¬ A b) : Below base w w' :=
 ⟨h.below.os, h.below.tape, h.below.output, h.below.size, fun b hlt => h.same b (by omega) (hA b hlt)⟩
theorem Fr.of_below {A : Nat -> Prop} {w w' : World} (h : Below w.heap.size w w') : Fr A w A w' := ⟨h.mono (Nat.zero_le _), fun b hb _ => h.block b hb, fun _ h => .inl h⟩
theorem Fr.less {A A1 A' : Nat -> Prop} {w w' : World} (h : Fr A1 w A' w') (hA : ∀ b, A1 b -> A b \/ w.heap.size <= b) : Fr A w A' w' :=
 ⟨h.below, fun b hb hn => h.same b hb (fun h1 => by rcases hA b h1 with h2 | h2; exact hn h2; omega), fun b hb => by
  rcases h.sub b hb with h1 | h1
  ·exact hA b h1
  ·exact .inr h1⟩
theorem infoPlace : (Tryz.prog.info? 178).map (fun i => (i.zero, i.size, i.bytes)) = some (some (.agg #[.int .u16 0, .slice none 0 0, .int .i64 0]), 3, 40) := by kernel_rfl
theorem infoInt : (Tryz.prog.info? 3).map (fun i => (i.zero, i.size, i.bytes)) = some (some (.int .i64 0), 1, 8) := by kernel_rfl
theorem heap_setCell {w : World} {B : Nat} {c0 c1 : Value} {t : TypeId} (h : w.heap[B]? = some (.cells #[c0, c1] t (0, 0))) (u : Value) : (w.setCell ⟨B, 1, none⟩ u).heap[B]? = some (.cells #[c0, u] t (0, 0)) := by
 obtain ⟨hlt, hk⟩ := Array.getElem?_eq_some_iff.1 h
 show (w.heap.modify B _)[B]? = _
 rw [Array.getElem?_eq_getElem (by rw [Array.size_modify]; exact hlt), Array.getElem_modify_self, hk]
 rfl
theorem plan_push {A : Nat -> Prop} {W : World} {B : Nat} {gv v : Value} {rs : List RawP} {L : List Place} (h : PlanAt A W B gv v rs L) (t l : Nat) (next : List Nat) (hv : Value) (hh : W.ownsRow 0 3 1 hv next.length (numsV next)) (hf : ∀ g, hv.ownBlock = some g -> ¬ A g) (hlen : L.length <= 2000000000)
  (b cap : Nat) (hc : ∀ j u, (rowP [(t, hv, l)])[j]? = some u -> W.cell? ((⟨b, 0, none⟩ : Addr).add j) = some u) :
  ∃ v' W1 A', (Builtin.append_ #[170, 170] 170 #[v, .slice (some ⟨b, 0, none⟩) 1 cap]).run Tryz.prog W = .ok v' W1 /\ (∃ g' cap', v' = .slice (some ⟨g', 0, none⟩) (L.length + 1) cap') /\ W1.heap[B]? = W.heap[B]? ∧
   (∀ k, k < W.heap.size -> v.ownBlock ≠ some k -> W1.heap[k]? = W.heap[k]?) ∧
   PlanAt A' (W1.setCell ⟨B, 1, none⟩ v') B gv v' (rs ++ [(t, hv, l)]) (L ++ [(t, next, l)]) /\ Fr (fun k => A k \/ hv.ownBlock = some k) W A' (W1.setCell ⟨B, 1, none⟩ v') := by
 obtain ⟨i0, hi, hz0, hz1, hz2⟩ := info_parts infoPlace
 obtain ⟨v', W1, hrun, r1, r2, _, r4⟩ := run_append_own_at (P := Tryz.prog) W 0 170 170 178 i0 _ 3 40 Tryz.underlying170 hi hz0 hz1 hz2 rfl (by decide) v L.length _ h.row ⟨b, 0, none⟩ 1 cap (rowP [(t, hv, l)]) (by rw [rowP_length]; rfl) hc (fun u hu => by
  simp only [rowP, List.mem_cons, List.not_mem_nil, or_false] at hu
  rcases hu with rfl | rfl | rfl
  ·rfl
  ·exact owns_one hh
  ·rfl) (by unfold maxLen; omega) (by omega) (Nat.zero_le _)
 rw [<- rowP_append] at r1
 have hBlt : B < W.heap.size := (Array.getElem?_eq_some_iff.1 h.plan).1
 have hBv : ∀ g, v.ownBlock = some g -> B ≠ g := fun g hg e => by
  subst e
  obtain ⟨_, cur, hcur⟩ := owns_lt h.row hg
  rw [h.plan] at hcur
  cases hcur
 have hsame : ∀ k, k < W.heap.size -> v.ownBlock ≠ some k -> W1.heap[k]? = W.heap[k]? := fun k hk hne => r2.block k hk (fun e => hne e.symm)
 have hB1 : W1.heap[B]? = W.heap[B]? := hsame B hBlt (fun e => hBv B e rfl)
 have hset : ∀ k, k ≠ B -> (W1.setCell ⟨B, 1, none⟩ v').heap[k]? = W1.heap[k]? := fun k hk => Below.heap_setCell W1 _ _ k hk
 have hv'B : ∀ g, v'.ownBlock = some g -> g ≠ B := fun g hg e => by
  subst e
  rcases r4 with e | e
  ·rw [e] at hg
   exact hBv g hg rfl
  ·rw [e] at hg
   cases hg
   omega
 have hrowl : ∀ g, v.ownBlock = some g -> ∃ cur, W.heap[g]? = some (.cells cur 178 (0, 0)) := fun g hg => (owns_lt h.row hg).2
 -- a row of numbers is as it was
 have hnum : ∀ (u : Value) (n : Nat) (xs : List Value), W.ownsRow 0 3 1 u n xs -> (W1.setCell ⟨B, 1, none⟩ v').ownsRow 0 3 1 u n xs := fun u n xs ho => owns_same ho fun g hg => by
  obtain ⟨hlt, cur, hcur⟩ := owns_lt ho hg
  rw [hset g (fun e => by subst e; rw [h.plan] at hcur; cases hcur), hsame g hlt (fun e => by
   obtain ⟨cur', hcur'⟩ := hrowl g e
   rw [hcur] at hcur'
   cases hcur')]
 refine ⟨v', W1, fun k => (A k \/ hv.ownBlock = some k) \/ v'.ownBlock = some k, hrun, ?_, hB1, hsame, ⟨heap_setCell (hB1.trans h.plan) v', .inl (.inl h.own), ?_, fun g hg => .inr hg, by simp [h.len], fun i x hx => ?_, ?_⟩, ⟨?_, fun k hk hn => ?_, fun k hk => ?_⟩⟩
 ·obtain ⟨g', cap', e, _⟩ := owns_cell r1 (by omega)
  exact ⟨g', cap', e⟩
 ·have := owns_same (w' := W1.setCell ⟨B, 1, none⟩ v') r1 fun g hg => hset g (hv'B g hg)
  simpa using this
 ·rcases Nat.lt_or_ge i L.length with hlt | hge
  ·rw [get_snoc_lt hlt] at hx
   obtain ⟨r, h1, h2, h3, h4, h5⟩ := h.each i x hx
   refine ⟨r, ?_, h2, h3, hnum _ _ _ h4, fun g hg => .inl (.inl (h5 g hg))⟩
   rw [List.getElem?_append_left (by rw [h.len]; exact hlt)]
   exact h1
  ·have hil : i = L.length := by
    have := (List.getElem?_eq_some_iff.1 hx).1
    simp at this
    omega
   subst hil
   rw [get_snoc_eq] at hx
   cases hx
   refine ⟨(t, hv, l), ?_, rfl, rfl, hnum _ _ _ hh, fun g hg => .inl (.inr hg)⟩
   rw [<- h.len]
   simp
 ·have hold : ∀ (i : Nat) (r : RawP) (g : Nat), i < rs.length -> rs[i]? = some r -> r.2.1.ownBlock = some g -> A g := fun i r g hi hr hg => by
   obtain ⟨x, hx⟩ : ∃ x, L[i]? = some x := ⟨_, List.getElem?_eq_getElem (by rw [<- h.len]; exact hi)⟩
   obtain ⟨r', h1, _, _, _, h5⟩ := h.each i x hx
   rw [hr] at h1
   cases h1
   exact h5 g hg
  have hcase : ∀ (i : Nat) (r : RawP), (rs ++ [((t, hv, l) : RawP)])[i]? = some r -> (i < rs.length /\ rs[i]? = some r) \/ (i = rs.length /\ r = (t, hv, l)) := fun i r hr => by
   rcases Nat.lt_or_ge i rs.length with hlt | hge
   ·rw [List.getElem?_append_left hlt] at hr
    exact .inl ⟨hlt, hr⟩
   ·have hil : i = rs.length := by
     have := (List.getElem?_eq_some_iff.1 hr).1
     simp at this
     omega
    subst hil
    simp at hr
    exact .inr ⟨rfl, hr.symm⟩
  intro i j ri rj g hi hj gi gj
  rcases hcase i ri hi with ⟨i1, i2⟩ | ⟨i1, rfl⟩ <;> rcases hcase j rj hj with ⟨j1, j2⟩ | ⟨j1, rfl⟩
  ·exact h.apart i j ri rj g i2 j2 gi gj
  ·exact absurd (hold i ri g i1 i2 gi) (hf g gj)
  ·exact absurd (hold j rj g j1 j2 gj) (hf g gi)
  ·rw [i1, j1]
 ·exact ⟨r2.os, r2.tape, r2.output, by have := r2.size; simpa using this, fun k hk => absurd hk (by omega)⟩
 ·have hkB : k ≠ B := fun e => hn (.inl (e ▸ h.own))
  rw [hset k hkB]
  exact hsame k hk (fun e => hn (.inl (h.rowA k e)))
 ·rcases hk with hk | hk
  ·exact .inl hk
  ·rcases r4 with e | e
   ·rw [e] at hk
    exact .inl (.inl (h.rowA k hk))
   ·rw [e] at hk
    cases hk
    exact .inr (Nat.le_refl _)
end Go.Proofs.YtbkpehfaofhmaaaGreatDoor

/- DBAdd: reg's add at every plan: what it returns and leaves; nothing else is turned. -/
namespace Go.Proofs.YtbkpehfaofhmaaaGreatDoor
open Go.RowKit
theorem hmx : Tryz.prog.follows .mixedOrders = true := by kernel_rfl
theorem wp_run_append {o : Oper} {a : Act} {w : World} {K : Act -> World -> Prop} {Q : Exit -> Act -> World -> Prop} (s x : Operand) (t : TypeId) (ho : o.op = .call { callee := .builtin .append, args := #[s, x], argTypes := #[t, t] })
  (v u v' : Value) (w' : World) (hs : a.eval s = v) (hx : a.eval x = u) (hr : (Builtin.append_ #[t, t] o.type #[v, u]).run Tryz.prog w = .ok v' w') (h : K (a.put o.dst v') w') : o.wp Tryz.prog a w K Q := by
 unfold Oper.wp execOp
 simp only [ho, resolve, invoke, builtin, Sem.run_bind, Sem.run_pure, Result.andThen_ok, List.map_toArray, List.map_cons, List.map_nil, hs, hx, hr]
 exact h
theorem wpList_run_append {ops : Array Oper} {rest : List Oper} {o : Oper} {a : Act} {w : World} {Q : Exit -> Act -> World -> Prop} (hgd : o.guard = none) (s x : Operand) (t : TypeId) (ho : o.op = .call { callee := .builtin .append, args := #[s, x], argTypes := #[t, t] })
  (v u v' : Value) (w' : World) (hs : a.eval s = v) (hx : a.eval x = u) (hr : (Builtin.append_ #[t, t] o.type #[v, u]).run Tryz.prog w = .ok v' w') (h : wpList Tryz.prog ops Q rest (a.put o.dst v') w') : wpList Tryz.prog ops Q (o :: rest) a w :=
 wpList_plain hgd fun _ hK => wp_run_append s x t ho v u v' w' hs hx hr (hK _ _ h)
theorem cells_plan {w : World} {B : Nat} {gv v : Value} (h : w.heap[B]? = some (.cells #[gv, v] 180 (0, 0))) : w.cell? ⟨B, 0, none⟩ = some gv /\ w.cell? ⟨B, 1, none⟩ = some v /\ w.frozen? ⟨B, 1, none⟩ = false := by
 have hc := fun j => cell_of_row w B j _ _ _ h
 refine ⟨hc 0, hc 1, ?_⟩
 simp [World.frozen?, h]
theorem three_new (w : World) (x0 x1 x2 : Value) (t : TypeId) : ∀ j u, [x0, x1, x2][j]? = some u -> (w.alloc (.cells #[x0, x1, x2] t)).cell? ((⟨w.heap.size, 0, none⟩ : Addr).add j) = some u := by
 intro j u hj
 have hadd : (⟨w.heap.size, 0, none⟩ : Addr).add j = ⟨w.heap.size, j, none⟩ := by unfold Addr.add; split <;> simp_all
 rw [hadd]
 match j, hj with
 | 0, hj => simp at hj; subst hj; simp
 | 1, hj => simp at hj; subst hj; simp
 | 2, hj => simp at hj; subst hj; simp
set_option maxRecDepth 100000 in
set_option maxHeartbeats 2000000 in
theorem add_calls (A : Nat -> Prop) (B : Nat) (gv : Value) (L : List Place) (w : World) (t l : Nat) (next : List Nat) (ha : Option Addr) (hn hc : Nat) (h : PlanIn A w B gv L) (hh : w.ownsRow 0 3 1 (.slice ha hn hc) next.length (numsV next)) (hf : ∀ g, (Value.slice ha hn hc).ownBlock = some g -> ¬ A g) (hlen : L.length <= 2000000000) :
  Calls Tryz.prog 141 #[.pointer (some ⟨B, 0, none⟩), .agg #[.int .u16 (t : Int), .slice ha hn hc, .int .i64 (l : Int)]] w fun e w' => e = .returned (.int .i64 (L.length : Int)) /\ ∃ A', PlanIn A' w' B gv (L ++ [(t, next, l)]) /\ Fr (fun k => A k \/ (Value.slice ha hn hc).ownBlock = some k) w A' w' := by
 obtain ⟨v, rs, h⟩ := h
 -- the worlds
 obtain ⟨w1, hw1⟩ : ∃ w1, w1 = w.alloc (.cells #[.int .u16 (t : Int), .slice ha hn hc, .int .i64 (l : Int)] 178) := ⟨_, rfl⟩
 have hb1 : Below w.heap.size w w1 := by rw [hw1]; exact (Below.refl _ w).alloc (Nat.le_refl _) _
 have hs1 : w1.heap.size = w.heap.size + 1 := by rw [hw1]; simp
 obtain ⟨W, hW⟩ : ∃ W, W = (w1.alloc (.cells #[.int .u16 (t : Int), .slice ha hn hc, .int .i64 (l : Int)] 178)).drew := ⟨_, rfl⟩
 have hb2 : Below w1.heap.size w1 W := by rw [hW]; exact ((Below.refl _ w1).alloc (Nat.le_refl _) _).drew
 have hbW : Below w.heap.size w W := hb1.trans (hb2.mono (by omega))
 have hPW : PlanAt A W B gv v rs L := h.kept (fun _ h => h) fun b hb _ => hbW.block b hb
 have hhW : W.ownsRow 0 3 1 (.slice ha hn hc) next.length (numsV next) := owns_same hh fun g hg => hbW.block g (owns_lt hh hg).1
 obtain ⟨v', W1, A', hrun, ⟨g', cap', rfl⟩, hB1, hkeep, hP', hF'⟩ := plan_push hPW t l next (.slice ha hn hc) hhW hf hlen (w.heap.size + 1) 1 (by rw [hW, <- hs1]; exact three_new w1 _ _ _ _)
 have hBlt : B < w.heap.size := (Array.getElem?_eq_some_iff.1 h.plan).1
 obtain ⟨p0, p1, pf⟩ := cells_plan h.plan
 obtain ⟨q0, q1, qf⟩ := cells_plan (hB1.trans hPW.plan)
 obtain ⟨z0, z1, zf⟩ := cells_plan hP'.plan
 have hbx : ∀ X : World, X.heap[w.heap.size]? = w1.heap[w.heap.size]? -> X.cell? ⟨w.heap.size, 0, none⟩ = some (.int .u16 (t : Int)) /\ X.cell? ⟨w.heap.size, 1, none⟩ = some (.slice ha hn hc) /\ X.cell? ⟨w.heap.size, 2, none⟩ = some (.int .i64 (l : Int)) := fun X hX => by
  have : X.heap[w.heap.size]? = some (.cells #[.int .u16 (t : Int), .slice ha hn hc, .int .i64 (l : Int)] 178 (0, 0)) := by rw [hX, hw1]; exact World.alloc_heap_new w _
  have hc := fun j => cell_of_row X w.heap.size j _ _ _ this
  exact ⟨hc 0, hc 1, hc 2⟩
 have hvne : v.ownBlock ≠ some w.heap.size := fun e => by
  have := (owns_lt h.row e).1
  omega
 have hS1 : w1.drew.cell? ⟨w.heap.size, 0, none⟩ = some (.int .u16 (t : Int)) /\ w1.drew.cell? ⟨w.heap.size, 1, none⟩ = some (.slice ha hn hc) /\ w1.drew.cell? ⟨w.heap.size, 2, none⟩ = some (.int .i64 (l : Int)) := hbx w1 rfl
 have hSW : W.cell? ⟨w.heap.size, 0, none⟩ = some (.int .u16 (t : Int)) /\ W.cell? ⟨w.heap.size, 1, none⟩ = some (.slice ha hn hc) /\ W.cell? ⟨w.heap.size, 2, none⟩ = some (.int .i64 (l : Int)) := hbx W (hb2.block _ (by omega))
 have hSW1 := hbx W1 (by rw [hkeep _ (by have := hb2.size; omega) hvne, hb2.block _ (by omega)])
 have hSf := hbx (W1.setCell ⟨B, 1, none⟩ (.slice (some ⟨g', 0, none⟩) (L.length + 1) cap')) (by rw [Below.heap_setCell _ _ _ _ (by show w.heap.size ≠ B; omega), hkeep _ (by have := hb2.size; omega) hvne, hb2.block _ (by omega)])
 have c1 : w1.cell? ⟨B, 1, none⟩ = some v := (hb1.cell (p := ⟨B, 1, none⟩) hBlt).trans p1
 have cW : W.cell? ⟨B, 1, none⟩ = some v := (hbW.cell (p := ⟨B, 1, none⟩) hBlt).trans p1
 have HP : Hid (PlanIn A' (W1.setCell ⟨B, 1, none⟩ (.slice (some ⟨g', 0, none⟩) (L.length + 1) cap')) B gv (L ++ [(t, next, l)])) := ⟨_, _, hP'⟩
 have HF : Hid (Fr (fun k => A k \/ (Value.slice ha hn hc).ownBlock = some k) w A' (W1.setCell ⟨B, 1, none⟩ (.slice (some ⟨g', 0, none⟩) (L.length + 1) cap'))) := (Fr.of_below hbW).trans hF'
 have HW : Hid ((w1.alloc (.cells #[.int .u16 (t : Int), .slice ha hn hc, .int .i64 (l : Int)] 178)).drew = W) := hW.symm
 clear hPW hhW hP' hF' h hh hf p0 p1 pf q0 hB1 hkeep hbx hvne hb2 hbW hW hb1 z0 zf
 go_enter Tryz.func141, Tryz.ntmps141
 go_wp2_with fail
 rw [<- hw1]
 clear hw1
 refine wp_region_held_drew (S := fun X => X.cell? ⟨w.heap.size, 0, none⟩ = some (.int .u16 (t : Int)) /\ X.cell? ⟨w.heap.size, 1, none⟩ = some (.slice ha hn hc) /\ X.cell? ⟨w.heap.size, 2, none⟩ = some (.int .i64 (l : Int))) hmx hS1 (fun hS => ?_)
 refine takeF 0 (some 5) (v := ?_) hS ?_ ?_
 rotate_left
 ·intro w hSw
  obtain ⟨s1, s2, s3⟩ := hSw
  try go_simp
  with_reducible rfl
 try simp only [lay4]
 refine takeF 1 (some 6) (v := ?_) hS ?_ ?_
 rotate_left
 ·intro w hSw
  obtain ⟨s1, s2, s3⟩ := hSw
  try go_simp
  with_reducible rfl
 try simp only [lay4]
 refine takeF 2 (some 7) (v := ?_) hS ?_ ?_
 rotate_left
 ·intro w hSw
  obtain ⟨s1, s2, s3⟩ := hSw
  go_simp
  with_reducible rfl
 try simp only [lay4]
 refine takeF 3 (some 8) (v := ?_) hS ?_ ?_
 rotate_left
 ·intro w hSw
  obtain ⟨s1, s2, s3⟩ := hSw
  go_simp
  with_reducible rfl
 try simp only [lay4]
 refine takeF 5 (some 10) (v := ?_) hS ?_ ?_
 rotate_left
 ·intro w hSw
  obtain ⟨s1, s2, s3⟩ := hSw
  go_simp
  with_reducible rfl
 try simp only [lay4]
 refine wpAnyH_ready (rs := [4, 6]) (by kernel_rfl) (by simp) (AllReadyH.cons rfl (fun K hK => ?_) (AllReadyH.cons rfl (fun K hK => ?_) AllReadyH.nil))
 ·go_simp
  refine hK.out _ _ hS1 (fun _ => ?_)
  clear hK K
  try simp only [lay4]
  refine callD 6 (by kernel_rfl) rfl (fun K hK => ?_)
  go_simp
  rw [HW.out]
  refine hK.out _ _ hSW (fun _ => ?_)
  clear hK K
  try simp only [lay4]
  refine callD 7 (by kernel_rfl) rfl (fun K hK => ?_)
  rw [if_pos (by rfl)]
  refine wp_run_append _ _ 170 rfl _ _ (.slice (some ⟨g', 0, none⟩) (L.length + 1) cap') W1 rfl rfl hrun ?_
  refine hK.out _ _ hSW1 (fun _ => ?_)
  clear hK K
  try simp only [Act.put, List.setIfInBounds_toArray]
  refine takeF 8 (some 13) (v := ?_) hSW1 ?_ ?_
  rotate_left
  ·intro w hSw
   obtain ⟨s1, s2, s3⟩ := hSw
   go_simp
   with_reducible rfl
  try simp only [Act.put]
  refine takeF 9 (some 14) (v := ?_) hSW1 ?_ ?_
  rotate_left
  ·intro w hSw
   obtain ⟨s1, s2, s3⟩ := hSw
   go_simp
   with_reducible rfl
  try simp only [Act.put]
  refine callD 10 (by kernel_rfl) rfl (fun K hK => ?_)
  rw [if_pos (by rfl)]
  go_simp
  refine hK.out _ _ hSf (fun _ => ?_)
  clear hK K
  try simp only [lay4]
  refine wpAnyH_done (by kernel_rfl) ?_ _
  go_wp2
  go_ret
  exact ⟨by first | rfl | (congr 2; omega), A', HP.out, HF.out⟩
 ·go_simp
  rw [HW.out]
  refine hK.out _ _ hSW (fun _ => ?_)
  clear hK K
  try simp only [lay4]
  refine callD 4 (by kernel_rfl) rfl (fun K hK => ?_)
  go_simp
  refine hK.out _ _ hSW (fun _ => ?_)
  clear hK K
  try simp only [lay4]
  refine callD 7 (by kernel_rfl) rfl (fun K hK => ?_)
  rw [if_pos (by rfl)]
  refine wp_run_append _ _ 170 rfl _ _ (.slice (some ⟨g', 0, none⟩) (L.length + 1) cap') W1 rfl rfl hrun ?_
  refine hK.out _ _ hSW1 (fun _ => ?_)
  clear hK K
  try simp only [Act.put, List.setIfInBounds_toArray]
  refine takeF 8 (some 13) (v := ?_) hSW1 ?_ ?_
  rotate_left
  ·intro w hSw
   obtain ⟨s1, s2, s3⟩ := hSw
   go_simp
   with_reducible rfl
  try simp only [Act.put]
  refine takeF 9 (some 14) (v := ?_) hSW1 ?_ ?_
  rotate_left
  ·intro w hSw
   obtain ⟨s1, s2, s3⟩ := hSw
   go_simp
   with_reducible rfl
  try simp only [Act.put]
  refine callD 10 (by kernel_rfl) rfl (fun K hK => ?_)
  rw [if_pos (by rfl)]
  go_simp
  refine hK.out _ _ hSf (fun _ => ?_)
  clear hK K
  try simp only [lay4]
  refine wpAnyH_done (by kernel_rfl) ?_ _
  go_wp2
  go_ret
  exact ⟨by first | rfl | (congr 2; omega), A', HP.out, HF.out⟩
end Go.Proofs.YtbkpehfaofhmaaaGreatDoor

/- DBFork: reg's fork at every plan: what it returns and leaves; nothing else is turned. -/
namespace Go.Proofs.YtbkpehfaofhmaaaGreatDoor
open Go.RowKit
theorem PlanAt.cells {A : Nat -> Prop} {w : World} {B : Nat} {gv v : Value} {rs : List RawP} {L : List Place} (h : PlanAt A w B gv v rs L) (h0 : 0 < L.length) : ∃ g cap, v = .slice (some ⟨g, 0, none⟩) L.length cap /\ ∀ (i : Nat) (x : Place), L[i]? = some x →
  w.cell? ⟨g, i * 3, none⟩ = some (.int .u16 (x.1 : Int)) /\ w.cell? ⟨g, i * 3 + 2, none⟩ = some (.int .i64 (x.2.2 : Int)) /\ ∃ hv, w.cell? ⟨g, i * 3 + 1, none⟩ = some hv /\ w.ownsRow 0 3 1 hv x.2.1.length (numsV x.2.1) := by
 obtain ⟨g, cap, e, hc⟩ := owns_cell h.row h0
 refine ⟨g, cap, e, fun i x hx => ?_⟩
 obtain ⟨r, h1, h2, h3, h4, _⟩ := h.each i x hx
 obtain ⟨f0, f1, f2⟩ := rowP_at rs i r h1
 rw [h2] at f0
 rw [h3] at f2
 exact ⟨hc _ _ f0, hc _ _ f2, r.2.1, hc _ _ f1, h4⟩
theorem Fr.drewN0 (A : Nat -> Prop) (w : World) (q : Nat) : Fr A w A (w.drewN q) := ⟨⟨rfl, rfl, rfl, Nat.le_refl _, fun _ _ => rfl⟩, fun _ _ _ => rfl, fun _ h => .inl h⟩
theorem leastAt_get {L : List Place} {p : Nat} (h : p < L.length) : ∃ x, L[p]? = some x /\ x.2.2 = leastAt L p := ⟨L[p], List.getElem?_eq_getElem h, by rw [leastAt_some (List.getElem?_eq_getElem h)]⟩
theorem fold_take (f : Nat -> Nat -> Nat) (m : Nat) {l : List Nat} {j q : Nat} (h : l[j]? = some q) : (l.take (j + 1)).foldl f m = f ((l.take j).foldl f m) q := by
 rw [List.take_add_one, h, List.foldl_append]
 rfl
set_option maxRecDepth 100000 in
set_option maxHeartbeats 400000 in
theorem fork_calls (A : Nat -> Prop) (B : Nat) (gv : Value) (L : List Place) (w : World) (ways : List Nat) (wa : Option Addr) (wn wc : Nat) (h : PlanIn A w B gv L) (hh : w.ownsRow 0 3 1 (.slice wa wn wc) ways.length (numsV ways)) (hf : ∀ g, (Value.slice wa wn wc).ownBlock = some g -> ¬ A g) (hlen : L.length <= 2000000000)
  (hw0 : ways ≠ []) (hw : ∀ q ∈ ways, q < L.length) (hwl : ways.length <= 2000000000) (hll : ∀ p, leastAt L p <= 2000000000) :
  Calls Tryz.prog 144 #[.pointer (some ⟨B, 0, none⟩), .slice wa wn wc] w fun e w' => e = .returned (.int .i64 ((forkL L ways).2 : Int)) /\ ∃ A', PlanIn A' w' B gv (forkL L ways).1 /\ Fr (fun k => A k \/ (Value.slice wa wn wc).ownBlock = some k) w A' w' := by
 have HA : Hid (∀ (q l : Nat), Calls Tryz.prog 141 #[.pointer (some ⟨B, 0, none⟩), .agg #[.int .u16 0, .slice wa wn wc, .int .i64 (l : Int)]] (w.drewN q) fun e w' => e = .returned (.int .i64 (L.length : Int)) /\ ∃ A', PlanIn A' w' B gv (L ++ [(0, ways, l)]) /\ Fr (fun k => A k \/ (Value.slice wa wn wc).ownBlock = some k) (w.drewN q) A' w') :=
  fun q l => add_calls A B gv L (w.drewN q) 0 l ways wa wn wc (h.kept (fun _ h => h) fun _ _ _ => rfl) (owns_same hh fun _ _ => rfl) hf hlen
 obtain ⟨v, rs, hP⟩ := h
 obtain ⟨p0, p1, pf⟩ := cells_plan hP.plan
 have hw1 : 0 < ways.length := List.length_pos_iff.2 hw0
 obtain ⟨q0, hq0⟩ : ∃ q, ways[0]? = some q := ⟨_, List.getElem?_eq_getElem hw1⟩
 have hL0 : 0 < L.length := by have := hw q0 (List.mem_of_getElem? hq0); omega
 obtain ⟨g, cap, rfl, hc⟩ := hP.cells hL0
 obtain ⟨wg, wcap, e, hwc⟩ := owns_cell hh hw1
 cases e
 have hhead : ways.headD 0 = q0 := by cases ways with | nil => cases hq0 | cons a r => simp at hq0; exact hq0
 have HG : Hid (∀ q, q < L.length -> w.cell? ⟨g, q * 3 + 2, none⟩ = some (.int .i64 (leastAt L q : Int))) := fun q hq => by
  obtain ⟨x, hx, e⟩ := leastAt_get hq
  rw [<- e]
  exact (hc q x hx).2.1
 have hq0L := hw q0 (List.mem_of_getElem? hq0)
 have c2 := HG.out q0 hq0L
 have c3 : w.cell? ⟨wg, 0, none⟩ = some (.int .i64 (q0 : Int)) := hwc 0 _ (numsV_at hq0)
 have HWC : Hid (∀ (j q : Nat), ways[j]? = some q -> w.cell? ⟨wg, j, none⟩ = some (.int .i64 (q : Int)) /\ q < L.length) := fun j q hq => ⟨hwc j _ (numsV_at hq), hw q (List.mem_of_getElem? hq)⟩
 have HFL : Hid (forkL L ways = (L ++ [(0, ways, ways.foldl (fun m q => min m (leastAt L q)) (leastAt L q0))], L.length)) := by
  show _ = _
  unfold forkL forkLeast
  rw [hhead]
 have hb0 := hll q0
 have HLL : Hid (∀ p, leastAt L p <= 2000000000) := hll
 have HFo : Hid (∀ j, (ways.take j).foldl (fun m q => min m (leastAt L q)) (leastAt L q0) <= leastAt L q0) := fun j => (foldl_min_le L (ways.take j) (leastAt L q0)).1
 obtain ⟨m0, hm0⟩ : ∃ m0, leastAt L q0 = m0 := ⟨_, rfl⟩
 rw [hm0] at c2 HFL HFo hb0
 obtain ⟨Z, hZ⟩ : ∃ Z, ways.foldl (fun m q => min m (leastAt L q)) m0 = Z := ⟨_, rfl⟩
 rw [HFL.out, hZ]
 have HZ : Hid (ways.foldl (fun m q => min m (leastAt L q)) m0 = Z) := hZ
 clear hZ HFL
 have HNt : Hid (ways.take ways.length = ways) := by show _ = _; rw [List.take_of_length_le (Nat.le_refl _)]
 have HNl : Hid (∀ j, j < ways.length -> ∃ q, ways[j]? = some q) := fun j hj => ⟨_, List.getElem?_eq_getElem hj⟩
 generalize ways.length = N at *
 have hq0i : (q0 : Int) < (L.length : Int) := by omega
 have hN0 : (0 : Int) < (N : Int) := by omega
 have hq0n : (0 : Int) <= (q0 : Int) := by omega
 clear hP hc hwc hw hh hhead hq0 hf hm0 hll
 go_enter Tryz.func144, Tryz.ntmps144
 go_wp2_with fail
 go_quiet (fail)
 go_wp2_with fail
 go_loop [5, 20] (fun m i => ∃ j : Nat, j <= N /\ i = .int .i64 (j : Int) /\ m = .int .i64 (((ways.take j).foldl (fun m q => min m (leastAt L q)) m0 : Nat) : Int)) (fun _ i => N - (intOf i).toNat)
 case atStart => exact ⟨0, by omega, rfl, rfl⟩
 case round =>
  obtain ⟨j, hj, rfl, rfl⟩ := hrel
  have hfo := HFo.out j
  by_cases hlt : j < N
  ·obtain ⟨q, hq⟩ := HNl.out j hlt
   obtain ⟨d1, hqL⟩ := HWC.out j q hq
   have d2 := HG.out q hqL
   have hst := fold_take (fun m q => min m (leastAt L q)) m0 hq
   have hbq := HLL.out q
   have HS : Hid ((ways.take (j + 1)).foldl (fun m q => min m (leastAt L q)) m0 = min ((ways.take j).foldl (fun m q => min m (leastAt L q)) m0) (leastAt L q)) := hst
   have hqi : (q : Int) < (L.length : Int) := by omega
   have hji : (j : Int) < (N : Int) := by omega
   clear hst hq
   generalize (ways.take j).foldl (fun m q => min m (leastAt L q)) m0 = z at *
   generalize leastAt L q = y at *
   go_wp2
   all_goals
    go_round
    case rel => exact ⟨j + 1, by omega, rfl, by rw [HS.out]; congr 1; first | omega | (split <;> omega)⟩
    case measure => simp [intOf]; omega
  ·obtain rfl : j = N := by omega
   rw [HNt.out, HZ.out]
   go_wp2_with fail
   refine (HA.out _ Z).mono ?_
   rintro e W ⟨rfl, A', hP', hF'⟩
   go_wp2
   go_ret
   exact ⟨rfl, A', hP', (Fr.drewN0 _ _ _).trans hF'⟩
end Go.Proofs.YtbkpehfaofhmaaaGreatDoor

/- DBNext: places in memory: what one way more from a place makes of a plan; a row of numbers that is new. -/
namespace Go.Proofs.YtbkpehfaofhmaaaGreatDoor
open Go.RowKit
theorem PlanIn.tight {A : Nat -> Prop} {w : World} {B : Nat} {gv : Value} {L : List Place} (h : PlanIn A w B gv L) : PlanIn (fun b => A b /\ b < w.heap.size) w B gv L := by
 obtain ⟨v, rs, h⟩ := h
 refine ⟨v, rs, h.plan, ⟨h.own, (Array.getElem?_eq_some_iff.1 h.plan).1⟩, h.row, fun g hg => ⟨h.rowA g hg, (owns_lt h.row hg).1⟩, h.len, fun i x hx => ?_, h.apart⟩
 obtain ⟨r, h1, h2, h3, h4, h5⟩ := h.each i x hx
 exact ⟨r, h1, h2, h3, h4, fun g hg => ⟨h5 g hg, (owns_lt h4 hg).1⟩⟩
theorem wf.least_le {L : List Place} (h : wf L) : ∀ p, leastAt L p <= p := by
 intro p
 induction p using Nat.strongRecOn with
 | _ p ih =>
  cases hx : L[p]? with
  | none => unfold leastAt; rw [hx]; exact Nat.zero_le _
  | some x =>
   rw [leastAt_some hx]
   rcases Nat.eq_zero_or_pos p with rfl | hp
   ·rw [h.1] at hx
    cases hx
    exact Nat.le_refl _
   ·rcases h.2 p x hp hx with ⟨_, q, _, hq, e⟩ | ⟨_, _, q, _, hq, e⟩
    ·have := ih q hq
     omega
    ·have := ih q hq
     omega
theorem wf.least_lt {L : List Place} (h : wf L) (p : Nat) : leastAt L p <= L.length := by
 rcases Nat.lt_or_ge p L.length with hp | hp
 ·have := h.least_le p
  omega
 ·unfold leastAt
  rw [List.getElem?_eq_none hp]
  exact Nat.zero_le _
theorem owns_new1 (w : World) (q : Nat) : (w.alloc (.cells #[.int .i64 (q : Int)] 3)).ownsRow 0 3 1 (.slice (some ⟨w.heap.size, 0, none⟩) 1 1) 1 (numsV [q]) :=
 ⟨rfl, .inr ⟨w.heap.size, 1, #[.int .i64 (q : Int)], rfl, Nat.zero_le _, World.alloc_heap_new w _, Nat.le_refl _, by unfold maxLen; omega, rfl, rfl⟩⟩
theorem owns_new2 (w : World) (p q : Nat) : (w.alloc (.cells #[.int .i64 (p : Int), .int .i64 (q : Int)] 3)).ownsRow 0 3 1 (.slice (some ⟨w.heap.size, 0, none⟩) 2 2) 2 (numsV [p, q]) :=
 ⟨rfl, .inr ⟨w.heap.size, 2, #[.int .i64 (p : Int), .int .i64 (q : Int)], rfl, Nat.zero_le _, World.alloc_heap_new w _, Nat.le_refl _, by unfold maxLen; omega, rfl, rfl⟩⟩
theorem rowP_set : ∀ (rs : List RawP) (i : Nat) (r : RawP) (hv : Value), rs[i]? = some r -> rowP (rs.set i (r.1, hv, r.2.2)) = (rowP rs).set (i * 3 + 1) hv := by
 intro rs
 induction rs with
 | nil => intro i r hv h; simp at h
 | cons y rs ih =>
  intro i r hv h
  cases i with
  | zero =>
   obtain rfl : y = r := by simpa using h
   rfl
  | succ i =>
   have := ih i r hv (by simpa using h)
   rw [show (i + 1) * 3 + 1 = i * 3 + 1 + 3 from by omega]
   simp only [List.set_cons_succ, rowP, this]
theorem owns_set {w : World} {e : TypeId} {sz g n cap : Nat} {xs : List Value} (h : w.ownsRow 0 e sz (.slice (some ⟨g, 0, none⟩) n cap) n xs) (k : Nat) (u : Value) (_hk : k < n * sz) : (w.setCell ⟨g, k, none⟩ u).ownsRow 0 e sz (.slice (some ⟨g, 0, none⟩) n cap) n (xs.set k u) := by
 obtain ⟨h1, h2⟩ := h
 refine ⟨by rw [List.length_set]; exact h1, ?_⟩
 rcases h2 with ⟨e1, _⟩ | ⟨g', cap', cur, e1, hb, hg, h3, h4, h5, h6⟩
 ·cases e1
 ·cases e1
  refine .inr ⟨g, cap, cur.setIfInBounds k u, rfl, hb, heap_setCell_same w g k cur e u hg, h3, h4, by simpa using h5, ?_⟩
  rw [Array.toList_setIfInBounds, List.take_set, h6]
theorem plan_next {A : Nat -> Prop} {W : World} {B : Nat} {gv : Value} {g cap : Nat} {rs : List RawP} {L : List Place} (h : PlanAt A W B gv (.slice (some ⟨g, 0, none⟩) L.length cap) rs L) (i q : Nat) (x : Place) (hi : L[i]? = some x) (hlen : x.2.1.length <= 1048576)
  (b bc : Nat) (hc : ∀ j u, [Value.int .i64 (q : Int)][j]? = some u -> W.cell? ((⟨b, 0, none⟩ : Addr).add j) = some u) :
  ∃ hv v' W1 A', W.cell? ⟨g, i * 3 + 1, none⟩ = some hv /\ (Builtin.append_ #[59, 59] 59 #[hv, .slice (some ⟨b, 0, none⟩) 1 bc]).run Tryz.prog W = .ok v' W1 /\ (∃ a n c, v' = .slice a n c) /\ W1.heap[B]? = W.heap[B]? /\ W1.heap[g]? = W.heap[g]? ∧
   PlanIn A' (W1.setCell ⟨g, i * 3 + 1, none⟩ v') B gv (addNext L i q) /\ Fr A W A' (W1.setCell ⟨g, i * 3 + 1, none⟩ v') := by
 obtain ⟨i0, hI, hz0, hz1, hz2⟩ := info_parts infoInt
 obtain ⟨r, h1, h2, h3, h4, h5⟩ := h.each i x hi
 obtain ⟨v', W1, hrun, r1, r2, _, r4⟩ := run_append_own_at (P := Tryz.prog) W 0 59 59 3 i0 _ 1 8 Tryz.underlying59 hI hz0 hz1 hz2 rfl (by decide) r.2.1 x.2.1.length _ h4 ⟨b, 0, none⟩ 1 bc [.int .i64 (q : Int)] rfl hc (fun u hu => by
  simp at hu
  subst hu
  rfl) (by unfold maxLen; omega) (by omega) (Nat.zero_le _)
 have hiL : i < L.length := (List.getElem?_eq_some_iff.1 hi).1
 have hg : ∃ cur, W.heap[g]? = some (.cells cur 178 (0, 0)) := (owns_lt h.row (g := g) rfl).2
 obtain ⟨cur, hcur⟩ := hg
 have hglt : g < W.heap.size := (Array.getElem?_eq_some_iff.1 hcur).1
 have hBlt : B < W.heap.size := (Array.getElem?_eq_some_iff.1 h.plan).1
 have hgB : g ≠ B := fun e => by subst e; rw [h.plan] at hcur; cases hcur
 have hrnum : ∀ k, r.2.1.ownBlock = some k -> k ≠ g /\ k ≠ B := fun k hk => by
  obtain ⟨_, c, hc⟩ := owns_lt h4 hk
  exact ⟨fun e => (by subst e; rw [hcur] at hc; cases hc), fun e => (by subst e; rw [h.plan] at hc; cases hc)⟩
 have hsame : ∀ k, k < W.heap.size -> r.2.1.ownBlock ≠ some k -> W1.heap[k]? = W.heap[k]? := fun k hk hne => r2.block k hk (fun e => hne e.symm)
 have hB1 : W1.heap[B]? = W.heap[B]? := hsame B hBlt (fun e => (hrnum B e).2 rfl)
 have hg1 : W1.heap[g]? = W.heap[g]? := hsame g hglt (fun e => (hrnum g e).1 rfl)
 have hset : ∀ k, k ≠ g -> (W1.setCell ⟨g, i * 3 + 1, none⟩ v').heap[k]? = W1.heap[k]? := fun k hk => Below.heap_setCell W1 _ _ k hk
 have hv'g : ∀ k, v'.ownBlock = some k -> k ≠ g := fun k hk e => by
  rcases r4 with e1 | e1
  ·rw [e1] at hk
   exact (hrnum k hk).1 e
  ·rw [e1] at hk
   cases hk
   omega
 have hvs : ∃ a n c, v' = .slice a n c := by
  rcases r1.2 with ⟨e, _⟩ | ⟨g', c', _, e, _⟩
  ·exact ⟨_, _, _, e⟩
  ·exact ⟨_, _, _, e⟩
 obtain ⟨f0, f1, f2⟩ := rowP_at rs i r h1
 obtain ⟨g2, cap2, e2, hcells⟩ := owns_cell h.row (by omega)
 cases e2
 refine ⟨r.2.1, v', W1, fun k => A k \/ v'.ownBlock = some k, hcells _ _ f1, hrun, hvs, hB1, hg1, ⟨.slice (some ⟨g, 0, none⟩) L.length cap, rs.set i (r.1, v', r.2.2), ?_, .inl h.own, ?_, fun k hk => .inl (h.rowA k hk), ?_, fun j y hy => ?_, ?_⟩, ⟨?_, fun k hk hn => ?_, fun k hk => ?_⟩⟩
 ·rw [hset B (Ne.symm hgB), hB1]
  exact h.plan
 ·rw [addNext_length, rowP_set rs i r v' h1]
  exact owns_set (owns_same h.row fun k hk => by cases hk; exact hg1) _ _ (by omega)
 ·rw [List.length_set, addNext_length]
  exact h.len
 ·by_cases hji : j = i
  ·subst hji
   rw [addNext_eq hi] at hy
   cases hy
   refine ⟨(r.1, v', r.2.2), ?_, h2, h3, ?_, fun k hk => .inr hk⟩
   ·rw [List.getElem?_set]
    simp [h.len, hiL]
   ·have := owns_same (w' := W1.setCell ⟨g, j * 3 + 1, none⟩ v') r1 fun k hk => hset k (hv'g k hk)
    simpa [numsV] using this
  ·rw [addNext_ne hji] at hy
   obtain ⟨s, s1, s2, s3, s4, s5⟩ := h.each j y hy
   refine ⟨s, ?_, s2, s3, owns_same s4 fun k hk => ?_, fun k hk => .inl (s5 k hk)⟩
   ·rw [List.getElem?_set]
    simp [Ne.symm hji, s1]
   ·obtain ⟨hlt, c, hcc⟩ := owns_lt s4 hk
    rw [hset k (fun e => by subst e; rw [hcur] at hcc; cases hcc), hsame k hlt (fun e => hji (h.apart j i s r k s1 h1 hk e))]
 ·have hget : ∀ (j : Nat) (s : RawP), (rs.set i (r.1, v', r.2.2))[j]? = some s -> (j = i /\ s = (r.1, v', r.2.2)) \/ (j ≠ i /\ rs[j]? = some s) := fun j s hs => by
   rw [List.getElem?_set] at hs
   by_cases hji : i = j
   ·subst hji
    simp [h.len, hiL] at hs
    exact .inl ⟨rfl, hs.symm⟩
   ·rw [if_neg hji] at hs
    exact .inr ⟨Ne.symm hji, hs⟩
  have hold : ∀ (j : Nat) (s : RawP) (k : Nat), j ≠ i -> rs[j]? = some s -> s.2.1.ownBlock = some k -> v'.ownBlock ≠ some k := fun j s k hji hs hk e => by
   obtain ⟨y, hy⟩ : ∃ y, L[j]? = some y := ⟨_, List.getElem?_eq_getElem (by rw [<- h.len]; exact (List.getElem?_eq_some_iff.1 hs).1)⟩
   obtain ⟨s', s1, _, _, s4, _⟩ := h.each j y hy
   rw [hs] at s1
   cases s1
   rcases r4 with e1 | e1
   ·rw [e1] at e
    exact hji (h.apart j i s r k hs h1 hk e)
   ·rw [e1] at e
    cases e
    have := (owns_lt s4 hk).1
    omega
  intro j l rj rl k hj hl gj gl
  rcases hget j rj hj with ⟨j1, rfl⟩ | ⟨j1, j2⟩ <;> rcases hget l rl hl with ⟨l1, rfl⟩ | ⟨l1, l2⟩
  ·rw [j1, l1]
  ·exact absurd gj (hold l rl k l1 l2 gl)
  ·exact absurd gl (hold j rj k j1 j2 gj)
  ·exact h.apart j l rj rl k j2 l2 gj gl
 ·exact ⟨r2.os, r2.tape, r2.output, by have := r2.size; simpa using this, fun k hk => absurd hk (by omega)⟩
 ·rw [hset k (fun e => hn (h.rowA k (by rw [e]; rfl)))]
  exact hsame k hk (fun e => hn (h5 k e))
 ·rcases hk with hk | hk
  ·exact .inl hk
  ·rcases r4 with e | e
   ·rw [e] at hk
    exact .inl (h5 k hk)
   ·rw [e] at hk
    cases hk
    exact .inr (Nat.le_refl _)
end Go.Proofs.YtbkpehfaofhmaaaGreatDoor
