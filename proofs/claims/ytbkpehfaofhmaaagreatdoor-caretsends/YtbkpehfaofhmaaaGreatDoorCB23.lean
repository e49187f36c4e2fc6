/-
  PROVED HERE: what the texts DBApd, DBSp, DBNamesA, DBNamesF say (each has its own words below).
-/
import Derived.Test.YtbkpehfaofhmaaaGreatDoorCB7
import Derived.Test.YtbkpehfaofhmaaaGreatDoorCB22
import Derived.Maps.AppendAt
import Derived.Laws.AppendOwnNone
import Derived.Test.YtbkpehfaofhmaaaGreatDoorCB14
import Derived.Test.YtbkpehfaofhmaaaGreatDoorCBDBParseC
import Derived.Test.YtbkpehfaofhmaaaGreatDoorCB15
import Derived.Laws.Cover3
import Derived.Test.YtbkpehfaofhmaaaGreatDoorCB3
/- DBApd: a slice of integers that is put behind another, whose cells the call made itself. -/
namespace Go.Proofs.YtbkpehfaofhmaaaGreatDoor
open Go.ChangeShapes Go.WideShapes Go.ChangeAt Go.RowKit
def intsV (zs : List Int) : List Value := zs.map (Value.int .i64)
theorem intsV_append (xs zs : List Int) : intsV xs ++ intsV zs = intsV (xs ++ zs) := (List.map_append ..).symm
theorem owned_nil (w : World) (base : Nat) (hb : base <= w.heap.size) : (w.alloc (.cells #[] 3)).ownsRow base 3 1 (.slice (some ⟨w.heap.size, 0, none⟩) 0 0) 0 (intsV []) :=
 ⟨rfl, .inr ⟨w.heap.size, 0, _, rfl, hb, World.alloc_heap_new w _, Nat.le_refl _, by unfold maxLen; omega, rfl, rfl⟩⟩
theorem owned_ints {w : World} {base n : Nat} {v : Value} {zs : List Int} (h : w.ownsRow base 3 1 v n (intsV zs)) (hn : n <= 9223372036854775807) : ∃ a c, v = .slice a n c /\ Ints w a n zs := by
 have hl : zs.length = n := by
  have := h.1
  unfold intsV at this
  rw [List.length_map] at this
  omega
 rcases Nat.eq_zero_or_pos n with h0 | h0
 ·subst h0
  rcases h.2 with ⟨rfl, _⟩ | ⟨g, cap, cur, rfl, _⟩
  ·exact ⟨none, 0, rfl, hl, hn, .inl rfl⟩
  ·exact ⟨_, _, rfl, hl, hn, .inl rfl⟩
 ·obtain ⟨g, cap, rfl, hc⟩ := owns_cell h h0
  obtain ⟨hlt, _⟩ := owns_lt h (g := g) rfl
  refine ⟨_, _, rfl, hl, hn, .inr ⟨g, 0, rfl, hlt, fun i x hx => ?_⟩⟩
  rw [Nat.zero_add]
  exact hc i _ (by unfold intsV; rw [List.getElem?_map, hx]; rfl)
theorem owned_base {w : World} {base n : Nat} {v : Value} {e : TypeId} {sz : Nat} {xs : List Value} (h : w.ownsRow base e sz v n xs) {g : Nat} (hg : v.ownBlock = some g) : base <= g := by
 rcases h.2 with ⟨rfl, _⟩ | ⟨g', cap, cur, rfl, hb, _⟩
 ·cases hg
 ·cases hg
  exact hb
theorem wpList_append_ints {w : World} {ops : Array Oper} {rest : List Oper} {o : Oper} {a : Act} {Q : Exit -> Act -> World -> Prop} (hgd : o.guard = none) (s x : Operand)
  (ho : o.op = .call { callee := .builtin .append, args := #[s, x], argTypes := #[59, 59] }) (base : Nat) (v : Value) (n : Nat) (xs : List Int) (hs : a.eval s = v) (hown : w.ownsRow base 3 1 v n (intsV xs))
  (za : Option Addr) (zl zc : Nat) (zs : List Int) (hx : a.eval x = .slice za zl zc) (hc : za = none -> zc = 0) (hZ : Ints w za zl zs) (h63 : n + zl <= 1000000000) (hbase : base <= w.heap.size)
  (h : ∀ v' w', w'.ownsRow base 3 1 v' (n + zl) (intsV (xs ++ zs)) -> Below base w w' -> wpList Tryz.prog ops Q rest (a.put o.dst v') w') : wpList Tryz.prog ops Q (o :: rest) a w := by
 obtain ⟨i0, hi, hz0, hz1, hz2⟩ := info_parts infoInt
 obtain ⟨hl, _, hz⟩ := hZ
 cases za with
 | none =>
  have hzl : zl = 0 := by
   rcases hz with hz | ⟨b, o, e, _⟩
   ·exact hz
   ·cases e
  subst hzl
  rw [hc rfl] at hx
  have : zs = [] := List.length_eq_zero_iff.1 hl
  subst this
  refine wpList_append_own_none hgd s x 59 ho base 3 i0 1 Tryz.underlying59 hi v n _ hs hown hx ?_
  refine h v w ?_ (Below.refl _ _)
  rw [List.append_nil]
  exact hown
 | some ad =>
  refine wpList_append_own_at w hgd s x 59 ho base 3 i0 _ 1 8 Tryz.underlying59 hi hz0 hz1 hz2 rfl (by decide) v n _ hs hown ad zl zc (intsV zs) hx (by unfold intsV; rw [List.length_map]; omega) (fun j u hj => ?_) (fun u hu => ?_) (by unfold maxLen; omega) (by omega) hbase ?_
  ·unfold intsV at hj
   rw [List.getElem?_map] at hj
   cases hq : zs[j]? with
   | none => rw [hq] at hj; cases hj
   | some y =>
    rw [hq] at hj
    cases hj
    rcases hz with hz | ⟨b, o, e, _, hcc⟩
    ·have := (List.getElem?_eq_some_iff.1 hq).1
     omega
    ·cases e
     rw [add_none]
     exact hcc j y hq
  ·unfold intsV at hu
   obtain ⟨y, _, rfl⟩ := List.mem_map.1 hu
   rfl
  ·intro v' w' q1 q2 _ _
   rw [intsV_append] at q1
   exact h v' w' q1 ((Below.refl base w).grown q2 hbase (fun k e => owned_base hown e))
end Go.Proofs.YtbkpehfaofhmaaaGreatDoor

/- DBSp: types as plain data, and how a slice of them lies in memory; the row of kinds that schema.New makes of them. -/
namespace Go.Proofs.YtbkpehfaofhmaaaGreatDoor
open Go.RowKit
structure SpecD where
 name : ByteArray
 expr : ByteArray
 leaf : Bool
 marks : Int
 least : Int
 most : Int
 lines : Bool
def specC (s : SpecD) : List Value := [.string s.name, .string s.expr, .bool s.leaf, .int .i64 s.marks, .int .i64 s.least, .int .i64 s.most, .bool s.lines]
def SpecAt (w : World) (b o : Nat) (s : SpecD) : Prop := w.cell? ⟨b, o, none⟩ = some (.string s.name) /\ w.cell? ⟨b, o + 1, none⟩ = some (.string s.expr) /\ w.cell? ⟨b, o + 2, none⟩ = some (.bool s.leaf) /\ w.cell? ⟨b, o + 3, none⟩ = some (.int .i64 s.marks) /\ w.cell? ⟨b, o + 4, none⟩ = some (.int .i64 s.least) /\ w.cell? ⟨b, o + 5, none⟩ = some (.int .i64 s.most) /\ w.cell? ⟨b, o + 6, none⟩ = some (.bool s.lines)
theorem SpecAt.same {w w' : World} {b o : Nat} {s : SpecD} (h : SpecAt w b o s) (hb : w'.heap[b]? = w.heap[b]?) : SpecAt w' b o s := by
 have e : ∀ k, w'.cell? ⟨b, k, none⟩ = w.cell? ⟨b, k, none⟩ := fun k => World.cell?_of_block hb
 unfold SpecAt
 rw [e, e, e, e, e, e, e]
 exact h
def Specs (w : World) (a : Option Addr) (len : Nat) (l : List SpecD) : Prop :=
 l.length = len /\ len <= 9223372036854775807 /\ (len = 0 \/ ∃ b o, a = some ⟨b, o, none⟩ /\ b < w.heap.size /\ ∀ i x, l[i]? = some x -> SpecAt w b (o + i * 7) x)
theorem Specs.below {w w' : World} {a : Option Addr} {len : Nat} {l : List SpecD} (h : Specs w a len l) (hb : Below w.heap.size w w') : Specs w' a len l := by
 obtain ⟨h1, h2, h3⟩ := h
 refine ⟨h1, h2, ?_⟩
 rcases h3 with h3 | ⟨b, o, e, hlt, hc⟩
 ·exact .inl h3
 ·exact .inr ⟨b, o, e, Nat.lt_of_lt_of_le hlt hb.size, fun i x hx => (hc i x hx).same (hb.block b hlt)⟩
theorem Specs.at {w : World} {a : Option Addr} {len : Nat} {l : List SpecD} (h : Specs w a len l) {i : Nat} (hi : i < len) : ∃ b o x, a = some ⟨b, o, none⟩ /\ b < w.heap.size /\ l[i]? = some x /\ ∀ W : World, Below w.heap.size w W -> SpecAt W b (o + i * 7) x := by
 obtain ⟨h1, _, h3⟩ := h
 rcases h3 with h3 | ⟨b, o, rfl, hlt, hc⟩
 ·omega
 ·have hx : l[i]? = some (l[i]'(by omega)) := List.getElem?_eq_getElem (by omega)
  exact ⟨b, o, _, rfl, hlt, hx, fun W hb => (hc i _ hx).same (hb.block b hlt)⟩
abbrev KindD : Type := SpecD × Int × ByteArray × Option Addr × Nat × Nat
def kindC (x : KindD) : List Value := specC x.1 ++ [.int .i64 x.2.1, .string x.2.2.1, .slice x.2.2.2.1 x.2.2.2.2.1 x.2.2.2.2.2]
def flatK : List KindD -> List Value
 | [] => []
 | x :: r => kindC x ++ flatK r
def zeroS : SpecD := ⟨⟨#[]⟩, ⟨#[]⟩, false, 0, 0, 0, false⟩
def bareK (s : SpecD) : KindD := (s, 0, ⟨#[]⟩, none, 0, 0)
theorem kindC_length (x : KindD) : (kindC x).length = 10 := rfl
theorem flatK_append (l m : List KindD) : flatK (l ++ m) = flatK l ++ flatK m := by
 induction l with
 | nil => rfl
 | cons e r ih => rw [List.cons_append, flatK, flatK, ih, List.append_assoc]
theorem flatK_at : ∀ {l : List KindD} {i : Nat} {x : KindD} {j : Nat} {u : Value}, l[i]? = some x -> (kindC x)[j]? = some u -> (flatK l)[i * 10 + j]? = some u := by
 intro l
 induction l with
 | nil => intro i x j u h; simp at h
 | cons y r ih =>
  intro i x j u h hj
  have hj10 : j < 10 := by
   have := (List.getElem?_eq_some_iff.1 hj).1
   rw [kindC_length] at this
   exact this
  cases i with
  | zero =>
   simp only [List.getElem?_cons_zero, Option.some.injEq] at h
   subst h
   rw [flatK, Nat.zero_mul, Nat.zero_add, List.getElem?_append_left (by rw [kindC_length]; exact hj10)]
   exact hj
  | succ i =>
   rw [List.getElem?_cons_succ] at h
   rw [flatK, List.getElem?_append_right (by rw [kindC_length]; omega), kindC_length]
   have e : (i + 1) * 10 + j - 10 = i * 10 + j := by omega
   rw [e]
   exact ih h hj
theorem infoKind : (Tryz.prog.info? 106).map (fun i => (i.zero, i.size, i.bytes)) = some (some (.agg #[.string ⟨#[]⟩, .string ⟨#[]⟩, .bool false, .int .i64 0, .int .i64 0, .int .i64 0, .bool false, .int .i64 0, .string ⟨#[]⟩, .slice none 0 0]), 10, 120) := by kernel_rfl
theorem kindC_one (x : KindD) : ∀ u ∈ kindC x, u.oneCell' = true := by
 intro u hu
 simp only [kindC, specC, List.mem_append, List.mem_cons, List.not_mem_nil, or_false] at hu
 rcases hu with (rfl | rfl | rfl | rfl | rfl | rfl | rfl) | (rfl | rfl | rfl) <;> rfl
theorem ten_new (w : World) (x : KindD) (t : TypeId) : ∀ j u, (kindC x)[j]? = some u -> (w.alloc (.cells (kindC x).toArray t)).cell? ((⟨w.heap.size, 0, none⟩ : Addr).add j) = some u := by
 intro j u hj
 have hadd : (⟨w.heap.size, 0, none⟩ : Addr).add j = ⟨w.heap.size, j, none⟩ := by unfold Addr.add; split <;> simp_all
 rw [hadd, cell_of_row _ _ j _ _ _ (World.alloc_heap_new w _), List.getElem?_toArray]
 exact hj
theorem kind_put (W : World) (base : Nat) (v : Value) (ks : List KindD) (hown : W.ownsRow base 106 10 v ks.length (flatK ks)) (x : KindD) (hlen : ks.length <= 1000000) (hbase : base <= W.heap.size) (b cap : Nat) (hc : ∀ j u, (kindC x)[j]? = some u -> W.cell? ((⟨b, 0, none⟩ : Addr).add j) = some u) :
  ∃ g' cap' W1, (Builtin.append_ #[77, 77] 77 #[v, .slice (some ⟨b, 0, none⟩) 1 cap]).run Tryz.prog W = .ok (.slice (some ⟨g', 0, none⟩) (ks.length + 1) cap') W1 /\ W1.ownsRow base 106 10 (.slice (some ⟨g', 0, none⟩) (ks.length + 1) cap') (ks ++ [x]).length (flatK (ks ++ [x])) /\ Below base W W1 := by
 obtain ⟨i0, hi, hz0, hz1, hz2⟩ := info_parts infoKind
 obtain ⟨v', W1, hrun, r1, r2, _, _⟩ := run_append_own_at (P := Tryz.prog) W base 77 77 106 i0 _ 10 120 Tryz.underlying77 hi hz0 hz1 hz2 rfl (by decide) v ks.length _ hown ⟨b, 0, none⟩ 1 cap (kindC x) rfl hc (kindC_one x) (by unfold maxLen; omega) (by omega) hbase
 have e1 : flatK ks ++ kindC x = flatK (ks ++ [x]) := by rw [flatK_append]; simp [flatK]
 rw [e1] at r1
 obtain ⟨g, cap', rfl, _⟩ := owns_cell r1 (Nat.succ_pos _)
 exact ⟨g, cap', W1, hrun, by rw [List.length_append]; exact r1, (Below.refl base W).grown r2 hbase (fun k e => owned_base hown e)⟩
end Go.Proofs.YtbkpehfaofhmaaaGreatDoor

/- DBNamesA: the names of a schema, as they lie in memory; schema's namesOf: text, the types, the groups, in memory of their own. -/
namespace Go.Proofs.YtbkpehfaofhmaaaGreatDoor
open Go.RowKit
abbrev GrpD : Type := ByteArray × Option Addr × Nat × List Int
def grpC (x : GrpD) : List Value := [.string x.1, .slice x.2.1 x.2.2.2.length x.2.2.1]
def flatG : List GrpD -> List Value
 | [] => []
 | x :: r => grpC x ++ flatG r
def plainG (x : GrpD) : Grp := (x.1, x.2.2.2)
theorem flatG_append (l m : List GrpD) : flatG (l ++ m) = flatG l ++ flatG m := by
 induction l with
 | nil => rfl
 | cons e r ih => rw [List.cons_append, flatG, flatG, ih, List.append_assoc]
theorem flatG_at : ∀ {l : List GrpD} {i : Nat} {e : GrpD}, l[i]? = some e -> (flatG l)[i * 2]? = some (.string e.1) /\ (flatG l)[i * 2 + 1]? = some (.slice e.2.1 e.2.2.2.length e.2.2.1) := by
 intro l
 induction l with
 | nil => intro i e h; simp at h
 | cons x r ih =>
  intro i e h
  cases i with
  | zero =>
   simp only [List.getElem?_cons_zero, Option.some.injEq] at h
   subst h
   exact ⟨rfl, rfl⟩
  | succ i =>
   rw [List.getElem?_cons_succ] at h
   obtain ⟨h1, h2⟩ := ih h
   rw [flatG]
   have e1 : (i + 1) * 2 = (grpC x).length + i * 2 := by simp only [grpC, List.length_cons, List.length_nil]; omega
   rw [e1, Nat.add_assoc, List.getElem?_append_right (Nat.le_add_right ..), List.getElem?_append_right (Nat.le_add_right ..), Nat.add_sub_cancel_left, Nat.add_sub_cancel_left]
   exact ⟨h1, h2⟩
theorem infoGrp : (Tryz.prog.info? 61).map (fun i => (i.zero, i.size, i.bytes)) = some (some (.agg #[.string ⟨#[]⟩, .slice none 0 0]), 2, 40) := by kernel_rfl
def GrpOk (W : World) (x : GrpD) : Prop := W.ownsRow 0 3 1 (.slice x.2.1 x.2.2.2.length x.2.2.1) x.2.2.2.length (intsV x.2.2.2) /\ x.2.2.2.length <= 1500000
structure Nms (base : Nat) (W : World) (v : Value) (xs : List GrpD) : Prop where
 row : W.ownsRow base 61 2 v xs.length (flatG xs)
 ok : ∀ x ∈ xs, GrpOk W x
theorem GrpOk.below {W W' : World} {x : GrpD} (h : GrpOk W x) (hB : Below W.heap.size W W') : GrpOk W' x := ⟨owns_same h.1 fun g hg => hB.block g (owns_lt h.1 hg).1, h.2⟩
theorem Nms.below {base : Nat} {W W' : World} {v : Value} {xs : List GrpD} (h : Nms base W v xs) (hB : Below W.heap.size W W') : Nms base W' v xs :=
 ⟨owns_same h.row fun g hg => hB.block g (owns_lt h.row hg).1, fun e he => (h.ok e he).below hB⟩
theorem grp_type : 3 ≠ 61 := by decide
theorem Nms.put {base : Nat} {W : World} {v : Value} {xs : List GrpD} (h : Nms base W v xs) (x : GrpD) (hx : GrpOk W x) (hlen : xs.length <= 1500000) (hbase : base <= W.heap.size) (b cap : Nat) (hc : ∀ j u, (grpC x)[j]? = some u -> W.cell? ((⟨b, 0, none⟩ : Addr).add j) = some u) :
  ∃ g' cap' W1, (Builtin.append_ #[53, 53] 53 #[v, .slice (some ⟨b, 0, none⟩) 1 cap]).run Tryz.prog W = .ok (.slice (some ⟨g', 0, none⟩) (xs.length + 1) cap') W1 /\ Nms base W1 (.slice (some ⟨g', 0, none⟩) (xs.length + 1) cap') (xs ++ [x]) /\ W.grownBy W1 v.ownBlock := by
 obtain ⟨i0, hi, hz0, hz1, hz2⟩ := info_parts infoGrp
 obtain ⟨v', W1, hrun, r1, r2, _, _⟩ := run_append_own_at (P := Tryz.prog) W base 53 53 61 i0 _ 2 40 Tryz.underlying53 hi hz0 hz1 hz2 rfl (by decide) v xs.length _ h.row ⟨b, 0, none⟩ 1 cap (grpC x) rfl hc (fun u hu => by
  simp only [grpC, List.mem_cons, List.not_mem_nil, or_false] at hu
  rcases hu with rfl | rfl <;> rfl) (by unfold maxLen; omega) (by omega) hbase
 have e1 : flatG xs ++ grpC x = flatG (xs ++ [x]) := by rw [flatG_append]; simp [flatG]
 rw [e1] at r1
 have keep : ∀ y, GrpOk W y -> GrpOk W1 y := fun y hy => ⟨owns_same hy.1 fun g hg' => by
  obtain ⟨hl, cur, hcur⟩ := owns_lt hy.1 hg'
  refine r2.block g hl (fun he => ?_)
  obtain ⟨_, cur', hcur'⟩ := owns_lt h.row he.symm
  rw [hcur'] at hcur
  injection hcur with hk
  injection hk with _ h2 _
  exact grp_type h2.symm, hy.2⟩
 obtain ⟨g, cap', rfl, _⟩ := owns_cell r1 (Nat.succ_pos _)
 refine ⟨g, cap', W1, hrun, ⟨by rw [List.length_append]; exact r1, fun y hy => ?_⟩, r2⟩
 rcases List.mem_append.1 hy with hy | hy
 ·exact keep y (h.ok y hy)
 ·rw [List.mem_singleton] at hy
  subst hy
  exact keep _ hx
theorem Nms.groups {base : Nat} {W : World} {g c : Nat} {n : Nat} {xs : List GrpD} (h : Nms base W (.slice (some ⟨g, 0, none⟩) n c) xs) (hn : n = xs.length) (hlen : xs.length <= 1500000) : Groups W (some ⟨g, 0, none⟩) n (xs.map plainG) := by
 subst hn
 refine ⟨by rw [List.length_map], by omega, ?_⟩
 rcases Nat.eq_zero_or_pos xs.length with h0 | h0
 ·exact .inl h0
 ·obtain ⟨g', cap', e, hc⟩ := owns_cell h.row h0
  injection e with e1
  injection e1 with e1
  injection e1 with e1
  subst e1
  refine .inr ⟨g, 0, rfl, (owns_lt h.row (g := g) rfl).1, fun i y hy => ?_⟩
  rw [List.getElem?_map] at hy
  cases hx : xs[i]? with
  | none => rw [hx] at hy; cases hy
  | some x =>
   rw [hx] at hy
   cases hy
   obtain ⟨f1, f2⟩ := flatG_at hx
   obtain ⟨h1, h2⟩ := h.ok x (List.mem_of_getElem? hx)
   obtain ⟨a', c', e, hints⟩ := owned_ints h1 (by omega)
   injection e with e1
   subst e1
   rw [Nat.zero_add]
   exact ⟨x.2.1, x.2.2.2.length, x.2.2.1, hc _ _ f1, hc _ _ f2, hints⟩
theorem two_cells (w : World) (x0 x1 : Value) (t : TypeId) : ∀ j u, [x0, x1][j]? = some u -> (w.alloc (.cells #[x0, x1] t)).cell? ((⟨w.heap.size, 0, none⟩ : Addr).add j) = some u := by
 intro j u hj
 have hadd : (⟨w.heap.size, 0, none⟩ : Addr).add j = ⟨w.heap.size, j, none⟩ := by unfold Addr.add; split <;> simp_all
 rw [hadd]
 match j, hj with
 | 0, hj => simp at hj; subst hj; simp
 | 1, hj => simp at hj; subst hj; simp
theorem shape_owns {w : World} {base : Nat} {e : TypeId} {sz : Nat} {v : Value} {n : Nat} {xs : List Value} (h : w.ownsRow base e sz v n xs) : ∃ a c, v = .slice a n c := by
 rcases h.2 with ⟨e, hn⟩ | ⟨g, cap, cur, e, _⟩
 ·exact ⟨none, 0, by rw [e, hn]⟩
 ·exact ⟨_, _, e⟩
theorem eql_nilI (a : Option Addr) (l c : Nat) (W : World) : (binOp .eql 59 (.slice a l c) (.slice none 0 0)).run Tryz.prog W = .ok (.bool a.isNone) W := by
 simp only [binOp]
 simp [run_equal_slice_nil W 59 _ a l c Tryz.underlying59]
set_option maxRecDepth 100000 in
set_option maxHeartbeats 400000 in
theorem iclone_calls (a : Option Addr) (len cap : Nat) (zs : List Int) (w : World) (hZ : Ints w a len zs) (hlen : len <= 1500000) :
  Calls Tryz.prog 65 #[.slice a len cap] w fun e w' => ∃ a1 c1, e = .returned (.slice a1 len c1) /\ w'.ownsRow w.heap.size 3 1 (.slice a1 len c1) len (intsV zs) /\ Below w.heap.size w w' := by
 cases a with
 | none =>
  have h0 : len = 0 := by
   rcases hZ.2.2 with h | ⟨b, o, e, _⟩
   ·exact h
   ·cases e
  subst h0
  have hz : zs = [] := List.length_eq_zero_iff.1 hZ.1
  subst hz
  have hq := eql_nilI none 0 cap w
  have HE : Hid (w.ownsRow w.heap.size 3 1 (.slice none 0 0) 0 (intsV []) /\ Below w.heap.size w w) := ⟨World.ownsRow_nil .., Below.refl _ _⟩
  clear hZ
  go_enter Tryz.func65, Tryz.ntmps65
  go_wp2
  go_ret
  exact ⟨none, 0, rfl, HE.out⟩
 | some ad =>
  have hq := eql_nilI (some ad) len cap w
  have hB45 : Below w.heap.size w (w.alloc (.cells #[] 3)) := (Below.refl _ w).alloc (Nat.le_refl _) _
  have HOWN0 : Hid ((w.alloc (.cells #[] 3)).ownsRow w.heap.size 3 1 (.slice (some ⟨w.heap.size, 0, none⟩) 0 0) 0 (intsV [])) := owned_nil w w.heap.size (Nat.le_refl _)
  have HXI5 : Hid (Ints (w.alloc (.cells #[] 3)) (some ad) len zs) := hZ.below hB45
  have HB45 : Hid (Below w.heap.size w (w.alloc (.cells #[] 3))) := hB45
  have hs1 : 0 + len <= 1000000000 := by omega
  clear hZ hB45
  go_enter Tryz.func65, Tryz.ntmps65
  go_wp2_with (first
   | (at_builtin; (refine wpList_append_ints rfl (.tmp 5) (.tmp 6) rfl w.heap.size _ 0 [] rfl HOWN0.out (some ad) len cap zs rfl (fun e => by cases e) HXI5.out hs1 HB45.out.size ?_; intro v1 W6 hown1 hB56; rw [Nat.zero_add, List.nil_append] at hown1; obtain ⟨ua1, uc1, rfl⟩ := shape_owns hown1; have HE : Hid (W6.ownsRow w.heap.size 3 1 (.slice ua1 len uc1) len (intsV zs) /\ Below w.heap.size w W6) := ⟨hown1, HB45.out.trans hB56⟩; clear hown1 hB56 HOWN0 HXI5))
   | fail)
  go_ret
  exact ⟨ua1, uc1, rfl, HE.out⟩
end Go.Proofs.YtbkpehfaofhmaaaGreatDoor

/- DBNamesF: schema's namesOf: text, the types, the groups, in memory of their own. -/
namespace Go.Proofs.YtbkpehfaofhmaaaGreatDoor
open Go.RowKit
theorem Hid.mk_ {p : Prop} (h : p) : Hid p := h
def textB : ByteArray := ⟨#[116, 101, 120, 116]⟩
def specNames : Nat -> List SpecD -> List Grp
 | _, [] => []
 | i, s :: r => (s.name, [((i + 1 : Nat) : Int)]) :: specNames (i + 1) r
def namesD (l : List SpecD) (gs : List Grp) : List Grp := (textB, [0]) :: (specNames 0 l ++ gs)
theorem specNames_length : ∀ (l : List SpecD) (i : Nat), (specNames i l).length = l.length := by
 intro l
 induction l with
 | nil => intro i; rfl
 | cons s r ih => intro i; rw [specNames, List.length_cons, ih, List.length_cons]
theorem specNames_snoc : ∀ (l : List SpecD) (i : Nat) (x : SpecD), specNames i (l ++ [x]) = specNames i l ++ [(x.name, [((i + l.length + 1 : Nat) : Int)])] := by
 intro l
 induction l with
 | nil => intro i x; simp [specNames]
 | cons s r ih => intro i x; rw [List.cons_append, specNames, specNames, ih, List.cons_append, List.length_cons]; simp only [Nat.add_assoc, Nat.add_comm 1]
theorem one_row (W : World) (t : Int) : (W.alloc (.cells #[.int .i64 t] 3)).ownsRow 0 3 1 (.slice (some ⟨W.heap.size, 0, none⟩) 1 1) 1 (intsV [t]) := ⟨rfl, .inr ⟨W.heap.size, 1, _, rfl, Nat.zero_le _, World.alloc_heap_new W _, Nat.le_refl _, by unfold maxLen; omega, rfl, rfl⟩⟩
theorem names_first (w : World) : Nms w.heap.size ((w.alloc (.cells #[.int .i64 0] 3)).alloc (.cells #[.string textB, .slice (some ⟨w.heap.size, 0, none⟩) 1 1] 61)) (.slice (some ⟨w.heap.size + 1, 0, none⟩) 1 1) [(textB, some ⟨w.heap.size, 0, none⟩, 1, [0])] := by
 refine ⟨⟨rfl, .inr ⟨w.heap.size + 1, 1, #[.string textB, .slice (some ⟨w.heap.size, 0, none⟩) 1 1], rfl, by omega, ?_, Nat.le_refl _, by unfold maxLen; omega, rfl, rfl⟩⟩, fun x hx => ?_⟩
 ·have := World.alloc_heap_new (w.alloc (.cells #[.int .i64 0] 3)) (.cells #[.string textB, .slice (some ⟨w.heap.size, 0, none⟩) 1 1] 61)
  rw [World.size_alloc] at this
  exact this
 ·rw [List.mem_singleton] at hx
  subst hx
  exact ⟨World.ownsRow.alloc (one_row w 0) _, by show 1 <= 1500000; omega⟩
theorem names_type {w wr : World} {v : Value} {xs : List GrpD} {i : Nat} (h : Nms w.heap.size wr v xs) (hlen : xs.length <= 100) (hB : Below w.heap.size w wr) (x : SpecD) :
  ∃ g' cap' W1, (Builtin.append_ #[53, 53] 53 #[v, .slice (some ⟨wr.heap.size + 1 + 1, 0, none⟩) 1 1]).run Tryz.prog (((wr.alloc (.cells #[.string x.name, .string x.expr, .bool x.leaf, .int .i64 x.marks, .int .i64 x.least, .int .i64 x.most, .bool x.lines] 56)).alloc (.cells #[.int .i64 (1 + (i : Int))] 3)).alloc (.cells #[.string x.name, .slice (some ⟨wr.heap.size + 1, 0, none⟩) 1 1] 61)) = .ok (.slice (some ⟨g', 0, none⟩) (xs.length + 1) cap') W1 /\ Nms w.heap.size W1 (.slice (some ⟨g', 0, none⟩) (xs.length + 1) cap') (xs ++ [(x.name, some ⟨wr.heap.size + 1, 0, none⟩, 1, [1 + (i : Int)])]) /\ Below w.heap.size w W1 := by
 obtain ⟨W1, hW1⟩ : ∃ W1, W1 = wr.alloc (.cells #[.string x.name, .string x.expr, .bool x.leaf, .int .i64 x.marks, .int .i64 x.least, .int .i64 x.most, .bool x.lines] 56) := ⟨_, rfl⟩
 have s1 : W1.heap.size = wr.heap.size + 1 := by rw [hW1, World.size_alloc]
 rw [<- hW1, <- s1]
 have hB1 : Below wr.heap.size wr W1 := by rw [hW1]; exact (Below.refl _ wr).alloc (Nat.le_refl _) _
 clear hW1
 obtain ⟨W2, hW2⟩ : ∃ W2, W2 = W1.alloc (.cells #[.int .i64 (1 + (i : Int))] 3) := ⟨_, rfl⟩
 have s2 : W2.heap.size = W1.heap.size + 1 := by rw [hW2, World.size_alloc]
 have hB2 : Below wr.heap.size wr W2 := by rw [hW2]; exact hB1.alloc hB1.size _
 have ho : W2.ownsRow 0 3 1 (.slice (some ⟨W1.heap.size, 0, none⟩) 1 1) 1 (intsV [1 + (i : Int)]) := by rw [hW2]; exact one_row W1 _
 rw [<- hW2, <- s2]
 clear hW2
 have hB3 : Below wr.heap.size wr (W2.alloc (.cells #[.string x.name, .slice (some ⟨W1.heap.size, 0, none⟩) 1 1] 61)) := hB2.alloc hB2.size _
 obtain ⟨g', cap', Z, h1, h2, h3⟩ := (h.below hB3).put (x.name, some ⟨W1.heap.size, 0, none⟩, 1, [1 + (i : Int)]) ⟨World.ownsRow.alloc ho _, by show 1 <= 1500000; omega⟩ (by omega) (by have := hB3.size; have := hB.size; omega) W2.heap.size 1 (two_cells W2 _ _ _)
 have hBZ := hB.trans (hB3.mono hB.size)
 exact ⟨g', cap', Z, h1, h2, hBZ.grown h3 hBZ.size (fun k e => owned_base h.row e)⟩
theorem names_group {w wr Y Y1 : World} {v : Value} {xs : List GrpD} {x : Grp} {ta a1 : Option Addr} {tl tc c1 b0 : Nat} (h : Nms w.heap.size wr v xs) (hlen : xs.length <= 100) (hB : Below w.heap.size w wr) (hx : x.2.length = tl) (htl : tl <= 1500000) (hcl : Y.ownsRow b0 3 1 (.slice a1 tl c1) tl (intsV x.2)) (hBY : Below (wr.alloc (.cells #[.string x.1, .slice ta tl tc] 61)).heap.size (wr.alloc (.cells #[.string x.1, .slice ta tl tc] 61)) Y) (hY1 : Y1 = Y.alloc (.cells #[.string x.1, .slice a1 tl c1] 61)) :
  (Y1.cell? ⟨wr.heap.size, 0, none⟩ = some (.string x.1) /\ Y1.cell? ⟨wr.heap.size, 1, none⟩ = some (.slice ta tl tc)) /\ ∃ g' cap' W1, (Builtin.append_ #[53, 53] 53 #[v, .slice (some ⟨Y.heap.size, 0, none⟩) 1 1]).run Tryz.prog Y1 = .ok (.slice (some ⟨g', 0, none⟩) (xs.length + 1) cap') W1 /\ (W1.cell? ⟨wr.heap.size, 0, none⟩ = some (.string x.1) /\ W1.cell? ⟨wr.heap.size, 1, none⟩ = some (.slice ta tl tc)) /\ Nms w.heap.size W1 (.slice (some ⟨g', 0, none⟩) (xs.length + 1) cap') (xs ++ [(x.1, a1, c1, x.2)]) /\ Below w.heap.size w W1 := by
 have hB1 : Below wr.heap.size wr (wr.alloc (.cells #[.string x.1, .slice ta tl tc] 61)) := (Below.refl _ wr).alloc (Nat.le_refl _) _
 have m0 : (wr.alloc (.cells #[.string x.1, .slice ta tl tc] 61)).heap[wr.heap.size]? = some (.cells #[.string x.1, .slice ta tl tc] 61 (0, 0)) := World.alloc_heap_new wr _
 have hlt0 : wr.heap.size < (wr.alloc (.cells #[.string x.1, .slice ta tl tc] 61)).heap.size := (Array.getElem?_eq_some_iff.1 m0).1
 have mY : Y.heap[wr.heap.size]? = some (.cells #[.string x.1, .slice ta tl tc] 61 (0, 0)) := (hBY.block _ hlt0).trans m0
 have hBYw : Below wr.heap.size wr Y := hB1.trans (hBY.mono hB1.size)
 have hltY : wr.heap.size < Y.heap.size := (Array.getElem?_eq_some_iff.1 mY).1
 have mY1 : Y1.heap[wr.heap.size]? = some (.cells #[.string x.1, .slice ta tl tc] 61 (0, 0)) := by rw [hY1]; exact (Below.heap_alloc Y _ _ hltY).trans mY
 have hB3 : Below wr.heap.size wr Y1 := by rw [hY1]; exact hBYw.alloc hBYw.size _
 have hok : GrpOk Y1 (x.1, a1, c1, x.2) := by
  refine ⟨?_, by show x.2.length <= 1500000; omega⟩
  show Y1.ownsRow 0 3 1 (.slice a1 x.2.length c1) x.2.length (intsV x.2)
  rw [hx, hY1]
  have := World.ownsRow.alloc hcl (.cells #[.string x.1, .slice a1 tl c1] 61)
  refine ⟨this.1, ?_⟩
  rcases this.2 with h2 | ⟨g, cap, cur, h1, h2, h3⟩
  ·exact .inl h2
  ·exact .inr ⟨g, cap, cur, h1, Nat.zero_le _, h3⟩
 obtain ⟨g', cap', Z, h1, h2, h3⟩ := (h.below hB3).put (x.1, a1, c1, x.2) hok (by omega) (by have := hB3.size; have := hB.size; omega) Y.heap.size 1 (by unfold grpC; dsimp only; rw [hx, hY1]; exact two_cells Y _ _ _)
 have hBZ := hB.trans (hB3.mono hB.size)
 have hc1 := fun j => cell_of_row Y1 wr.heap.size j _ _ _ mY1
 have mZ : Z.heap[wr.heap.size]? = some (.cells #[.string x.1, .slice ta tl tc] 61 (0, 0)) := by
  refine (h3.block _ (Array.getElem?_eq_some_iff.1 mY1).1 (fun e => ?_)).trans mY1
  have := (owns_lt h.row e.symm).1
  omega
 have hcZ := fun j => cell_of_row Z wr.heap.size j _ _ _ mZ
 exact ⟨⟨hc1 0, hc1 1⟩, g', cap', Z, h1, ⟨hcZ 0, hcZ 1⟩, h2, hBZ.grown h3 hBZ.size (fun k e => owned_base h.row e)⟩
set_option maxRecDepth 100000 in
set_option maxHeartbeats 600000 in
theorem namesof_calls (a : Option Addr) (len cap : Nat) (l : List SpecD) (ga : Option Addr) (gl gc : Nat) (gs : List Grp) (w : World) (hl : Specs w a len l) (hG : Groups w ga gl gs) (hsz : len <= 15) (hgz : gl <= 16) (hts : ∀ x ∈ gs, x.2.length <= 1500000) :
  Calls Tryz.prog 33 #[.slice a len cap, .slice ga gl gc] w fun e w' => ∃ (g c : Nat) (xs : List GrpD), e = .returned (.slice (some ⟨g, 0, none⟩) xs.length c) /\ Nms w.heap.size w' (.slice (some ⟨g, 0, none⟩) xs.length c) xs /\ xs.map plainG = namesD l gs /\ Below w.heap.size w w' := by
 have HS : Hid (∀ (X : World) (i : Nat), Below w.heap.size w X -> i < len -> ∃ b o x, a = some ⟨b, o, none⟩ /\ l[i]? = some x /\ SpecAt X b (o + i * 7) x) := fun X i hX hi => by
  obtain ⟨b, o, x, h1, _, h2, h3⟩ := hl.at hi
  exact ⟨b, o, x, h1, h2, h3 X hX⟩
 have HGG : Hid (∀ (X : World) (i : Nat), Below w.heap.size w X -> i < gl -> ∃ b o x ta tl tc, ga = some ⟨b, o, none⟩ /\ gs[i]? = some x /\ X.cell? ⟨b, o + i * 2, none⟩ = some (.string x.1) /\ X.cell? ⟨b, o + i * 2 + 1, none⟩ = some (.slice ta tl tc) /\ Ints X ta tl x.2 /\ tl <= 1500000) := fun X i hX hi => by
  obtain ⟨b, o, x, ta, tl, tc, h1, h2, h3, h4⟩ := hG.at hi
  obtain ⟨h5, h6⟩ := h4 X hX
  exact ⟨b, o, x, ta, tl, tc, h1, h2, h5, h6, h3.below hX, by have := hts x (List.mem_of_getElem? h2); have := h3.1; omega⟩
 have HLL : Hid (l.length = len /\ gs.length = gl) := ⟨hl.1, hG.1⟩
 have HB0 : Hid (Below w.heap.size w ((w.alloc (.cells #[.int .i64 0] 3)).alloc (.cells #[.string textB, .slice (some ⟨w.heap.size, 0, none⟩) 1 1] 61))) := ((Below.refl _ w).alloc (Nat.le_refl _) _).alloc (by simp) _
 have HO0 := Hid.mk_ (names_first w)
 have hsi : (len : Int) <= 15 := by omega
 have hgi : (gl : Int) <= 16 := by omega
 clear hl hG hts
 go_enter Tryz.func33, Tryz.ntmps33
 go_wp2
 go_loopg [5, 15] (len + 1) (fun gk u v wr => ∃ (i : Nat) (g c : Nat) (xs : List GrpD), i <= len /\ len < i + gk /\ u = .slice (some ⟨g, 0, none⟩) xs.length c /\ v = .int .i64 (i : Int) /\ Nms w.heap.size wr (.slice (some ⟨g, 0, none⟩) xs.length c) xs /\ xs.map plainG = (textB, [0]) :: specNames 0 (l.take i) /\ Below w.heap.size w wr)
 case atStart => exact ⟨0, _, _, [(textB, some ⟨w.heap.size, 0, none⟩, 1, [0])], Nat.zero_le _, by omega, rfl, rfl, HO0.out, by rw [List.take_zero]; rfl, HB0.out⟩
 case round =>
  obtain ⟨i, g, c, xs, hi, hgk, rfl, rfl, hown, hnm, hB⟩ := hrel
  clear HO0 HB0
  have hxl : xs.length = i + 1 := by
   have := congrArg List.length hnm
   rw [List.length_map, List.length_cons, specNames_length, List.length_take] at this
   have := HLL.out.1
   omega
  by_cases hlt : i < len
  ·obtain ⟨b, o, x, rfl, hx, c0, c1, c2, c3, c4, c5, c6⟩ := HS.out wr i hB hlt
   have hii : (i : Int) < (len : Int) := by omega
   have hi0 : (0 : Int) <= (i : Int) := by omega
   have hd : decide ((i : Int) < (len : Int)) = true := by simpa using hii
   obtain ⟨g', cap', W1, hrun, hown', hBW⟩ := names_type (i := i) hown (by omega) hB x
   have htk : l.take (i + 1) = l.take i ++ [x] := by rw [List.take_add_one, hx]; rfl
   have HN : Hid (Nms w.heap.size W1 (.slice (some ⟨g', 0, none⟩) (xs ++ [(x.name, some (⟨wr.heap.size + 1, 0, none⟩ : Addr), 1, [1 + (i : Int)])]).length cap') (xs ++ [(x.name, some ⟨wr.heap.size + 1, 0, none⟩, 1, [1 + (i : Int)])]) /\ (xs ++ [(x.name, some (⟨wr.heap.size + 1, 0, none⟩ : Addr), 1, [1 + (i : Int)])]).map plainG = (textB, [0]) :: specNames 0 (l.take (i + 1)) /\ Below w.heap.size w W1) := by
    refine ⟨by rw [List.length_append]; exact hown', ?_, hBW⟩
    rw [htk, specNames_snoc, List.map_append, hnm, List.map_singleton, List.cons_append]
    have e1 : (0 + (l.take i).length + 1 : Nat) = 1 + i := by rw [List.length_take]; have := HLL.out.1; omega
    rw [e1]
    rfl
   have HRUN := Hid.mk_ hrun
   clear hown hB hBW hown' hrun htk HS hx hnm hxl
   go_wp2_with (first
    | (at_builtin; refine wpList_run_append rfl (.tmp 20) (.tmp 27) 53 rfl _ _ _ _ rfl rfl HRUN.out ?_)
    | fail)
   go_roundg (len - i)
   case measure => omega
   case rel => exact ⟨i + 1, g', cap', _, by omega, by omega, by rw [List.length_append]; rfl, by first | rfl | go_num, HN.out⟩
  ·obtain rfl : i = len := by omega
   have hd : decide ((i : Int) < (i : Int)) = false := by simp
   have HI0 : Hid (Nms w.heap.size wr (.slice (some ⟨g, 0, none⟩) xs.length c) xs /\ xs.map plainG = (textB, [0]) :: (specNames 0 l ++ gs.take 0) /\ Below w.heap.size w wr) := by
    rw [List.take_of_length_le (by have := HLL.out.1; omega)] at hnm
    exact ⟨hown, by rw [hnm, List.take_zero, List.append_nil], hB⟩
   clear hown hB HS hnm hgk hxl
   go_wp2
   go_loopg [5, 32] (gl + 1) (fun gk u v wr => ∃ (j : Nat) (g c : Nat) (xs : List GrpD), j <= gl /\ gl < j + gk /\ u = .slice (some ⟨g, 0, none⟩) xs.length c /\ v = .int .i64 (j : Int) /\ Nms w.heap.size wr (.slice (some ⟨g, 0, none⟩) xs.length c) xs /\ xs.map plainG = (textB, [0]) :: (specNames 0 l ++ gs.take j) /\ Below w.heap.size w wr)
   case atStart => exact ⟨0, g, c, xs, Nat.zero_le _, by omega, rfl, rfl, HI0.out⟩
   case round =>
    clear HI0
    obtain ⟨j, g, c, xs, hj, hgk, rfl, rfl, hown, hnm, hB⟩ := hrel
    have hxl : xs.length = i + 1 + j := by
     have := congrArg List.length hnm
     rw [List.length_map, List.length_cons, List.length_append, specNames_length, List.length_take] at this
     have := HLL.out.1
     have := HLL.out.2
     omega
    by_cases hlt2 : j < gl
    ·obtain ⟨b, o, x, ta, tl, tc, rfl, hx, c0, c1, hti, htl⟩ := HGG.out wr j hB hlt2
     have hii : (j : Int) < (gl : Int) := by omega
     have hj0 : (0 : Int) <= (j : Int) := by omega
     have hd2 : decide ((j : Int) < (gl : Int)) = true := by simpa using hii
     obtain ⟨V0, hV0⟩ : ∃ V0, V0 = wr.alloc (.cells #[.string x.1, .slice ta tl tc] 61) := ⟨_, rfl⟩
     have hBV : Below wr.heap.size wr V0 := by rw [hV0]; exact (Below.refl _ wr).alloc (Nat.le_refl _) _
     have m0 : V0.heap[wr.heap.size]? = some (.cells #[.string x.1, .slice ta tl tc] 61 (0, 0)) := by rw [hV0]; exact World.alloc_heap_new wr _
     have hlt0 : wr.heap.size < V0.heap.size := (Array.getElem?_eq_some_iff.1 m0).1
     have HKS : Hid (∀ X : World, Below V0.heap.size V0 X -> X.cell? ⟨wr.heap.size, 0, none⟩ = some (.string x.1) /\ X.cell? ⟨wr.heap.size, 1, none⟩ = some (.slice ta tl tc)) := fun X hX => by
      have mX := (hX.block _ hlt0).trans m0
      have hc := fun q => cell_of_row X wr.heap.size q _ _ _ mX
      exact ⟨hc 0, hc 1⟩
     have HCL : Hid (∀ X : World, Below V0.heap.size V0 X -> Calls Tryz.prog 65 #[.slice ta tl tc] X fun e w' => ∃ a1 c1, e = .returned (.slice a1 tl c1) /\ w'.ownsRow X.heap.size 3 1 (.slice a1 tl c1) tl (intsV x.2) /\ Below X.heap.size X w') := fun X hX => iclone_calls ta tl tc x.2 X (hti.below (hBV.trans (hX.mono hBV.size))) htl
     have HVD : Hid (Below V0.heap.size V0 V0.drew) := (Below.refl _ _).drew
     have HPUT : Hid (∀ (Y Y1 : World) (a1 : Option Addr) (c1 : Nat), Y.ownsRow V0.drew.heap.size 3 1 (.slice a1 tl c1) tl (intsV x.2) -> Below V0.heap.size V0 Y -> Y1 = Y.alloc (.cells #[.string x.1, .slice a1 tl c1] 61) -> (Y1.cell? ⟨wr.heap.size, 0, none⟩ = some (.string x.1) /\ Y1.cell? ⟨wr.heap.size, 1, none⟩ = some (.slice ta tl tc)) /\ ∃ g' cap' W1, (Builtin.append_ #[53, 53] 53 #[.slice (some ⟨g, 0, none⟩) xs.length c, .slice (some ⟨Y.heap.size, 0, none⟩) 1 1]).run Tryz.prog Y1 = .ok (.slice (some ⟨g', 0, none⟩) (xs.length + 1) cap') W1 /\ (W1.cell? ⟨wr.heap.size, 0, none⟩ = some (.string x.1) /\ W1.cell? ⟨wr.heap.size, 1, none⟩ = some (.slice ta tl tc)) /\ Nms w.heap.size W1 (.slice (some ⟨g', 0, none⟩) (xs ++ [(x.1, a1, c1, x.2)]).length cap') (xs ++ [(x.1, a1, c1, x.2)]) /\ (xs ++ [(x.1, a1, c1, x.2)]).map plainG = (textB, [0]) :: (specNames 0 l ++ gs.take (j + 1)) /\ Below w.heap.size w W1) := fun Y Y1 a1 c1 q1 q2 q3 => by
      have hgl := HLL.out
      obtain ⟨r1, g', cap', W1, r2, r3, r4, r5⟩ := names_group (ta := ta) (tc := tc) hown (by omega) hB hti.1 htl q1 (by rw [hV0] at q2; exact q2) q3
      refine ⟨r1, g', cap', W1, r2, r3, by rw [List.length_append]; exact r4, ?_, r5⟩
      rw [List.map_append, hnm, List.map_singleton, List.take_add_one, hx, List.cons_append, List.append_assoc]
      rfl
     rw [hV0] at HKS HCL HVD HPUT
     clear hown hB hnm hti htl hx m0 hlt0 hBV hV0 HGG hgi hxl
     obtain ⟨xn, xt⟩ := x
     dsimp only at *
     go_wp2_with fail
     refine wp_region_held_drew (S := fun X => X.cell? ⟨wr.heap.size, 0, none⟩ = some (.string xn) /\ X.cell? ⟨wr.heap.size, 1, none⟩ = some (.slice ta tl tc)) hmx (HKS.out _ HVD.out) (fun hS => ?_)
     refine takeF 0 (some 36) (v := ?_) hS ?_ ?_
     rotate_left
     ·intro w hSw
      try go_simp
      with_reducible rfl
     try simp only [lay4]
     refine takeF 1 (some 37) (v := ?_) hS ?_ ?_
     rotate_left
     ·intro w hSw
      go_simp
      with_reducible rfl
     try simp only [lay4]
     refine takeF 2 (some 38) (v := ?_) hS ?_ ?_
     rotate_left
     ·intro w hSw
      obtain ⟨k0, k1⟩ := hSw
      go_simp
      with_reducible rfl
     try simp only [lay4]
     refine takeF 3 (some 39) (v := ?_) hS ?_ ?_
     rotate_left
     ·intro w hSw
      go_simp
      with_reducible rfl
     try simp only [lay4]
     refine takeF 4 (some 40) (v := ?_) hS ?_ ?_
     rotate_left
     ·intro w hSw
      obtain ⟨k0, k1⟩ := hSw
      go_simp
      with_reducible rfl
     try simp only [lay4]
     refine callD 5 (by kernel_rfl) rfl (fun K hK => ?_)
     rw [if_pos (by rfl)]
     go_simp
     refine (HCL.out _ HVD.out).mono ?_
     rintro e Y ⟨a1, c1, rfl, hcl, bY⟩
     have HY : Hid (Y.ownsRow (wr.alloc (.cells #[.string xn, .slice ta tl tc] 61)).drew.heap.size 3 1 (.slice a1 tl c1) tl (intsV xt) /\ Below (wr.alloc (.cells #[.string xn, .slice ta tl tc] 61)).heap.size (wr.alloc (.cells #[.string xn, .slice ta tl tc] 61)) Y) := ⟨hcl, HVD.out.trans (bY.mono HVD.out.size)⟩
     clear hcl bY
     have hS1 := HKS.out Y HY.out.2
     refine hK.out _ _ hS1 (fun _ => ?_)
     clear hK K
     try simp only [lay4]
     refine takeF 6 (some 42) (v := ?_) hS1 ?_ ?_
     rotate_left
     ·intro w hSw
      go_simp
      with_reducible rfl
     try simp only [lay4]
     refine callD 7 (by kernel_rfl) rfl (fun K hK => ?_)
     rw [if_pos (by rfl)]
     go_simp
     obtain ⟨Y1, hY1⟩ : ∃ Y1, Y.alloc (.cells #[.string xn, .slice a1 tl c1] 61) = Y1 := ⟨_, rfl⟩
     rw [hY1]
     have HP := HPUT.out Y Y1 a1 c1 HY.out.1 HY.out.2 hY1.symm
     clear hY1 HY
     obtain ⟨hS2, g2, cap2, Y2, hrun, hS3, hN⟩ := HP
     have HRUN := Hid.mk_ hrun
     have HN := Hid.mk_ hN
     clear hrun hN
     refine hK.out _ _ hS2 (fun _ => ?_)
     clear hK K
     try simp only [lay4]
     refine callD 8 (by kernel_rfl) rfl (fun K hK => ?_)
     rw [if_pos (by rfl)]
     refine wp_run_append _ _ 53 rfl _ _ _ _ rfl rfl HRUN.out ?_
     refine hK.out _ _ hS3 (fun _ => ?_)
     clear hK K
     try simp only [Act.put, List.setIfInBounds_toArray]
     refine takeF 9 (some 5) (v := ?_) hS3 ?_ ?_
     rotate_left
     ·intro w hSw
      try go_simp
      with_reducible rfl
     try simp only [Act.put]
     refine wpAnyH_done (by kernel_rfl) ?_ _
     go_wp2
     go_roundg (gl - j)
     case measure => omega
     case rel => exact ⟨j + 1, g2, cap2, xs ++ [(xn, a1, c1, xt)], by omega, by omega, by rw [List.length_append]; rfl, by first | rfl | go_num, HN.out⟩
    ·obtain rfl : j = gl := by omega
     have hd2 : decide ((j : Int) < (j : Int)) = false := by simp
     have HE : Hid (Nms w.heap.size wr (.slice (some ⟨g, 0, none⟩) xs.length c) xs /\ xs.map plainG = namesD l gs /\ Below w.heap.size w wr) := by
      rw [List.take_of_length_le (by have := HLL.out.2; omega)] at hnm
      exact ⟨hown, hnm, hB⟩
     clear hown hnm hB HGG hxl
     go_wp2
     go_ret
     exact ⟨g, c, xs, rfl, HE.out⟩
end Go.Proofs.YtbkpehfaofhmaaaGreatDoor
