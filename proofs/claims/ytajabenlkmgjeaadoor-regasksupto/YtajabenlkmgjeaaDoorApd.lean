/-
  PROVED HERE: a slice of integers that is put behind another, whose cells the call made itself.
-/
import Derived.Test.YtajabenlkmgjeaaDoorArgs
import Derived.Test.YtajabenlkmgjeaaDoorSigns6
import Derived.Maps.AppendAt
import Derived.Laws.AppendOwnNone
namespace Go.Proofs.YtajabenlkmgjeaaDoor
open Go.ChangeShapes Go.WideShapes Go.ChangeAt Go.RowKit

theorem open_rowc {H : Type} {enc : TypeId × Value → H} {W : World} {a : Option Addr} {len cap : Nat} {d : DataW H} {p : List MemPlace} (h : DataW.Trod enc Tryd.prog W 0 (fun _ => true) true 26 (.slice a len cap) d p) : a = none → cap = 0 := by
  obtain ⟨fuel, hf⟩ := h
  rcases open_ints Tryd.underlying26 Tryd.underlying3 (by kernel_rfl) hf with ⟨hcs, _⟩ | ⟨y, l, c, zs, hcs, _⟩
  · simp [Value.cells] at hcs
    obtain ⟨rfl, rfl, rfl⟩ := hcs
    intro _; rfl
  · simp [Value.cells] at hcs
    obtain ⟨rfl, rfl, rfl⟩ := hcs
    intro e; cases e
def intsV (zs : List Int) : List Value := zs.map (Value.int .i64)
theorem intsV_append (xs zs : List Int) : intsV xs ++ intsV zs = intsV (xs ++ zs) := (List.map_append ..).symm
theorem owned_nil (w : World) (base : Nat) (hb : base ≤ w.heap.size) : (w.alloc (.cells #[] 3)).ownsRow base 3 1 (.slice (some ⟨w.heap.size, 0, none⟩) 0 0) 0 (intsV []) :=
  ⟨rfl, .inr ⟨w.heap.size, 0, _, rfl, hb, World.alloc_heap_new w _, Nat.le_refl _, by unfold maxLen; omega, rfl, rfl⟩⟩
theorem owned_ints {w : World} {base n : Nat} {v : Value} {zs : List Int} (h : w.ownsRow base 3 1 v n (intsV zs)) (hn : n ≤ 9223372036854775807) : ∃ a c, v = .slice a n c ∧ Ints w a n zs := by
  have hl : zs.length = n := by
    have := h.1
    unfold intsV at this
    rw [List.length_map] at this
    omega
  rcases Nat.eq_zero_or_pos n with h0 | h0
  · subst h0
    rcases h.2 with ⟨rfl, _⟩ | ⟨g, cap, cur, rfl, _⟩
    · exact ⟨none, 0, rfl, hl, hn, .inl rfl⟩
    · exact ⟨_, _, rfl, hl, hn, .inl rfl⟩
  · obtain ⟨g, cap, rfl, hc⟩ := owns_cell h h0
    obtain ⟨hlt, _⟩ := owns_lt h (g := g) rfl
    refine ⟨_, _, rfl, hl, hn, .inr ⟨g, 0, rfl, hlt, fun i x hx => ?_⟩⟩
    rw [Nat.zero_add]
    exact hc i _ (by unfold intsV; rw [List.getElem?_map, hx]; rfl)
theorem owned_base {w : World} {base n : Nat} {v : Value} {e : TypeId} {sz : Nat} {xs : List Value} (h : w.ownsRow base e sz v n xs) {g : Nat} (hg : v.ownBlock = some g) : base ≤ g := by
  rcases h.2 with ⟨rfl, _⟩ | ⟨g', cap, cur, rfl, hb, _⟩
  · cases hg
  · cases hg
    exact hb
theorem wpList_append_ints {w : World} {ops : Array Oper} {rest : List Oper} {o : Oper} {a : Act} {Q : Exit → Act → World → Prop} (hgd : o.guard = none) (s x : Operand)
    (ho : o.op = .call { callee := .builtin .append, args := #[s, x], argTypes := #[26, 26] }) (base : Nat) (v : Value) (n : Nat) (xs : List Int) (hs : a.eval s = v) (hown : w.ownsRow base 3 1 v n (intsV xs))
    (za : Option Addr) (zl zc : Nat) (zs : List Int) (hx : a.eval x = .slice za zl zc) (hc : za = none → zc = 0) (hZ : Ints w za zl zs) (h63 : n + zl ≤ 1000000) (hbase : base ≤ w.heap.size)
    (h : ∀ v' w', w'.ownsRow base 3 1 v' (n + zl) (intsV (xs ++ zs)) → Below base w w' → wpList Tryd.prog ops Q rest (a.put o.dst v') w') : wpList Tryd.prog ops Q (o :: rest) a w := by
  obtain ⟨i0, hi, hz0, hz1, hz2⟩ := info_parts infoInt
  obtain ⟨hl, _, hz⟩ := hZ
  cases za with
  | none =>
    have hzl : zl = 0 := by
      rcases hz with hz | ⟨b, o, e, _⟩
      · exact hz
      · cases e
    subst hzl
    rw [hc rfl] at hx
    have : zs = [] := List.length_eq_zero_iff.1 hl
    subst this
    refine wpList_append_own_none hgd s x 26 ho base 3 i0 1 Tryd.underlying26 hi v n _ hs hown hx ?_
    refine h v w ?_ (Below.refl _ _)
    rw [List.append_nil]
    exact hown
  | some ad =>
    refine wpList_append_own_at w hgd s x 26 ho base 3 i0 _ 1 8 Tryd.underlying26 hi hz0 hz1 hz2 rfl (by decide) v n _ hs hown ad zl zc (intsV zs) hx (by unfold intsV; rw [List.length_map]; omega) (fun j u hj => ?_) (fun u hu => ?_) (by unfold maxLen; omega) (by omega) hbase ?_
    · unfold intsV at hj
      rw [List.getElem?_map] at hj
      cases hq : zs[j]? with
      | none => rw [hq] at hj; cases hj
      | some y =>
        rw [hq] at hj
        cases hj
        rcases hz with hz | ⟨b, o, e, _, hcc⟩
        · have := (List.getElem?_eq_some_iff.1 hq).1
          omega
        · cases e
          rw [add_none]
          exact hcc j y hq
    · unfold intsV at hu
      obtain ⟨y, _, rfl⟩ := List.mem_map.1 hu
      rfl
    · intro v' w' q1 q2 _ _
      rw [intsV_append] at q1
      exact h v' w' q1 ((Below.refl base w).grown q2 hbase (fun k e => owned_base hown e))
end Go.Proofs.YtajabenlkmgjeaaDoor
