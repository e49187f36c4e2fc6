/-
  PROVED HERE: trees as plain data, and in memory.
-/
import Derived.Test.YtajabenlkmgjeaaDoorProg
import Derived.WalkKit
import Derived.Below
import Derived.Deep.Light
import Derived.BigQuiet
import Derived.Deep.QuietTactic
import Derived.RegionTactic
import Derived.BigRegion
import Derived.Deep.RegionWith
import Derived.Deep.RegionHeld3
import GoSem.Claim
import Derived.Laws.Strings
namespace Go.Proofs.YtajabenlkmgjeaaDoor
open Go.RowKit

/-- A tree: a kind, a name, and those within. -/
def node (k : Int) (s : ByteArray) (ts : List (DataW Unit)) : DataW Unit := .agg [.lit (.int .i64 k), .lit (.string s.data.toList), .slice ts []]
theorem node_inj {k k' : Int} {s s' : ByteArray} {ts ts' : List (DataW Unit)} : node k s ts = node k' s' ts' ↔ k = k' ∧ s = s' ∧ ts = ts' := by
  unfold node
  simp only [DataW.agg.injEq, List.cons.injEq, DataW.lit.injEq, Lit.int.injEq, Lit.string.injEq, DataW.slice.injEq, and_true, true_and]
  constructor
  · rintro ⟨h1, h2, h3⟩
    refine ⟨h1, ?_, h3⟩
    apply ByteArray.ext
    exact Array.toList_inj.1 h2
  · rintro ⟨rfl, rfl, rfl⟩
    exact ⟨rfl, rfl, rfl⟩

theorem str_inj {s t : ByteArray} (h : s.toList = t.toList) : s = t := by
  rw [ByteArray.toList_eq, ByteArray.toList_eq] at h
  apply ByteArray.ext
  exact Array.toList_inj.1 h
theorem str_ne {s t : ByteArray} (h : s ≠ t) : (s.toList == t.toList) = false := by
  rw [beq_eq_false_iff_ne]
  exact fun e => h (str_inj e)

/-- A value is a tree, at most n within one another. -/
def Ex (w : World) : Nat → DataW Unit → Value → Prop
  | 0, _, _ => False
  | n + 1, t, v => ∃ (k : Int) (s : ByteArray) (a : Option Addr) (len cap : Nat) (ts : List (DataW Unit)), t = node k s ts ∧ v = .agg #[.int .i64 k, .string s, .slice a len cap] ∧ ts.length = len ∧ len ≤ 9223372036854775807 ∧
      (len = 0 ∨ ∃ b o, a = some ⟨b, o, none⟩ ∧ b < w.heap.size ∧ ∀ i x, ts[i]? = some x → ∃ (k' : Int) (s' : ByteArray) (a' : Option Addr) (len' cap' : Nat),
        w.cell? ⟨b, o + i * 3, none⟩ = some (.int .i64 k') ∧ w.cell? ⟨b, o + i * 3 + 1, none⟩ = some (.string s') ∧ w.cell? ⟨b, o + i * 3 + 2, none⟩ = some (.slice a' len' cap') ∧ Ex w n x (.agg #[.int .i64 k', .string s', .slice a' len' cap']))
theorem Ex.below {w w' : World} (hb : Below w.heap.size w w') : ∀ (n : Nat) (t : DataW Unit) (v : Value), Ex w n t v → Ex w' n t v := by
  intro n
  induction n with
  | zero => intro t v h; exact h
  | succ n ih =>
    rintro t v ⟨k, s, a, len, cap, ts, h1, h2, h3, h4, h5⟩
    refine ⟨k, s, a, len, cap, ts, h1, h2, h3, h4, ?_⟩
    rcases h5 with h5 | ⟨b, o, rfl, hlt, hc⟩
    · exact .inl h5
    · refine .inr ⟨b, o, rfl, Nat.lt_of_lt_of_le hlt hb.size, fun i x hx => ?_⟩
      obtain ⟨k', s', a', len', cap', c0, c1, c2, c3⟩ := hc i x hx
      exact ⟨k', s', a', len', cap', (hb.cell (p := ⟨b, _, none⟩) hlt).trans c0, (hb.cell (p := ⟨b, _, none⟩) hlt).trans c1, (hb.cell (p := ⟨b, _, none⟩) hlt).trans c2, ih _ _ c3⟩
/-- The i-th within lies where it lay, in every later world. -/
theorem kid_at {w : World} {n len : Nat} {a : Option Addr} {ts : List (DataW Unit)} (hl : ts.length = len) (h : len = 0 ∨ ∃ b o, a = some ⟨b, o, none⟩ ∧ b < w.heap.size ∧ ∀ i x, ts[i]? = some x → ∃ (k' : Int) (s' : ByteArray) (a' : Option Addr) (len' cap' : Nat),
        w.cell? ⟨b, o + i * 3, none⟩ = some (.int .i64 k') ∧ w.cell? ⟨b, o + i * 3 + 1, none⟩ = some (.string s') ∧ w.cell? ⟨b, o + i * 3 + 2, none⟩ = some (.slice a' len' cap') ∧ Ex w n x (.agg #[.int .i64 k', .string s', .slice a' len' cap']))
    {i : Nat} (hi : i < len) : ∃ b o x k' s' a' len' cap', a = some ⟨b, o, none⟩ ∧ b < w.heap.size ∧ ts[i]? = some x ∧ ∀ W : World, Below w.heap.size w W →
      W.cell? ⟨b, o + i * 3, none⟩ = some (.int .i64 k') ∧ W.cell? ⟨b, o + i * 3 + 1, none⟩ = some (.string s') ∧ W.cell? ⟨b, o + i * 3 + 2, none⟩ = some (.slice a' len' cap') ∧ Ex W n x (.agg #[.int .i64 k', .string s', .slice a' len' cap']) := by
  rcases h with h | ⟨b, o, rfl, hlt, hc⟩
  · omega
  · have hx : ts[i]? = some (ts[i]'(by omega)) := List.getElem?_eq_getElem (by omega)
    obtain ⟨k', s', a', len', cap', c0, c1, c2, c3⟩ := hc i _ hx
    exact ⟨b, o, _, k', s', a', len', cap', rfl, hlt, hx, fun W hb => ⟨(hb.cell (p := ⟨b, _, none⟩) hlt).trans c0, (hb.cell (p := ⟨b, _, none⟩) hlt).trans c1, (hb.cell (p := ⟨b, _, none⟩) hlt).trans c2, Ex.below hb _ _ _ c3⟩⟩
/-- Number i of the region is taken first; d: where it leaves what it yields. -/
theorem takeD {P : Program} {md : Region.Mode} {ops : Array Oper} {Q : Exit → Act → World → Prop} {S : World → Prop} {fuel : Nat} {listed : Array Bool} {a : Act} {w : World} (i : Nat) (d : Option Tmp) {oi : Oper} {v : Value} (hi : ops[i]? = some oi) (hd : oi.dst = d)
    (hs : Region.noSelect ops = true) (hf : Region.free md ops listed i = true) (hr : (Region.ready md ops listed).contains i = true) (hQ : ∀ c a w, Q (.panic c) (a.put d v) w → Q (.panic c) a w) (hy : YieldsIf P ops S oi v a) (hS : S w)
    (h : wpAnyH P md ops Q S fuel (listed.setIfInBounds i true) (a.put d v) w) : wpAnyH P md ops Q S (fuel + 1) listed a w := by
  subst hd
  exact wpAnyH_take hi hs hf hr hQ hy hS h

/-- Number i of the region comes up, and no other may. -/
theorem callD {P : Program} {md : Region.Mode} {ops : Array Oper} {Q : Exit → Act → World → Prop} {S : World → Prop} {fuel : Nat} {listed : Array Bool} {a : Act} {w : World} (i : Nat) {o : Oper} (hr : Region.ready md ops listed = [i]) (ho : ops[i]? = some o)
    (h : ∀ K' : Act → World → Prop, Shut (∀ a w, S w → (S w → wpAnyH P md ops Q S fuel (listed.setIfInBounds i true) a w) → K' a w) → if Region.wanted o (yielded ops a.tmps) = true then Oper.wp P o a w K' Q else K' (a.put o.dst undef) w) :
    wpAnyH P md ops Q S (fuel + 1) listed a w :=
  wpAnyH_ready hr (by simp) (AllReadyH.cons ho h AllReadyH.nil)
end Go.Proofs.YtajabenlkmgjeaaDoor
