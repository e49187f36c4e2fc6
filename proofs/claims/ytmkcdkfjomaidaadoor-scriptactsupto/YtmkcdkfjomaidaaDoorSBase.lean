/-
  PROVED HERE: what there is is as it was but for some blocks; the package variables that strconv reads, and that they stay; strconv.Atoi and Itoa here.
-/
import Derived.Test.YtmkcdkfjomaidaaDoorLays
import Derived.WalkKit
import Derived.RangeFuncRecord
import Derived.ProofKit
import Derived.Deep.RegionHeld3
import Derived.OwnWalkIn
import Derived.Maps.AppendAt
import Derived.Lib.OthersKept
import Derived.WalkSmall
import Derived.BigQuiet
import Derived.Laws.RangeString
import Derived.Laws.Strings
import Derived.Laws.Concat
namespace Go.Proofs.YtmkcdkfjomaidaaDoor
open Go.RowKit

theorem hide_ {p : Prop} (h : p) : Hid p := h

/-- What there was is as it was, but for the blocks in D. -/
structure But (D : Nat → Prop) (w w' : World) : Prop where
  os : w'.os = w.os
  tape : w'.tape = w.tape
  output : w'.output = w.output
  size : w.heap.size ≤ w'.heap.size
  block : ∀ k, k < w.heap.size → ¬ D k → w'.heap[k]? = w.heap[k]?

theorem But.refl (D : Nat → Prop) (w : World) : But D w w := ⟨rfl, rfl, rfl, Nat.le_refl _, fun _ _ _ => rfl⟩
theorem But.trans {D E : Nat → Prop} {a b c : World} (h : But D a b) (k : But E b c) (hE : ∀ j, j < a.heap.size → E j → D j) : But D a c :=
  ⟨k.os.trans h.os, k.tape.trans h.tape, k.output.trans h.output, Nat.le_trans h.size k.size, fun j hj hd => (k.block j (Nat.lt_of_lt_of_le hj h.size) (fun e => hd (hE j hj e))).trans (h.block j hj hd)⟩
theorem But.below {D : Nat → Prop} {B : Nat} {a b : World} (h : But D a b) (hB : B ≤ a.heap.size) (hD : ∀ k, D k → B ≤ k) : Below B a b := ⟨h.os, h.tape, h.output, h.size, fun j hj => h.block j (by omega) (fun e => by have := hD j e; omega)⟩
theorem But.of_below {D : Nat → Prop} {a b : World} (h : Below a.heap.size a b) : But D a b := ⟨h.os, h.tape, h.output, h.size, fun j hj _ => h.block j hj⟩
theorem But.setCell (D : Nat → Prop) (w : World) (p : Addr) (u : Value) (hp : D p.block) : But D w (w.setCell p u) := ⟨rfl, rfl, rfl, by simp [World.setCell], fun k _ hd => Below.heap_setCell w p u k (fun e => hd (e ▸ hp))⟩

theorem heap_setCell_row (W : World) (b o : Nat) (cur : Array Value) (t : TypeId) (u : Value) (h : W.heap[b]? = some (.cells cur t (0, 0))) : (W.setCell ⟨b, o, none⟩ u).heap[b]? = some (.cells (cur.setIfInBounds o u) t (0, 0)) := by
  have hlt : b < W.heap.size := (Array.getElem?_eq_some_iff.1 h).1
  have hg : W.heap[b] = .cells cur t (0, 0) := by
    rw [Array.getElem?_eq_getElem hlt] at h
    exact Option.some.inj h
  simp [World.setCell, hlt, Array.getElem_modify, hg]

/-- An error, or none. -/
def IsErr (v : Value) : Prop := v = .nilIface ∨ ∃ t p, v = .iface t p

theorem q_tab : Tryd.prog.globalNamed "internal/strconv.uint64pow10" = some 3 := by kernel_rfl

/-- The package variables that strconv reads hold what they must. -/
structure Env (w : World) : Prop where
  es : ∃ v, w.cell? ⟨1, 0, none⟩ = some v ∧ IsErr v
  er : ∃ v, w.cell? ⟨2, 0, none⟩ = some v ∧ IsErr v
  tab : Lib.TabIs Tryd.prog w "internal/strconv.uint64pow10" .u64 Lib.pow10Tab
  big : 4 ≤ w.heap.size

theorem Env.below {B : Nat} {w w' : World} (h : Env w) (hb : Below B w w') (hB : 4 ≤ B) : Env w' := by
  obtain ⟨⟨v, hv, ev⟩, ⟨u, hu, eu⟩, ht, hs⟩ := h
  exact ⟨⟨v, (hb.cell (show (⟨1, 0, none⟩ : Addr).block < B from by show 1 < B; omega)).trans hv, ev⟩, ⟨u, (hb.cell (show (⟨2, 0, none⟩ : Addr).block < B from by show 2 < B; omega)).trans hu, eu⟩, var?_below hb q_tab (by omega) ht, Nat.le_trans hs hb.size⟩
theorem Env.new {w w' : World} (h : Env w) (hb : Below w.heap.size w w') : Env w' := h.below hb h.big

theorem grow_below (w : World) (k : Nat) (os : Array Obj) : Below w.heap.size w (Sort.grow (w.drewN k) os) := by
  refine ⟨rfl, rfl, rfl, ?_, fun j hj => ?_⟩
  · show w.heap.size ≤ (w.heap ++ os).size
    rw [Array.size_append]
    omega
  · show (w.heap ++ os)[j]? = w.heap[j]?
    rw [Array.getElem?_append_left hj]

theorem atoi_ok (s : ByteArray) (hmax : s.size ≤ 281474976710656) (v : Int) (h : Lib.atoiAll s.data.toList = .ok v) (w : World) :
    Calls Tryd.prog 30 #[.string s] w fun e w' => e = .returned (.tuple #[.int .i64 v, .nilIface]) ∧ Below w.heap.size w w' := by
  refine (Any.strconv_Atoi_ok alays s (by omega) v h w).mono ?_
  rintro e w' ⟨rfl, hw⟩
  refine ⟨rfl, ?_⟩
  rcases hw with rfl | ⟨t, rfl⟩
  · exact Below.refl _ _
  · exact Lib.bytesWorld_below _ _ _
theorem atoi_no (s : ByteArray) (hlim : s.size ≤ 281474976710656) (h : ∀ v, Lib.atoiAll s.data.toList ≠ .ok v) (w : World) (hE : Env w) :
    Calls Tryd.prog 30 #[.string s] w fun e w' => ∃ n t p, e = .returned (.tuple #[.int .i64 n, .iface t p]) ∧ Below w.heap.size w w' := by
  obtain ⟨v, hv, ev⟩ := hE.es
  obtain ⟨u, hu, eu⟩ := hE.er
  cases hc : Lib.atoiAll s.data.toList with
  | ok v => exact absurd hc (h v)
  | «syntax» =>
    refine (Any.strconv_Atoi_syntax alays s hlim hc v w hv ev).mono ?_
    rintro e w' ⟨N, rfl, _, _, hb⟩
    exact ⟨_, _, _, rfl, hb⟩
  | range =>
    refine (Any.strconv_Atoi_range alays s hlim hc u w hu eu).mono ?_
    rintro e w' ⟨N, rfl, _, _, hb⟩
    exact ⟨_, _, _, rfl, hb⟩
theorem itoa_calls (n : Int) (h0 : -9223372036854775808 ≤ n) (h1 : n ≤ 9223372036854775807) (w : World) (hE : Env w) :
    Calls Tryd.prog 28 #[.int .i64 n] w fun e w' => e = .returned (.string ⟨(Lib.itoa n).toArray⟩) ∧ Below w.heap.size w w' := by
  refine (Any.strconv_Itoa ilays n h0 h1 w hE.tab).mono ?_
  rintro e w' ⟨rfl, k, os, rfl⟩
  exact ⟨rfl, grow_below w k os⟩
end Go.Proofs.YtmkcdkfjomaidaaDoor
