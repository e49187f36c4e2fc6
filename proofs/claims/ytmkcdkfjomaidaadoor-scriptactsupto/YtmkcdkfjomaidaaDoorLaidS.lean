/-
  PROVED HERE: what the rows' list says of the package variables that strconv reads; a world that meets it.
-/
import Derived.Test.YtmkcdkfjomaidaaDoorCards
import Derived.Test.YtmkcdkfjomaidaaDoorTie
import Derived.Test.YtmkcdkfjomaidaaDoorSBase
import Derived.ProofKit
import Derived.OpenShut
import Derived.Deep.DeepHandedRow
import Derived.Deep.DeepWitnessRowRef
import Derived.LaidLaws
import Derived.LaidHandle
import Derived.DataShut
import Derived.ChangeSame
import Derived.ChangeArms
import Derived.Lib.LaidTab
namespace Go.Proofs.YtmkcdkfjomaidaaDoor
open Go.ChangeShapes Go.WideShapes Go.ChangeAt Go.RowKit

theorem own : ownKnob Tryd.prog.godebug = none := by kernel_rfl
theorem laidOut : laidOutB Tryd.prog = true := by kernel_rfl
theorem q_es : Tryd.prog.globalNamed "strconv.ErrSyntax" = some 1 := by kernel_rfl
theorem q_er : Tryd.prog.globalNamed "strconv.ErrRange" = some 2 := by kernel_rfl
theorem q_esT : (Tryd.prog.globals[1]?).map (·.type) = some 65 := by kernel_rfl
theorem q_erT : (Tryd.prog.globals[2]?).map (·.type) = some 65 := by kernel_rfl
theorem q_tabT : (Tryd.prog.globals[3]?).map (·.type) = some 97 := by kernel_rfl
theorem cells_u64 : Tryd.prog.cellsOf 83 = 1 := by kernel_rfl
theorem cells_tab : Tryd.prog.cellsOf 97 = 20 := by kernel_rfl

def listed : List (String × DataW Unit) := [("math/bits.deBruijn32tab", Rows.laid_math_bits_deBruijn32tab), ("math/bits.deBruijn64tab", Rows.laid_math_bits_deBruijn64tab), ("internal/strconv.uint64pow10", Rows.laid_internal_strconv_uint64pow10), ("unicode/utf8.acceptRanges", Rows.laid_unicode_utf8_acceptRanges), ("strconv.ErrRange", Rows.laid_strconv_ErrRange), ("strconv.ErrSyntax", Rows.laid_strconv_ErrSyntax), ("unicode/utf8.first", Rows.laid_unicode_utf8_first)]

theorem err_of_trod {H : Type} {enc : TypeId × Value → H} {W : World} {b : Nat} {sp : Nat → Bool} {held : Bool} {fuel : Nat} {cs : List Value} {x : DataW H × List MemPlace} (h : DataW.trod enc Tryd.prog W b sp held fuel 65 cs = some x) : ∃ v, cs = [v] ∧ IsErr v := by
  cases fuel with
  | zero => simp [DataW.trod] at h
  | succ fuel =>
    simp only [DataW.trod, Tryd.underlying65] at h
    split at h
    all_goals first | exact ⟨_, rfl, .inl rfl⟩ | exact ⟨_, rfl, .inr ⟨_, _, rfl⟩⟩ | (exfalso; simp at *; done) | (cases h; done)

theorem pow10_data : (Rows.laid_internal_strconv_uint64pow10 : DataW Unit) = Lib.tabData .u64 Lib.pow10Tab := by kernel_rfl

theorem env_of_laid {W : World} (h : laidMetH Tryd.prog listed W) : Env W := by
  have h' : laidMet Tryd.prog listed W := h
  obtain ⟨ps, ⟨g0, t0, c0, f0, p0, q0, a0, b0, d0, e0, ⟨g1, t1, c1, f1, p1, q1, a1, b1, d1, e1, ⟨g2, t2, c2, f2, p2, q2, a2, b2, d2, e2, ⟨g3, t3, c3, f3, p3, q3, a3, b3, d3, e3, ⟨g4, t4, c4, f4, p4, q4, a4, b4, d4, e4, ⟨g5, t5, c5, f5, p5, q5, a5, b5, d5, e5, _⟩, _⟩, _⟩, _⟩, _⟩, _⟩, _⟩ := h'
  obtain rfl := Option.some.inj (q_tab.symm.trans a2)
  obtain rfl := Option.some.inj (q_er.symm.trans a4)
  obtain rfl := Option.some.inj (q_es.symm.trans a5)
  obtain rfl := Option.some.inj (q_tabT.symm.trans b2)
  obtain rfl := Option.some.inj (q_erT.symm.trans b4)
  obtain rfl := Option.some.inj (q_esT.symm.trans b5)
  obtain ⟨v4, hv4, i4⟩ := err_of_trod e4
  obtain ⟨v5, hv5, i5⟩ := err_of_trod e5
  rw [pow10_data] at e2
  have hc := Lib.cells_of_tab Tryd.underlying97 Tryd.underlying83 cells_u64 cells_tab e2
  have ht : W.var? Tryd.prog "internal/strconv.uint64pow10" = some c2 := d2
  refine ⟨⟨v5, ?_, i5⟩, ⟨v4, ?_, i4⟩, ?_, ?_⟩
  · rw [World.var?_cell q_es d5 0, ← Array.getElem?_toList, hv5]
    rfl
  · rw [World.var?_cell q_er d4 0, ← Array.getElem?_toList, hv4]
    rfl
  · unfold Lib.TabIs
    rw [ht, ← hc]
  · have h3 : W.cell? ⟨3, 0, none⟩ = some (.int .u64 1) := by
      rw [World.var?_cell q_tab d2 0, ← Array.getElem?_toList, hc]
      rfl
    have h4 : 3 < W.heap.size := World.block_lt_of_cell? _ _ h3
    omega

def rangeS : ByteArray := ⟨#[118, 97, 108, 117, 101, 32, 111, 117, 116, 32, 111, 102, 32, 114, 97, 110, 103, 101]⟩
def syntaxS : ByteArray := ⟨#[105, 110, 118, 97, 108, 105, 100, 32, 115, 121, 110, 116, 97, 120]⟩
/-- The cells of a datum that is an array of bytes, or of pairs of them. -/
def flatC {H : Type} : DataW H → List Value
  | .agg l => l.flatMap fun x => match x with
    | .lit (.int k z) => [.int k z]
    | .agg m => m.flatMap fun y => match y with
      | .lit (.int k z) => [.int k z]
      | _ => []
    | _ => []
  | _ => []
/-- Where the two errors lie. -/
noncomputable def low : Nat := (World.holding Tryd.prog default ⟨#[], #[], []⟩).heap.size
/-- A world that meets the condition: the settled one with the two errors, the seven variables laid. -/
noncomputable def laidWorld (os : Os) : World :=
  let w0 := World.holding Tryd.prog os ⟨#[.cells #[.string syntaxS] 113, .cells #[.string rangeS] 113], #[], []⟩
  let put (h : Array Obj) (g : Nat) (cs : Array Value) : Array Obj := h.modify g fun
    | .cells _ t frozen => .cells cs t frozen
    | o => o
  let h1 := put w0.heap 1 #[.iface 111 (.pointer (some ⟨low, 0, none⟩))]
  let h2 := put h1 2 #[.iface 111 (.pointer (some ⟨low + 1, 0, none⟩))]
  let h3 := put h2 3 (flatC (Rows.laid_internal_strconv_uint64pow10 : DataW Unit)).toArray
  let h4 := put h3 4 (flatC (Rows.laid_unicode_utf8_first : DataW Unit)).toArray
  let h5 := put h4 5 (flatC (Rows.laid_unicode_utf8_acceptRanges : DataW Unit)).toArray
  let h6 := put h5 6 (flatC (Rows.laid_math_bits_deBruijn32tab : DataW Unit)).toArray
  let h7 := put h6 7 (flatC (Rows.laid_math_bits_deBruijn64tab : DataW Unit)).toArray
  { w0 with heap := h7 }
theorem laid_met (os : Os) (args : Array Value) : laidMet Tryd.prog listed ((laidWorld os).forCall (fun _ _ => 0) ⟨#[], args, []⟩).memory :=
  laidMet_of_run' 8 (by kernel_rfl) (by kernel_rfl)
end Go.Proofs.YtmkcdkfjomaidaaDoor
