/-
  PROVED HERE: a step in memory, set whole; what two lists share at both ends lies within both.
-/
import Derived.Test.YtgpopploimeeaaaPRowsC
import Derived.Test.YtgpopploimeeaaaPEnds
import Derived.Test.YtgpopploimeeaaaPClone
import Derived.Laws.ResultCell
import Derived.Laws.CopyOwn
namespace Go.Proofs.Ytgpopploimeeaaa
open Go.RowKit

theorem results_row_tmp {P : Program} {fn : Func} {p u : Tmp} {ty : TypeId} (h : fn.results = #[.cell p ty, .tmp u]) (tmps : Array Value) (w : World) (g : Nat) (t : TypeId) (cs : Array Value) (fr : Nat × Nat) (d : TypeDesc)
    (hp : tmps.getD p undef = .pointer (some ⟨g, 0, none⟩)) (hg : w.heap[g]? = some (.cells cs t fr))
    (hu : P.underlying ty = some d) (hd : (match d with | .struct _ | .array _ _ => true | _ => false) = true) (hi : (P.info? ty).map (·.size) = some cs.size) :
    (results fn tmps).run P w = .ok (.tuple #[.agg cs, tmps.getD u undef]) w := by
  rw [results_cell_tmp h, hp]
  simp [asAddr, run_loadVar_row w g t ty cs fr d hg hu hd hi, Result.andThen]
theorem sizeStep : (Try.prog.info? 54).map (·.size) = some 8 := by kernel_rfl
/-- A step's cells. -/
def stepC (f t : Int) (a : Option Addr) (len cap : Nat) : Array Value := #[.int .i64 0, .int .i64 f, .int .i64 t, .int .i64 0, .int .i64 0, .int .i64 0, .slice a len cap, .int .i64 0]
theorem ones8 (f t : Int) (a : Option Addr) (len cap : Nat) : (stepC f t a len cap).all (·.oneCell') = true := by
  unfold stepC
  rw [Array.all_eq_true_iff_forall_mem]
  intro v hv
  simp at hv
  rcases hv with rfl | rfl | rfl | rfl | rfl | rfl <;> rfl
/-- Tokens stay where another row is set. -/
theorem toks_setRow {w : World} {a : Option Addr} {n g : Nat} {l : List Tok} {cs : Array Value} (h : Toks w a n l) (hne : ∀ b o, a = some ⟨b, o, none⟩ → n ≠ 0 → b ≠ g) : Toks (w.setRow g cs) a n l := by
  obtain ⟨h1, h2⟩ := h
  refine ⟨h1, ?_⟩
  rcases h2 with h2 | ⟨b, o, rfl, hlt, hc⟩
  · exact .inl h2
  · rcases Nat.eq_zero_or_pos n with h0 | h0
    · exact .inl h0
    · have hk := setRow_other w g b cs (hne b o rfl (by omega))
      refine .inr ⟨b, o, rfl, ?_, fun i x hx => ?_⟩
      · have := (Array.getElem?_eq_some_iff.1 (hk.trans (Array.getElem?_eq_getElem hlt))).1
        exact this
      · obtain ⟨c0, c1, c2, c3⟩ := hc i x hx
        exact ⟨(World.cell?_of_block (w := w) hk).trans c0, (World.cell?_of_block (w := w) hk).trans c1, (World.cell?_of_block (w := w) hk).trans c2, (World.cell?_of_block (w := w) hk).trans c3⟩
theorem ends_in {l1 l2 : List Tok} : headP l1 l2 + tailP l1 l2 ≤ l1.length ∧ headP l1 l2 + tailP l1 l2 ≤ l2.length := by
  have h1 := headP_le l1 l2
  have h2 := headP_le (l1.drop (headP l1 l2)).reverse (l2.drop (headP l1 l2)).reverse
  rw [List.length_reverse, List.length_reverse, List.length_drop, List.length_drop] at h2
  unfold tailP
  omega
end Go.Proofs.Ytgpopploimeeaaa
