/-
  PROVED HERE: rows of trees joined, as plain data.
-/
import Derived.Test.YtafidabopcgkhaaDoorMem
namespace Go.Proofs.YtafidabopcgkhaaDoor
open Go.RowKit

/-- A node; a row is of two at least and has no name. -/
def Good (t : DataW Unit) : Prop := t = node (kindT t) (nameT t) (subs t) ∧ ((kindT t = 2 ∨ kindT t = 3) → nameT t = ⟨#[]⟩ ∧ 2 ≤ (subs t).length)
theorem Good.of {k : Int} {s : ByteArray} {ts : List (DataW Unit)} (h : (k = 2 ∨ k = 3) → s = ⟨#[]⟩ ∧ 2 ≤ ts.length) : Good (node k s ts) := by
  refine ⟨by rw [kindT_node, nameT_node, subs_node], ?_⟩
  rw [kindT_node, nameT_node, subs_node]
  exact h
theorem flat_add (k : Int) (l : List (DataW Unit)) (t : DataW Unit) : flatT k (l ++ [t]) = flatT k l ++ (if kindT t = k then subs t else [t]) := by
  induction l with
  | nil => simp [flatT]
  | cons x r ih => rw [List.cons_append, flatT, flatT, ih, List.append_assoc]
theorem flat_len {k : Int} (hk : k = 2 ∨ k = 3) : ∀ l : List (DataW Unit), (∀ x ∈ l, Good x) → l.length ≤ (flatT k l).length := by
  intro l
  induction l with
  | nil => intro _; exact Nat.le_refl _
  | cons x r ih =>
    intro h
    have h1 := ih fun y hy => h y (List.mem_cons_of_mem _ hy)
    have h2 := (h x (List.mem_cons_self ..)).2
    rw [flatT, List.length_append, List.length_cons]
    split
    · rename_i e
      have := (h2 (by rw [e]; exact hk)).2
      omega
    · simp only [List.length_cons, List.length_nil]
      omega
theorem join_cases {k : Int} (hk : k = 2 ∨ k = 3) (l : List (DataW Unit)) (h : ∀ x ∈ l, Good x) (h0 : l ≠ []) :
    Good (joinT k l) ∧ (((flatT k l).length = 1 ∧ flatT k l = [joinT k l] ∧ joinT k l ∈ l) ∨ ((flatT k l).length ≠ 1 ∧ 2 ≤ (flatT k l).length ∧ joinT k l = node k ⟨#[]⟩ (flatT k l))) := by
  have hl := flat_len hk l h
  match l, h, h0, hl with
  | [x], h, _, hl =>
    have hx := h x (List.mem_cons_self ..)
    refine ⟨hx, ?_⟩
    by_cases e : kindT x = k
    · have hg := hx.2 (by rw [e]; exact hk)
      have hf : flatT k [x] = subs x := by rw [flatT, if_pos e]; simp [flatT]
      rw [hf]
      refine .inr ⟨by omega, hg.2, ?_⟩
      have h1 := hx.1
      rw [e, hg.1] at h1
      exact h1
    · have hf : flatT k [x] = [x] := by rw [flatT, if_neg e]; rfl
      rw [hf]
      exact .inl ⟨rfl, rfl, List.mem_cons_self ..⟩
  | x :: y :: r, h, _, hl =>
    have e : joinT k (x :: y :: r) = node k ⟨#[]⟩ (flatT k (x :: y :: r)) := rfl
    rw [e]
    simp only [List.length_cons] at hl
    exact ⟨Good.of fun _ => ⟨rfl, by omega⟩, .inr ⟨by omega, by omega, rfl⟩⟩
def zE : Value := .agg #[.int .i64 0, .string ⟨#[]⟩, .slice none 0 0]
theorem results_row_tmp {P : Program} {fn : Func} {p u : Tmp} {ty : TypeId} (h : fn.results = #[.cell p ty, .tmp u]) (tmps : Array Value) (w : World) (g : Nat) (t : TypeId) (cs : Array Value) (fr : Nat × Nat) (d : TypeDesc)
    (hp : tmps.getD p undef = .pointer (some ⟨g, 0, none⟩)) (hg : w.heap[g]? = some (.cells cs t fr))
    (hu : P.underlying ty = some d) (hd : (match d with | .struct _ | .array _ _ => true | _ => false) = true) (hi : (P.info? ty).map (·.size) = some cs.size) :
    (results fn tmps).run P w = .ok (.tuple #[.agg cs, tmps.getD u undef]) w := by
  rw [results_cell_tmp h, hp]
  simp [asAddr, run_loadVar_row w g t ty cs fr d hg hu hd hi, Result.andThen]
theorem results_row_tmp2 {P : Program} {fn : Func} {p u u' : Tmp} {ty : TypeId} (h : fn.results = #[.cell p ty, .tmp u, .tmp u']) (tmps : Array Value) (w : World) (g : Nat) (t : TypeId) (cs : Array Value) (fr : Nat × Nat) (d : TypeDesc)
    (hp : tmps.getD p undef = .pointer (some ⟨g, 0, none⟩)) (hg : w.heap[g]? = some (.cells cs t fr))
    (hu : P.underlying ty = some d) (hd : (match d with | .struct _ | .array _ _ => true | _ => false) = true) (hi : (P.info? ty).map (·.size) = some cs.size) :
    (results fn tmps).run P w = .ok (.tuple #[.agg cs, tmps.getD u undef, tmps.getD u' undef]) w := by
  have hp' : tmps[p]?.getD undef = .pointer (some ⟨g, 0, none⟩) := by simpa using hp
  simp [results, h, hp', asAddr, run_loadVar_row w g t ty cs fr d hg hu hd hi, Result.andThen]
theorem sizeExpr : (Tryd.prog.info? 24).map (·.size) = some 3 := by kernel_rfl
theorem ones3 (k : Int) (s : ByteArray) (a : Option Addr) (len cap : Nat) : (#[Value.int .i64 k, .string s, .slice a len cap] : Array Value).all (·.oneCell') = true := by
  rw [Array.all_eq_true_iff_forall_mem]
  intro v hv
  simp at hv
  rcases hv with rfl | rfl | rfl <;> rfl
theorem Kept.of_below {g : Nat} {w w' : World} (h : Below w.heap.size w w') : Kept g w w' := ⟨h.os, h.tape, h.output, h.size, fun k hk _ => h.block k hk⟩
theorem Kept.alloc {g : Nat} {w w' : World} (h : Kept g w w') (o : Obj) : Kept g w (w'.alloc o) :=
  ⟨h.os, h.tape, h.output, by have := h.size; simp; omega, fun k hk hg => (Below.heap_alloc w' o k (Nat.lt_of_lt_of_le hk h.size)).trans (h.block k hk hg)⟩
/-- A new block is written over. -/
theorem Kept.setRow {g : Nat} {w w' : World} (h : Kept g w w') (b : Nat) (cs : Array Value) (hb : w.heap.size ≤ b) : Kept g w (w'.setRow b cs) :=
  ⟨h.os, h.tape, h.output, by have := h.size; simp; omega, fun k hk hg => (setRow_other w' b k cs (by omega)).trans (h.block k hk hg)⟩
theorem RAt.alloc {w : World} {g : Nat} {s : ByteArray} {i : Nat} (h : RAt w g s i) (o : Obj) : RAt (w.alloc o) g s i := (Below.heap_alloc w o g h.lt).trans h
theorem RAt.setRow {w : World} {g : Nat} {s : ByteArray} {i : Nat} (h : RAt w g s i) (b : Nat) (cs : Array Value) (hb : b ≠ g) : RAt (w.setRow b cs) g s i := (setRow_other w b g cs (Ne.symm hb)).trans h
end Go.Proofs.YtafidabopcgkhaaDoor
