/-
  PROVED HERE: how a slice of integers that came in is read, and how long it may be; append([]byte{}, b...) is a copy in new memory that the call owns; appending to what the call owns.
-/
import Derived.Test.YtgbpfbpfoobhhaaRows
import Derived.Test.YtgbpfbpfoobhhaaSClo
import Derived.ProofKit
import Derived.OpenShut
import Derived.DataShut
import Derived.Below
import Derived.SizedLaws
import Derived.Deep.AppendSrc
import Derived.ChangeSlices
import Derived.Deep.RegionHeld3
import Derived.OwnWalkIn
import Derived.Maps.AppendAt
namespace Go.Proofs.Ytgbpfbpfoobhhaa
open Go.ChangeShapes Go.WideShapes Go.ChangeAt Go.RowKit

theorem bytes5 : Try.prog.bytesOf 5 = 1 := by kernel_rfl

theorem of_wf_u32 {x : Int} (h : (Lit.int .u32 x).wf = true) : 0 ≤ x ∧ x ≤ 4294967295 := (Lit.wf_int_iff .u32 x).1 h
theorem of_wf_u16 {x : Int} (h : (Lit.int .u16 x).wf = true) : 0 ≤ x ∧ x ≤ 65535 := (Lit.wf_int_iff .u16 x).1 h
theorem bulk_one {H : Type} (d : DataW H) : 1 ≤ Rows.uptoBulk d := by
  cases d with
  | lit l => cases l <;> simp [Rows.uptoBulk]
  | nil => simp [Rows.uptoBulk]
  | ptr d => simp [Rows.uptoBulk]
  | slice elems spare => simp [Rows.uptoBulk]
  | agg parts => simp [Rows.uptoBulk]
  | iface t d => simp [Rows.uptoBulk]
  | map entries => simp [Rows.uptoBulk]
  | held h => simp [Rows.uptoBulk]
theorem bulk_length {H : Type} (l : List (DataW H)) : l.length ≤ Rows.uptoBulkAll l := by
  induction l with
  | nil => simp [Rows.uptoBulkAll]
  | cons x r ih => have := bulk_one x; simp only [Rows.uptoBulkAll, List.length_cons]; omega

theorem add_none (b o i : Nat) : (⟨b, o, none⟩ : Addr).add i = ⟨b, o + i, none⟩ := by unfold Addr.add; split <;> simp_all

/-- How many elements what was read holds, at the least. -/
def Holds {H : Type} (d : DataW H) (len : Nat) : Prop := len = 0 ∨ ∃ elems spare, d = .slice elems spare ∧ len ≤ elems.length + spare.length

theorem holds_sized {H : Type} {ts : List TypeId} {ds : List (DataW H)} (h : (DataW.weightsEach Try.prog ts ds).all (· ≤ reachBytes) = true) {j : Nat} {t e : TypeId} {d : DataW H} {len : Nat} (ht : ts[j]? = some t) (hd : ds[j]? = some d) (hu : Try.prog.underlying t = some (.slice e))
    (hb : Try.prog.bytesOf e = 1) (hh : Holds d len) : len ≤ 140737488351232 := by
  rcases hh with h0 | ⟨elems, spare, rfl, hl⟩
  · omega
  · have := sized_slice h ht hd hu
    rw [hb] at this
    have h1 := reachBytes_lt
    have h2 : reachBytes ≤ 140737488351232 := by decide
    omega

/-- A slice of integers that came in. -/
theorem open_arg {H : Type} {enc : TypeId × Value → H} {W : World} {t e : TypeId} {k : IntKind} (ht : Try.prog.underlying t = some (.slice e)) (he : Try.prog.underlying e = some (.int k)) (hc : Try.prog.cellsOf e = 1)
    {a : Option Addr} {len cap : Nat} {d : DataW H} {p : List MemPlace} (h : DataW.Trod enc Try.prog W 0 (fun _ => true) true t (.slice a len cap) d p) :
    ∃ zs : List Int, Row k W a len zs ∧ (∀ n ∈ zs, (Lit.int k n).wf = true) ∧ len + 1 ≤ Rows.uptoBulk d ∧ Holds d len := by
  obtain ⟨fuel, hf⟩ := h
  rcases open_ints ht he hc hf with ⟨hcs, hx⟩ | ⟨x, l, c, zs, hcs, _, hl, hm, hz, hx, hcell, hwz⟩
  · simp [Value.cells] at hcs
    obtain ⟨rfl, rfl, rfl⟩ := hcs
    exact ⟨[], ⟨rfl, .inl rfl⟩, by simp, bulk_one d, .inl rfl⟩
  · simp [Value.cells] at hcs
    obtain ⟨rfl, rfl, rfl⟩ := hcs
    have hz' : zs.length = cap := by simpa using hz
    have hd : d = .slice (lits k (zs.take len)) (lits k (zs.drop len)) := congrArg Prod.fst hx
    have h2 : (lits (H := H) k (zs.take len)).length = len := by simp [lits]; omega
    refine ⟨zs.take len, ⟨by rw [List.length_take]; omega, ?_⟩, fun n hn => hwz n (List.mem_of_mem_take hn), ?_, .inr ⟨_, _, hd, by rw [h2]; omega⟩⟩
    · rcases Nat.eq_zero_or_pos len with h0 | h0
      · exact .inl h0
      · obtain ⟨b, o, sp⟩ := x
        have hc0 := hcell 0 (by omega)
        have hspot : sp = none := by simpa [Addr.add] using World.cell?_spot hc0
        subst hspot
        refine .inr ⟨b, o, rfl, ?_, fun i hi => ?_⟩
        · rw [add_none] at hc0
          rcases Nat.lt_or_ge b W.heap.size with hlt | hge
          · exact hlt
          · simp [World.cell?, Array.getElem?_eq_none hge] at hc0
        · have := hcell i (by omega)
          rw [add_none] at this
          rw [this, List.getD_eq_getElem?_getD, List.getD_eq_getElem?_getD, List.getElem?_take, if_pos hi]
    · rw [hd]
      have h1 := bulk_length (lits (H := H) k (zs.take len))
      simp only [Rows.uptoBulk]
      omega

theorem bytes_of_wf {zs : List Int} (h : ∀ n ∈ zs, (Lit.int .u8 n).wf = true) : Bytes zs := fun n hn => of_wf_u8 (h n hn)
theorem row_cells {k : IntKind} {W : World} {b o len : Nat} {zs : List Int} (h : Row k W (some ⟨b, o, none⟩) len zs) : ∀ j u, (zs.map (Value.int k))[j]? = some u → W.cell? ((⟨b, o, none⟩ : Addr).add j) = some u := by
  intro j u hj
  have hjl : j < zs.length := by
    have := (List.getElem?_eq_some_iff.1 hj).1
    simpa using this
  obtain ⟨hl, h0 | ⟨b', o', e, _, hc⟩⟩ := h
  · omega
  · cases e
    rw [add_none, hc j (by omega)]
    rw [List.getElem?_map, List.getElem?_eq_getElem hjl] at hj
    simp at hj
    rw [← hj, List.getD_eq_getElem?_getD, List.getElem?_eq_getElem hjl]
    rfl

/-- What a slice owns, read. -/
theorem row_of_owns2 {W : World} {base : Nat} {e : TypeId} {k : IntKind} {v : Value} {n : Nat} {bs : List Int} (h : W.ownsRow base e 1 v n (bs.map (Value.int k))) (hv : v ≠ .slice none 0 0) :
    ∃ g cap cur, v = .slice (some ⟨g, 0, none⟩) n cap ∧ base ≤ g ∧ n ≤ cap ∧ cap ≤ maxLen ∧ W.heap[g]? = some (.cells cur e (0, 0)) ∧ Row k W (some ⟨g, 0, none⟩) n bs := by
  obtain ⟨hl, ⟨h1, _⟩ | ⟨g, cap, cur, rfl, hb, hg, hc1, hc2, hc3, hc4⟩⟩ := h
  · exact absurd h1 hv
  · have hl' : bs.length = n := by simpa using hl
    refine ⟨g, cap, cur, rfl, hb, hc1, hc2, hg, hl', ?_⟩
    rcases Nat.eq_zero_or_pos n with h0 | h0
    · exact .inl h0
    · refine .inr ⟨g, 0, rfl, (Array.getElem?_eq_some_iff.1 hg).1, fun i hi => ?_⟩
      have : cur.toList[i]? = some (.int k (bs.getD i 0)) := by
        have h2 := congrArg (·[i]?) hc4
        simp only [Nat.mul_one] at h2
        rw [List.getElem?_take, if_pos hi] at h2
        rw [h2, List.getElem?_map, List.getElem?_eq_getElem (by omega), List.getD_eq_getElem?_getD, List.getElem?_eq_getElem (by omega)]
        rfl
      rw [Array.getElem?_toList] at this
      simp [World.cell?, hg, this]

/-- append of bytes to what the call owns. -/
theorem append_own (base : Nat) (v : Value) (n : Nat) (xs : List Int) (W : World) (hown : W.ownsRow base 5 1 v n (xs.map (Value.int .u8))) (hv : v ≠ .slice none 0 0) (hbase : base ≤ W.heap.size) (a : Option Addr) (len cap : Nat) (bs : List Int) (hr : Row .u8 W a len bs) (hsz : n + len ≤ 140737488355328) :
    ∃ v' W1, (Builtin.append_ #[22, 22] 22 #[v, .slice a len cap]).run Try.prog W = .ok v' W1 ∧ W1.ownsRow base 5 1 v' (n + len) ((xs ++ bs).map (Value.int .u8)) ∧ v' ≠ .slice none 0 0 ∧ Below base W W1 := by
  obtain ⟨i0, hi, hz0, hz1, hz2⟩ := info_parts info5
  have hown0 := hown
  obtain ⟨hl0, ⟨h1, _⟩ | ⟨g, c, cur, rfl, hbg, hg, hc1, hc2, hc3, hc4⟩⟩ := hown0
  · exact absurd h1 hv
  · rcases Nat.eq_zero_or_pos len with h0 | h0
    · subst h0
      obtain rfl : bs = [] := List.length_eq_zero_iff.1 hr.1
      have hs : Src Try.prog i0.size 22 (.slice a 0 cap) 0 [] W := by
        cases a with
        | none => exact Src.ofNil _ Try.underlying22 cap
        | some p => exact Src.ofSlice _ Try.underlying22 p 0 cap [] (by simp) (by simp) (by simp)
      have h3 := run_append_room_src (P := Try.prog) W 22 22 22 5 i0 Try.underlying22 hi g 0 n c _ 0 [] hs (by omega) (by simp) (by simp)
      exact ⟨_, _, h3, by rw [List.append_nil]; exact hown, by simp, Below.refl base W⟩
    · obtain ⟨hl, h1 | ⟨b, o, rfl, hlt, hc⟩⟩ := hr
      · omega
      · have hr' : Row .u8 W (some ⟨b, o, none⟩) len bs := ⟨hl, .inr ⟨b, o, rfl, hlt, hc⟩⟩
        obtain ⟨v', W1, hrun, r1, r2, r3⟩ := run_append_own (P := Try.prog) W base 22 22 5 i0 (.int .u8 0) 1 1 Try.underlying22 hi hz0 hz1 hz2 rfl (by decide) _ n _ hown ⟨b, o, none⟩ len cap (bs.map (Value.int .u8)) (by simp [hl]) (row_cells hr') (by simp [Value.oneCell']) (by unfold maxLen; omega) (by omega) hbase
        rw [← List.map_append] at r1
        exact ⟨_, _, hrun, r1, fun e => by have := r3.1 e; simp at this, (Below.refl base W).grown r2 hbase (fun k e => by simp [Value.ownBlock] at e; omega)⟩

/-- append([]byte{}, b...): a copy that the call owns. -/
theorem clone_own (a : Option Addr) (len cap : Nat) (bs : List Int) (w : World) (hr : Row .u8 w a len bs) (hsz : len ≤ 140737488355328) :
    ∃ v W1, (Builtin.append_ #[22, 22] 22 #[.slice (some ⟨w.heap.size, 0, none⟩) 0 0, .slice a len cap]).run Try.prog (w.alloc (.cells #[] 5)) = .ok v W1 ∧ W1.ownsRow w.heap.size 5 1 v len (bs.map (Value.int .u8)) ∧ v ≠ .slice none 0 0 ∧ Below w.heap.size w W1 := by
  have hB : Below w.heap.size w (w.alloc (.cells #[] 5)) := (Below.refl _ w).alloc (Nat.le_refl _) _
  have hg : (w.alloc (.cells #[] 5)).heap[w.heap.size]? = some (.cells #[] 5 (0, 0)) := World.alloc_heap_new w _
  have hown : (w.alloc (.cells #[] 5)).ownsRow w.heap.size 5 1 (.slice (some ⟨w.heap.size, 0, none⟩) 0 0) 0 (([] : List Int).map (Value.int .u8)) := ⟨rfl, .inr ⟨_, _, _, rfl, Nat.le_refl _, hg, Nat.le_refl _, Nat.zero_le _, rfl, rfl⟩⟩
  obtain ⟨v', W1, h1, h2, h3, h4⟩ := append_own w.heap.size _ 0 [] _ hown (by simp) (by simp) a len cap bs (hr.below hB) (by omega)
  rw [Nat.zero_add, List.nil_append] at h2
  exact ⟨v', W1, h1, h2, h3, hB.trans h4⟩

/-- A built-in append whose run is known, in a walk. -/
theorem wp_append_run {o : Oper} {a : Act} {w : World} {K : Act → World → Prop} {Q : Exit → Act → World → Prop} (s x : Operand) (t : TypeId) (ho : o.op = .call { callee := .builtin .append, args := #[s, x], argTypes := #[t, t] })
    (v u v' : Value) (w' : World) (hs : a.eval s = v) (hx : a.eval x = u) (hr : (Builtin.append_ #[t, t] o.type #[v, u]).run Try.prog w = .ok v' w') (h : K (a.put o.dst v') w') : o.wp Try.prog a w K Q := by
  unfold Oper.wp execOp
  simp only [ho, resolve, invoke, builtin, Sem.run_bind, Sem.run_pure, Result.andThen_ok, List.map_toArray, List.map_cons, List.map_nil, hs, hx, hr]
  exact h
theorem wpList_append_run {ops : Array Oper} {rest : List Oper} {o : Oper} {a : Act} {w : World} {Q : Exit → Act → World → Prop} (hgd : o.guard = none) (s x : Operand) (t : TypeId) (ho : o.op = .call { callee := .builtin .append, args := #[s, x], argTypes := #[t, t] })
    (v u v' : Value) (w' : World) (hs : a.eval s = v) (hx : a.eval x = u) (hr : (Builtin.append_ #[t, t] o.type #[v, u]).run Try.prog w = .ok v' w') (h : wpList Try.prog ops Q rest (a.put o.dst v') w') : wpList Try.prog ops Q (o :: rest) a w :=
  wpList_plain hgd fun _ hK => wp_append_run s x t ho v u v' w' hs hx hr (hK _ _ h)

/-- In the midst of a region what is held may be said more strongly. -/
theorem wpAnyH_strong {P : Program} {md : Region.Mode} {ops : Array Oper} {Q : Exit → Act → World → Prop} {S S' : World → Prop} (h : ∀ w, S' w → S w) :
    ∀ (fuel : Nat) (listed : Array Bool) (a : Act) (w : World), wpAnyH P md ops Q S' fuel listed a w → wpAnyH P md ops Q S fuel listed a w
  | 0, _, _, _, hw => hw
  | fuel + 1, _, _, _, hw => ⟨hw.1, fun i hi => wpOp_mono (fun a' w' h' => ⟨h w' h'.1, wpAnyH_strong h fuel _ a' w' h'.2⟩) (hw.2 i hi)⟩

/-- Number i of the region is taken first; d: where it leaves what it yields. -/
theorem takeD {P : Program} {md : Region.Mode} {ops : Array Oper} {Q : Exit → Act → World → Prop} {S : World → Prop} {fuel : Nat} {listed : Array Bool} {a : Act} {w : World} (i : Nat) (d : Option Tmp) {oi : Oper} {v : Value} (hi : ops[i]? = some oi) (hd : oi.dst = d)
    (hs : Region.noSelect ops = true) (hf : Region.free md ops listed i = true) (hr : (Region.ready md ops listed).contains i = true) (hQ : ∀ c a w, Q (.panic c) (a.put d v) w → Q (.panic c) a w) (hy : YieldsIf P ops S oi v a) (hS : S w)
    (h : wpAnyH P md ops Q S fuel (listed.setIfInBounds i true) (a.put d v) w) : wpAnyH P md ops Q S (fuel + 1) listed a w := by
  subst hd
  exact wpAnyH_take hi hs hf hr hQ hy hS h

/-- Number i of the region comes up, and no other may. -/
theorem callD {P : Program} {md : Region.Mode} {ops : Array Oper} {Q : Exit → Act → World → Prop} {S : World → Prop} {fuel : Nat} {listed : Array Bool} {a : Act} {w : World} (i : Nat) {o : Oper} (hr : Region.ready md ops listed = [i]) (ho : ops[i]? = some o)
    (h : ∀ K' : Act → World → Prop, Shut (∀ a w, S w → (S w → wpAnyH P md ops Q S fuel (listed.setIfInBounds i true) a w) → K' a w) → if Region.wanted o (yielded ops a.tmps) = true then Oper.wp P o a w K' Q else K' (a.put o.dst undef) w) :
    wpAnyH P md ops Q S (fuel + 1) listed a w :=
  wpAnyH_ready hr (by simp) (AllReadyH.cons ho h AllReadyH.nil)
end Go.Proofs.Ytgbpfbpfoobhhaa
