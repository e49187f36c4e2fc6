/-
  PROVED HERE: script.field: which cell of an act a letter means; the start of an act: its two numbers, and the cells that a line's numbers go to.
-/
import Derived.Test.YtmkcdkfjomaidaaDoorSBase
import Derived.Laws.AppendOwnNone
namespace Go.Proofs.YtmkcdkfjomaidaaDoor
open Go.RowKit

/-- Which cell of an act a letter means. -/
def off (c : Int) : Nat := if c = 97 then 1 else if c = 99 then 3 else if c = 100 then 4 else 5

set_option maxRecDepth 100000 in
set_option maxHeartbeats 1000000 in
theorem field_calls (b : Nat) (c : Int) (w : World) : Calls Tryd.prog 26 #[.pointer (some ⟨b, 0, none⟩), .int .i32 c] w fun e w' => e = .returned (.pointer (some ⟨b, off c, none⟩)) ∧ w' = w := by
  by_cases h1 : c = 97
  · subst h1
    go_enter Tryd.func26, Tryd.ntmps26
    go_wp2
    go_ret
    exact ⟨rfl, rfl⟩
  · by_cases h2 : c = 99
    · subst h2
      go_enter Tryd.func26, Tryd.ntmps26
      go_wp2
      go_ret
      exact ⟨rfl, rfl⟩
    · by_cases h3 : c = 100
      · subst h3
        go_enter Tryd.func26, Tryd.ntmps26
        go_wp2
        go_ret
        exact ⟨rfl, rfl⟩
      · have h : off c = 5 := by unfold off; rw [if_neg h1, if_neg h2, if_neg h3]
        rw [h]
        clear h
        go_enter Tryd.func26, Tryd.ntmps26
        go_wp2
        go_ret
        exact ⟨rfl, rfl⟩

theorem info_ptr : (Tryd.prog.info? 61).map (fun i => (i.zero, i.size, i.bytes)) = some (some (.pointer none), 1, 8) := by kernel_rfl
theorem infoPtr : ∃ i0, Tryd.prog.info? 61 = some i0 ∧ i0.zero = some (.pointer none) ∧ i0.size = 1 ∧ i0.bytes = 8 := by
  obtain ⟨i0, hi, h⟩ := Option.map_eq_some_iff.1 info_ptr
  simp only [Prod.mk.injEq] at h
  exact ⟨i0, hi, h.1, h.2.1, h.2.2⟩

theorem wp_run_append {o : Oper} {a : Act} {w : World} {K : Act → World → Prop} {Q : Exit → Act → World → Prop} (s x : Operand) (t : TypeId) (ho : o.op = .call { callee := .builtin .append, args := #[s, x], argTypes := #[t, t] })
    (v u v' : Value) (w' : World) (hs : a.eval s = v) (hx : a.eval x = u) (hr : (Builtin.append_ #[t, t] o.type #[v, u]).run Tryd.prog w = .ok v' w') (h : K (a.put o.dst v') w') : o.wp Tryd.prog a w K Q := by
  unfold Oper.wp execOp
  simp only [ho, resolve, invoke, builtin, Sem.run_bind, Sem.run_pure, Result.andThen_ok, List.map_toArray, List.map_cons, List.map_nil, hs, hx, hr]
  exact h
theorem wpList_run_append {ops : Array Oper} {rest : List Oper} {o : Oper} {a : Act} {w : World} {Q : Exit → Act → World → Prop} (hgd : o.guard = none) (s x : Operand) (t : TypeId) (ho : o.op = .call { callee := .builtin .append, args := #[s, x], argTypes := #[t, t] })
    (v u v' : Value) (w' : World) (hs : a.eval s = v) (hx : a.eval x = u) (hr : (Builtin.append_ #[t, t] o.type #[v, u]).run Tryd.prog w = .ok v' w') (h : wpList Tryd.prog ops Q rest (a.put o.dst v') w') : wpList Tryd.prog ops Q (o :: rest) a w :=
  wpList_plain hgd fun _ hK => wp_run_append s x t ho v u v' w' hs hx hr (hK _ _ h)

/-- append of one pointer to what the call owns. -/
theorem append_ptr (base : Nat) (v : Value) (n : Nat) (xs : List Value) (W : World) (hown : W.ownsRow base 61 1 v n xs) (hbase : base ≤ W.heap.size) (hn : n ≤ 100) (b : Nat) (a : Addr) (hu : W.cell? ⟨b, 0, none⟩ = some (.pointer (some a))) :
    ∃ v' W1, (Builtin.append_ #[46, 46] 46 #[v, .slice (some ⟨b, 0, none⟩) 1 1]).run Tryd.prog W = .ok v' W1 ∧ W1.ownsRow base 61 1 v' (n + 1) (xs ++ [.pointer (some a)]) ∧ W.grownBy W1 v.ownBlock := by
  obtain ⟨i0, hi, hz0, hz1, hz2⟩ := infoPtr
  obtain ⟨v', W1, hrun, r1, r2, _, _⟩ := run_append_own_at (P := Tryd.prog) W base 46 46 61 i0 (.pointer none) 1 8 Tryd.underlying46 hi hz0 hz1 hz2 rfl (by decide) v n xs hown ⟨b, 0, none⟩ 1 1 [.pointer (some a)] (by simp) (fun j u hj => by
    cases j with
    | zero => cases hj; exact hu
    | succ j => simp at hj) (by simp [Value.oneCell']) (by unfold maxLen; omega) (by omega) hbase
  exact ⟨v', W1, hrun, r1, r2⟩

/-- The text's signs are single bytes. -/
def Asc (s : ByteArray) : Prop := ∀ (k : Nat) (h : k < s.size), (s[k]'h).toNat < 128
/-- The cells that the letters ahead of a place mean. -/
def ptrs (b : Nat) (l : List UInt8) : List Value := l.map fun c => .pointer (some ⟨b, off (c.toNat : Int), none⟩)

theorem ptrs_step (b : Nat) (s : ByteArray) (i : Nat) (h : i < s.size) : ptrs b (s.data.toList.take (i + 1)) = ptrs b (s.data.toList.take i) ++ [.pointer (some ⟨b, off ((s[i]'h).toNat : Int), none⟩)] := by
  have e : s.data.toList[i]? = some (s[i]'h) := by
    rw [Array.getElem?_toList]
    exact Array.getElem?_eq_getElem h
  rw [List.take_add_one, e]
  unfold ptrs
  rw [List.map_append]
  rfl

set_option maxRecDepth 100000 in
set_option maxHeartbeats 1000000 in
theorem start_calls (word fs : ByteArray) (k b : Int) (b0 : Nat) (cs : Array Value) (w : World) (hb : w.heap[b0]? = some (.cells cs 24 (0, 0))) (hc : cs = #[.int .i64 0, .int .i64 0, .int .i64 0, .int .i64 0, .int .i64 0, .int .i64 0, .slice none 0 0]) (ha : Asc fs) (hf : fs.size ≤ 4) :
    Calls Tryd.prog 14 #[.agg #[.string word, .string fs, .int .i64 k, .int .i64 b], .pointer (some ⟨b0, 0, none⟩)] w fun e w' => ∃ v, e = .returned v ∧ w'.ownsRow w.heap.size 61 1 v fs.size (ptrs b0 fs.data.toList) ∧
      w'.heap[b0]? = some (.cells #[.int .i64 k, .int .i64 0, .int .i64 b, .int .i64 0, .int .i64 0, .int .i64 0, .slice none 0 0] 24 (0, 0)) ∧ But (· = b0) w w' := by
  subst hc
  have hlt : b0 < w.heap.size := (Array.getElem?_eq_some_iff.1 hb).1
  have c0 : w.cell? ⟨b0, 0, none⟩ = some (.int .i64 0) := by
    simp only [World.cell?]
    rw [hb]
    rfl
  have c2 : w.cell? ⟨b0, 2, none⟩ = some (.int .i64 0) := by
    simp only [World.cell?]
    rw [hb]
    rfl
  have f0 : ∀ o, w.frozen? ⟨b0, o, none⟩ = false := fun o => by simp [World.frozen?, hb]
  have hrg := fun W => run_range_string (P := Tryd.prog) W 9 fs Tryd.underlying9
  go_enter Tryd.func14, Tryd.ntmps14
  go_wp2
  go_region
  obtain ⟨W0, hW⟩ : ∃ W0, W0 = (((w.setCell ⟨b0, 0, none⟩ (.int .i64 k)).setCell ⟨b0, 2, none⟩ (.int .i64 b)).alloc (.cells #[.string word, .string fs, .int .i64 k, .int .i64 b] 44)).drew := ⟨_, rfl⟩
  rw [← hW]
  have hs0 : W0.heap.size = w.heap.size + 1 := by
    rw [hW]
    show (World.alloc _ _).heap.size = _
    rw [World.size_alloc]
    simp [World.setCell]
  have hb1 : ((w.setCell ⟨b0, 0, none⟩ (.int .i64 k)).setCell ⟨b0, 2, none⟩ (.int .i64 b)).heap[b0]? = some (.cells #[.int .i64 k, .int .i64 0, .int .i64 b, .int .i64 0, .int .i64 0, .int .i64 0, .slice none 0 0] 24 (0, 0)) := heap_setCell_row _ _ _ _ _ _ (heap_setCell_row _ _ _ _ _ _ hb)
  have hBut : But (· = b0) w W0 := by
    rw [hW]
    have h1 := (But.setCell (· = b0) w ⟨b0, 0, none⟩ (.int .i64 k) rfl).trans (But.setCell (· = b0) (w.setCell ⟨b0, 0, none⟩ (.int .i64 k)) ⟨b0, 2, none⟩ (.int .i64 b) rfl) (fun _ _ h => h)
    refine h1.trans (E := fun _ => False) (But.of_below (D := fun _ => False) ?_) (fun _ _ h => h.elim)
    exact ((Below.refl _ _).alloc (Nat.le_refl _) _).drew
  have hb2 : W0.heap[b0]? = some (.cells #[.int .i64 k, .int .i64 0, .int .i64 b, .int .i64 0, .int .i64 0, .int .i64 0, .slice none 0 0] 24 (0, 0)) := by
    rw [hW]
    exact (Below.heap_alloc _ _ _ (Array.getElem?_eq_some_iff.1 hb1).1).trans hb1
  have c1 : W0.cell? ⟨w.heap.size, 1, none⟩ = some (.string fs) := by
    rw [hW]
    have := World.alloc_heap_new ((w.setCell ⟨b0, 0, none⟩ (.int .i64 k)).setCell ⟨b0, 2, none⟩ (.int .i64 b)) (.cells #[.string word, .string fs, .int .i64 k, .int .i64 b] 44)
    have hsz : ((w.setCell ⟨b0, 0, none⟩ (.int .i64 k)).setCell ⟨b0, 2, none⟩ (.int .i64 b)).heap.size = w.heap.size := by simp [World.setCell]
    rw [hsz] at this
    show (World.alloc _ _).cell? _ = _
    simp only [World.cell?]
    rw [this]
    rfl
  clear hb1 c0 c2 f0 hb
  have HW0 := hide_ hW
  clear hW
  have HB2 := hide_ hb2
  have HBut := hide_ hBut
  have HS0 := hide_ hs0
  clear hb2 hBut hs0
  go_wp2
  go_loopg [5] (fs.size + 1) (fun gk v wr => ∃ i : Nat, i ≤ fs.size ∧ fs.size < i + gk ∧ wr.heap[W0.heap.size]? = some (.stringIter fs i) ∧ Hid (wr.ownsRow (W0.heap.size + 1) 61 1 v i (ptrs b0 (fs.data.toList.take i)) ∧ Below W0.heap.size W0 wr))
  case atStart => exact ⟨0, Nat.zero_le _, by omega, World.iter_heap W0 fs 0, ⟨by simp [ptrs], .inl ⟨rfl, by simp⟩⟩, (Below.refl _ W0).alloc (Nat.le_refl _) _⟩
  case round =>
    obtain ⟨i, hi, hgk, hk, HO⟩ := hrel
    have hk0 : W0.heap.size < wr.heap.size := (Array.getElem?_eq_some_iff.1 hk).1
    clear hrg c1
    by_cases hlt2 : i < fs.size
    · have hasc := ha i hlt2
      have hnx : ∀ ty, (Instr.next (.pointer (some ⟨W0.heap.size, 0, none⟩)) true ty).run Tryd.prog wr = _ := fun ty => Lib.run_next_ascii_at wr W0.heap.size fs i ty hk hlt2 hasc
      have hsz : (wr.iterAt W0.heap.size fs (i + 1)).heap.size = wr.heap.size := Lib.iterAt_size _ _ _ _
      have hk2 := Lib.iterAt_heap wr W0.heap.size fs i (i + 1) hk
      have hown := HO.out.1.alloc
      have HX : Hid (∃ v' W1, (Builtin.append_ #[46, 46] 46 #[u5, .slice (some ⟨wr.heap.size, 0, none⟩) 1 1]).run Tryd.prog ((wr.iterAt W0.heap.size fs (i + 1)).alloc (.cells #[.pointer (some ⟨b0, off ((fs[i]'hlt2).toNat : Int), none⟩)] 61)) = .ok v' W1 ∧ W1.heap[W0.heap.size]? = some (.stringIter fs (i + 1)) ∧ Hid (W1.ownsRow (W0.heap.size + 1) 61 1 v' (i + 1) (ptrs b0 (fs.data.toList.take (i + 1))) ∧ Below W0.heap.size W0 W1)) := by
        have hown : (wr.iterAt W0.heap.size fs (i + 1)).ownsRow (W0.heap.size + 1) 61 1 u5 i (ptrs b0 (fs.data.toList.take i)) := ownsRow_iterAt HO.out.1 (by omega) fs (i + 1)
        have hB : Below W0.heap.size W0 (wr.iterAt W0.heap.size fs (i + 1)) := Lib.below_iterAt HO.out.2 (Nat.le_refl _) fs (i + 1)
        generalize hV : wr.iterAt W0.heap.size fs (i + 1) = V at *
        have hown2 := hown.alloc (.cells #[.pointer (some ⟨b0, off ((fs[i]'hlt2).toNat : Int), none⟩)] 61)
        have hB2 := hB.alloc hB.size (.cells #[.pointer (some ⟨b0, off ((fs[i]'hlt2).toNat : Int), none⟩)] 61)
        have hcell : (V.alloc (.cells #[.pointer (some ⟨b0, off ((fs[i]'hlt2).toNat : Int), none⟩)] 61)).cell? ⟨V.heap.size, 0, none⟩ = some (.pointer (some ⟨b0, off ((fs[i]'hlt2).toNat : Int), none⟩)) := by rw [World.cell?_alloc_new]; rfl
        have hkV : (V.alloc (.cells #[.pointer (some ⟨b0, off ((fs[i]'hlt2).toNat : Int), none⟩)] 61)).heap[W0.heap.size]? = some (.stringIter fs (i + 1)) := (Below.heap_alloc V _ _ (by omega)).trans hk2
        rw [← hsz]
        have hsV : V.heap.size ≤ (V.alloc (.cells #[.pointer (some ⟨b0, off ((fs[i]'hlt2).toNat : Int), none⟩)] 61)).heap.size := by rw [World.size_alloc]; omega
        obtain ⟨v', W1, h1, h2, h3⟩ := append_ptr (W0.heap.size + 1) u5 i _ _ hown2 (by omega) (by omega) V.heap.size _ hcell
        refine ⟨v', W1, h1, ?_, ?_, ?_⟩
        · refine (h3.block _ (by omega) (fun e => ?_)).trans hkV
          have := (World.ownsRow.lt hown2 _ e.symm).1
          omega
        · rw [ptrs_step b0 fs i hlt2]
          exact h2
        · exact hB2.grown h3 (by omega) (fun j e => by have := (World.ownsRow.lt hown2 _ e).1; omega)
      have HF := hide_ (field_calls b0 ((fs[i]'hlt2).toNat : Int) (wr.iterAt W0.heap.size fs (i + 1)))
      obtain ⟨v', W1, hrun, hk3, HO3⟩ := HX.out
      have HRUN := hide_ hrun
      clear hrun HX HO
      go_wp2_with fail
      refine HF.out.mono ?_
      rintro e W ⟨rfl, rfl⟩
      go_wp2_with (first
        | (at_builtin; refine wpList_run_append rfl (.tmp 24) (.tmp 28) 46 rfl _ _ _ _ rfl rfl HRUN.out ?_)
        | fail)
      go_roundg (fs.size - i)
      case measure => omega
      case rel => exact ⟨i + 1, by omega, by omega, hk3, HO3⟩
    · obtain rfl : i = fs.size := by omega
      have hnx : ∀ ty, (Instr.next (.pointer (some ⟨W0.heap.size, 0, none⟩)) true ty).run Tryd.prog wr = _ := fun ty => Lib.run_next_end_at wr W0.heap.size fs fs.size ty hk hlt2
      go_wp2
      go_ret
      have hl : fs.data.toList.take fs.size = fs.data.toList := List.take_of_length_le (Nat.le_refl _)
      have h1 := HO.out.1
      rw [hl] at h1
      refine ⟨_, rfl, ?_, ?_, ?_⟩
      · refine ⟨h1.1, ?_⟩
        rcases h1.2 with hn | ⟨g, cap, cur, rfl, hbb, rest⟩
        · exact .inl hn
        · exact .inr ⟨g, cap, cur, rfl, by have := HS0.out; omega, rest⟩
      · exact (HO.out.2.block _ (by have := HS0.out; omega)).trans HB2.out
      · have := HS0.out
        exact HBut.out.trans (E := fun _ => False) (But.of_below HO.out.2) (fun _ _ h => h.elim)
end Go.Proofs.YtmkcdkfjomaidaaDoor
