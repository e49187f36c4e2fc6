/-
  PROVED HERE: the stack's push: what it leaves; nothing else that lay before is turned.
-/
import Derived.Test.YtgpopploimeeaaaStk
namespace Go.Proofs.Ytgpopploimeeaaa
open Go.RowKit

theorem Stk.drew {w : World} {base g : Nat} {v : Value} {R : List Int} (h : Stk w base g v R) : Stk w.drew base g v R := h
theorem stk_low {w : World} {base g : Nat} {v : Value} {R : List Int} {p : Int} (h : Stk w base g v R) (hR : R.length < 32) (w' : World)
    (hw : w' = (w.setCell ⟨g, R.length, none⟩ (.int .i64 p)).setCell ⟨g, 33, none⟩ (.int .i64 ((R.length : Int) + 1))) : Stk w' base g v (R ++ [p]) := by
  subst hw
  have hap := h.apart
  obtain ⟨h0, h1, cs, hg, c0, c1, c2, c3, c4⟩ := h
  refine ⟨h0, ?_, (cs.setIfInBounds R.length (.int .i64 p)).setIfInBounds 33 (.int .i64 ((R.length : Int) + 1)), ?_, ?_⟩
  · rw [show (R ++ [p]).length - 32 = R.length - 32 from by simp; omega, show (R ++ [p]).drop 32 = R.drop 32 from by rw [List.drop_eq_nil_of_le (by simp; omega), List.drop_eq_nil_of_le (by omega)]]
    exact own_set (own_set h1 _ _ _ hap) _ _ _ hap
  · exact heap_setCell_same _ g 33 _ _ _ (heap_setCell_same _ g R.length _ _ _ hg)
  · refine ⟨by simpa using c0, fun i hi hr => ?_, fun i hi => ?_, ?_, ?_⟩
    · rw [Array.getElem?_setIfInBounds_ne (by omega)]
      by_cases e : i = R.length
      · subst e
        rw [Array.getElem?_setIfInBounds_self_of_lt (by omega)]
        simp
      · rw [Array.getElem?_setIfInBounds_ne (by omega), c1 i hi (by simp at hr; omega)]
        simp at hr
        rw [List.getD_eq_getElem?_getD, List.getD_eq_getElem?_getD, List.getElem?_append_left (by omega)]
    · rw [Array.getElem?_setIfInBounds_ne (by omega)]
      by_cases e : R.length = i
      · subst e
        exact ⟨p, Array.getElem?_setIfInBounds_self_of_lt (by omega)⟩
      · rw [Array.getElem?_setIfInBounds_ne e]
        exact c2 i hi
    · rw [Array.getElem?_setIfInBounds_ne (by omega), Array.getElem?_setIfInBounds_ne (by omega), c3]
    · rw [Array.getElem?_setIfInBounds_self_of_lt (by simp; omega)]
      simp

set_option maxRecDepth 100000 in
set_option maxHeartbeats 2000000 in
theorem fpush_low (base g : Nat) (v : Value) (R : List Int) (p : Int) (w : World) (h : Stk w base g v R) (hR : R.length < 32) :
    Calls Try.prog 49 #[.pointer (some ⟨g, 0, none⟩), .int .i64 p] w fun e w' => e = .returned (.tuple #[]) ∧ Stk w' base g v (R ++ [p]) ∧ Kept g v.ownBlock w w' := by
  have HS : Hid (∀ w' : World, w' = (w.setCell ⟨g, R.length, none⟩ (.int .i64 p)).setCell ⟨g, 33, none⟩ (.int .i64 ((R.length : Int) + 1)) → Stk w' base g v (R ++ [p])) := fun w' hw => stk_low h hR w' hw
  obtain ⟨c1, c2, c3, c4, f, hg⟩ := h.cells
  obtain ⟨z, hz⟩ := c3 R.length hR
  have fn := f R.length
  have f33 := f 33
  clear c1 c3 c4 f h
  generalize R ++ [p] = R' at *
  generalize R.length = n at *
  go_enter Try.func49, Try.ntmps49
  go_wp2
  go_region
  go_wp2
  go_end0
  exact ⟨rfl, Stk.drew (HS.out _ rfl), (((Kept.refl _ _ w).setCell _ _).setCell _ _).drew⟩

theorem cell_alloc_keep {w : World} {a : Addr} {v : Value} {o : Obj} (h : w.cell? a = some v) : (w.alloc o).cell? a = some v := by
  have hlt : a.block < w.heap.size := by
    rcases Nat.lt_or_ge a.block w.heap.size with h1 | h1
    · exact h1
    · simp [World.cell?, Array.getElem?_eq_none h1] at h
  rw [World.cell?_of_block (w := w) (Below.heap_alloc w o a.block hlt)]
  exact h
theorem grown_frozen {w w2 : World} {o : Obj} {row : Option Nat} {a : Addr} (h : (w.alloc o).grownBy w2 row) (hlt : a.block < w.heap.size) (hne : some a.block ≠ row) : w2.frozen? a = w.frozen? a :=
  World.frozen?_of_block (w := w) ((h.block a.block (by simp; omega) hne).trans (Below.heap_alloc w o a.block hlt))

theorem own_slice {w : World} {base : Nat} {e : TypeId} {v : Value} {n : Nat} {xs : List Value} (h : w.ownsRow base e 1 v n xs) : ∃ a cap, v = .slice a n cap := by
  rcases h.2 with ⟨rfl, rfl⟩ | ⟨g, cap, cur, rfl, _⟩
  · exact ⟨_, _, rfl⟩
  · exact ⟨_, _, rfl⟩
theorem stk_high {w : World} {base g : Nat} {v v' : Value} {R : List Int} {p : Int} (h : Stk w base g v R) (hR : 32 ≤ R.length) {w2 w' : World} {o : Obj} (hown : w2.ownsRow base 3 1 v' (R.length - 32 + 1) ((R.drop 32).map (Value.int .i64) ++ [.int .i64 p])) (hgrow : (w.alloc o).grownBy w2 v.ownBlock)
    (hat : v'.ownBlock = v.ownBlock ∨ v'.ownBlock = some (w.alloc o).heap.size)
    (hw : w' = (w2.setCell ⟨g, 32, none⟩ v').setCell ⟨g, 33, none⟩ (.int .i64 ((R.length : Int) + 1))) : Stk w' base g v' (R ++ [p]) ∧ Kept g v.ownBlock w w' ∧ (v'.ownBlock = v.ownBlock ∨ ∀ k, v'.ownBlock = some k → w.heap.size ≤ k) := by
  subst hw
  have hap := h.apart
  have hgs := h.cells.2.2.2.2.2
  have hap2 : v'.ownBlock ≠ some g := by
    rcases hat with e | e
    · rw [e]; exact hap
    · rw [e]; simp; omega
  obtain ⟨h0, h1, cs, hg, c0, c1, c2, c3, c4⟩ := h
  have hg2 : w2.heap[g]? = some (.cells cs 80 (0, 0)) := by
    rw [hgrow.block g (by simp; omega) (fun e => hap e.symm), Below.heap_alloc w o g hgs]
    exact hg
  have hK : Kept g v.ownBlock w w2 := ⟨hgrow.os, hgrow.tape, hgrow.output, by have := hgrow.size; simp at this; omega, fun k h1 h2 h3 => by
    rw [hgrow.block k (by simp; omega) h3, Below.heap_alloc w o k h1]⟩
  refine ⟨⟨h0, ?_, (cs.setIfInBounds 32 v').setIfInBounds 33 (.int .i64 ((R.length : Int) + 1)), ?_, ?_⟩, (hK.setCell _ _).setCell _ _, ?_⟩
  · rw [show (R ++ [p]).length - 32 = R.length - 32 + 1 from by simp; omega, List.drop_append_of_le_length hR, List.map_append]
    exact own_set (own_set hown _ _ _ hap2) _ _ _ hap2
  · exact heap_setCell_same _ g 33 _ _ _ (heap_setCell_same _ g 32 _ _ _ hg2)
  · refine ⟨by simpa using c0, fun i hi hr => ?_, fun i hi => ?_, ?_, ?_⟩
    · rw [Array.getElem?_setIfInBounds_ne (by omega), Array.getElem?_setIfInBounds_ne (by omega), c1 i hi (by omega)]
      rw [List.getD_eq_getElem?_getD, List.getD_eq_getElem?_getD, List.getElem?_append_left (by omega)]
    · rw [Array.getElem?_setIfInBounds_ne (by omega), Array.getElem?_setIfInBounds_ne (by omega)]
      exact c2 i hi
    · rw [Array.getElem?_setIfInBounds_ne (by omega), Array.getElem?_setIfInBounds_self_of_lt (by omega)]
    · rw [Array.getElem?_setIfInBounds_self_of_lt (by simp; omega)]
      simp
  · rcases hat with e | e
    · exact .inl e
    · refine .inr fun k hk => ?_
      rw [e] at hk
      simp at hk
      omega

set_option maxRecDepth 100000 in
set_option maxHeartbeats 2000000 in
theorem fpush_high (base g : Nat) (v : Value) (R : List Int) (p : Int) (w : World) (h : Stk w base g v R) (hb : base ≤ w.heap.size) (hR : 32 ≤ R.length) (hR2 : R.length ≤ 4398046511104) :
    Calls Try.prog 49 #[.pointer (some ⟨g, 0, none⟩), .int .i64 p] w fun e w' => e = .returned (.tuple #[]) ∧ ∃ v', Stk w' base g v' (R ++ [p]) ∧ Kept g v.ownBlock w w' ∧ (v'.ownBlock = v.ownBlock ∨ ∀ k, v'.ownBlock = some k → w.heap.size ≤ k) := by
  obtain ⟨i0, hi, hz0, hz1, hz2⟩ := info_parts info3
  have HS : Hid (∀ (v' : Value) (o : Obj) (w2 w' : World), w2.ownsRow base 3 1 v' (R.length - 32 + 1) ((R.drop 32).map (Value.int .i64) ++ [.int .i64 p]) → (w.alloc o).grownBy w2 v.ownBlock → (v'.ownBlock = v.ownBlock ∨ v'.ownBlock = some (w.alloc o).heap.size) →
    w' = (w2.setCell ⟨g, 32, none⟩ v').setCell ⟨g, 33, none⟩ (.int .i64 ((R.length : Int) + 1)) → Stk w' base g v' (R ++ [p]) ∧ Kept g v.ownBlock w w' ∧ (v'.ownBlock = v.ownBlock ∨ ∀ k, v'.ownBlock = some k → w.heap.size ≤ k)) := fun v' o w2 w' a1 a2 a3 a4 => stk_high h hR a1 a2 a3 a4
  obtain ⟨c1, c2, c3, c4, f, hg⟩ := h.cells
  have f32 := f 32
  have f33 := f 33
  have hap := h.apart
  have hown := h.2.1
  have hlen : (((R.drop 32).map (Value.int .i64)).length = R.length - 32) := by simp
  clear c3 c4 f h
  generalize R ++ [p] = R' at *
  generalize hn : R.length = n at *
  generalize hX : (R.drop 32).map (Value.int .i64) = X at *
  clear hX hn
  obtain ⟨m, rfl⟩ : ∃ m, n = m + 32 := ⟨n - 32, by omega⟩
  rw [show m + 32 - 32 = m from by omega] at *
  go_enter Try.func49, Try.ntmps49
  go_wp2_with (at_builtin; refine wpList_append_own_at _ rfl _ _ 45 rfl base 3 i0 (.int .i64 0) 1 8 Try.underlying45 hi hz0 hz1 hz2 rfl (by decide) _ _ _ rfl (hown.alloc _) ⟨w.heap.size, 0, none⟩ 1 1 [.int .i64 p] rfl rfl (cell_one_new _ _ _) (by simp [Value.oneCell']) (by unfold maxLen; omega) (by omega) (by simp; omega) ?_; intro v2 w2 hown2 hgrow hnil2 hat; have d1 : w2.cell? ⟨g, 32, none⟩ = some v := hgrow.cell (a := ⟨g, 32, none⟩) ((cell_alloc_keep c1)) (fun e => hap e.symm); have d2 : w2.cell? ⟨g, 33, none⟩ = some (.int .i64 ((m + 32 : Nat) : Int)) := hgrow.cell (a := ⟨g, 33, none⟩) ((cell_alloc_keep c2)) (fun e => hap e.symm); have d3 : w2.frozen? ⟨g, 32, none⟩ = false := (grown_frozen (a := ⟨g, 32, none⟩) hgrow hg (fun e => hap e.symm)).trans f32; have d4 : w2.frozen? ⟨g, 33, none⟩ = false := (grown_frozen (a := ⟨g, 33, none⟩) hgrow hg (fun e => hap e.symm)).trans f33; obtain ⟨a2, cap2, rfl⟩ := own_slice hown2)
  go_end0
  exact ⟨rfl, _, HS.out _ _ _ _ hown2 hgrow hat rfl⟩
end Go.Proofs.Ytgpopploimeeaaa
