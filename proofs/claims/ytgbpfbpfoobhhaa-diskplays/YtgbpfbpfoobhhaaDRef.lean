/-
  PROVED HERE: what Append, Sync, Crash, Cut of the document do to its disk: as the program's do.
-/
import Derived.Test.YtgbpfbpfoobhhaaDCrash
import Derived.Test.YtgbpfbpfoobhhaaDArg
namespace Go.Proofs.Ytgbpfbpfoobhhaa
open Go.RowKit

/-- What a call leaves of the document's disk. -/
def DoneR (w w' : World) (base c : Nat) (u : Value) (bs : List Int) (s m : Int) : Prop := ∃ u', Rk w' base c u' bs s m ∧ But (· = c) w w' ∧ Nw w u u'

theorem DoneR.same {w : World} {base c : Nat} {u : Value} {bs : List Int} {s m : Int} (h : Rk w base c u bs s m) : DoneR w w base c u bs s m := ⟨u, h, But.refl _ _, fun _ e => .inl e⟩
theorem Rk.drewN {w : World} {base c : Nat} {u : Value} {bs : List Int} {s m : Int} (h : Rk w base c u bs s m) (q : Nat) : Rk (w.drewN q) base c u bs s m := h.later rfl (fun _ _ => rfl)
theorem DoneR.drewN {w : World} {base c : Nat} {u : Value} {bs : List Int} {s m : Int} (h : Rk w base c u bs s m) (q : Nat) : DoneR w (w.drewN q) base c u bs s m := ⟨u, h.drewN q, But.drewN _ _ _, fun _ e => .inl e⟩

theorem owned_nil5 (w : World) (base : Nat) (hb : base ≤ w.heap.size) : (w.alloc (.cells #[] 5)).ownsRow base 5 1 (.slice (some ⟨w.heap.size, 0, none⟩) 0 0) 0 (([] : List Int).map (Value.int .u8)) :=
  ⟨rfl, .inr ⟨w.heap.size, 0, _, rfl, hb, World.alloc_heap_new w _, Nat.le_refl _, by unfold maxLen; omega, rfl, rfl⟩⟩
theorem rk_put {w W1 : World} {base c : Nat} {u v' : Value} {bs bs' : List Int} {s m : Int} {n : Nat} (h : Rk w base c u bs s m) (hB : Below w.heap.size w W1) (hown : W1.ownsRow w.heap.size 5 1 v' n (bs'.map (Value.int .u8))) (hx : Bytes bs') (h1 : s ≤ bs'.length) (h2 : (bs'.length : Int) ≤ m) :
    DoneR w (W1.setCell ⟨c, 0, none⟩ v') base c u bs' s m := by
  have hlt := h.lt
  have hl : bs'.length = n := by have := hown.1; simpa using this
  subst hl
  have e1 := heap_setCell_row W1 c 0 _ _ v' ((hB.block c hlt).trans h.blk)
  refine ⟨v', ⟨by rw [e1]; rfl, ?_, h.ge, hx, h.s0, h1, h2, h.m1⟩, ?_, fun k e => .inr (World.ownsRow.lt hown k e).1⟩
  · refine owns_base (base := w.heap.size) (owns_later hown (fun k e => ?_)) (fun k e => ?_)
    · have := (World.ownsRow.lt hown k e).1
      rw [Below.heap_setCell _ _ _ _ (by show k ≠ c; omega)]
    · have := (World.ownsRow.lt hown k e).1
      have := h.ge
      omega
  · exact (But.of_below (D := (· = c)) hB (fun _ h _ => h)).trans (But.setCell (· = c) W1 ⟨c, 0, none⟩ v' rfl) (fun _ _ e => e)

theorem rk_sure {w W1 : World} {base c : Nat} {u : Value} {bs bs' : List Int} {s s' s1 m : Int} (_h : Rk w base c u bs s m) (hD : DoneR w W1 base c u bs' s1 m) (h0 : 0 ≤ s') (h1 : s' ≤ bs'.length) : DoneR w (W1.setCell ⟨c, 1, none⟩ (.int .i64 s')) base c u bs' s' m := by
  obtain ⟨u', r, b, nw⟩ := hD
  have e1 := heap_setCell_row W1 c 1 _ _ (.int .i64 s') r.blk
  refine ⟨u', ⟨by rw [e1]; rfl, owns_later r.own (fun k e => ?_), r.ge, r.byt, h0, h1, r.m0, r.m1⟩, b.trans (But.setCell (· = c) W1 ⟨c, 1, none⟩ (.int .i64 s') rfl) (fun _ _ e => e), nw⟩
  have hk : k ≠ c := by
    rintro rfl
    exact r.own_ne e
  rw [Below.heap_setCell _ _ _ _ hk]

set_option maxRecDepth 100000 in
set_option maxHeartbeats 1000000 in
theorem rsync_calls (base c : Nat) (u : Value) (bs : List Int) (s m : Int) (w : World) (h : Rk w base c u bs s m) :
    Calls Try.prog 12 #[.pointer (some ⟨c, 0, none⟩)] w fun e w' => e = .returned (.tuple #[]) ∧ DoneR w w' base c u bs (bs.length : Int) m := by
  have c0 := h.cell0
  have c1 := h.cell1
  have f1 := h.frozen 1
  have HD := hide_ (rk_sure h (.same h) (s' := (bs.length : Int)) (by omega) (Int.le_refl _))
  obtain ⟨a, cap, rfl, _, _, _, _⟩ := h.row
  clear h
  generalize bs.length = n at *
  go_enter Try.func12, Try.ntmps12
  go_wp2
  go_end0
  exact ⟨rfl, HD.out⟩

set_option maxRecDepth 100000 in
set_option maxHeartbeats 1000000 in
theorem rapp_bad (base c : Nat) (u : Value) (bs : List Int) (s m : Int) (a' : Option Addr) (n cap' : Nat) (w : World) (h : Rk w base c u bs s m) (hn : m - (bs.length : Int) < (n : Int)) :
    Calls Try.prog 11 #[.pointer (some ⟨c, 0, none⟩), .slice a' n cap'] w fun e w' => e = .returned (.int .i64 12) ∧ DoneR w w' base c u bs s m := by
  have c0 := h.cell0
  have c2 := h.cell2
  have m1 := h.m1
  have m0 := h.m0
  have HD := hide_ (fun q => DoneR.drewN h q)
  obtain ⟨a, cap, rfl, hcap, hcm, _, _⟩ := h.row
  clear h
  generalize bs.length = k at *
  go_enter Try.func11, Try.ntmps11
  go_wp2_with go_quiet (fail)
  go_ret
  exact ⟨rfl, HD.out _⟩

set_option maxRecDepth 100000 in
set_option maxHeartbeats 2000000 in
theorem rapp_good (base c : Nat) (u : Value) (bs : List Int) (s m : Int) (a' : Option Addr) (n cap' : Nat) (xs : List Int) (w : World) (h : Rk w base c u bs s m) (hn : ¬ (m - (bs.length : Int) < (n : Int))) (hr : Row .u8 w a' n xs) (hx : Bytes xs) (hc : a' = none → cap' = 0) :
    Calls Try.prog 11 #[.pointer (some ⟨c, 0, none⟩), .slice a' n cap'] w fun e w' => e = .returned (.int .i64 0) ∧ DoneR w w' base c u (bs ++ xs) s m := by
  have c0 := h.cell0
  have c2 := h.cell2
  have f0 := h.frozen 0
  have m1 := h.m1
  have m0 := h.m0
  have hs1 := h.s1
  have hlt := h.lt
  have HH := hide_ h
  have HR := hide_ hr
  have hxl := hr.1
  obtain ⟨a, cap, rfl, hcap, hcm, hrow, hca⟩ := h.row
  have HC := hide_ hc
  have HCA := hide_ hca
  have HRW := hide_ hrow
  have HD : Hid (∀ W1 v' j, Below w.heap.size w W1 → W1.ownsRow w.heap.size 5 1 v' j ((bs ++ xs).map (Value.int .u8)) → DoneR w (W1.setCell ⟨c, 0, none⟩ v') base c (.slice a bs.length cap) (bs ++ xs) s m) := fun W1 v' j hB ho => rk_put h hB ho (h.byt.append hx) (by rw [List.length_append]; omega) (by rw [List.length_append]; omega)
  have hc0 : ∀ (q : Nat) (o : Obj), ((w.drewN q).alloc o).cell? ⟨c, 0, none⟩ = some (.slice a bs.length cap) := fun q o => (((below_drewN (Below.refl w.heap.size w) q).alloc (Nat.le_refl _) o).cell (p := ⟨c, 0, none⟩) hlt).trans c0
  clear h hr hc hca hrow
  subst hxl
  generalize bs.length = k at *
  generalize xs.length = z at *
  go_enter Try.func11, Try.ntmps11
  go_wp2_with first | go_quiet (fail) | (at_builtin; first
    | (refine wpList_append_bytes rfl _ _ rfl rfl w.heap.size (.slice (some ⟨w.heap.size, 0, none⟩) 0 0) 0 [] rfl (owned_nil5 (w.drewN nq) w.heap.size (Nat.le_refl _)) (by simp) a k cap bs rfl (HRW.out.below ((below_drewN (Below.refl _ w) nq).alloc (Nat.le_refl _) _)) HCA.out (by omega) ?_
       intro v2 W2 p1 p2 p3
       have hb2 : Below w.heap.size w W2 := ((below_drewN (Below.refl _ w) nq).alloc (Nat.le_refl _) _).grown p2 (by simp) (fun j e => by cases e; exact Nat.le_refl _)
       clear p2 p3
       rw [List.nil_append, Nat.zero_add] at p1
       obtain ⟨a2, cap2, rfl, _, _, _, _⟩ := row_any p1
       have P1 := hide_ p1
       clear p1)
    | (refine wpList_append_bytes rfl _ _ rfl rfl w.heap.size (.slice a2 k cap2) k bs (by rfl) P1.out hb2.size a' z cap' xs rfl (HR.out.below hb2) HC.out (by omega) ?_
       intro v3 W3 q1 q2 q3
       have hb3 : Below w.heap.size w W3 := hb2.grown q2 hb2.size (fun j e => (World.ownsRow.lt P1.out j e).1)
       obtain ⟨a3, cap3, rfl, _, _, _, _⟩ := row_any q1
       have d0 : W3.cell? ⟨c, 0, none⟩ = some (.slice a k cap) := (hb3.cell (p := ⟨c, 0, none⟩) hlt).trans c0
       have d1 : W3.frozen? ⟨c, 0, none⟩ = false := (hb3.frozen (p := ⟨c, 0, none⟩) hlt).trans f0
       have HE := hide_ (HD.out W3 _ _ hb3 q1)
       clear q1 q2 q3 hb2))
  go_ret
  exact ⟨rfl, HE.out⟩
end Go.Proofs.Ytgbpfbpfoobhhaa
