/-
  PROVED HERE: quad.Put, handed bytes and numbers, hands back new memory that holds the bytes and behind them the bytes of each number, and turns nothing that lay before.
-/
import Derived.Test.YtgbpfbpfoobhhaaQIter
import Derived.Laws.CopyRow
import Derived.Laws.IdiomCopy
import Derived.Laws.MakeOwn
import Derived.Laws.OwnMore
import Derived.Laws.CopyOwn
import Derived.Laws.Tables
namespace Go.Proofs.Ytgbpfbpfoobhhaa
open Go.RowKit Go.Shelf
attribute [local go_sem] Oper.semAt_some

/-- A slice's elements are the integers zs. -/
def Row (k : IntKind) (w : World) (a : Option Addr) (len : Nat) (zs : List Int) : Prop :=
  zs.length = len ∧ (len = 0 ∨ ∃ b o, a = some ⟨b, o, none⟩ ∧ b < w.heap.size ∧ ∀ i, i < len → w.cell? ⟨b, o + i, none⟩ = some (.int k (zs.getD i 0)))

theorem Row.below {k : IntKind} {w w' : World} {a : Option Addr} {len : Nat} {zs : List Int} (h : Row k w a len zs) (hb : Below w.heap.size w w') : Row k w' a len zs := by
  obtain ⟨h1, h2⟩ := h
  refine ⟨h1, ?_⟩
  rcases h2 with h2 | ⟨b, o, rfl, hlt, hc⟩
  · exact .inl h2
  · exact .inr ⟨b, o, rfl, Nat.lt_of_lt_of_le hlt hb.size, fun i hi => (hb.cell (p := ⟨b, o + i, none⟩) hlt).trans (hc i hi)⟩

theorem info5 : (Try.prog.info? 5).map (fun i => (i.zero, i.size, i.bytes)) = some (some (.int .u8 0), 1, 1) := by kernel_rfl

/-- How many bytes the first k numbers take. -/
def qsum (l : List Int) : Nat := (lebs l).length

theorem qsum_snoc (l : List Int) (x : Int) (h0 : 0 ≤ x) (h1 : x ≤ 18446744073709551615) : qsum (l ++ [x]) = qsum l + qlen x.toNat := by
  unfold qsum
  rw [lebs_snoc, List.length_append, leb_length x.toNat (by omega)]

theorem info5s : (Try.prog.info? 5).map (·.size) = some 1 := by kernel_rfl

theorem own_take (bs : List Int) (q : Nat) : (bs.map (Value.int .u8) ++ List.replicate q (Value.int .u8 0)).take (bs.length * 1) = bs.map (Value.int .u8) := by
  rw [Nat.mul_one, List.take_append_of_le_length (by simp), List.take_of_length_le (by simp)]

/-- 'copy(out, b)' into the new slice: it holds the bytes of b; the box lies as it lay. -/
theorem copy_ok (ab : Option Addr) (lb cb q : Nat) (bs : List Int) (w : World) (hrb : Row .u8 w ab lb bs) (hsz : lb + q ≤ maxLen) :
    ∃ v W1, (Builtin.copy_ #[22, 22] 3 #[.slice (some ⟨w.heap.size, 0, none⟩) lb (lb + q), .slice ab lb cb]).run Try.prog
        ((w.alloc (.cells (madeCells #[.int .u8 0] (lb + q)) 5)).alloc (.cells #[.slice (some ⟨w.heap.size, 0, none⟩) lb (lb + q)] 22)) = .ok v W1 ∧
      Boxed W1 (w.heap.size + 1) 22 (.slice (some ⟨w.heap.size, 0, none⟩) lb (lb + q)) ∧
      W1.ownsRow w.heap.size 5 1 (.slice (some ⟨w.heap.size, 0, none⟩) lb (lb + q)) lb (bs.map (Value.int .u8)) ∧ Below w.heap.size w W1 ∧ W1.heap.size = w.heap.size + 2 := by
  obtain ⟨hl, hr⟩ := hrb
  have hB : Below w.heap.size w ((w.alloc (.cells (madeCells #[.int .u8 0] (lb + q)) 5)).alloc (.cells #[.slice (some ⟨w.heap.size, 0, none⟩) lb (lb + q)] 22)) := ((Below.refl _ w).alloc (Nat.le_refl _) _).alloc (by simp) _
  have hg : ((w.alloc (.cells (madeCells #[.int .u8 0] (lb + q)) 5)).alloc (.cells #[.slice (some ⟨w.heap.size, 0, none⟩) lb (lb + q)] 22)).heap[w.heap.size]? = some (.cells (madeCells #[.int .u8 0] (lb + q)) 5 (0, 0)) :=
    (Below.heap_alloc _ _ _ (by simp)).trans (World.alloc_heap_new w _)
  have hbox : Boxed ((w.alloc (.cells (madeCells #[.int .u8 0] (lb + q)) 5)).alloc (.cells #[.slice (some ⟨w.heap.size, 0, none⟩) lb (lb + q)] 22)) (w.heap.size + 1) 22 (.slice (some ⟨w.heap.size, 0, none⟩) lb (lb + q)) := by
    have := Boxed.new (w.alloc (.cells (madeCells #[.int .u8 0] (lb + q)) 5)) 22 (.slice (some ⟨w.heap.size, 0, none⟩) lb (lb + q))
    rwa [World.size_alloc] at this
  have hsize : ((w.alloc (.cells (madeCells #[.int .u8 0] (lb + q)) 5)).alloc (.cells #[.slice (some ⟨w.heap.size, 0, none⟩) lb (lb + q)] 22)).heap.size = w.heap.size + 2 := by simp
  rcases hr with h0 | ⟨b, o, rfl, hlt, hc⟩
  · subst h0
    have hbs : bs = [] := List.length_eq_zero_iff.1 hl
    subst hbs
    refine ⟨_, _, run_copy_none _ 22 22 3 5 _ _ _ _ _ _ Try.underlying22 info5s (by simp), hbox, ⟨rfl, .inr ⟨_, _, _, rfl, Nat.le_refl _, hg, by omega, hsz, by rw [size_madeCells]; omega, by simp⟩⟩, hB, hsize⟩
  · have hsrc : ∀ j v, (bs.map (Value.int .u8))[j]? = some v → ((w.alloc (.cells (madeCells #[.int .u8 0] (lb + q)) 5)).alloc (.cells #[.slice (some ⟨w.heap.size, 0, none⟩) lb (lb + q)] 22)).cell? ((⟨b, o, none⟩ : Addr).add j) = some v := by
      intro j v hj
      have hjl : j < lb := by
        have := (List.getElem?_eq_some_iff.1 hj).1
        simp at this
        omega
      have hadd : (⟨b, o, none⟩ : Addr).add j = ⟨b, o + j, none⟩ := by unfold Addr.add; split <;> simp_all
      rw [hadd, hB.cell (p := ⟨b, o + j, none⟩) hlt, hc j hjl]
      rw [List.getElem?_map, List.getElem?_eq_getElem (by omega)] at hj
      simp at hj
      rw [← hj, List.getD_eq_getElem?_getD, List.getElem?_eq_getElem (by omega)]
      rfl
    refine ⟨_, _, run_copy_row Try.prog _ 22 22 3 5 w.heap.size 0 lb (lb + q) ⟨b, o, none⟩ lb cb _ 5 (bs.map (Value.int .u8)) Try.underlying22 info5s hg (by simp [hl]) hsrc (by simp [size_madeCells]; omega) (by simp [Value.oneCell']), ?_, ?_, ?_, ?_⟩
    · exact (setRow_other _ _ _ _ (by omega)).trans hbox
    · refine ⟨by simp [hl], .inr ⟨_, _, _, rfl, Nat.le_refl _, setRow_heap _ _ _ _ _ _ hg, by omega, hsz, ?_, ?_⟩⟩
      · simp [size_madeCells]; omega
      · simp [toList_madeCells_one, hl]
    · exact below_setRow hB (Nat.le_refl _) _
    · simp

/-- The mark that a loop over an iterator leaves among the deferred calls. -/
def mk (D : Nat) : Deferred := { target := .collected D, args := #[] }

/-- A function that has left such marks comes out: each block is shut; whatever abides that holds behind. -/
theorem leaves_marks {F : Fence} {n : Nat} {fn : Func} {tmps : Array Value} {R : Ending → World → Prop} (Good : World → Prop) (hend : ∀ W, Good W → LeavesInM F n Try.prog fn tmps R [] .returning W) :
    ∀ (ds : List Nat) (_ : ds.Nodup) (W : World) (_ : ∀ D ∈ ds, W.heap[D]? = some (.deferred (some []))) (_ : Good W)
      (_ : ∀ W D, D ∈ ds → Good W → W.heap[D]? = some (.deferred (some [])) → Good (W.putObj D (.deferred none))), LeavesInM F n Try.prog fn tmps R (ds.map mk) .returning W
  | [], _, W, _, hG, _ => hend W hG
  | D :: ds, hnd, W, hall, hG, hst => by
    obtain ⟨hn1, hn2⟩ := List.nodup_cons.1 hnd
    have hD := hall D (by simp)
    refine ⟨by simp, .inl ⟨D, _, rfl, run_takeDeferred hD, ?_⟩⟩
    refine leaves_marks Good hend ds hn2 _ (fun E hE => ?_) (hst W D (by simp) hG hD) (fun W E hE => hst W E (by simp [hE]))
    have hne : E ≠ D := fun e => hn1 (e ▸ hE)
    exact (World.putObj_heap_other hne).trans (hall E (by simp [hE]))

end Go.Proofs.Ytgbpfbpfoobhhaa
