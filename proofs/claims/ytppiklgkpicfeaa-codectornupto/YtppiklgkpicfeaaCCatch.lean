/-
  PROVED HERE: what codec.read defers: what left by a panic is taken up, its error and the place told.
-/
import Derived.Test.YtppiklgkpicfeaaCFrame
import Derived.Defers
import Derived.Recover
import Derived.Laws.Pointers
namespace Go.Proofs.Ytppiklgkpicfeaa
open Go.RowKit

set_option maxRecDepth 100000 in
set_option maxHeartbeats 1000000 in
theorem catch_panicking (B4 B7 B8 : Nat) (p z : Int) (v7 v8 : Value) (w : World) (h4 : Boxed w B4 3 (.int .i64 p)) (h7 : Boxed w B7 3 v7) (h8 : Boxed w B8 23 v8) (_n1 : B4 ≠ B7) (n2 : B7 ≠ B8) (_n3 : B4 ≠ B8) :
    CallsD Try.prog 25 #[.pointer (some ⟨B4, 0, none⟩), .pointer (some ⟨B7, 0, none⟩), .pointer (some ⟨B8, 0, none⟩)] (.panicking (pan z)) w fun e u' w' =>
      e = .returned (.tuple #[]) ∧ u' = .panicking [{ v := .iface 23 (.int .i64 z), recovered := true }] ∧ Boxed w' B7 3 (.int .i64 p) ∧ Boxed w' B8 23 (.int .i64 z) ∧ ∀ n, n ≤ B7 → n ≤ B8 → Below n w w' := by
  have c4 := h4.cell
  have c7 := h7.cell
  have c8 := h8.cell
  have f7 := h7.frozen
  have f8 := h8.frozen
  unfold pan
  refine callsD_of_wpS Try.func25 rfl fun c₀ cs hu => ?_
  apply wpS_seq
  apply wpS_region
  simp [wpOpsS, go_sem, recoverD, hu, Try.ntmps25, Exit.thenS]
  apply wpS_seq
  apply wpS_region
  simp [wpOpsS, go_sem, Exit.thenS]
  refine wpS_cond (t := true) (by simp [Act.eval, Array.replicate]) ?_
  simp only [if_true]
  refine wpS_of_wp ?_
  have hta : ∀ X : World, (Instr.typeAssert (.iface 23 (.int .i64 z)) 20 23 false).run Try.prog X = .ok (.int .i64 z) X := fun X => by rfl
  have g7 := h7.set (.int .i64 p)
  have g8 := (h8.other (B' := B7) (fun e => n2 e.symm) (.int .i64 p)).set (.int .i64 z)
  have g7' := g7.other (B' := B8) n2 (.int .i64 z)
  have g8' := h8.other (B' := B7) (fun e => n2 e.symm) (.int .i64 p)
  have c8' := g8'.cell
  have f8' := g8'.frozen
  have HB : Hid (∀ n, n ≤ B7 → n ≤ B8 → Below n w ((w.setCell ⟨B7, 0, none⟩ (.int .i64 p)).setCell ⟨B8, 0, none⟩ (.int .i64 z))) := fun n h1 h2 => ((Below.refl n w).setCell (p := ⟨B7, 0, none⟩) h1 _).setCell (p := ⟨B8, 0, none⟩) h2 _
  simp only [Array.replicate_succ, Array.replicate_zero, List.push_toArray, List.append_toArray, List.nil_append, List.cons_append, List.setIfInBounds_toArray, List.set_cons_succ, List.set_cons_zero]
  have HG : Hid (Boxed ((w.setCell ⟨B7, 0, none⟩ (.int .i64 p)).setCell ⟨B8, 0, none⟩ (.int .i64 z)) B7 3 (.int .i64 p) ∧ Boxed ((w.setCell ⟨B7, 0, none⟩ (.int .i64 p)).setCell ⟨B8, 0, none⟩ (.int .i64 z)) B8 23 (.int .i64 z)) := ⟨g7', g8⟩
  clear g7 g8 g7' g8' h4 h7 h8
  go_region
  generalize (w.setCell ⟨B7, 0, none⟩ (.int .i64 p)).setCell ⟨B8, 0, none⟩ (.int .i64 z) = V at *
  have HV : Hid (Boxed V.drew B7 3 (.int .i64 p) ∧ Boxed V.drew B8 23 (.int .i64 z) ∧ ∀ n, n ≤ B7 → n ≤ B8 → Below n w V.drew) := ⟨HG.out.1, HG.out.2, fun n h1 h2 => (HB.out n h1 h2).drew⟩
  clear HG HB c8' f8'
  simp [bodyPostS, results, Try.results25]
  exact HV.out

set_option maxRecDepth 100000 in
set_option maxHeartbeats 1000000 in
theorem catch_idle (B4 B7 B8 : Nat) (w : World) :
    CallsD Try.prog 25 #[.pointer (some ⟨B4, 0, none⟩), .pointer (some ⟨B7, 0, none⟩), .pointer (some ⟨B8, 0, none⟩)] .returning w fun e u' w' => e = .returned (.tuple #[]) ∧ u' = .returning ∧ w' = w := by
  refine callsD_of_wpS Try.func25 rfl fun c₀ cs hu => ?_
  apply wpS_seq
  apply wpS_region
  simp [wpOpsS, go_sem, recoverD, hu, Try.ntmps25, Exit.thenS]
  apply wpS_seq
  apply wpS_region
  simp [wpOpsS, go_sem, Exit.thenS]
  refine wpS_cond (t := false) (by simp [Act.eval, Array.replicate]) ?_
  simp only [Bool.false_eq_true, if_false]
  refine wpS_of_wp (wp_skip ?_)
  cases c₀
  simp_all [bodyPostS, results, Try.results25]

theorem box_ne {w : World} {b B o : Nat} {t : TypeId} {v c : Int} (hb : Boxed w B t (.int .i64 v)) (hc : w.cell? ⟨b, o, none⟩ = some (.int .u8 c)) : b ≠ B := by
  rintro rfl
  have hb' : w.heap[b]? = some (.cells #[.int .i64 v] t (0, 0)) := hb
  simp only [World.cell?] at hc
  rw [hb'] at hc
  simp only at hc
  cases o with
  | zero => simp at hc
  | succ o => simp at hc

/-- What Open answers beside the bytes. -/
def opE (bs : List Int) (p : Int) : Int := if p < 0 ∨ (bs.length : Int) < p then 1 else frE bs p
def opX (bs : List Int) (p : Int) : List Int := if opE bs p = 0 then frX bs p else []
def opAt (bs : List Int) (p : Int) : Int := if opE bs p = 0 then (getA bs p).2.1 + (getA bs p).1 + 4 else p

set_option maxRecDepth 100000 in
set_option maxHeartbeats 2000000 in
theorem read_calls (a : Option Addr) (len cap : Nat) (bs : List Int) (P : Nat) (w : World) (hrow : Row .u8 w a len bs) (hbs : Bytes bs) (hlen : len ≤ 140737488355328) (hcap : len ≤ cap) (hcm : cap ≤ 9223372036854775807) (hP : P ≤ len)
    (R : Ending → World → Prop) (k1 : ∀ z W, (z ≠ 0 ∧ frE bs P = z) → Below w.heap.size w W → R (.returned (.tuple #[.slice none 0 0, .int .i64 (P : Int), .int .i64 z])) W)
    (k2 : ∀ a' cap' N Q W, (frE bs P = 0 ∧ frX bs P = (bs.drop Q).take N ∧ (getA bs P).2.1 + (getA bs P).1 + 4 = ((Q + N + 4 : Nat) : Int)) → Row .u8 W a' N ((bs.drop Q).take N) → Below w.heap.size w W → R (.returned (.tuple #[.slice a' N cap', .int .i64 ((Q + N + 4 : Nat) : Int), .int .i64 0])) W) :
    Calls Try.prog 15 #[.slice a len cap, .int .i64 (P : Int), .func (.func 16) #[] #[]] w R := by
  have K1 := hide_ k1
  have K2 := hide_ k2
  clear k1 k2
  have hmf : ∀ (fn : Fn) (first cap : Array Value) (w : World), (Instr.makeFunc fn first cap).run Try.prog w = .ok (.func fn first cap) w := fun _ _ _ _ => rfl
  have b4 := ((Boxed.new w 3 (.int .i64 (P : Int))).alloc (.cells #[.int .i64 0] 3)).alloc (.cells #[.int .i64 0] 23)
  have b7 := (Boxed.new (w.alloc (.cells #[.int .i64 (P : Int)] 3)) 3 (.int .i64 0)).alloc (.cells #[.int .i64 0] 23)
  have b8 := Boxed.new ((w.alloc (.cells #[.int .i64 (P : Int)] 3)).alloc (.cells #[.int .i64 0] 3)) 23 (.int .i64 0)
  have bw : Below w.heap.size w (((w.alloc (.cells #[.int .i64 (P : Int)] 3)).alloc (.cells #[.int .i64 0] 3)).alloc (.cells #[.int .i64 0] 23)) := (((Below.refl _ w).alloc (Nat.le_refl _) _).alloc (by simp) _).alloc (by simp; omega) _
  have hs3 : (((w.alloc (.cells #[.int .i64 (P : Int)] 3)).alloc (.cells #[.int .i64 0] 3)).alloc (.cells #[.int .i64 0] 23)).heap.size = w.heap.size + 1 + 1 + 1 := by simp
  simp only [World.size_alloc] at b4 b7 b8
  have B4 := hide_ b4
  have B7 := hide_ b7
  have B8 := hide_ b8
  have BW := hide_ bw
  have HS3 := hide_ hs3
  clear b4 b7 b8 bw hs3
  go_enter_defers Try.func15, Try.ntmps15
  go_wp2_with fail
  generalize ((w.alloc (.cells #[.int .i64 (P : Int)] 3)).alloc (.cells #[.int .i64 0] 3)).alloc (.cells #[.int .i64 0] 23) = W3 at *
  have hrd : Rd (W3.alloc (.cells #[.slice a len cap, .int .i64 (P : Int)] 64)) (w.heap.size + 1 + 1 + 1) a len cap (P : Int) := by
    have := World.alloc_heap_new W3 (.cells #[.slice a len cap, .int .i64 (P : Int)] 64)
    rw [HS3.out] at this
    exact this
  refine frame_calls (w.heap.size + 1 + 1 + 1) a len cap bs P W3 _ ((Below.refl _ _).alloc (Nat.le_refl _) _) (Nat.le_of_eq HS3.out) hrd (hrow.below BW.out) hbs hlen hcap hcm hP _ ?_ ?_
  · intro z w' hz hw
    have q4 : Boxed w' w.heap.size 3 (.int .i64 (P : Int)) := (hw.block _ (by rw [HS3.out]; omega)).trans B4.out
    have q7 : Boxed w' (w.heap.size + 1) 3 (.int .i64 0) := (hw.block _ (by rw [HS3.out]; omega)).trans B7.out
    have q8 : Boxed w' (w.heap.size + 1 + 1) 23 (.int .i64 0) := (hw.block _ (by rw [HS3.out]; omega)).trans B8.out
    have bw : Below w.heap.size w w' := BW.out.trans (hw.mono (by rw [HS3.out]; omega))
    have HC := hide_ (catch_panicking w.heap.size (w.heap.size + 1) (w.heap.size + 1 + 1) (P : Int) z _ _ w' q4 q7 q8 (by omega) (by omega) (by omega))
    clear q4 q7 q8 hrd hw
    go_wp2
    refine leaves_cons (f := 25) (args := #[.pointer (some ⟨w.heap.size, 0, none⟩), .pointer (some ⟨w.heap.size + 1, 0, none⟩), .pointer (some ⟨w.heap.size + 1 + 1, 0, none⟩)]) (by simp) (by simp [go_sem]) ?_
    refine HC.out.mono ?_
    rintro e u' w'' ⟨rfl, rfl, r7, r8, hb⟩
    have c7 := r7.cell
    have c8 := r8.cell
    have hk := K1.out z w'' hz (bw.trans (hb _ (by omega) (by omega)))
    simp [Leaves, settle, results, Try.results15, go_sem, c7, c8]
    exact hk
  · intro a' cap' N Q w' hN hr hrd' hw
    have q7 : Boxed w' (w.heap.size + 1) 3 (.int .i64 0) := (hw.block _ (by rw [HS3.out]; omega)).trans B7.out
    have q8 : Boxed w' (w.heap.size + 1 + 1) 23 (.int .i64 0) := (hw.block _ (by rw [HS3.out]; omega)).trans B8.out
    have bw : Below w.heap.size w w' := BW.out.trans (hw.mono (by rw [HS3.out]; omega))
    clear hrd
    have hk := K2.out a' cap' N Q
    obtain ⟨q, hq⟩ : ∃ q, q = ((Q + N + 4 : Nat) : Int) := ⟨_, rfl⟩
    rw [← hq] at hrd' hk hN
    have HK := hide_ hk
    have HN := hide_ hN
    clear hq hk hN
    have c1 := hrd'.cell1
    have c7 := q7.cell
    have f7 := q7.frozen
    have c8 := q8.cell
    have f8 := q8.frozen
    have g7 := q7.set (.int .i64 q)
    have g8' := q8.other (B' := w.heap.size + 1) (by omega) (.int .i64 q)
    have c8' := g8'.cell
    have f8' := g8'.frozen
    have g8 := g8'.set (.int .i64 0)
    have g7' := g7.other (B' := w.heap.size + 1 + 1) (by omega) (.int .i64 0)
    have bV : Below (w.heap.size + 1) w' ((w'.setCell ⟨w.heap.size + 1, 0, none⟩ (.int .i64 q)).setCell ⟨w.heap.size + 1 + 1, 0, none⟩ (.int .i64 0)) := ((Below.refl _ w').setCell (p := ⟨w.heap.size + 1, 0, none⟩) (Nat.le_refl _) _).setCell (p := ⟨w.heap.size + 1 + 1, 0, none⟩) (Nat.le_succ _) _
    have hrV : Row .u8 ((w'.setCell ⟨w.heap.size + 1, 0, none⟩ (.int .i64 q)).setCell ⟨w.heap.size + 1 + 1, 0, none⟩ (.int .i64 0)) a' N ((bs.drop Q).take N) := by
      obtain ⟨r1, r2 | ⟨b, o, r2, r3, r4⟩⟩ := hr
      · exact ⟨r1, .inl r2⟩
      · rcases Nat.eq_zero_or_pos N with h0 | h0
        · exact ⟨r1, .inl h0⟩
        · have e7 := box_ne q7 (r4 0 h0)
          have e8 := box_ne q8 (r4 0 h0)
          refine ⟨r1, .inr ⟨b, o, r2, by simpa using r3, fun i hi => ?_⟩⟩
          rw [World.cell?_of_block (w := w'.setCell ⟨w.heap.size + 1, 0, none⟩ (.int .i64 q)) (Below.heap_setCell _ ⟨w.heap.size + 1 + 1, 0, none⟩ _ b e8), World.cell?_of_block (w := w') (Below.heap_setCell w' ⟨w.heap.size + 1, 0, none⟩ _ b e7)]
          exact r4 i hi
    have GV := hide_ (And.intro g7' (And.intro g8 (And.intro bV hrV)))
    clear g7 g8 g7' g8' bV hrV hr q7 q8 hrd' hw
    go_wp2_with fail
    go_region
    generalize (w'.setCell ⟨w.heap.size + 1, 0, none⟩ (.int .i64 q)).setCell ⟨w.heap.size + 1 + 1, 0, none⟩ (.int .i64 0) = V at *
    clear c1 c7 f7 c8 f8 c8' f8'
    go_wp2
    refine leaves_cons (f := 25) (args := #[.pointer (some ⟨w.heap.size, 0, none⟩), .pointer (some ⟨w.heap.size + 1, 0, none⟩), .pointer (some ⟨w.heap.size + 1 + 1, 0, none⟩)]) (by simp) (by simp [go_sem]) ?_
    refine (catch_idle _ _ _ _).mono ?_
    rintro e u' w'' ⟨rfl, rfl, rfl⟩
    obtain ⟨r7, r8, bV, hrV⟩ := GV.out
    have c7 : V.drew.cell? ⟨w.heap.size + 1, 0, none⟩ = some (.int .i64 q) := r7.cell
    have c8 : V.drew.cell? ⟨w.heap.size + 1 + 1, 0, none⟩ = some (.int .i64 0) := r8.cell
    have hk := HK.out V.drew HN.out hrV (bw.trans (bV.drew.mono (Nat.le_succ _)))
    simp [Leaves, settle, results, Try.results15, go_sem, c7, c8]
    exact hk
end Go.Proofs.Ytppiklgkpicfeaa
