/-
  PROVED HERE: pos.Recover at every slice of ranges and every two numbers: what it returns; nothing that lay before is turned.
-/
import Derived.Test.YtiadcpbaopafgaaMapF
namespace Go.Proofs.Ytiadcpbaopafgaa
open Go.RowKit Go.Shelf
attribute [local go_sem] Oper.semAt_some

/-- Is there such a range, and such a place in it? -/
def recIs (l : List Rng) (inn off : Int) : Prop := 0 ≤ inn ∧ inn < l.length ∧ 0 ≤ off ∧ off ≤ (nth l inn.toNat).n
open Classical in
noncomputable def recV (l : List Rng) (inn off : Int) : Int := if right l = true ∧ recIs l inn off then (nth l inn.toNat).a + shiftL (l.take inn.toNat) + off else 0
open Classical in
noncomputable def recE (l : List Rng) (inn off : Int) : Int := if right l = true then (if recIs l inn off then 0 else 1) else 4
def RecI (l : List Rng) (inn off : Int) (len : Nat) (w : World) (pre : List (Fin len)) (W : World) : Prop :=
  W.heap[w.heap.size]? = some (.cells #[.int .i64 inn] 3 (0, 0)) ∧ W.heap[w.heap.size + 1]? = some (.cells #[.int .i64 off] 3 (0, 0)) ∧ W.heap[w.heap.size + 1 + 1]? = some (.cells #[.int .i64 0] 3 (0, 0)) ∧ W.heap[w.heap.size + 1 + 1 + 1]? = some (.cells #[.int .i64 0] 25 (0, 0)) ∧ (∀ i ∈ pre, ¬ ((i.val : Int) = inn ∧ 0 ≤ off ∧ off ≤ (nth l i.val).n)) ∧ Below w.heap.size w W
def RecX (l : List Rng) (inn off : Int) (len : Nat) (w : World) (c : Code) (pre : List (Fin len)) (W : World) : Prop :=
  ∃ pre' i, pre = pre' ++ [i] ∧ c = .ret ∧ ((i.val : Int) = inn ∧ 0 ≤ off ∧ off ≤ (nth l i.val).n) ∧ W.heap[w.heap.size + 1 + 1]? = some (.cells #[.int .i64 ((nth l i.val).a + shiftL (l.take i.val) + off)] 3 (0, 0)) ∧ W.heap[w.heap.size + 1 + 1 + 1]? = some (.cells #[.int .i64 0] 25 (0, 0)) ∧ Below w.heap.size w W
theorem results_cells2 {P : Program} {fn : Func} {p q : Tmp} {t u : TypeId} (h : fn.results = #[.cell p t, .cell q u]) (tmps : Array Value) (w : World) (g g' : Nat) (x y : Value)
    (hp : tmps.getD p undef = .pointer (some ⟨g, 0, none⟩)) (hq : tmps.getD q undef = .pointer (some ⟨g', 0, none⟩)) (h1 : (loadVar t ⟨g, 0, none⟩).run P w = .ok x w) (h2 : (loadVar u ⟨g', 0, none⟩).run P w = .ok y w) :
    (results fn tmps).run P w = .ok (.tuple #[x, y]) w := by
  have hp' : tmps[p]?.getD undef = .pointer (some ⟨g, 0, none⟩) := by simpa using hp
  have hq' : tmps[q]?.getD undef = .pointer (some ⟨g', 0, none⟩) := by simpa using hq
  simp [results, h, hp', hq', asAddr, h1, h2, Result.andThen]
theorem load_int {w : World} {g : Nat} {v : Int} {t : TypeId} (h : w.heap[g]? = some (.cells #[.int .i64 v] t (0, 0))) : (loadVar 3 ⟨g, 0, none⟩).run Try.prog w = .ok (.int .i64 v) w ∧ (loadVar 25 ⟨g, 0, none⟩).run Try.prog w = .ok (.int .i64 v) w := by
  have hc := (cells1 h).1
  constructor
  · go_simp
  · go_simp

set_option maxRecDepth 100000 in
set_option maxHeartbeats 4000000 in
theorem recover_calls (a : Option Addr) (len cap : Nat) (l : List Rng) (inn off : Int) (w : World) (hl : Rngs w a len l) (hz : len ≤ 140737488355328) :
    Calls Try.prog 16 #[.slice a len cap, .int .i64 inn, .int .i64 off] w fun e w' => e = .returned (.tuple #[.int .i64 (recV l inn off), .int .i64 (recE l inn off)]) ∧ Below w.heap.size w w' := by
  have h11 : Fence.wide.fn 11 := trivial
  have h30 : Fence.wide.fn 30 := trivial
  obtain ⟨w4, hw4⟩ : ∃ w4, (((w.alloc (.cells #[.int .i64 inn] 3)).alloc (.cells #[.int .i64 off] 3)).alloc (.cells #[.int .i64 0] 3)).alloc (.cells #[.int .i64 0] 25) = w4 := ⟨_, rfl⟩
  have hs4 : w4.heap.size = w.heap.size + 4 := by rw [← hw4]; simp
  have hb4 : Below w.heap.size w w4 := by rw [← hw4]; exact ((((Below.refl _ w).alloc (Nat.le_refl _) _).alloc (by simp) _).alloc (by simp; omega) _).alloc (by simp; omega) _
  obtain ⟨m0, m1, m2, m3⟩ := laid4 w (.cells #[.int .i64 inn] 3) (.cells #[.int .i64 off] 3) (.cells #[.int .i64 0] 3) (.cells #[.int .i64 0] 25)
  rw [hw4] at m0 m1 m2 m3
  have c1 := right_calls a len cap l w4 (hl.below hb4) hz
  have HX : Hid (∀ X, Below w4.heap.size w4 X → X.heap[w.heap.size]? = some (.cells #[.int .i64 inn] 3 (0, 0)) ∧ X.heap[w.heap.size + 1]? = some (.cells #[.int .i64 off] 3 (0, 0)) ∧ X.heap[w.heap.size + 1 + 1]? = some (.cells #[.int .i64 0] 3 (0, 0)) ∧ X.heap[w.heap.size + 1 + 1 + 1]? = some (.cells #[.int .i64 0] 25 (0, 0)) ∧ Below w.heap.size w X) := fun X hX => ⟨(hX.block _ (by omega)).trans m0, (hX.block _ (by omega)).trans m1, (hX.block _ (by omega)).trans m2, (hX.block _ (by omega)).trans m3, hb4.trans (hX.mono hb4.size)⟩
  have HW4 : Hid ((((w.alloc (.cells #[.int .i64 inn] 3)).alloc (.cells #[.int .i64 off] 3)).alloc (.cells #[.int .i64 0] 3)).alloc (.cells #[.int .i64 0] 25) = w4) := hw4
  have HS4 : Hid (w4.heap.size = w.heap.size + 4) := hs4
  obtain ⟨RV, hRV⟩ : ∃ x, recV l inn off = x := ⟨_, rfl⟩
  obtain ⟨RE, hRE⟩ : ∃ x, recE l inn off = x := ⟨_, rfl⟩
  rw [hRV, hRE]
  have HTWO : Hid (∀ (X : World) (v e : Value), X.heap[w.heap.size + 1 + 1]? = some (.cells #[.int .i64 0] 3 (0, 0)) → X.heap[w.heap.size + 1 + 1 + 1]? = some (.cells #[.int .i64 0] 25 (0, 0)) → Below w.heap.size w X → ((X.setCell ⟨w.heap.size + 1 + 1, 0, none⟩ v).setCell ⟨w.heap.size + 1 + 1 + 1, 0, none⟩ e).heap[w.heap.size + 1 + 1]? = some (.cells #[v] 3 (0, 0)) ∧ ((X.setCell ⟨w.heap.size + 1 + 1, 0, none⟩ v).setCell ⟨w.heap.size + 1 + 1 + 1, 0, none⟩ e).heap[w.heap.size + 1 + 1 + 1]? = some (.cells #[e] 25 (0, 0)) ∧ Below w.heap.size w ((X.setCell ⟨w.heap.size + 1 + 1, 0, none⟩ v).setCell ⟨w.heap.size + 1 + 1 + 1, 0, none⟩ e) ∧ ∀ k, k ≠ w.heap.size + 1 + 1 → k ≠ w.heap.size + 1 + 1 + 1 → ((X.setCell ⟨w.heap.size + 1 + 1, 0, none⟩ v).setCell ⟨w.heap.size + 1 + 1 + 1, 0, none⟩ e).heap[k]? = X.heap[k]?) := fun X v e h2 h3 hb => by
    refine ⟨?_, ?_, ?_, ?_⟩
    · rw [Below.heap_setCell _ _ _ _ (show w.heap.size + 1 + 1 ≠ w.heap.size + 1 + 1 + 1 by omega)]
      exact heap_setCell_same X _ 0 _ _ _ h2
    · exact heap_setCell_same _ _ 0 _ _ _ ((Below.heap_setCell _ _ _ _ (show w.heap.size + 1 + 1 + 1 ≠ w.heap.size + 1 + 1 by omega)).trans h3)
    · exact (hb.setCell (p := ⟨w.heap.size + 1 + 1, 0, none⟩) (by show w.heap.size ≤ w.heap.size + 1 + 1; omega) _).setCell (p := ⟨w.heap.size + 1 + 1 + 1, 0, none⟩) (by show w.heap.size ≤ w.heap.size + 1 + 1 + 1; omega) _
    · intro k k2 k3
      rw [Below.heap_setCell _ _ _ _ k3, Below.heap_setCell _ _ _ _ k2]
  cases hr : right l with
  | false =>
    have HV : Hid (RV = 0 ∧ RE = 4) := by
      constructor
      · rw [← hRV]; unfold recV; rw [if_neg (by rw [hr]; simp)]
      · rw [← hRE]; unfold recE; rw [if_neg (by rw [hr]; simp)]
    rw [hr] at c1
    clear hw4 m0 m1 m2 m3 hs4 hRV hRE
    go_enter Try.func16, Try.ntmps16
    go_wp2_with fail
    rw [HW4.out]
    refine c1.mono ?_
    rintro e X ⟨rfl, hX⟩
    obtain ⟨x0, x1, x2, x3, x4⟩ := HX.out X hX
    have j2 := cells1 x2
    have j3 := cells1 x3
    obtain ⟨j20, j21⟩ := j2
    obtain ⟨j30, j31⟩ := j3
    have HT := HTWO.out X (.int .i64 0) (.int .i64 4) x2 x3 x4
    have HT' : Hid _ := HT
    clear HT
    go_wp2
    obtain ⟨t1, t2, t3, _⟩ := HT'.out
    refine bodyPost_ret (results_cells2 rfl _ _ (w.heap.size + 1 + 1) (w.heap.size + 1 + 1 + 1) _ _ rfl rfl (load_int t1).1 (load_int t2).2) rfl ?_
    exact ⟨by rw [HV.out.1, HV.out.2], t3⟩
  | true =>
    rw [hr] at c1
    have hlen : len ≤ 4 := by have := (right_len hr).1; rw [hl.1] at this; exact this
    have HBD : Hid (∀ i : Fin len, ((0 ≤ (nth l i.val).a ∧ (nth l i.val).a ≤ 65536) ∧ (0 ≤ (nth l i.val).o ∧ (nth l i.val).o ≤ 65536) ∧ (0 ≤ (nth l i.val).n ∧ (nth l i.val).n ≤ 65536)) ∧ (-262144 ≤ shiftL (l.take i.val) ∧ shiftL (l.take i.val) ≤ 262144)) := fun i => by
      have hx := nth_at (l := l) (k := i.val) (by rw [hl.1]; exact i.2)
      have := rightL_all (right_len hr).2 _ (List.mem_of_getElem? hx)
      exact ⟨⟨this.1, this.2.1, this.2.2.1⟩, shift_take hr _⟩
    have HHIT : Hid (∀ i : Fin len, ((i.val : Int) = inn ∧ 0 ≤ off ∧ off ≤ (nth l i.val).n) → RV = ((nth l i.val).a + shiftL (l.take i.val) + off) ∧ RE = 0) := fun i h => by
      have hi : recIs l inn off := by
        refine ⟨by omega, ?_, h.2.1, ?_⟩
        · have := i.2
          rw [hl.1]
          omega
        · rw [← h.1]
          exact h.2.2
      constructor
      · rw [← hRV]; unfold recV; rw [if_pos ⟨hr, hi⟩, ← h.1]; rfl
      · rw [← hRE]; unfold recE; rw [if_pos hr, if_pos hi]
    have HMISS : Hid ((∀ i : Fin len, ¬ ((i.val : Int) = inn ∧ 0 ≤ off ∧ off ≤ (nth l i.val).n)) → RV = 0 ∧ RE = 1) := fun h => by
      have hi : ¬ recIs l inn off := fun ⟨h1, h2, h3, h4⟩ => by
        rw [hl.1] at h2
        exact h ⟨inn.toNat, by omega⟩ ⟨by simp; omega, h3, h4⟩
      constructor
      · rw [← hRV]; unfold recV; rw [if_neg (fun h => hi h.2)]
      · rw [← hRE]; unfold recE; rw [if_pos hr, if_neg hi]
    refine (callsIn_wide (n := 6)).1 ?_
    refine callsIn_of_wp_marks Try.func16 rfl trivial ?_ rfl
    simp only [Try.ntmps16, List.size_toArray, List.length_cons, List.length_nil, Nat.reduceAdd, Nat.reduceSub, Array.replicate_succ, Array.replicate_zero, List.push_toArray, List.append_toArray, List.nil_append, List.cons_append]
    gi_wp2_with (gi_at_call 11; refine (callsIn_wide.2 c1).mono ?_; rintro e X1 ⟨rfl, hX1⟩)
    gi_wp2_with (gi_at_call 30; refine (parts_in Fence.wide 5 trivial rfl _ _ _ _).mono ?_; rintro e w' ⟨rfl, rfl⟩)
    obtain ⟨wB, hwB⟩ : ∃ wB, X1.alloc (.cells #[.slice a len cap] 22) = wB := ⟨_, rfl⟩
    have hsB : wB.heap.size = X1.heap.size + 1 := by rw [← hwB]; simp
    have hbB : Below X1.heap.size X1 wB := by rw [← hwB]; exact (Below.refl _ X1).alloc (Nat.le_refl _) _
    have mB : wB.heap[X1.heap.size]? = some (.cells #[.slice a len cap] 22 (0, 0)) := by rw [← hwB]; exact World.alloc_heap_new X1 _
    have hX4 : w.heap.size + 4 ≤ X1.heap.size := by have := hX1.size; omega
    obtain ⟨x0, x1, x2, x3, x4⟩ := HX.out X1 hX1
    have hlB : Below w.heap.size w wB := x4.trans (hbB.mono x4.size)
    have HL : Hid (Rngs wB a len l) := hl.below hlB
    have HOLD : Hid (0 < len → ∀ b o, a = some ⟨b, o, none⟩ → b < w.heap.size) := fun h b o e => (hl.cells h e).1
    have hI0 : RecI l inn off len w [] wB := ⟨(hbB.block _ (by omega)).trans x0, (hbB.block _ (by omega)).trans x1, (hbB.block _ (by omega)).trans x2, (hbB.block _ (by omega)).trans x3, by simp, hlB⟩
    have hown : OwnFrom wB.heap.size (RecI l inn off len w) := by
      rintro pre W W' row ⟨i0, i1, i2, i3, i4, i5⟩ hg hrr
      exact ⟨grown_cells hg hrr i0, grown_cells hg hrr i1, grown_cells hg hrr i2, grown_cells hg hrr i3, i4, grown_below i5 hg hrr (by omega) i5.size⟩
    have hownX : ∀ c, OwnFrom wB.heap.size (RecX l inn off len w c) := by
      rintro c pre W W' row ⟨pre', i, h1, h2, h3, h4, h5, h6⟩ hg hrr
      exact ⟨pre', i, h1, h2, h3, grown_cells hg hrr h4, grown_cells hg hrr h5, grown_below h6 hg hrr (by omega) h6.size⟩
    rw [hwB]
    clear hw4 m0 m1 m2 m3 x0 x1 x2 x3
    refine wpIn_rangeFunc_ownH rfl (by omega) (gf := 38) (lb := #[.pointer (some ⟨X1.heap.size, 0, none⟩)]) rfl trivial (enters_of Try.func38 (by kernel_rfl) rfl)
      (encs := stepP l (N := len)) (Kp := KpP w.heap.size X1.heap.size (w.heap.size + 1 + 1 + 1) noR) (S := fun ys => ys = List.finRange len) (Sp := fun pre => pre <+: List.finRange len) (N := len) (w0 := wB)
      (fun li J Jx W hW hJ _ hY h0 => parts1_in Fence.wide 5 trivial rfl (by omega) li X1.heap.size w.heap.size (w.heap.size + 1 + 1 + 1) noR a len cap l hr hlen J Jx W hJ hY ((hW.block _ (by omega)).trans mB) (by omega) (by omega) (fun _ h => h.elim) (HL.out.below hW) HOLD.out h0)
      (fun h k => h.trans k) (fun W li o o' hl h1 h2 h3 => KpP.put o' h1 h2 (by omega)) (Below.refl _ _) (fun _ => rfl)
      (RecI l inn off len w) (RecX l inn off len w) hown hownX hI0
      (fun i a' W => ∃ Bx, a' = { tmps := #[.slice a len cap, .int .i64 inn, .int .i64 off, undef, .pointer (some ⟨w.heap.size, 0, none⟩), .pointer (some ⟨w.heap.size + 1, 0, none⟩), .pointer (some ⟨w.heap.size + 1 + 1, 0, none⟩), .pointer (some ⟨w.heap.size + 1 + 1 + 1, 0, none⟩), .pointer (some ⟨Bx, 0, none⟩), .slice a len cap, .bool true, .bool false, .slice a len cap, .func (.func 38) #[] #[.pointer (some ⟨X1.heap.size, 0, none⟩)], .agg #[.int .i64 (nth l i.val).a, .int .i64 (nth l i.val).o, .int .i64 (nth l i.val).n, .int .i64 (i.val : Int), .int .i64 (shiftL (l.take i.val))], undef, undef, undef, undef, undef, undef, undef, undef, undef, undef, undef, undef, undef, undef, undef, undef, undef, undef, undef], defers := [] } ∧ W.heap[Bx]? = some (.cells #[.int .i64 (nth l i.val).a, .int .i64 (nth l i.val).o, .int .i64 (nth l i.val).n, .int .i64 (i.val : Int), .int .i64 (shiftL (l.take i.val))] 70 (0, 0))) ?hax ?assign ?body ?done ?stop
    case hax =>
      rintro i a' _ W W' row ⟨Bx, h1, h2⟩ hg hrr
      exact ⟨Bx, h1, grown_cells hg hrr h2⟩
    case assign =>
      rintro li pre i W K hi hK
      have hK' := hK
      unfold stepP partV
      gi_wp2
      refine hK _ _ ((KeepsOthers.alloc _ _).from _) ?_ ?_ ⟨W.heap.size, rfl, World.alloc_heap_new W _⟩
      · exact ⟨by simp, fun k c t fr hk _ _ => Below.heap_alloc W _ _ (Array.getElem?_eq_some_iff.1 hk).1, fun _ h => h.elim⟩
      · exact hown.alloc _ hi
    case body =>
      rintro li pre i a' W hli ⟨r, hrec⟩ ⟨i0, i1, i2, i3, i4, i5⟩ ⟨Bx, rfl, hbx⟩ hlt
      obtain ⟨⟨⟨x1, x2⟩, ⟨x3, x4⟩, ⟨x5, x6⟩⟩, ⟨x7, x8⟩⟩ := HBD.out i
      have HBG : Hid (∀ X, Calls Try.prog 31 #[partV (nth l i.val) (i.val : Int) (shiftL (l.take i.val))] X fun e w' => e = .returned (.int .i64 ((nth l i.val).a + shiftL (l.take i.val))) ∧ Below X.heap.size X w') := fun X => begin_calls _ _ _ X (by unfold Small; omega) (by unfold Small; omega)
      have hn3 : w.heap.size + 1 + 1 + 1 < W.heap.size := (Array.getElem?_eq_some_iff.1 i3).1
      have hwB : w.heap.size ≤ W.heap.size := i5.size
      have hbxl : Bx < W.heap.size := (Array.getElem?_eq_some_iff.1 hbx).1
      have hB2 : Bx ≠ w.heap.size + 1 + 1 := fun e => by rw [e, i2] at hbx; simp at hbx
      have hB3 : Bx ≠ w.heap.size + 1 + 1 + 1 := fun e => by rw [e, i3] at hbx; simp at hbx
      have hcells : ∀ X : World, X.heap[Bx]? = W.heap[Bx]? → X.heap[w.heap.size + 1]? = W.heap[w.heap.size + 1]? → X.cell? ⟨Bx, 0, none⟩ = some (.int .i64 (nth l i.val).a) ∧ X.cell? ⟨Bx, 1, none⟩ = some (.int .i64 (nth l i.val).o) ∧ X.cell? ⟨Bx, 2, none⟩ = some (.int .i64 (nth l i.val).n) ∧ X.cell? ⟨Bx, 3, none⟩ = some (.int .i64 (i.val : Int)) ∧ X.cell? ⟨Bx, 4, none⟩ = some (.int .i64 (shiftL (l.take i.val))) ∧ X.cell? ⟨w.heap.size + 1, 0, none⟩ = some (.int .i64 off) := fun X h1 h2 => by
        obtain ⟨e0, e1, e2, e3, e4⟩ := cells5 (h1.trans hbx)
        exact ⟨e0, e1, e2, e3, e4, (cells1 (h2.trans i1)).1⟩
      have HNO : Hid (¬ ((i.val : Int) = inn ∧ 0 ≤ off ∧ off ≤ (nth l i.val).n) → KeepsFrom wB.heap.size W W ∧ KpP w.heap.size X1.heap.size (w.heap.size + 1 + 1 + 1) noR W W ∧ RecI l inn off len w (pre ++ [i]) W) := fun h => ⟨KeepsFrom.refl _ _, (Only.of_below (b := w.heap.size + 1 + 1 + 1) (Below.refl _ _)).kp (by omega) (by omega), i0, i1, i2, i3, fun j hj => by
        rcases List.mem_append.1 hj with hj | hj
        · exact i4 j hj
        · obtain rfl : j = i := by simpa using hj
          exact h, i5⟩
      have HKW : Hid (∀ Y, Below W.heap.size W Y → (Y.cell? ⟨Bx, 0, none⟩ = some (.int .i64 (nth l i.val).a) ∧ Y.cell? ⟨Bx, 1, none⟩ = some (.int .i64 (nth l i.val).o) ∧ Y.cell? ⟨Bx, 2, none⟩ = some (.int .i64 (nth l i.val).n) ∧ Y.cell? ⟨Bx, 3, none⟩ = some (.int .i64 (i.val : Int)) ∧ Y.cell? ⟨Bx, 4, none⟩ = some (.int .i64 (shiftL (l.take i.val))) ∧ Y.cell? ⟨w.heap.size + 1, 0, none⟩ = some (.int .i64 off)) ∧ Y.cell? ⟨w.heap.size + 1 + 1, 0, none⟩ = some (.int .i64 0) ∧ Y.frozen? ⟨w.heap.size + 1 + 1, 0, none⟩ = false ∧ Y.cell? ⟨w.heap.size + 1 + 1 + 1, 0, none⟩ = some (.int .i64 0) ∧ Y.frozen? ⟨w.heap.size + 1 + 1 + 1, 0, none⟩ = false ∧
          (((Y.setCell ⟨w.heap.size + 1 + 1, 0, none⟩ (.int .i64 ((nth l i.val).a + shiftL (l.take i.val) + off))).cell? ⟨Bx, 0, none⟩ = some (.int .i64 (nth l i.val).a) ∧ (Y.setCell ⟨w.heap.size + 1 + 1, 0, none⟩ (.int .i64 ((nth l i.val).a + shiftL (l.take i.val) + off))).cell? ⟨Bx, 1, none⟩ = some (.int .i64 (nth l i.val).o) ∧ (Y.setCell ⟨w.heap.size + 1 + 1, 0, none⟩ (.int .i64 ((nth l i.val).a + shiftL (l.take i.val) + off))).cell? ⟨Bx, 2, none⟩ = some (.int .i64 (nth l i.val).n) ∧ (Y.setCell ⟨w.heap.size + 1 + 1, 0, none⟩ (.int .i64 ((nth l i.val).a + shiftL (l.take i.val) + off))).cell? ⟨Bx, 3, none⟩ = some (.int .i64 (i.val : Int)) ∧ (Y.setCell ⟨w.heap.size + 1 + 1, 0, none⟩ (.int .i64 ((nth l i.val).a + shiftL (l.take i.val) + off))).cell? ⟨Bx, 4, none⟩ = some (.int .i64 (shiftL (l.take i.val))) ∧ (Y.setCell ⟨w.heap.size + 1 + 1, 0, none⟩ (.int .i64 ((nth l i.val).a + shiftL (l.take i.val) + off))).cell? ⟨w.heap.size + 1, 0, none⟩ = some (.int .i64 off)) ∧ (Y.setCell ⟨w.heap.size + 1 + 1, 0, none⟩ (.int .i64 ((nth l i.val).a + shiftL (l.take i.val) + off))).cell? ⟨w.heap.size + 1 + 1 + 1, 0, none⟩ = some (.int .i64 0) ∧ (Y.setCell ⟨w.heap.size + 1 + 1, 0, none⟩ (.int .i64 ((nth l i.val).a + shiftL (l.take i.val) + off))).frozen? ⟨w.heap.size + 1 + 1 + 1, 0, none⟩ = false ∧ ((((Y.setCell ⟨w.heap.size + 1 + 1, 0, none⟩ (.int .i64 ((nth l i.val).a + shiftL (l.take i.val) + off))).setCell ⟨w.heap.size + 1 + 1 + 1, 0, none⟩ (.int .i64 0)).cell? ⟨Bx, 0, none⟩ = some (.int .i64 (nth l i.val).a) ∧ ((Y.setCell ⟨w.heap.size + 1 + 1, 0, none⟩ (.int .i64 ((nth l i.val).a + shiftL (l.take i.val) + off))).setCell ⟨w.heap.size + 1 + 1 + 1, 0, none⟩ (.int .i64 0)).cell? ⟨Bx, 1, none⟩ = some (.int .i64 (nth l i.val).o) ∧ ((Y.setCell ⟨w.heap.size + 1 + 1, 0, none⟩ (.int .i64 ((nth l i.val).a + shiftL (l.take i.val) + off))).setCell ⟨w.heap.size + 1 + 1 + 1, 0, none⟩ (.int .i64 0)).cell? ⟨Bx, 2, none⟩ = some (.int .i64 (nth l i.val).n) ∧ ((Y.setCell ⟨w.heap.size + 1 + 1, 0, none⟩ (.int .i64 ((nth l i.val).a + shiftL (l.take i.val) + off))).setCell ⟨w.heap.size + 1 + 1 + 1, 0, none⟩ (.int .i64 0)).cell? ⟨Bx, 3, none⟩ = some (.int .i64 (i.val : Int)) ∧ ((Y.setCell ⟨w.heap.size + 1 + 1, 0, none⟩ (.int .i64 ((nth l i.val).a + shiftL (l.take i.val) + off))).setCell ⟨w.heap.size + 1 + 1 + 1, 0, none⟩ (.int .i64 0)).cell? ⟨Bx, 4, none⟩ = some (.int .i64 (shiftL (l.take i.val))) ∧ ((Y.setCell ⟨w.heap.size + 1 + 1, 0, none⟩ (.int .i64 ((nth l i.val).a + shiftL (l.take i.val) + off))).setCell ⟨w.heap.size + 1 + 1 + 1, 0, none⟩ (.int .i64 0)).cell? ⟨w.heap.size + 1, 0, none⟩ = some (.int .i64 off)) ∧ (((i.val : Int) = inn ∧ 0 ≤ off ∧ off ≤ (nth l i.val).n) → KeepsFrom wB.heap.size W ((Y.setCell ⟨w.heap.size + 1 + 1, 0, none⟩ (.int .i64 ((nth l i.val).a + shiftL (l.take i.val) + off))).setCell ⟨w.heap.size + 1 + 1 + 1, 0, none⟩ (.int .i64 0)) ∧ RecX l inn off len w .ret (pre ++ [i]) ((Y.setCell ⟨w.heap.size + 1 + 1, 0, none⟩ (.int .i64 ((nth l i.val).a + shiftL (l.take i.val) + off))).setCell ⟨w.heap.size + 1 + 1 + 1, 0, none⟩ (.int .i64 0)))))) := fun Y hY => by
        have y1 : Y.heap[Bx]? = W.heap[Bx]? := hY.block _ hbxl
        have y2 : Y.heap[w.heap.size + 1]? = W.heap[w.heap.size + 1]? := hY.block _ (by omega)
        have y3 := (hY.block _ (show w.heap.size + 1 + 1 < W.heap.size by omega)).trans i2
        have y4 := (hY.block _ (show w.heap.size + 1 + 1 + 1 < W.heap.size by omega)).trans i3
        have y5 := i5.trans (hY.mono hwB)
        obtain ⟨t1, t2, t3, t4⟩ := HTWO.out Y (.int .i64 ((nth l i.val).a + shiftL (l.take i.val) + off)) (.int .i64 0) y3 y4 y5
        have z1 : ∀ k, k ≠ w.heap.size + 1 + 1 → (Y.setCell ⟨w.heap.size + 1 + 1, 0, none⟩ (.int .i64 ((nth l i.val).a + shiftL (l.take i.val) + off))).heap[k]? = Y.heap[k]? := fun k hk => Below.heap_setCell _ _ _ _ hk
        have z3 : (Y.setCell ⟨w.heap.size + 1 + 1, 0, none⟩ (.int .i64 ((nth l i.val).a + shiftL (l.take i.val) + off))).heap[w.heap.size + 1 + 1 + 1]? = some (.cells #[.int .i64 0] 25 (0, 0)) := (z1 _ (by omega)).trans y4
        refine ⟨hcells Y y1 y2, (cells1 y3).1, (cells1 y3).2, (cells1 y4).1, (cells1 y4).2, hcells _ ((z1 _ hB2).trans y1) ((z1 _ (by omega)).trans y2), (cells1 z3).1, (cells1 z3).2, hcells _ ((t4 _ hB2 hB3).trans y1) ((t4 _ (by omega) (by omega)).trans y2), fun hc => ⟨⟨by simpa using hY.size, fun k ob _ hk ho => ?_⟩, pre, i, rfl, rfl, hc, t1, t2, t3⟩⟩
        rw [t4 k (fun e => by subst e; rw [i2] at hk; cases hk; cases ho) (fun e => by subst e; rw [i3] at hk; cases hk; cases ho), hY.block k (Array.getElem?_eq_some_iff.1 hk).1]
        exact hk
      clear hown hownX hI0 mB hsB hX4
      obtain ⟨⟨k0, k1, k2, k3, k4, k5⟩, _⟩ := HKW.out W (Below.refl _ _)
      have k6 := (cells1 i0).1
      clear i0 i1 i2 i3 i4 hbx hcells
      unfold partV at *
      generalize (nth l i.val).a = xa at *
      generalize (nth l i.val).o = xo at *
      generalize (nth l i.val).n = xn at *
      generalize shiftL (l.take i.val) = d at *
      by_cases c1 : (i.val : Int) = inn
      · have e1 : ((i.val : Int) == inn) = true := by simpa using c1
        by_cases c2 : 0 ≤ off
        · by_cases c3 : off ≤ xn
          · have HC : Hid ((i.val : Int) = inn ∧ 0 ≤ off ∧ off ≤ xn) := ⟨c1, c2, c3⟩
            have hsum : IntKind.i64.wrap (xa + d + off) = xa + d + off := by rw [IntKind.wrap_i64]; omega
            have hbD : Below W.heap.size W W.drew := (Below.refl _ _).drew
            clear c1
            gi_wp2_with fail
            refine wpIn_round_held (S := fun X => X.cell? ⟨Bx, 0, none⟩ = some (.int .i64 xa) ∧ X.cell? ⟨Bx, 1, none⟩ = some (.int .i64 xo) ∧ X.cell? ⟨Bx, 2, none⟩ = some (.int .i64 xn) ∧ X.cell? ⟨Bx, 3, none⟩ = some (.int .i64 (i.val : Int)) ∧ X.cell? ⟨Bx, 4, none⟩ = some (.int .i64 d) ∧ X.cell? ⟨w.heap.size + 1, 0, none⟩ = some (.int .i64 off)) mixed (by kernel_rfl) (HKW.out _ hbD).1 (fun hS => ?_)
            refine takeD 0 (some 30) (v := ?_) rfl rfl (by kernel_rfl) (by kernel_rfl) (by kernel_rfl) (fun _ _ _ h => h) (Or.inl ⟨by rfl, ?_⟩) hS ?_
            rotate_left
            · intro w hSw
              obtain ⟨k0, k1, k2, k3, k4, k5⟩ := hSw
              go_simp
              with_reducible rfl
            try simp only [Act.put, List.setIfInBounds_toArray, List.set_cons_zero, List.set_cons_succ]
            refine takeD 2 (some 32) (v := ?_) rfl rfl (by kernel_rfl) (by kernel_rfl) (by kernel_rfl) (fun _ _ _ h => h) (Or.inl ⟨by rfl, ?_⟩) hS ?_
            rotate_left
            · intro w hSw
              obtain ⟨k0, k1, k2, k3, k4, k5⟩ := hSw
              go_simp
              with_reducible rfl
            try simp only [Act.put, List.setIfInBounds_toArray, List.set_cons_zero, List.set_cons_succ]
            refine callD 1 (by kernel_rfl) rfl (fun K hK => ?_)
            rw [if_pos (by rfl)]
            go_simp
            refine (HBG.out _).mono ?_
            rintro e Y1 ⟨rfl, b1⟩
            have hb1 := hbD.trans (b1.mono hbD.size)
            obtain ⟨hS1, s1, s2, s3, s4, HFIN⟩ := HKW.out Y1 hb1
            refine hK.out _ _ hS1 (fun _ => ?_)
            clear hK K
            try simp only [Act.put, List.setIfInBounds_toArray, List.set_cons_zero, List.set_cons_succ]
            refine takeD 3 (some 33) (v := ?_) rfl rfl (by kernel_rfl) (by kernel_rfl) (by kernel_rfl) (fun _ _ _ h => h) (Or.inl ⟨by rfl, ?_⟩) hS1 ?_
            rotate_left
            · intro w hSw
              go_simp
              with_reducible rfl
            try simp only [Act.put, List.setIfInBounds_toArray, List.set_cons_zero, List.set_cons_succ]
            refine callD 4 (by kernel_rfl) rfl (fun K hK => ?_)
            rw [if_pos (by rfl)]
            go_simp
            obtain ⟨hSA, u1, u2, HFIN⟩ := HFIN
            refine hK.out _ _ hSA (fun _ => ?_)
            clear hK K
            try simp only [Act.put, List.setIfInBounds_toArray]
            refine callD 5 (by kernel_rfl) rfl (fun K hK => ?_)
            rw [if_pos (by rfl)]
            go_simp
            obtain ⟨hSC, HFIN⟩ := HFIN
            refine hK.out _ _ hSC (fun _ => ?_)
            clear hK K
            try simp only [Act.put, List.setIfInBounds_toArray]
            refine wpAnyH_done (by kernel_rfl) ?_ _
            dsimp only [onlyN]
            gi_wp2
            exact HFIN HC.out
          · have HC : Hid (¬ ((i.val : Int) = inn ∧ 0 ≤ off ∧ off ≤ xn)) := fun h => c3 h.2.2
            clear c1
            gi_wp2
            exact HNO.out HC.out
        · have HC : Hid (¬ ((i.val : Int) = inn ∧ 0 ≤ off ∧ off ≤ xn)) := fun h => c2 h.2.1
          clear c1
          gi_wp2
          exact HNO.out HC.out
      · have e1 : ((i.val : Int) == inn) = false := by simpa using c1
        have HC : Hid (¬ ((i.val : Int) = inn ∧ 0 ≤ off ∧ off ≤ xn)) := fun h => c1 h.1
        clear c1
        gi_wp2
        exact HNO.out HC.out
    case done =>
      rintro D ys W hD rfl ⟨i0, i1, i2, i3, i4, i5⟩ hK
      have HV : Hid (RV = 0 ∧ RE = 1) := HMISS.out (fun i => i4 i (List.mem_finRange i))
      obtain ⟨j20, j21⟩ := cells1 i2
      obtain ⟨j30, j31⟩ := cells1 i3
      have hT := HTWO.out W (.int .i64 0) (.int .i64 1) i2 i3 i5
      have HT : Hid _ := hT
      have HD : Hid (w.heap.size + 4 ≤ D) := by show _ ≤ _; omega
      clear hT i0 i1 i2 i3 i4 i5 hown hownX hI0 mB hsB hX4 hD
      gi_wp2
      obtain ⟨t1, t2, t3, t4⟩ := HT.out
      have hDD := HD.out
      have hKD := (t4 D (by omega) (by omega)).trans hK
      refine ⟨by simp, .inl ⟨_, _, rfl, run_takeDeferred hKD, ?_⟩⟩
      exact ⟨_, results_cells2 rfl _ _ (w.heap.size + 1 + 1) (w.heap.size + 1 + 1 + 1) _ _ rfl rfl (load_int ((World.putObj_heap_other (by omega)).trans t1)).1 (load_int ((World.putObj_heap_other (by omega)).trans t2)).2, by rw [HV.out.1, HV.out.2], t3.trans (belowK_b (w := w) (Nat.le_refl _) _ D _ _ (by omega) hKD rfl rfl)⟩
    case stop =>
      rintro D c pre W hD hpre ⟨pre', i, rfl, rfl, hc, i2, i3, i5⟩ hK
      obtain ⟨hv1, hv2⟩ := HHIT.out i hc
      have HV : Hid (RV = ((nth l i.val).a + shiftL (l.take i.val) + off) ∧ RE = 0) := ⟨hv1, hv2⟩
      have HD : Hid (w.heap.size + 4 ≤ D) := by show _ ≤ _; omega
      clear hown hownX hI0 mB hsB hX4 hv1 hv2 hc hpre hD
      gi_wp2
      have hDD := HD.out
      refine ⟨by simp, .inl ⟨_, _, rfl, run_takeDeferred hK, ?_⟩⟩
      exact ⟨_, results_cells2 rfl _ _ (w.heap.size + 1 + 1) (w.heap.size + 1 + 1 + 1) _ _ rfl rfl (load_int ((World.putObj_heap_other (by omega)).trans i2)).1 (load_int ((World.putObj_heap_other (by omega)).trans i3)).2, by rw [HV.out.1, HV.out.2], i5.trans (belowK_b (w := w) (Nat.le_refl _) _ D _ _ (by omega) hK rfl rfl)⟩
end Go.Proofs.Ytiadcpbaopafgaa
