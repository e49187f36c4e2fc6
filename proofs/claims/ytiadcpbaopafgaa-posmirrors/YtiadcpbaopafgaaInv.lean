/-
  PROVED HERE: pos.Invert at every slice of ranges: what it returns, in memory of its own; nothing that lay before is turned.
-/
import Derived.Test.YtiadcpbaopafgaaMapF
import Derived.Test.YtiadcpbaopafgaaOwnR
namespace Go.Proofs.Ytiadcpbaopafgaa
open Go.RowKit Go.Shelf
attribute [local go_sem] Oper.semAt_some

/-- The k-th range, turned round. -/
def invR (l : List Rng) (k : Nat) : Rng := ⟨(nth l k).a + shiftL (l.take k), (nth l k).n, (nth l k).o⟩
/-- The map, turned round. -/
def invL (l : List Rng) : List Rng := (List.finRange l.length).map fun i => invR l i.val
def inv (l : List Rng) : List Rng := if right l = true ∧ right (invL l) = true then invL l else []
def invE (l : List Rng) : Int := if right l = true ∧ right (invL l) = true then 0 else 4
/-- Which block a variable's slice lies in. -/
def rowR (o : Option Obj) (k : Nat) : Prop := ∃ v, o = some (.cells #[v] 22 (0, 0)) ∧ v.ownBlock = some k
/-- What holds between two rounds. -/
def InvI (l : List Rng) (len : Nat) (X1 : World) (pre : List (Fin len)) (W : World) : Prop :=
  ∃ v, W.heap[X1.heap.size]? = some (.cells #[v] 22 (0, 0)) ∧ W.ownsRow (X1.heap.size + 1 + 1) 60 3 v pre.length (flatR (pre.map fun i => invR l i.val)) ∧ Below X1.heap.size X1 W ∧ pre.length ≤ len

theorem owns_mono {W : World} {base base' n size : Nat} {e : TypeId} {v : Value} {xs : List Value} (h : W.ownsRow base e size v n xs) (hb : base' ≤ base) : W.ownsRow base' e size v n xs := by
  obtain ⟨hl, h1 | ⟨g, cap, cur, rfl, hb', hg, hc1, hc2, hc3, hc4⟩⟩ := h
  · exact ⟨hl, .inl h1⟩
  · exact ⟨hl, .inr ⟨g, cap, cur, rfl, by omega, hg, hc1, hc2, hc3, hc4⟩⟩

set_option maxRecDepth 100000 in
set_option maxHeartbeats 4000000 in
theorem invert_calls (a : Option Addr) (len cap : Nat) (l : List Rng) (w : World) (hl : Rngs w a len l) (hz : len ≤ 140737488355328) :
    Calls Try.prog 14 #[.slice a len cap] w fun e w' => ∃ v, e = .returned (.tuple #[v, .int .i64 (invE l)]) ∧ w'.ownsRow w.heap.size 60 3 v (inv l).length (flatR (inv l)) ∧ Below w.heap.size w w' := by
  have h11 : Fence.wide.fn 11 := trivial
  have h30 : Fence.wide.fn 30 := trivial
  have c1 := right_calls a len cap l w hl hz
  cases hr : right l with
  | false =>
    rw [show inv l = [] from by unfold inv; rw [if_neg (by rw [hr]; simp)], show invE l = 4 from by unfold invE; rw [if_neg (by rw [hr]; simp)]]
    rw [hr] at c1
    go_enter Try.func14, Try.ntmps14
    go_wp2_with fail
    refine c1.mono ?_
    rintro e X ⟨rfl, hX⟩
    go_wp2
    go_ret2
    exact ⟨_, rfl, ⟨rfl, .inl ⟨rfl, rfl⟩⟩, hX⟩
  | true =>
    rw [hr] at c1
    have hlen : len ≤ 4 := by have := (right_len hr).1; rw [hl.1] at this; exact this
    have HBD : Hid (∀ i : Fin len, ((0 ≤ (nth l i.val).a ∧ (nth l i.val).a ≤ 65536) ∧ (0 ≤ (nth l i.val).o ∧ (nth l i.val).o ≤ 65536) ∧ (0 ≤ (nth l i.val).n ∧ (nth l i.val).n ≤ 65536)) ∧ (-262144 ≤ shiftL (l.take i.val) ∧ shiftL (l.take i.val) ≤ 262144)) := fun i => by
      have hx := nth_at (l := l) (k := i.val) (by rw [hl.1]; exact i.2)
      have := rightL_all (right_len hr).2 _ (List.mem_of_getElem? hx)
      exact ⟨⟨this.1, this.2.1, this.2.2.1⟩, shift_take hr _⟩
    have HLL : Hid (l.length = len) := hl.1
    obtain ⟨L2, hL2⟩ : ∃ L2, inv l = L2 := ⟨_, rfl⟩
    obtain ⟨E2, hE2⟩ : ∃ E2, invE l = E2 := ⟨_, rfl⟩
    have HL2 : Hid (L2 = if right (invL l) = true then invL l else []) := by
      show L2 = _
      rw [← hL2]
      unfold inv
      rw [hr]
      simp only [true_and]
    have HE2 : Hid (E2 = if right (invL l) = true then 0 else 4) := by
      show E2 = _
      rw [← hE2]
      unfold invE
      rw [hr]
      simp only [true_and]
    rw [hL2, hE2]
    clear hL2 hE2
    have HINV : Hid ((List.finRange len).map (fun i => invR l i.val) = invL l ∧ (invL l).length = len) := by
      obtain rfl := hl.1
      exact ⟨rfl, by unfold invL; simp⟩
    have HR2 : Hid (∀ (X : World) (v : Value), X.ownsRow w.heap.size 60 3 v len (flatR (invL l)) → ∃ a2 cap2, v = .slice a2 len cap2 ∧ Calls Try.prog 11 #[.slice a2 len cap2] X fun e w' => e = .returned (.bool (right (invL l))) ∧ Below X.heap.size X w') := fun X v hv => by
      obtain ⟨a2, cap2, rfl, h2, _⟩ := rngs_of_owns hv
      exact ⟨a2, cap2, rfl, right_calls a2 len cap2 (invL l) X h2 (by omega)⟩
    refine (callsIn_wide (n := 6)).1 ?_
    refine callsIn_of_wp_marks Try.func14 rfl trivial ?_ rfl
    simp only [Try.ntmps14, List.size_toArray, List.length_cons, List.length_nil, Nat.reduceAdd, Nat.reduceSub, Array.replicate_succ, Array.replicate_zero, List.push_toArray, List.append_toArray, List.nil_append, List.cons_append]
    gi_wp2_with (gi_at_call 11; refine (callsIn_wide.2 c1).mono ?_; rintro e X1 ⟨rfl, hX1⟩)
    gi_wp2_with (gi_at_call 30; refine (parts_in Fence.wide 5 trivial rfl _ _ _ _).mono ?_; rintro e w' ⟨rfl, rfl⟩)
    obtain ⟨wB, hwB⟩ : ∃ wB, (X1.alloc (.cells #[.slice none 0 0] 22)).alloc (.cells #[.slice a len cap] 22) = wB := ⟨_, rfl⟩
    have hsB : wB.heap.size = X1.heap.size + 2 := by rw [← hwB]; simp
    have hbB : Below X1.heap.size X1 wB := by rw [← hwB]; exact ((Below.refl _ X1).alloc (Nat.le_refl _) _).alloc (by simp) _
    obtain ⟨m0, m1⟩ := laid2 X1 (.cells #[.slice none 0 0] 22) (.cells #[.slice a len cap] 22)
    rw [hwB] at m0 m1
    have hX1s : w.heap.size ≤ X1.heap.size := hX1.size
    have hl1 : Rngs X1 a len l := hl.below hX1
    have HL : Hid (Rngs X1 a len l) := hl1
    have HOLD : Hid (0 < len → ∀ b o, a = some ⟨b, o, none⟩ → b < X1.heap.size) := fun h b o e => (hl1.cells h e).1
    have hI0 : InvI l len X1 [] wB := ⟨.slice none 0 0, m0, ⟨rfl, .inl ⟨rfl, rfl⟩⟩, hbB, Nat.zero_le _⟩
    have hown : OwnFrom wB.heap.size (InvI l len X1) := by
      rintro pre W W' row ⟨v, i0, i1, i2, i3⟩ hg hrr
      exact ⟨v, grown_cells hg hrr i0, owns_keep i1 (fun g hv => by
        obtain ⟨_, _, c, hc⟩ := owns_block i1 hv
        rw [grown_cells hg hrr hc, hc]), grown_below i2 hg hrr (by omega) i2.size, i3⟩
    rw [hwB]
    clear c1 hl1
    refine wpIn_rangeFunc_ownH rfl (by omega) (gf := 38) (lb := #[.pointer (some ⟨X1.heap.size + 1, 0, none⟩)]) rfl trivial (enters_of Try.func38 (by kernel_rfl) rfl)
      (encs := stepP l (N := len)) (Kp := KpP X1.heap.size (X1.heap.size + 1) (X1.heap.size) rowR) (S := fun ys => ys = List.finRange len) (Sp := fun pre => pre <+: List.finRange len) (N := len) (w0 := wB)
      (fun li J Jx W hW hJ _ hY h0 => parts1_in Fence.wide 5 trivial rfl (by omega) li (X1.heap.size + 1) X1.heap.size (X1.heap.size) rowR a len cap l hr hlen J Jx W hJ hY ((hW.block _ (by omega)).trans m1) (by omega) (by omega) (fun k hk => by
        obtain ⟨v, e, hv⟩ := hk
        rw [hW.block _ (by omega), m0] at e
        simp at e
        subst e
        cases hv) (HL.out.below (hbB.trans (hW.mono hbB.size))) HOLD.out h0)
      (fun h k => h.trans k) (fun W li o o' hl h1 h2 h3 => KpP.put o' h1 h2 (by omega)) (Below.refl _ _) (fun _ => rfl)
      (InvI l len X1) (fun _ _ _ => False) hown (fun _ _ _ _ _ hs _ _ => hs) hI0
      (fun i a' W => ∃ Bx, a' = { tmps := #[.slice a len cap, undef, .slice none 0 0, .int .i64 0, .pointer (some ⟨X1.heap.size, 0, none⟩), .pointer (some ⟨Bx, 0, none⟩), .slice a len cap, .bool true, .bool false, .slice a len cap, .func (.func 38) #[] #[.pointer (some ⟨X1.heap.size + 1, 0, none⟩)], .agg #[.int .i64 (nth l i.val).a, .int .i64 (nth l i.val).o, .int .i64 (nth l i.val).n, .int .i64 (i.val : Int), .int .i64 (shiftL (l.take i.val))], undef, undef, undef, undef, undef, undef, undef, undef, undef, undef, undef, undef, undef, undef, undef, undef], defers := [] } ∧ W.heap[Bx]? = some (.cells #[.int .i64 (nth l i.val).a, .int .i64 (nth l i.val).o, .int .i64 (nth l i.val).n, .int .i64 (i.val : Int), .int .i64 (shiftL (l.take i.val))] 70 (0, 0))) ?hax ?assign ?body ?done ?stop
    case hax =>
      rintro i a' _ W W' row ⟨Bx, h1, h2⟩ hg hrr
      exact ⟨Bx, h1, grown_cells hg hrr h2⟩
    case assign =>
      rintro li pre i W K hi hK
      have hK' := hK
      have hbl : X1.heap.size < W.heap.size := by
        obtain ⟨v, i0, _⟩ := hi
        exact (Array.getElem?_eq_some_iff.1 i0).1
      unfold stepP partV
      gi_wp2
      refine hK _ _ ((KeepsOthers.alloc _ _).from _) ?_ ?_ ⟨W.heap.size, rfl, World.alloc_heap_new W _⟩
      · exact ⟨by simp, fun k c t fr hk _ _ => Below.heap_alloc W _ _ (Array.getElem?_eq_some_iff.1 hk).1, fun k hk => by rw [Below.heap_alloc W _ _ hbl] at hk; exact .inl hk⟩
      · exact hown.alloc _ hi
    case body =>
      rintro li pre i a' W hli ⟨r, hrec⟩ ⟨v, ibox, irow, ibel, ilen⟩ ⟨Bx, rfl, hbx⟩ hlt
      obtain ⟨⟨⟨x1, x2⟩, ⟨x3, x4⟩, ⟨x5, x6⟩⟩, ⟨x7, x8⟩⟩ := HBD.out i
      have HBG : Hid (∀ X, Calls Try.prog 31 #[partV (nth l i.val) (i.val : Int) (shiftL (l.take i.val))] X fun e w' => e = .returned (.int .i64 ((nth l i.val).a + shiftL (l.take i.val))) ∧ Below X.heap.size X w') := fun X => begin_calls _ _ _ X (by unfold Small; omega) (by unfold Small; omega)
      have hn0 : X1.heap.size < W.heap.size := (Array.getElem?_eq_some_iff.1 ibox).1
      have hn1 : X1.heap.size ≤ W.heap.size := ibel.size
      have hbxl : Bx < W.heap.size := (Array.getElem?_eq_some_iff.1 hbx).1
      have hnB : Bx ≠ X1.heap.size := fun e => by rw [e, ibox] at hbx; simp at hbx
      have hnr : ∀ g, v.ownBlock = some g → Bx ≠ g := fun g hg e => by
        obtain ⟨_, _, c, hc⟩ := owns_block irow hg
        rw [← e, hbx] at hc
        simp at hc
      have hb2 : X1.heap.size + 1 + 1 ≤ W.heap.size := by have := (Array.getElem?_eq_some_iff.1 hrec).1; omega
      have hcells : ∀ X : World, X.heap[Bx]? = W.heap[Bx]? → X.cell? ⟨Bx, 0, none⟩ = some (.int .i64 (nth l i.val).a) ∧ X.cell? ⟨Bx, 1, none⟩ = some (.int .i64 (nth l i.val).o) ∧ X.cell? ⟨Bx, 2, none⟩ = some (.int .i64 (nth l i.val).n) ∧ X.cell? ⟨Bx, 3, none⟩ = some (.int .i64 (i.val : Int)) ∧ X.cell? ⟨Bx, 4, none⟩ = some (.int .i64 (shiftL (l.take i.val))) := fun X hX => cells5 (hX.trans hbx)
      have HKW : Hid (∀ X, Below W.heap.size W X → X.cell? ⟨Bx, 0, none⟩ = some (.int .i64 (nth l i.val).a) ∧ X.cell? ⟨Bx, 1, none⟩ = some (.int .i64 (nth l i.val).o) ∧ X.cell? ⟨Bx, 2, none⟩ = some (.int .i64 (nth l i.val).n) ∧ X.cell? ⟨Bx, 3, none⟩ = some (.int .i64 (i.val : Int)) ∧ X.cell? ⟨Bx, 4, none⟩ = some (.int .i64 (shiftL (l.take i.val)))) := fun X hX => hcells X (hX.block _ hbxl)
      have HAPP : Hid (∀ (Y : World) (gB : Nat), Below W.heap.size W Y → Y.heap[gB]? = some (.cells #[.int .i64 ((nth l i.val).a + shiftL (l.take i.val)), .int .i64 (nth l i.val).n, .int .i64 (nth l i.val).o] 60 (0, 0)) →
          ∃ v2 Y2, (Builtin.append_ #[22, 22] 22 #[v, .slice (some ⟨gB, 0, none⟩) 1 1]).run Try.prog Y = .ok v2 Y2 ∧ Y2.ownsRow (X1.heap.size + 1 + 1) 60 3 v2 (pre.length + 1) (flatR ((pre.map fun i => invR l i.val) ++ [invR l i.val])) ∧ Y.grownBy Y2 v.ownBlock ∧ (v2.ownBlock = v.ownBlock ∨ v2.ownBlock = some Y.heap.size) ∧
          ((Y2.cell? ⟨Bx, 0, none⟩ = some (.int .i64 (nth l i.val).a) ∧ Y2.cell? ⟨Bx, 1, none⟩ = some (.int .i64 (nth l i.val).o) ∧ Y2.cell? ⟨Bx, 2, none⟩ = some (.int .i64 (nth l i.val).n) ∧ Y2.cell? ⟨Bx, 3, none⟩ = some (.int .i64 (i.val : Int)) ∧ Y2.cell? ⟨Bx, 4, none⟩ = some (.int .i64 (shiftL (l.take i.val)))) ∧ Y2.cell? ⟨X1.heap.size, 0, none⟩ = some v ∧ Y2.frozen? ⟨X1.heap.size, 0, none⟩ = false ∧
            (((Y2.setCell ⟨X1.heap.size, 0, none⟩ v2).cell? ⟨Bx, 0, none⟩ = some (.int .i64 (nth l i.val).a) ∧ (Y2.setCell ⟨X1.heap.size, 0, none⟩ v2).cell? ⟨Bx, 1, none⟩ = some (.int .i64 (nth l i.val).o) ∧ (Y2.setCell ⟨X1.heap.size, 0, none⟩ v2).cell? ⟨Bx, 2, none⟩ = some (.int .i64 (nth l i.val).n) ∧ (Y2.setCell ⟨X1.heap.size, 0, none⟩ v2).cell? ⟨Bx, 3, none⟩ = some (.int .i64 (i.val : Int)) ∧ (Y2.setCell ⟨X1.heap.size, 0, none⟩ v2).cell? ⟨Bx, 4, none⟩ = some (.int .i64 (shiftL (l.take i.val)))) ∧
             (KeepsFrom wB.heap.size W (Y2.setCell ⟨X1.heap.size, 0, none⟩ v2) ∧ KpP X1.heap.size (X1.heap.size + 1) (X1.heap.size) rowR W (Y2.setCell ⟨X1.heap.size, 0, none⟩ v2) ∧ InvI l len X1 (pre ++ [i]) (Y2.setCell ⟨X1.heap.size, 0, none⟩ v2))))) := by
        intro Y gB hY hE
        have hown1 : Y.ownsRow (X1.heap.size + 1 + 1) 60 3 v pre.length (flatR (pre.map fun i => invR l i.val)) := owns_keep irow (fun g hg => hY.block _ (owns_block irow hg).2.1)
        obtain ⟨v2, Y2, hrun, hrow2, hgr, hat⟩ := rng_append1 _ v _ _ Y hown1 (by have := hY.size; omega) (invR l i.val) gB 1 hE (by omega)
        have hYb : ∀ k, k < W.heap.size → v.ownBlock ≠ some k → Y2.heap[k]? = W.heap[k]? := fun k hk hne => (hgr.block k (Nat.lt_of_lt_of_le hk hY.size) (fun e => hne e.symm)).trans (hY.block k hk)
        have hbox2 : Y2.heap[X1.heap.size]? = some (.cells #[v] 22 (0, 0)) := (hYb _ hn0 (fun e => by have := (owns_block irow e).1; omega)).trans ibox
        have hset : ∀ k, k ≠ X1.heap.size → (Y2.setCell ⟨X1.heap.size, 0, none⟩ v2).heap[k]? = Y2.heap[k]? := fun k hk => Below.heap_setCell Y2 _ _ k hk
        have hsz2 : W.heap.size ≤ Y2.heap.size := Nat.le_trans hY.size hgr.size
        have hbox3 : (Y2.setCell ⟨X1.heap.size, 0, none⟩ v2).heap[X1.heap.size]? = some (.cells #[v2] 22 (0, 0)) := heap_setCell_same Y2 _ 0 _ _ _ hbox2
        have hsz3 : (Y2.setCell ⟨X1.heap.size, 0, none⟩ v2).heap.size = Y2.heap.size := by simp
        have hBx2 : Y2.heap[Bx]? = W.heap[Bx]? := hYb _ hbxl (fun e => hnr _ e rfl)
        refine ⟨v2, Y2, hrun, hrow2, hgr, hat, hcells Y2 hBx2, (cells1 hbox2).1, (cells1 hbox2).2, hcells _ ((hset _ hnB).trans hBx2), ?_, ?_, ?_⟩
        · refine ⟨by rw [hsz3]; exact hsz2, fun k ob _ hk ho => ?_⟩
          rw [hset k (fun e => by subst e; rw [ibox] at hk; cases hk; cases ho), hYb k (Array.getElem?_eq_some_iff.1 hk).1 (fun e => by
            obtain ⟨_, _, c, hc⟩ := owns_block irow e
            rw [hk] at hc
            cases hc
            cases ho)]
          exact hk
        · refine ⟨by rw [hsz3]; exact hsz2, fun k c t fr hk hn hR => ?_, fun k hk => ?_⟩
          · rw [hset k (by omega), hYb k (Array.getElem?_eq_some_iff.1 hk).1 (fun e => hR ⟨v, ibox, e⟩)]
          · obtain ⟨u, hu, huk⟩ := hk
            rw [hbox3] at hu
            simp at hu
            subst hu
            rcases hat with h | h
            · exact .inl ⟨v, ibox, by rw [← h]; exact huk⟩
            · right
              rw [h] at huk
              obtain rfl : Y.heap.size = k := by simpa using huk
              rw [hsz3]
              have := (owns_block hrow2 (by rw [h])).2.1
              exact ⟨hY.size, this⟩
        · refine ⟨v2, hbox3, ?_, ?_, by simp; omega⟩
          · rw [List.map_append, List.length_append]
            exact owns_keep hrow2 (fun g hg => hset g (fun e => by have := (owns_block hrow2 hg).1; omega))
          · have h1 : Below X1.heap.size X1 Y2 := (ibel.trans (hY.mono hn1)).grown hgr (by have := hY.size; omega) (fun k e => by have := (owns_block irow e).1; omega)
            exact h1.setCell (p := ⟨X1.heap.size, 0, none⟩) (Nat.le_refl _) _
      clear irow ibel hown hI0 m0 m1 hsB hbB hnr hcells hbx hrec hX1 HINV HR2
      unfold partV at *
      generalize (nth l i.val).a = xa at *
      generalize (nth l i.val).o = xo at *
      generalize (nth l i.val).n = xn at *
      generalize shiftL (l.take i.val) = d at *
      have hbD : Below W.heap.size W W.drew := (Below.refl _ _).drew
      have ibD : W.drew.heap[X1.heap.size]? = some (.cells #[v] 22 (0, 0)) := ibox
      gi_wp2_with fail
      refine wpIn_round_held (S := fun X => X.cell? ⟨Bx, 0, none⟩ = some (.int .i64 xa) ∧ X.cell? ⟨Bx, 1, none⟩ = some (.int .i64 xo) ∧ X.cell? ⟨Bx, 2, none⟩ = some (.int .i64 xn) ∧ X.cell? ⟨Bx, 3, none⟩ = some (.int .i64 (i.val : Int)) ∧ X.cell? ⟨Bx, 4, none⟩ = some (.int .i64 d)) mixed (by kernel_rfl) (HKW.out _ hbD) (fun hS => ?_)
      refine takeD 1 (some 13) (v := ?_) rfl rfl (by kernel_rfl) (by kernel_rfl) (by kernel_rfl) (fun _ _ _ h => h) (Or.inl ⟨by rfl, ?_⟩) hS ?_
      rotate_left
      · intro w hSw
        obtain ⟨k0, k1, k2, k3, k4⟩ := hSw
        go_simp
        with_reducible rfl
      try simp only [Act.put, List.setIfInBounds_toArray, List.set_cons_zero, List.set_cons_succ]
      refine takeD 3 (some 15) (v := ?_) rfl rfl (by kernel_rfl) (by kernel_rfl) (by kernel_rfl) (fun _ _ _ h => h) (Or.inl ⟨by rfl, ?_⟩) hS ?_
      rotate_left
      · intro w hSw
        go_simp
        with_reducible rfl
      try simp only [Act.put, List.setIfInBounds_toArray, List.set_cons_zero, List.set_cons_succ]
      refine takeD 4 (some 16) (v := ?_) rfl rfl (by kernel_rfl) (by kernel_rfl) (by kernel_rfl) (fun _ _ _ h => h) (Or.inl ⟨by rfl, ?_⟩) hS ?_
      rotate_left
      · intro w hSw
        go_simp
        with_reducible rfl
      try simp only [Act.put, List.setIfInBounds_toArray, List.set_cons_zero, List.set_cons_succ]
      refine takeD 5 (some 17) (v := ?_) rfl rfl (by kernel_rfl) (by kernel_rfl) (by kernel_rfl) (fun _ _ _ h => h) (Or.inl ⟨by rfl, ?_⟩) hS ?_
      rotate_left
      · intro w hSw
        obtain ⟨k0, k1, k2, k3, k4⟩ := hSw
        go_simp
        with_reducible rfl
      try simp only [Act.put, List.setIfInBounds_toArray, List.set_cons_zero, List.set_cons_succ]
      refine takeD 6 (some 18) (v := ?_) rfl rfl (by kernel_rfl) (by kernel_rfl) (by kernel_rfl) (fun _ _ _ h => h) (Or.inl ⟨by rfl, ?_⟩) hS ?_
      rotate_left
      · intro w hSw
        go_simp
        with_reducible rfl
      try simp only [Act.put, List.setIfInBounds_toArray, List.set_cons_zero, List.set_cons_succ]
      refine takeD 7 (some 19) (v := ?_) rfl rfl (by kernel_rfl) (by kernel_rfl) (by kernel_rfl) (fun _ _ _ h => h) (Or.inl ⟨by rfl, ?_⟩) hS ?_
      rotate_left
      · intro w hSw
        go_simp
        with_reducible rfl
      try simp only [Act.put, List.setIfInBounds_toArray, List.set_cons_zero, List.set_cons_succ]
      refine takeD 8 (some 20) (v := ?_) rfl rfl (by kernel_rfl) (by kernel_rfl) (by kernel_rfl) (fun _ _ _ h => h) (Or.inl ⟨by rfl, ?_⟩) hS ?_
      rotate_left
      · intro w hSw
        obtain ⟨k0, k1, k2, k3, k4⟩ := hSw
        go_simp
        with_reducible rfl
      try simp only [Act.put, List.setIfInBounds_toArray, List.set_cons_zero, List.set_cons_succ]
      refine wpAnyH_ready (rs := [0, 2]) (by kernel_rfl) (by simp) (AllReadyH.cons rfl (fun K hK => ?_) ( AllReadyH.cons rfl (fun K hK => ?_) (AllReadyH.nil)))
      · rw [if_pos (by rfl)]
        have e9 := (cells1 (ibD)).1
        go_simp
        try rw [e9]
        try go_simp
        refine hK.out _ _ hS (fun _ => ?_)
        clear hK K
        try simp only [Act.put, List.setIfInBounds_toArray, List.set_cons_zero, List.set_cons_succ]
        refine callD 2 (by kernel_rfl) rfl (fun K hK => ?_)
        rw [if_pos (by rfl)]
        go_simp
        refine (HBG.out _).mono ?_
        rintro e Y2 ⟨rfl, b2⟩
        have hb2 := hbD.trans (b2.mono hbD.size)
        have hS2 := HKW.out Y2 hb2
        have bx2 := (hb2.block _ hn0).trans ibox
        refine hK.out _ _ hS2 (fun _ => ?_)
        clear hK K
        try simp only [Act.put, List.setIfInBounds_toArray, List.set_cons_zero, List.set_cons_succ]
        refine takeD 9 (some 21) (v := ?_) rfl rfl (by kernel_rfl) (by kernel_rfl) (by kernel_rfl) (fun _ _ _ h => h) (Or.inl ⟨by rfl, ?_⟩) hS2 ?_
        rotate_left
        · intro w hSw
          go_simp
          with_reducible rfl
        try simp only [Act.put, List.setIfInBounds_toArray, List.set_cons_zero, List.set_cons_succ]
        refine callD 10 (by kernel_rfl) rfl (fun K hK => ?_)
        rw [if_pos (by rfl)]
        go_simp
        obtain ⟨Y3, hY3⟩ : ∃ Y, Y2.alloc (.cells #[.int .i64 (xa + d), .int .i64 xn, .int .i64 xo] 60) = Y := ⟨_, rfl⟩
        rw [hY3]
        have hb3 : Below W.heap.size W Y3 := by rw [← hY3]; exact hb2.alloc hb2.size _
        have mE : Y3.heap[Y2.heap.size]? = some (.cells #[.int .i64 (xa + d), .int .i64 xn, .int .i64 xo] 60 (0, 0)) := by rw [← hY3]; exact World.alloc_heap_new Y2 _
        have hS3 := HKW.out Y3 hb3
        have sE : Y3.heap.size = Y2.heap.size + 1 := by rw [← hY3]; simp
        clear hY3
        have bx3 := (hb3.block _ hn0).trans ibox
        refine hK.out _ _ hS3 (fun _ => ?_)
        clear hK K
        try simp only [Act.put, List.setIfInBounds_toArray, List.set_cons_zero, List.set_cons_succ]
        refine callD 11 (by kernel_rfl) rfl (fun K hK => ?_)
        rw [if_pos (by rfl)]
        obtain ⟨v2, Y4, hrun, hrow2, hgr, hat, hend⟩ := HAPP.out Y3 Y2.heap.size hb3 mE
        refine wp_app_run _ _ 22 rfl _ _ _ _ rfl rfl hrun ?_
        obtain ⟨hS4, c9, f9, HE⟩ := hend
        refine hK.out _ _ hS4 (fun _ => ?_)
        clear hK K
        try simp only [Act.put, List.setIfInBounds_toArray]
        refine callD 12 (by kernel_rfl) rfl (fun K hK => ?_)
        rw [if_pos (by rfl)]
        obtain ⟨g2, cap2, rfl⟩ := ownsRow_succ hrow2
        go_simp
        obtain ⟨hSZ, hfin⟩ := HE
        refine hK.out _ _ hSZ (fun _ => ?_)
        clear hK K
        try simp only [Act.put, List.setIfInBounds_toArray]
        refine wpAnyH_done (by kernel_rfl) ?_ _
        dsimp only [onlyN]
        gi_wp2
        exact hfin
      · rw [if_pos (by rfl)]
        go_simp
        refine (HBG.out _).mono ?_
        rintro e Y1 ⟨rfl, b1⟩
        have hb1 := hbD.trans (b1.mono hbD.size)
        have hS1 := HKW.out Y1 hb1
        have bx1 := (hb1.block _ hn0).trans ibox
        refine hK.out _ _ hS1 (fun _ => ?_)
        clear hK K
        try simp only [Act.put, List.setIfInBounds_toArray, List.set_cons_zero, List.set_cons_succ]
        refine takeD 9 (some 21) (v := ?_) rfl rfl (by kernel_rfl) (by kernel_rfl) (by kernel_rfl) (fun _ _ _ h => h) (Or.inl ⟨by rfl, ?_⟩) hS1 ?_
        rotate_left
        · intro w hSw
          go_simp
          with_reducible rfl
        try simp only [Act.put, List.setIfInBounds_toArray, List.set_cons_zero, List.set_cons_succ]
        refine wpAnyH_ready (rs := [0, 10]) (by kernel_rfl) (by simp) (AllReadyH.cons rfl (fun K hK => ?_) ( AllReadyH.cons rfl (fun K hK => ?_) (AllReadyH.nil)))
        · rw [if_pos (by rfl)]
          have e9 := (cells1 (bx1)).1
          go_simp
          try rw [e9]
          try go_simp
          refine hK.out _ _ hS1 (fun _ => ?_)
          clear hK K
          try simp only [Act.put, List.setIfInBounds_toArray, List.set_cons_zero, List.set_cons_succ]
          refine callD 10 (by kernel_rfl) rfl (fun K hK => ?_)
          rw [if_pos (by rfl)]
          go_simp
          obtain ⟨Y3, hY3⟩ : ∃ Y, Y1.alloc (.cells #[.int .i64 (xa + d), .int .i64 xn, .int .i64 xo] 60) = Y := ⟨_, rfl⟩
          rw [hY3]
          have hb3 : Below W.heap.size W Y3 := by rw [← hY3]; exact hb1.alloc hb1.size _
          have mE : Y3.heap[Y1.heap.size]? = some (.cells #[.int .i64 (xa + d), .int .i64 xn, .int .i64 xo] 60 (0, 0)) := by rw [← hY3]; exact World.alloc_heap_new Y1 _
          have hS3 := HKW.out Y3 hb3
          have sE : Y3.heap.size = Y1.heap.size + 1 := by rw [← hY3]; simp
          clear hY3
          have bx3 := (hb3.block _ hn0).trans ibox
          refine hK.out _ _ hS3 (fun _ => ?_)
          clear hK K
          try simp only [Act.put, List.setIfInBounds_toArray, List.set_cons_zero, List.set_cons_succ]
          refine callD 11 (by kernel_rfl) rfl (fun K hK => ?_)
          rw [if_pos (by rfl)]
          obtain ⟨v2, Y4, hrun, hrow2, hgr, hat, hend⟩ := HAPP.out Y3 Y1.heap.size hb3 mE
          refine wp_app_run _ _ 22 rfl _ _ _ _ rfl rfl hrun ?_
          obtain ⟨hS4, c9, f9, HE⟩ := hend
          refine hK.out _ _ hS4 (fun _ => ?_)
          clear hK K
          try simp only [Act.put, List.setIfInBounds_toArray]
          refine callD 12 (by kernel_rfl) rfl (fun K hK => ?_)
          rw [if_pos (by rfl)]
          obtain ⟨g2, cap2, rfl⟩ := ownsRow_succ hrow2
          go_simp
          obtain ⟨hSZ, hfin⟩ := HE
          refine hK.out _ _ hSZ (fun _ => ?_)
          clear hK K
          try simp only [Act.put, List.setIfInBounds_toArray]
          refine wpAnyH_done (by kernel_rfl) ?_ _
          dsimp only [onlyN]
          gi_wp2
          exact hfin
        · rw [if_pos (by rfl)]
          go_simp
          obtain ⟨Y2, hY2⟩ : ∃ Y, Y1.alloc (.cells #[.int .i64 (xa + d), .int .i64 xn, .int .i64 xo] 60) = Y := ⟨_, rfl⟩
          rw [hY2]
          have hb2 : Below W.heap.size W Y2 := by rw [← hY2]; exact hb1.alloc hb1.size _
          have mE : Y2.heap[Y1.heap.size]? = some (.cells #[.int .i64 (xa + d), .int .i64 xn, .int .i64 xo] 60 (0, 0)) := by rw [← hY2]; exact World.alloc_heap_new Y1 _
          have hS2 := HKW.out Y2 hb2
          have sE : Y2.heap.size = Y1.heap.size + 1 := by rw [← hY2]; simp
          clear hY2
          have bx2 := (hb2.block _ hn0).trans ibox
          refine hK.out _ _ hS2 (fun _ => ?_)
          clear hK K
          try simp only [Act.put, List.setIfInBounds_toArray, List.set_cons_zero, List.set_cons_succ]
          refine callD 0 (by kernel_rfl) rfl (fun K hK => ?_)
          rw [if_pos (by rfl)]
          have e9 := (cells1 (bx2)).1
          go_simp
          try rw [e9]
          try go_simp
          refine hK.out _ _ hS2 (fun _ => ?_)
          clear hK K
          try simp only [Act.put, List.setIfInBounds_toArray, List.set_cons_zero, List.set_cons_succ]
          refine callD 11 (by kernel_rfl) rfl (fun K hK => ?_)
          rw [if_pos (by rfl)]
          obtain ⟨v2, Y4, hrun, hrow2, hgr, hat, hend⟩ := HAPP.out Y2 Y1.heap.size hb2 mE
          refine wp_app_run _ _ 22 rfl _ _ _ _ rfl rfl hrun ?_
          obtain ⟨hS4, c9, f9, HE⟩ := hend
          refine hK.out _ _ hS4 (fun _ => ?_)
          clear hK K
          try simp only [Act.put, List.setIfInBounds_toArray]
          refine callD 12 (by kernel_rfl) rfl (fun K hK => ?_)
          rw [if_pos (by rfl)]
          obtain ⟨g2, cap2, rfl⟩ := ownsRow_succ hrow2
          go_simp
          obtain ⟨hSZ, hfin⟩ := HE
          refine hK.out _ _ hSZ (fun _ => ?_)
          clear hK K
          try simp only [Act.put, List.setIfInBounds_toArray]
          refine wpAnyH_done (by kernel_rfl) ?_ _
          dsimp only [onlyN]
          gi_wp2
          exact hfin
    case done =>
      rintro D ys W hD rfl ⟨v, ibox, irow, ibel, ilen⟩ hK
      obtain ⟨hi1, hi2⟩ := HINV.out
      rw [hi1, List.length_finRange] at irow
      have irow0 := owns_mono irow (show w.heap.size ≤ X1.heap.size + 1 + 1 by omega)
      obtain ⟨a2, cap2, rfl, c2⟩ := HR2.out W v irow0
      have hbox0 := (cells1 ibox).1
      have hDW : D < W.heap.size := (Array.getElem?_eq_some_iff.1 hK).1
      have hwW : Below w.heap.size w W := hX1.trans (ibel.mono hX1s)
      have HEND : Hid (∀ Y, Below W.heap.size W Y → Y.cell? ⟨X1.heap.size, 0, none⟩ = some (.slice a2 len cap2) ∧ Y.heap[D]? = some (.deferred (some [])) ∧ Below w.heap.size w (Y.putObj D (.deferred none)) ∧ (Y.putObj D (.deferred none)).ownsRow w.heap.size 60 3 (.slice a2 len cap2) len (flatR (invL l))) := fun Y hY => by
        have hKY := (hY.block D hDW).trans hK
        have hwY := hwW.trans (hY.mono hwW.size)
        refine ⟨(cells1 ((hY.block _ (Array.getElem?_eq_some_iff.1 ibox).1).trans ibox)).1, hKY, hwY.trans (belowK_b (w := w) (Nat.le_refl _) _ D _ _ (by omega) hKY rfl rfl), owns_keep irow0 (fun g hg => ?_)⟩
        obtain ⟨_, hg2, c, hc⟩ := owns_block irow0 hg
        rw [World.putObj_heap_other (fun e => by rw [e, hK] at hc; cases hc)]
        exact hY.block _ hg2
      have HLI : Hid ((invL l).length = len) := hi2
      clear irow irow0 hown hI0 m0 m1 hsB hbB ibel HINV HR2 hwW hi1 hi2 ilen ibox
      generalize right (invL l) = q at *
      cases q with
      | false =>
        gi_wp2_with (gi_at_call 11; refine (callsIn_wide.2 c2).mono ?_; rintro e Y ⟨rfl, hY⟩; obtain ⟨y1, y2, y3, y4⟩ := HEND.out Y hY)
        refine ⟨by simp, .inl ⟨_, _, rfl, run_takeDeferred y2, ?_⟩⟩
        rw [HL2.out, HE2.out]
        refine ⟨.tuple #[.slice none 0 0, .int .i64 4], ?_, _, rfl, ⟨rfl, .inl ⟨rfl, rfl⟩⟩, y3⟩
        simp [results, Try.f14, go_sem]
      | true =>
        gi_wp2_with (gi_at_call 11; refine (callsIn_wide.2 c2).mono ?_; rintro e Y ⟨rfl, hY⟩; obtain ⟨y1, y2, y3, y4⟩ := HEND.out Y hY)
        refine ⟨by simp, .inl ⟨_, _, rfl, run_takeDeferred y2, ?_⟩⟩
        rw [HL2.out, HE2.out]
        refine ⟨.tuple #[.slice a2 len cap2, .int .i64 0], ?_, _, rfl, ?_, y3⟩
        · simp [results, Try.f14, go_sem]
        · rw [if_pos trivial, HLI.out]
          exact y4
    case stop =>
      rintro D c pre W _ _ h _
      exact h.elim
end Go.Proofs.Ytiadcpbaopafgaa
