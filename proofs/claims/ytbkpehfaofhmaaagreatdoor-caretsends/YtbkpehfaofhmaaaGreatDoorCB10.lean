/-
  PROVED HERE: what the texts DBP8Send, DBP8RightF, DBP8MapF say (each has its own words below).
-/
import Derived.Test.YtbkpehfaofhmaaaGreatDoorCB3
import Derived.Test.YtbkpehfaofhmaaaGreatDoorCB8
import Derived.Test.YtbkpehfaofhmaaaGreatDoorCBDBP8Spot
import Derived.Test.YtbkpehfaofhmaaaGreatDoorCBDBParseA
import Derived.Laws.ResultCell
/- DBP8Send: pos.send at every right map, every place and side: the spot that it returns; nothing that lay before is turned. -/
namespace Go.Proofs.YtbkpehfaofhmaaaGreatDoor
open Go.RowKit Go.Shelf
attribute [local go_sem] Oper.semAt_some
def went (l : List Rng) (p : Int) {len : Nat} (pre : List (Fin len)) : Prop := ∀ i ∈ pre, (nth l i.val).a + (nth l i.val).o < p
def mv (l : List Rng) {len : Nat} (pre : List (Fin len)) : Int := match pre.getLast? with
 | none => 0
 | some i => shiftL (l.take (i.val + 1))
theorem mv_snoc (l : List Rng) {len : Nat} (pre : List (Fin len)) (i : Fin len) : mv l (pre ++ [i]) = shiftL (l.take (i.val + 1)) := by
 unfold mv
 simp
theorem mv_take (l : List Rng) {len : Nat} : ∀ k, k <= len -> mv l ((List.finRange len).take k) = shiftL (l.take k)
 | 0, _ => by simp [mv, shiftL]
 | k + 1, h => by rw [takeFin (by omega), mv_snoc]
theorem nth_at {l : List Rng} {k : Nat} (h : k < l.length) : l[k]? = some (nth l k) := by
 unfold nth
 rw [List.getElem?_eq_getElem h]
 rfl
theorem send_went {l : List Rng} {len : Nat} (hl : l.length = len) (hr : right l = true) (p side : Int) : ∀ k, k <= len -> went l p ((List.finRange len).take k) -> sendL l 0 0 p side = sendL (l.drop k) k (shiftL (l.take k)) p side
 | 0, _, _ => by simp [shiftL]
 | k + 1, h, hw => by
  rw [takeFin (by omega)] at hw
  rw [send_went hl hr p side k (by omega) (fun i hi => hw i (List.mem_append.2 (.inl hi)))]
  have hx := nth_at (l := l) (k := k) (by omega)
  have hw' := hw ⟨k, by omega⟩ (by simp)
  have hb := rightL_all (right_len hr).2 _ (List.mem_of_getElem? hx)
  simp only at hw'
  obtain ⟨x, hx2, hd⟩ := drop_getR (l := l) (k := k) (by omega)
  rw [hx2] at hx
  obtain rfl := Option.some.inj hx
  rw [hd, sendL, if_neg (by omega), if_neg (by omega), shift_succ hx2]
theorem sendL_nil (k : Nat) (d p side : Int) : sendL [] k d p side = ⟨p + d, false, -1, 0⟩ := rfl
theorem sendL_ahead {l : List Rng} {k : Nat} (h : k < l.length) (d p side : Int) (hp : p < (nth l k).a) : sendL (l.drop k) k d p side = ⟨p + d, false, -1, 0⟩ := by
 obtain ⟨x, hx, hd⟩ := drop_getR h
 rw [nth_some hx] at hp
 rw [hd, sendL, if_pos hp]
theorem sendL_in {l : List Rng} {k : Nat} (h : k < l.length) (d p side : Int) (h1 : ¬ p < (nth l k).a) (h2 : p <= (nth l k).a + (nth l k).o) : sendL (l.drop k) k d p side = spotR (nth l k) k d p side := by
 obtain ⟨x, hx, hd⟩ := drop_getR h
 rw [nth_some hx] at h1 h2 ⊢
 rw [hd, sendL, if_neg h1, if_pos h2]
def OnlyP (b : Nat) (W W' : World) : Prop := W.heap.size <= W'.heap.size /\ ∀ k, k < W.heap.size -> k ≠ b -> W'.heap[k]? = W.heap[k]?
theorem OnlyP.of_below {b : Nat} {W W' : World} (h : Below W.heap.size W W') : OnlyP b W W' := ⟨h.size, fun k hk _ => h.block k hk⟩
theorem OnlyP.set {b : Nat} {W W' : World} (h : OnlyP b W W') (j : Nat) (v : Value) : OnlyP b W (W'.setCell ⟨b, j, none⟩ v) := ⟨by simpa using h.1, fun k hk hn => (Below.heap_setCell W' _ v k hn).trans (h.2 k hk hn)⟩
theorem OnlyP.keeps {b B : Nat} {W W' : World} (h : OnlyP b W W') {c : Array Value} {t : TypeId} (hb : W.heap[b]? = some (.cells c t (0, 0))) : KeepsFrom B W W' := ⟨h.1, fun k ob _ hk ho => by
 rw [h.2 k (Array.getElem?_eq_some_iff.1 hk).1 (fun e => by subst e; rw [hb] at hk; cases hk; cases ho)]
 exact hk⟩
def noR : Option Obj -> Nat -> Prop := fun _ _ => False
theorem OnlyP.kp {b n₀ m b' : Nat} {W W' : World} (h : OnlyP b W W') (h1 : n₀ <= b) (h2 : b < m) : KpP n₀ m b' noR W W' := ⟨h.1, fun k c t fr hk hn _ => h.2 k (Array.getElem?_eq_some_iff.1 hk).1 (by omega), fun _ h => h.elim⟩
def SendI (l : List Rng) (p side : Int) (len : Nat) (w : World) (pre : List (Fin len)) (W : World) : Prop :=
 W.heap[w.heap.size]? = some (.cells #[.int .i64 p] 3 (0, 0)) /\ W.heap[w.heap.size + 1]? = some (.cells #[.int .i64 side] 3 (0, 0)) /\ W.heap[w.heap.size + 1 + 1]? = some (.cells #[.int .i64 0, .bool false, .int .i64 0, .int .i64 0] 72 (0, 0)) /\ W.heap[w.heap.size + 1 + 1 + 1]? = some (.cells #[.int .i64 (mv l pre)] 3 (0, 0)) /\ went l p pre /\ Below w.heap.size w W
def SendX (l : List Rng) (p side : Int) (len : Nat) (w : World) (c : Code) (pre : List (Fin len)) (W : World) : Prop :=
 ∃ pre' i, pre = pre' ++ [i] /\ went l p pre' /\ Below w.heap.size w W ∧
  ((c = .exit 0 /\ p < (nth l i.val).a /\ W.heap[w.heap.size]? = some (.cells #[.int .i64 p] 3 (0, 0)) /\ W.heap[w.heap.size + 1 + 1]? = some (.cells #[.int .i64 0, .bool false, .int .i64 0, .int .i64 0] 72 (0, 0)) /\ W.heap[w.heap.size + 1 + 1 + 1]? = some (.cells #[.int .i64 (mv l pre')] 3 (0, 0))) ∨
   (c = .ret /\ ¬ p < (nth l i.val).a /\ p <= (nth l i.val).a + (nth l i.val).o /\ W.heap[w.heap.size + 1 + 1]? = some (.cells #[.int .i64 (spotR (nth l i.val) (i.val : Int) (shiftL (l.take i.val)) p side).at', .bool (spotR (nth l i.val) (i.val : Int) (shiftL (l.take i.val)) p side).gone, .int .i64 (spotR (nth l i.val) (i.val : Int) (shiftL (l.take i.val)) p side).inn, .int .i64 (spotR (nth l i.val) (i.val : Int) (shiftL (l.take i.val)) p side).off] 72 (0, 0))))
theorem grown_cells {B : Nat} {W W' : World} {row : Option Nat} (hg : W.grownBy W' row) (hr : ∀ r, row = some r -> B <= r /\ ∃ o : Obj, W.heap[r]? = some o /\ o.isCells = false) {k : Nat} {c : Array Value} {t : TypeId} (hk : W.heap[k]? = some (.cells c t (0, 0))) : W'.heap[k]? = some (.cells c t (0, 0)) :=
 (hg.block k (Array.getElem?_eq_some_iff.1 hk).1 (fun e => by
  obtain ⟨_, ob, h1, h2⟩ := hr k e.symm
  rw [hk] at h1
  cases h1
  cases h2)).trans hk
theorem grown_belowP {n B : Nat} {w W W' : World} {row : Option Nat} (hb : Below n w W) (hg : W.grownBy W' row) (hr : ∀ r, row = some r -> B <= r /\ ∃ o : Obj, W.heap[r]? = some o /\ o.isCells = false) (hn : n <= B) (hs : n <= W.heap.size) : Below n w W' :=
 hb.grown hg hs (fun k e => by have := (hr k e).1; omega)
set_option maxRecDepth 100000 in
set_option maxHeartbeats 4000000 in
theorem send_calls (a : Option Addr) (len cap : Nat) (l : List Rng) (p side : Int) (w : World) (hl : Rngs w a len l) (hr : right l = true) (hp : withinP p = true) :
  Calls Tryz.prog 62 #[.slice a len cap, .int .i64 p, .int .i64 side] w fun e w' => e = .returned (spotV (sendL l 0 0 p side)) /\ Below w.heap.size w w' := by
 have hp' := (within_iff p).1 hp
 have hlen : len <= 4 := by have := (right_len hr).1; rw [hl.1] at this; exact this
 have hbd : ∀ i : Fin len, ((0 <= (nth l i.val).a /\ (nth l i.val).a <= 65536) /\ (0 <= (nth l i.val).o /\ (nth l i.val).o <= 65536) /\ (0 <= (nth l i.val).n /\ (nth l i.val).n <= 65536)) /\ (-262144 <= shiftL (l.take i.val) /\ shiftL (l.take i.val) <= 262144) /\ shiftL (l.take (i.val + 1)) = shiftL (l.take i.val) + (nth l i.val).n - (nth l i.val).o := fun i => by
  have hx := nth_at (l := l) (k := i.val) (by rw [hl.1]; exact i.2)
  have := rightL_all (right_len hr).2 _ (List.mem_of_getElem? hx)
  exact ⟨⟨this.1, this.2.1, this.2.2.1⟩, shift_take hr _, shift_succ hx⟩
 have HBD : Hid (∀ i : Fin len, ((0 <= (nth l i.val).a /\ (nth l i.val).a <= 65536) /\ (0 <= (nth l i.val).o /\ (nth l i.val).o <= 65536) /\ (0 <= (nth l i.val).n /\ (nth l i.val).n <= 65536)) /\ (-262144 <= shiftL (l.take i.val) /\ shiftL (l.take i.val) <= 262144) /\ shiftL (l.take (i.val + 1)) = shiftL (l.take i.val) + (nth l i.val).n - (nth l i.val).o) := hbd
 have HMV : Hid (-262144 <= shiftL l /\ shiftL l <= 262144) := by
  have := shift_take hr len
  rwa [List.take_of_length_le (Nat.le_of_eq hl.1)] at this
 have HSW : Hid (∀ k, k <= len -> went l p ((List.finRange len).take k) -> sendL l 0 0 p side = sendL (l.drop k) k (shiftL (l.take k)) p side) := fun k hk hw => send_went hl.1 hr p side k hk hw
 have HLL : Hid (l.length = len) := hl.1
 clear hbd
 -- the world where the loop begins
 obtain ⟨w5, hw5⟩ : ∃ w5, ((((w.alloc (.cells #[.int .i64 p] 3)).alloc (.cells #[.int .i64 side] 3)).alloc (.cells #[.int .i64 0, .bool false, .int .i64 0, .int .i64 0] 72)).alloc (.cells #[.int .i64 0] 3)).alloc (.cells #[.slice a len cap] 38) = w5 := ⟨_, rfl⟩
 have hs5 : w5.heap.size = w.heap.size + 5 := by rw [<- hw5]; simp
 have hb5 : Below w.heap.size w w5 := by rw [<- hw5]; exact (((((Below.refl _ w).alloc (Nat.le_refl _) _).alloc (by simp) _).alloc (by simp; omega) _).alloc (by simp; omega) _).alloc (by simp; omega) _
 obtain ⟨m0, m1, m2, m3, m4⟩ := laid5 w (.cells #[.int .i64 p] 3) (.cells #[.int .i64 side] 3) (.cells #[.int .i64 0, .bool false, .int .i64 0, .int .i64 0] 72) (.cells #[.int .i64 0] 3) (.cells #[.slice a len cap] 38)
 rw [hw5] at m0 m1 m2 m3 m4
 have HW5 : Hid (((((w.alloc (.cells #[.int .i64 p] 3)).alloc (.cells #[.int .i64 side] 3)).alloc (.cells #[.int .i64 0, .bool false, .int .i64 0, .int .i64 0] 72)).alloc (.cells #[.int .i64 0] 3)).alloc (.cells #[.slice a len cap] 38) = w5) := hw5
 have hI0 : SendI l p side len w [] w5 := ⟨m0, m1, m2, m3, by simp [went], hb5⟩
 have hown : OwnFrom w5.heap.size (SendI l p side len w) := by
  rintro pre W W' row ⟨i0, i1, i2, i3, i4, i5⟩ hg hrr
  exact ⟨grown_cells hg hrr i0, grown_cells hg hrr i1, grown_cells hg hrr i2, grown_cells hg hrr i3, i4, grown_belowP i5 hg hrr (by omega) i5.size⟩
 have hownX : ∀ c, OwnFrom w5.heap.size (SendX l p side len w c) := by
  rintro c pre W W' row ⟨pre', i, h1, h2, h3, h4⟩ hg hrr
  refine ⟨pre', i, h1, h2, grown_belowP h3 hg hrr (by omega) h3.size, ?_⟩
  rcases h4 with ⟨j1, j2, j3, j4, j5⟩ | ⟨j1, j2, j3, j4⟩
  ·exact .inl ⟨j1, j2, grown_cells hg hrr j3, grown_cells hg hrr j4, grown_cells hg hrr j5⟩
  ·exact .inr ⟨j1, j2, j3, grown_cells hg hrr j4⟩
 have HL : Hid (Rngs w a len l) := hl
 clear hw5 m0 m1 m2 m3 hl
 refine (callsIn_wide (n := 6)).1 ?_
 refine callsIn_of_wp_marks Tryz.func62 rfl trivial ?_ rfl
 simp only [Tryz.ntmps62, List.size_toArray, List.length_cons, List.length_nil, Nat.reduceAdd, Nat.reduceSub, Array.replicate_succ, Array.replicate_zero, List.push_toArray, List.append_toArray, List.nil_append, List.cons_append]
 have h30 : Fence.wide.fn 92 := trivial
 have h37 : Fence.wide.fn 94 := trivial
 gi_wp2_with (gi_at_call 92; refine (parts_in Fence.wide 5 trivial rfl _ _ _ _).mono ?_; rintro e w' ⟨rfl, rfl⟩)
 rw [HW5.out]
 refine wpIn_rangeFunc_ownH rfl (by omega) (gf := 120) (lb := #[.pointer (some ⟨w.heap.size + 1 + 1 + 1 + 1, 0, none⟩)]) rfl trivial (enters_of Tryz.func120 (by kernel_rfl) rfl)
  (encs := stepP l (N := len)) (Kp := KpP w.heap.size (w.heap.size + 1 + 1 + 1 + 1) (w.heap.size + 1 + 1 + 1) noR) (S := fun ys => ys = List.finRange len) (Sp := fun pre => pre <+: List.finRange len) (N := len) (w0 := w5)
  (fun li J Jx W hW hJ _ hY h0 => parts1_in Fence.wide 5 trivial rfl (by omega) li (w.heap.size + 1 + 1 + 1 + 1) w.heap.size (w.heap.size + 1 + 1 + 1) noR a len cap l hr hlen J Jx W hJ hY ((hW.block _ (by omega)).trans m4) (by omega) (by omega) (fun _ h => h.elim) (HL.out.below (hb5.trans (hW.mono hb5.size))) (fun h b o e => (HL.out.cells h e).1) h0)
  (fun h k => h.trans k) (fun W li o o' hl h1 h2 h3 => KpP.put o' h1 h2 (by omega)) (Below.refl _ _) (fun _ => rfl)
  (SendI l p side len w) (SendX l p side len w) hown hownX hI0
  (fun i a' W => ∃ Bx, a' = { tmps := #[.slice a len cap, .int .i64 p, .int .i64 side, undef, .pointer (some ⟨w.heap.size, 0, none⟩), .pointer (some ⟨w.heap.size + 1, 0, none⟩), .pointer (some ⟨w.heap.size + 1 + 1, 0, none⟩), .pointer (some ⟨w.heap.size + 1 + 1 + 1, 0, none⟩), .pointer (some ⟨Bx, 0, none⟩), .slice a len cap, .func (.func 120) #[] #[.pointer (some ⟨w.heap.size + 1 + 1 + 1 + 1, 0, none⟩)], .agg #[.int .i64 (nth l i.val).a, .int .i64 (nth l i.val).o, .int .i64 (nth l i.val).n, .int .i64 (i.val : Int), .int .i64 (shiftL (l.take i.val))], undef, undef, undef, undef, undef, undef, undef, undef, undef, undef, undef, undef, undef, undef, undef, undef, undef, undef, undef, undef, undef, undef, undef, undef, undef, undef, undef], defers := [] } /\ W.heap[Bx]? = some (.cells #[.int .i64 (nth l i.val).a, .int .i64 (nth l i.val).o, .int .i64 (nth l i.val).n, .int .i64 (i.val : Int), .int .i64 (shiftL (l.take i.val))] 153 (0, 0))) ?hax ?assign ?body ?done ?stop
 case hax =>
  rintro i a' _ W W' row ⟨Bx, h1, h2⟩ hg hrr
  exact ⟨Bx, h1, grown_cells hg hrr h2⟩
 case assign =>
  rintro li pre i W K hi hK
  have hK' := hK
  unfold stepP partV
  gi_wp2
  refine hK _ _ ((KeepsOthers.alloc _ _).from _) ?_ ?_ ⟨W.heap.size, rfl, World.alloc_heap_new W _⟩
  ·exact ⟨by simp, fun k c t fr hk _ _ => Below.heap_alloc W _ _ (Array.getElem?_eq_some_iff.1 hk).1, fun _ h => h.elim⟩
  ·exact hown.alloc _ hi
 case body =>
  rintro li pre i a' W hli ⟨r, hrec⟩ ⟨i0, i1, i2, i3, i4, i5⟩ ⟨Bx, rfl, hbx⟩ hlt
  obtain ⟨⟨⟨x1, x2⟩, ⟨x3, x4⟩, ⟨x5, x6⟩⟩, ⟨x7, x8⟩, x9⟩ := HBD.out i
  have HE : Hid (∀ X, Calls Tryz.prog 93 #[partV (nth l i.val) (i.val : Int) (shiftL (l.take i.val))] X fun e w' => e = .returned (.int .i64 ((nth l i.val).a + (nth l i.val).o)) /\ Below X.heap.size X w') := fun X => end_calls _ _ _ X (by unfold Small; omega) (by unfold Small; omega)
  have HSP : Hid (∀ X, Calls Tryz.prog 94 #[partV (nth l i.val) (i.val : Int) (shiftL (l.take i.val)), .int .i64 p, .int .i64 side] X fun e w' => e = .returned (spotV (spotR (nth l i.val) (i.val : Int) (shiftL (l.take i.val)) p side)) /\ Below X.heap.size X w') := fun X => spot_calls _ _ _ _ _ X (by unfold Small; omega) (by unfold Small; omega) (by unfold Small; omega) (by unfold Small; omega) (by unfold Small; omega)
  have hn0 : w.heap.size + 1 + 1 + 1 < W.heap.size := (Array.getElem?_eq_some_iff.1 i3).1
  have hwB : w.heap.size <= W.heap.size := i5.size
  have hbxl : Bx < W.heap.size := (Array.getElem?_eq_some_iff.1 hbx).1
  have HKW : Hid (∀ X, Below W.heap.size W X -> X.cell? ⟨Bx, 0, none⟩ = some (.int .i64 (nth l i.val).a) /\ X.cell? ⟨Bx, 1, none⟩ = some (.int .i64 (nth l i.val).o) /\ X.cell? ⟨Bx, 2, none⟩ = some (.int .i64 (nth l i.val).n) /\ X.cell? ⟨Bx, 3, none⟩ = some (.int .i64 (i.val : Int)) /\ X.cell? ⟨Bx, 4, none⟩ = some (.int .i64 (shiftL (l.take i.val))) /\ X.cell? ⟨w.heap.size, 0, none⟩ = some (.int .i64 p)) := fun X hX => by
   obtain ⟨e0, e1, e2, e3, e4⟩ := cells5 ((hX.block _ hbxl).trans hbx)
   exact ⟨e0, e1, e2, e3, e4, (cells1 ((hX.block _ (by omega)).trans i0)).1⟩
  have HEXIT : Hid (p < (nth l i.val).a -> KeepsFrom w5.heap.size W W /\ SendX l p side len w (.exit 0) (pre ++ [i]) W) := fun h => ⟨KeepsFrom.refl _ _, pre, i, rfl, i4, i5, .inl ⟨rfl, h, i0, i2, i3⟩⟩
  have HRET : Hid (∀ X, Below W.heap.size W X -> ¬ p < (nth l i.val).a -> p <= (nth l i.val).a + (nth l i.val).o -> X.heap[w.heap.size + 1 + 1]? = some (.cells #[.int .i64 0, .bool false, .int .i64 0, .int .i64 0] 72 (0, 0)) /\ X.cell? ⟨w.heap.size + 1, 0, none⟩ = some (.int .i64 side) /\ ∀ v0 v1 v2 v3, v0 = .int .i64 (spotR (nth l i.val) (i.val : Int) (shiftL (l.take i.val)) p side).at' -> v1 = .bool (spotR (nth l i.val) (i.val : Int) (shiftL (l.take i.val)) p side).gone -> v2 = .int .i64 (spotR (nth l i.val) (i.val : Int) (shiftL (l.take i.val)) p side).inn -> v3 = .int .i64 (spotR (nth l i.val) (i.val : Int) (shiftL (l.take i.val)) p side).off →
    KeepsFrom w5.heap.size W ((((X.setCell ⟨w.heap.size + 1 + 1, 0, none⟩ v0).setCell ⟨w.heap.size + 1 + 1, 1, none⟩ v1).setCell ⟨w.heap.size + 1 + 1, 2, none⟩ v2).setCell ⟨w.heap.size + 1 + 1, 3, none⟩ v3) /\ SendX l p side len w .ret (pre ++ [i]) ((((X.setCell ⟨w.heap.size + 1 + 1, 0, none⟩ v0).setCell ⟨w.heap.size + 1 + 1, 1, none⟩ v1).setCell ⟨w.heap.size + 1 + 1, 2, none⟩ v2).setCell ⟨w.heap.size + 1 + 1, 3, none⟩ v3)) := by
   intro X hX h1 h2
   have e2 := (hX.block _ (show w.heap.size + 1 + 1 < W.heap.size by omega)).trans i2
   refine ⟨e2, (cells1 ((hX.block _ (show w.heap.size + 1 < W.heap.size by omega)).trans i1)).1, ?_⟩
   rintro v0 v1 v2 v3 rfl rfl rfl rfl
   refine ⟨((((OnlyP.of_below (b := w.heap.size + 1 + 1) hX).set _ _).set _ _).set _ _).set _ _ |>.keeps i2, pre, i, rfl, i4, below4 (i5.trans (hX.mono hwB)) (by omega) .., .inr ⟨rfl, h1, h2, put4 e2 ..⟩⟩
  have HNORM : Hid (∀ X v, Below W.heap.size W X -> ¬ p < (nth l i.val).a -> ¬ p <= (nth l i.val).a + (nth l i.val).o -> v = .int .i64 (shiftL (l.take i.val) + (nth l i.val).n - (nth l i.val).o) -> X.cell? ⟨w.heap.size + 1 + 1 + 1, 0, none⟩ = some (.int .i64 (mv l pre)) /\ X.frozen? ⟨w.heap.size + 1 + 1 + 1, 0, none⟩ = false ∧
    (KeepsFrom w5.heap.size W (X.setCell ⟨w.heap.size + 1 + 1 + 1, 0, none⟩ v) /\ KpP w.heap.size (w.heap.size + 1 + 1 + 1 + 1) (w.heap.size + 1 + 1 + 1) noR W (X.setCell ⟨w.heap.size + 1 + 1 + 1, 0, none⟩ v) /\ SendI l p side len w (pre ++ [i]) (X.setCell ⟨w.heap.size + 1 + 1 + 1, 0, none⟩ v))) := by
   rintro X v hX h1 h2 rfl
   have hO := (OnlyP.of_below (b := w.heap.size + 1 + 1 + 1) hX).set 0 (.int .i64 (shiftL (l.take i.val) + (nth l i.val).n - (nth l i.val).o))
   have e3 := (hX.block _ (show w.heap.size + 1 + 1 + 1 < W.heap.size by omega)).trans i3
   refine ⟨(cells1 e3).1, (cells1 e3).2, hO.keeps i3, hO.kp (by omega) (by omega), (hO.2 _ (by omega) (by omega)).trans i0, (hO.2 _ (by omega) (by omega)).trans i1, (hO.2 _ (by omega) (by omega)).trans i2, ?_, ?_, ?_⟩
   ·rw [heap_setCell_same X _ 0 _ _ _ e3, mv_snoc, x9]
    rfl
   ·intro j hj
    rcases List.mem_append.1 hj with hj | hj
    ·exact i4 j hj
    ·obtain rfl : j = i := by simpa using hj
     omega
   ·exact (i5.trans (hX.mono hwB)).setCell (p := ⟨w.heap.size + 1 + 1 + 1, 0, none⟩) (by show w.heap.size <= w.heap.size + 1 + 1 + 1; omega) _
  clear hs5 i0 i1 i2 i3 i4 hown hownX hI0 hbx m4
  unfold spotV partV at *
  obtain ⟨k0, k1, k2, k3, k4, k5⟩ := HKW.out W (Below.refl _ _)
  generalize (nth l i.val).a = xa at *
  generalize (nth l i.val).o = xo at *
  generalize (nth l i.val).n = xn at *
  generalize shiftL (l.take i.val) = d at *
  clear x9
  have hsum : IntKind.i64.wrap (xa + xo) = xa + xo := by rw [IntKind.wrap_i64]; omega
  by_cases c1 : p < xa
  ·gi_wp2
   exact HEXIT.out c1
  ·by_cases c2 : p <= xa + xo
   ·gi_wp2_with fail
    refine wpIn_round_held (S := fun X => Below W.heap.size W X) mixed (by kernel_rfl) (Below.refl _ _).drew (fun hS => ?_)
    refine takeF 0 (some 17) (v := ?_) hS ?_ ?_
    rotate_left
    ·intro w hSw
     obtain ⟨k0, k1, k2, k3, k4, k5⟩ := HKW.out _ hSw
     go_simp
     with_reducible rfl
    try simp only [lay4]
    refine takeF 1 (some 18) (v := ?_) hS ?_ ?_
    rotate_left
    ·intro w hSw
     obtain ⟨k0, k1, k2, k3, k4, k5⟩ := HKW.out _ hSw
     go_simp
     with_reducible rfl
    try simp only [lay4]
    refine callD 2 (by kernel_rfl) rfl (fun K hK => ?_)
    rw [if_pos (by rfl)]
    go_simp
    refine (HE.out _).mono ?_
    rintro e X ⟨rfl, bX⟩
    have hX := hS.trans (bX.mono hS.size)
    refine hK.out _ _ hX (fun _ => ?_)
    clear hK K
    try simp only [lay4]
    refine takeF 3 (some 20) (v := ?_) hX ?_ ?_
    rotate_left
    ·intro w hSw
     go_simp
     with_reducible rfl
    try simp only [lay4]
    refine wpAnyH_done (by kernel_rfl) ?_ _
    dsimp only [onlyN]
    obtain ⟨k0, k1, k2, k3, k4, k5⟩ := HKW.out X hX
    obtain ⟨_, r1, _⟩ := HRET.out X hX c1 c2
    gi_wp2_with (gi_at_call 94; refine (CallsIn.inRound li (callsIn_wide.2 (HSP.out _))).mono ?_; rintro e X2 ⟨rfl, bX2⟩; have hX2 := hX.trans (bX2.mono hX.size); obtain ⟨r2, _, r3⟩ := HRET.out X2 hX2 c1 c2; obtain ⟨j0, j1, j2, j3⟩ := cells4 r2; have f0 : ∀ j, X2.frozen? ⟨w.heap.size + 1 + 1, j, none⟩ = false := fun j => frozen_block r2)
    exact r3 _ _ _ _ rfl rfl rfl rfl
   ·gi_wp2_with fail
    refine wpIn_round_held (S := fun X => Below W.heap.size W X) mixed (by kernel_rfl) (Below.refl _ _).drew (fun hS => ?_)
    refine takeF 0 (some 17) (v := ?_) hS ?_ ?_
    rotate_left
    ·intro w hSw
     obtain ⟨k0, k1, k2, k3, k4, k5⟩ := HKW.out _ hSw
     go_simp
     with_reducible rfl
    try simp only [lay4]
    refine takeF 1 (some 18) (v := ?_) hS ?_ ?_
    rotate_left
    ·intro w hSw
     obtain ⟨k0, k1, k2, k3, k4, k5⟩ := HKW.out _ hSw
     go_simp
     with_reducible rfl
    try simp only [lay4]
    refine callD 2 (by kernel_rfl) rfl (fun K hK => ?_)
    rw [if_pos (by rfl)]
    go_simp
    refine (HE.out _).mono ?_
    rintro e X ⟨rfl, bX⟩
    have hX := hS.trans (bX.mono hS.size)
    refine hK.out _ _ hX (fun _ => ?_)
    clear hK K
    try simp only [lay4]
    refine takeF 3 (some 20) (v := ?_) hX ?_ ?_
    rotate_left
    ·intro w hSw
     go_simp
     with_reducible rfl
    try simp only [lay4]
    refine wpAnyH_done (by kernel_rfl) ?_ _
    dsimp only [onlyN]
    obtain ⟨k0, k1, k2, k3, k4, k5⟩ := HKW.out X hX
    obtain ⟨q1, q2, q3⟩ := HNORM.out X _ hX c1 c2 rfl
    gi_wp2
    exact q3
 case done =>
  rintro D ys W hD rfl ⟨i0, i1, i2, i3, i4, i5⟩ hK
  have hfin := HSW.out len (Nat.le_refl _) (by rw [List.take_of_length_le (by simp)]; exact i4)
  have hmv := mv_take l len (Nat.le_refl len)
  rw [List.take_of_length_le (by simp)] at hmv
  rw [List.drop_eq_nil_of_le (Nat.le_of_eq HLL.out), sendL_nil, List.take_of_length_le (Nat.le_of_eq HLL.out)] at hfin
  rw [List.take_of_length_le (Nat.le_of_eq HLL.out)] at hmv
  rw [hmv] at i3
  have HF : Hid (sendL l 0 0 p side = ⟨p + shiftL l, false, -1, 0⟩) := hfin
  have hsh := HMV.out
  generalize shiftL l = d at *
  have e0 := (cells1 i0).1
  have e3 := (cells1 i3).1
  obtain ⟨j0, j1, j2, j3⟩ := cells4 i2
  have f0 : ∀ j, W.frozen? ⟨w.heap.size + 1 + 1, j, none⟩ = false := fun j => frozen_block i2
  have HEND : Hid (∀ v0 v1 v2 v3, (((((W.setCell ⟨w.heap.size + 1 + 1, 0, none⟩ v0).setCell ⟨w.heap.size + 1 + 1, 1, none⟩ v1).setCell ⟨w.heap.size + 1 + 1, 2, none⟩ v2).setCell ⟨w.heap.size + 1 + 1, 3, none⟩ v3)).heap[w.heap.size + 1 + 1]? = some (.cells #[v0, v1, v2, v3] 72 (0, 0)) /\ (((((W.setCell ⟨w.heap.size + 1 + 1, 0, none⟩ v0).setCell ⟨w.heap.size + 1 + 1, 1, none⟩ v1).setCell ⟨w.heap.size + 1 + 1, 2, none⟩ v2).setCell ⟨w.heap.size + 1 + 1, 3, none⟩ v3)).heap[D]? = some (.deferred (some [])) /\ Below w.heap.size w (((((W.setCell ⟨w.heap.size + 1 + 1, 0, none⟩ v0).setCell ⟨w.heap.size + 1 + 1, 1, none⟩ v1).setCell ⟨w.heap.size + 1 + 1, 2, none⟩ v2).setCell ⟨w.heap.size + 1 + 1, 3, none⟩ v3))) := fun v0 v1 v2 v3 => ⟨put4 i2 .., by
   have hne : D ≠ w.heap.size + 1 + 1 := by omega
   rw [Below.heap_setCell _ _ _ D hne, Below.heap_setCell _ _ _ D hne, Below.heap_setCell _ _ _ D hne, Below.heap_setCell _ _ _ D hne]
   exact hK, below4 i5 (by omega) ..⟩
  have HDD : Hid (w5.heap.size <= D) := hD
  have HS5 : Hid (w5.heap.size = w.heap.size + 5) := hs5
  clear i0 i1 i2 i3 i4 i5 hown hownX hI0 m4 hs5 hD hmv hfin hK
  gi_wp2
  obtain ⟨q1, q2, q3⟩ := HEND.out _ _ _ _
  refine ⟨by simp, .inl ⟨_, _, rfl, run_takeDeferred q2, ?_⟩⟩
  have hDD := HDD.out
  have hS5 := HS5.out
  exact ⟨_, results_cell_row rfl _ _ (w.heap.size + 1 + 1) 72 _ (0, 0) _ rfl ((World.putObj_heap_other (by omega)).trans q1) Tryz.underlying72 rfl sizeSpot, by rw [HF.out]; rfl, q3.trans (belowK_b (w := w) (Nat.le_refl _) _ D _ _ (by omega) q2 rfl rfl)⟩
 case stop =>
  rintro D c pre W hD hpre ⟨pre', i, rfl, hw, i5, hcs⟩ hK
  have hki : pre' = (List.finRange len).take i.val /\ i.val < len := by
   refine ⟨?_, i.2⟩
   have e := List.prefix_iff_eq_take.1 hpre
   rw [List.length_append, List.length_singleton] at e
   have hlt : pre'.length < len := by
    have := hpre.length_le
    simp at this
    omega
   rw [takeFin hlt] at e
   obtain ⟨e1, e2⟩ := List.append_inj' e rfl
   have e3 : i = ⟨pre'.length, hlt⟩ := by simpa using e2
   rw [e3]
   exact e1
  obtain ⟨rfl, hil⟩ := hki
  have hfin := HSW.out i.val (by omega) hw
  have hmv := mv_take l i.val (Nat.le_of_lt hil)
  obtain ⟨_, hsh, _⟩ := HBD.out i
  have hil' : i.val < l.length := by rw [HLL.out]; exact hil
  rcases hcs with ⟨rfl, g1, i0, i2, i3⟩ | ⟨rfl, g1, g2, i2⟩
  ·rw [sendL_ahead hil' _ _ _ g1] at hfin
   rw [hmv] at i3
   have HF : Hid (sendL l 0 0 p side = ⟨p + shiftL (l.take i.val), false, -1, 0⟩) := hfin
   generalize shiftL (l.take i.val) = d at *
   have e0 := (cells1 i0).1
   have e3 := (cells1 i3).1
   obtain ⟨j0, j1, j2, j3⟩ := cells4 i2
   have f0 : ∀ j, W.frozen? ⟨w.heap.size + 1 + 1, j, none⟩ = false := fun j => frozen_block i2
   have HEND : Hid (∀ v0 v1 v2 v3, (((((W.setCell ⟨w.heap.size + 1 + 1, 0, none⟩ v0).setCell ⟨w.heap.size + 1 + 1, 1, none⟩ v1).setCell ⟨w.heap.size + 1 + 1, 2, none⟩ v2).setCell ⟨w.heap.size + 1 + 1, 3, none⟩ v3)).heap[w.heap.size + 1 + 1]? = some (.cells #[v0, v1, v2, v3] 72 (0, 0)) /\ (((((W.setCell ⟨w.heap.size + 1 + 1, 0, none⟩ v0).setCell ⟨w.heap.size + 1 + 1, 1, none⟩ v1).setCell ⟨w.heap.size + 1 + 1, 2, none⟩ v2).setCell ⟨w.heap.size + 1 + 1, 3, none⟩ v3)).heap[D]? = some (.deferred (some [])) /\ Below w.heap.size w (((((W.setCell ⟨w.heap.size + 1 + 1, 0, none⟩ v0).setCell ⟨w.heap.size + 1 + 1, 1, none⟩ v1).setCell ⟨w.heap.size + 1 + 1, 2, none⟩ v2).setCell ⟨w.heap.size + 1 + 1, 3, none⟩ v3))) := fun v0 v1 v2 v3 => ⟨put4 i2 .., by
    have hne : D ≠ w.heap.size + 1 + 1 := by omega
    rw [Below.heap_setCell _ _ _ D hne, Below.heap_setCell _ _ _ D hne, Below.heap_setCell _ _ _ D hne, Below.heap_setCell _ _ _ D hne]
    exact hK, below4 i5 (by omega) ..⟩
   have HDD : Hid (w5.heap.size <= D) := hD
   have HS5 : Hid (w5.heap.size = w.heap.size + 5) := hs5
   clear i0 i2 i3 i5 hown hownX hI0 m4 hs5 hD hmv hfin hK hw hpre
   gi_wp2
   obtain ⟨q1, q2, q3⟩ := HEND.out _ _ _ _
   refine ⟨by simp, .inl ⟨_, _, rfl, run_takeDeferred q2, ?_⟩⟩
   have hDD := HDD.out
   have hS5 := HS5.out
   exact ⟨_, results_cell_row rfl _ _ (w.heap.size + 1 + 1) 72 _ (0, 0) _ rfl ((World.putObj_heap_other (by omega)).trans q1) Tryz.underlying72 rfl sizeSpot, by rw [HF.out]; rfl, q3.trans (belowK_b (w := w) (Nat.le_refl _) _ D _ _ (by omega) q2 rfl rfl)⟩
  ·rw [sendL_in hil' _ _ _ g1 g2] at hfin
   have HF : Hid (sendL l 0 0 p side = (spotR (nth l i.val) (i.val : Int) (shiftL (l.take i.val)) p side)) := hfin
   clear hown hownX hI0 m4 hmv hfin hw hpre
   gi_wp2
   refine ⟨by simp, .inl ⟨_, _, rfl, run_takeDeferred hK, ?_⟩⟩
   exact ⟨_, results_cell_row rfl _ _ (w.heap.size + 1 + 1) 72 _ (0, 0) _ rfl ((World.putObj_heap_other (by omega)).trans i2) Tryz.underlying72 rfl sizeSpot, by rw [HF.out]; rfl, i5.trans (belowK_b (w := w) (Nat.le_refl _) _ D _ _ (by omega) hK rfl rfl)⟩
end Go.Proofs.YtbkpehfaofhmaaaGreatDoor

/- DBP8RightF: pos.Right and the document's own Right at every slice of ranges: what they return; nothing that lay before is turned. -/
namespace Go.Proofs.YtbkpehfaofhmaaaGreatDoor
open Go.RowKit
set_option maxRecDepth 100000 in
set_option maxHeartbeats 2000000 in
theorem right_callsP (a : Option Addr) (len cap : Nat) (l : List Rng) (w : World) (hl : Rngs w a len l) (hz : len <= 9223372036854775807) :
  Calls Tryz.prog 60 #[.slice a len cap] w fun e w' => e = .returned (.bool (right l)) /\ Below w.heap.size w w' := by
 by_cases hlong : 4 < len
 ·rw [show right l = false from by unfold right; rw [hl.1, show decide (len <= 4) = false from by simpa using hlong]; rfl]
  go_enter Tryz.func60, Tryz.ntmps60
  go_wp2
  go_ret
  exact ⟨rfl, Below.refl _ _⟩
 ·have HC : Hid (right l = rightL l 0) := by show right l = _; unfold right; rw [hl.1, show decide (len <= 4) = true from by simp; omega]; rfl
  generalize hR : right l = R at *
  clear hR
  go_enter Tryz.func60, Tryz.ntmps60
  go_wp2
  go_loopw [3, 11] (fun u i w' => ∃ (k : Nat) (d : Int), k <= len /\ i = .int .i64 (k : Int) /\ u = .int .i64 d /\ 0 <= d /\ d <= 131072 /\ rightL (l.drop k) d = R /\ Below w.heap.size w w') (fun _ i _ => len - (intOf i).toNat)
  case atStart => exact ⟨0, 0, Nat.zero_le _, rfl, rfl, by omega, by omega, HC.out.symm, Below.refl _ _⟩
  case round =>
   obtain ⟨k, d, hk, rfl, rfl, d0, d1, hch, hB⟩ := hrel
   by_cases hlt : k < len
   ·obtain ⟨b, o, x, rfl, hbl, hx, hdr, hc⟩ := hl.range hlt
    obtain ⟨p0, p1, p2⟩ := hc wr hB
    rw [hdr, rightL] at hch
    clear hc hdr hx hl
    have c1 := fun W => within_calls x.a W
    have c2 := fun W => within_calls x.o W
    have c3 := fun W => within_calls x.n W
    have hr := rightR_iff x d
    unfold rightR at hch hr
    generalize withinP x.a = q1 at *
    generalize withinP x.o = q2 at *
    generalize withinP x.n = q3 at *
    obtain ⟨xa, xo, xn⟩ := x
    simp only at *
    have hBA : ∀ ob, Below w.heap.size w (wr.alloc ob) := fun ob => hB.alloc hB.size _
    cases q1
    ·have HD : Hid (R = false) := by show R = false; rw [<- hch]; rfl
     clear hch hr
     go_wp2_with fail
     refine (c1 _).mono ?_
     rintro e w' ⟨rfl, rfl⟩
     go_wp2
     go_ret
     exact ⟨by rw [HD.out]; rfl, hBA _⟩
    ·cases q2
     ·have HD : Hid (R = false) := by show R = false; rw [<- hch]; rfl
      clear hch hr
      go_wp2_with fail
      refine (c1 _).mono ?_
      rintro e w' ⟨rfl, rfl⟩
      go_wp2_with fail
      refine (c2 _).mono ?_
      rintro e w' ⟨rfl, rfl⟩
      go_wp2
      go_ret
      exact ⟨by rw [HD.out]; rfl, hBA _⟩
     ·cases q3
      ·have HD : Hid (R = false) := by show R = false; rw [<- hch]; rfl
       clear hch hr
       go_wp2_with fail
       refine (c1 _).mono ?_
       rintro e w' ⟨rfl, rfl⟩
       go_wp2_with fail
       refine (c2 _).mono ?_
       rintro e w' ⟨rfl, rfl⟩
       go_wp2_with fail
       refine (c3 _).mono ?_
       rintro e w' ⟨rfl, rfl⟩
       go_wp2
       go_ret
       exact ⟨by rw [HD.out]; rfl, hBA _⟩
      ·by_cases hd : d <= xa
       ·rw [show decide (d <= xa) = true from by simpa using hd] at hch hr
        obtain ⟨⟨r0, r1⟩, ⟨r2, r3⟩, ⟨r4, r5⟩, r6⟩ := hr.1 rfl
        have HD : Hid (rightL (l.drop (k + 1)) (xa + xo) = R) := by show _ = R; rw [<- hch]; rfl
        have hn : ¬ xa < d := by omega
        clear hch hr
        go_wp2_with fail
        refine (c1 _).mono ?_
        rintro e w' ⟨rfl, rfl⟩
        go_wp2_with fail
        refine (c2 _).mono ?_
        rintro e w' ⟨rfl, rfl⟩
        go_wp2_with fail
        refine (c3 _).mono ?_
        rintro e w' ⟨rfl, rfl⟩
        go_wp2
        go_roundw
        case rel => exact ⟨k + 1, xa + xo, by omega, rfl, rfl, by omega, by omega, HD.out, hBA _⟩
        case measure => simp [intOf]; omega
       ·rw [show decide (d <= xa) = false from by simpa using hd] at hch
        have HD : Hid (R = false) := by show R = false; rw [<- hch]; rfl
        have hn : xa < d := by omega
        clear hch hr
        go_wp2_with fail
        refine (c1 _).mono ?_
        rintro e w' ⟨rfl, rfl⟩
        go_wp2_with fail
        refine (c2 _).mono ?_
        rintro e w' ⟨rfl, rfl⟩
        go_wp2_with fail
        refine (c3 _).mono ?_
        rintro e w' ⟨rfl, rfl⟩
        go_wp2
        go_ret
        exact ⟨by rw [HD.out]; rfl, hBA _⟩
   ·obtain rfl : k = len := by omega
    rw [show l.drop k = [] from List.drop_eq_nil_of_le (by rw [hl.1]; exact Nat.le_refl _), rightL] at hch
    have HD : Hid (R = true) := hch.symm
    clear hch
    go_wp2
    go_ret
    exact ⟨by rw [HD.out]; rfl, hB⟩
end Go.Proofs.YtbkpehfaofhmaaaGreatDoor

/- DBP8MapF: pos.Map at every slice of ranges, place and side, and the law's own awake: what they return; nothing that lay before is turned. -/
namespace Go.Proofs.YtbkpehfaofhmaaaGreatDoor
open Go.RowKit
set_option maxRecDepth 100000 in
set_option maxHeartbeats 2000000 in
theorem map_calls (a : Option Addr) (len cap : Nat) (l : List Rng) (p side : Int) (w : World) (hl : Rngs w a len l) (hz : len <= 9223372036854775807) :
  Calls Tryz.prog 30 #[.slice a len cap, .int .i64 p, .int .i64 side] w fun e w' => e = .returned (.tuple #[spotV (mapA l p side), .int .i64 (mapE l p)]) /\ Below w.heap.size w w' := by
 obtain ⟨W1, hW1⟩ : ∃ W1, w.alloc (.cells #[.int .i64 0, .bool false, .int .i64 0, .int .i64 0] 72) = W1 := ⟨_, rfl⟩
 have hB0 : Below w.heap.size w W1 := by rw [<- hW1]; exact (Below.refl _ _).alloc (Nat.le_refl _) _
 have hs1 : w.heap.size < W1.heap.size := by rw [<- hW1]; simp
 have m0 : W1.heap[w.heap.size]? = some (.cells #[.int .i64 0, .bool false, .int .i64 0, .int .i64 0] 72 (0, 0)) := by rw [<- hW1]; exact World.alloc_heap_new w _
 have HX : Hid (∀ X, Below W1.heap.size W1 X -> X.heap[w.heap.size]? = some (.cells #[.int .i64 0, .bool false, .int .i64 0, .int .i64 0] 72 (0, 0)) /\ Rngs X a len l /\ Below w.heap.size w X) := fun X hX => ⟨(hX.block _ hs1).trans m0, hl.below (hB0.trans (hX.mono hB0.size)), hB0.trans (hX.mono hB0.size)⟩
 have HW1 : Hid (w.alloc (.cells #[.int .i64 0, .bool false, .int .i64 0, .int .i64 0] 72) = W1) := hW1
 have c1 := right_callsP a len cap l W1 (hl.below hB0) hz
 have c2 := fun X => within_calls p X
 have HS : Hid (∀ X, Below W1.heap.size W1 X -> right l = true -> withinP p = true -> Calls Tryz.prog 62 #[.slice a len cap, .int .i64 p, .int .i64 side] X fun e w' => e = .returned (spotV (sendL l 0 0 p side)) /\ Below X.heap.size X w') := fun X hX h1 h2 => send_calls a len cap l p side X (HX.out X hX).2.1 h1 h2
 unfold mapA mapE
 generalize right l = q1 at *
 generalize withinP p = q2 at *
 clear hW1 m0 hl
 cases q1 with
 | false =>
  rw [if_pos rfl, if_pos rfl]
  clear c2 HS
  go_enter Tryz.func30, Tryz.ntmps30
  go_wp2_with fail
  rw [HW1.out]
  refine c1.mono ?_
  rintro e X ⟨rfl, hX⟩
  obtain ⟨r0, _, hB⟩ := HX.out X hX
  obtain ⟨j0, j1, j2, j3⟩ := cells4 r0
  have f0 : ∀ j, X.frozen? ⟨w.heap.size, j, none⟩ = false := fun j => frozen_block r0
  go_wp2
  refine bodyPost_ret (results_row_tmp rfl _ _ w.heap.size 72 _ (0, 0) _ rfl (put4 r0 _ _ _ _) Tryz.underlying72 rfl sizeSpot) rfl ?_
  exact ⟨rfl, below4 hB (Nat.le_refl _) ..⟩
 | true =>
  rw [if_neg (show ¬ (true = false) from by decide), if_neg (show ¬ (true = false) from by decide)]
  cases q2 with
  | false =>
   rw [if_pos rfl, if_pos rfl]
   clear HS
   go_enter Tryz.func30, Tryz.ntmps30
   go_wp2_with fail
   rw [HW1.out]
   refine c1.mono ?_
   rintro e X ⟨rfl, hX⟩
   obtain ⟨r0, _, hB⟩ := HX.out X hX
   obtain ⟨j0, j1, j2, j3⟩ := cells4 r0
   have f0 : ∀ j, X.frozen? ⟨w.heap.size, j, none⟩ = false := fun j => frozen_block r0
   go_wp2_with fail
   refine (c2 _).mono ?_
   rintro e X' ⟨rfl, rfl⟩
   go_wp2
   refine bodyPost_ret (results_row_tmp rfl _ _ w.heap.size 72 _ (0, 0) _ rfl (put4 r0 _ _ _ _) Tryz.underlying72 rfl sizeSpot) rfl ?_
   exact ⟨rfl, below4 hB (Nat.le_refl _) ..⟩
  | true =>
   rw [if_neg (show ¬ (true = false) from by decide), if_neg (show ¬ (true = false) from by decide)]
   unfold spotV at *
   generalize sendL l 0 0 p side = s at *
   obtain ⟨s0, s1, s2, s3⟩ := s
   simp only at *
   go_enter Tryz.func30, Tryz.ntmps30
   go_wp2_with fail
   rw [HW1.out]
   refine c1.mono ?_
   rintro e X ⟨rfl, hX⟩
   go_wp2_with fail
   refine (c2 _).mono ?_
   rintro e X' ⟨rfl, hXX⟩
   rw [hXX]
   clear hXX
   go_wp2_with fail
   refine (HS.out X hX trivial trivial).mono ?_
   rintro e Y ⟨rfl, hXY⟩
   have hY := hX.trans (hXY.mono hX.size)
   obtain ⟨r0, _, hB⟩ := HX.out Y hY
   obtain ⟨j0, j1, j2, j3⟩ := cells4 r0
   have f0 : ∀ j, Y.frozen? ⟨w.heap.size, j, none⟩ = false := fun j => frozen_block r0
   go_wp2
   refine bodyPost_ret (results_row_tmp rfl _ _ w.heap.size 72 _ (0, 0) _ rfl (put4 r0 _ _ _ _) Tryz.underlying72 rfl sizeSpot) rfl ?_
   exact ⟨rfl, below4 hB (Nat.le_refl _) ..⟩
end Go.Proofs.YtbkpehfaofhmaaaGreatDoor
