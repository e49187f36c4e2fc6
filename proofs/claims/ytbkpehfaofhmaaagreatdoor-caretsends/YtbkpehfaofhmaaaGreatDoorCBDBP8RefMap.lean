/-
  PROVED HERE: the document's own Map at every slice of ranges, place and side: what it returns; nothing that lay before is turned.
-/
import Derived.Test.YtbkpehfaofhmaaaGreatDoorCB3
import Derived.Test.YtbkpehfaofhmaaaGreatDoorCBDBP8RefR
import Derived.Test.YtbkpehfaofhmaaaGreatDoorCB10
namespace Go.Proofs.YtbkpehfaofhmaaaGreatDoor
open Go.RowKit
theorem cells3P {w : World} {B : Nat} {a b c : Value} {t : TypeId} (h : w.heap[B]? = some (.cells #[a, b, c] t (0, 0))) : w.cell? ⟨B, 0, none⟩ = some a /\ w.cell? ⟨B, 1, none⟩ = some b /\ w.cell? ⟨B, 2, none⟩ = some c := by
 have hc := fun j => cell_of_row w B j _ _ _ h
 exact ⟨hc 0, hc 1, hc 2⟩
def apart (l : List Rng) (p : Int) (k : Nat) : Prop := ∀ j, j < k -> p < (nth l j).a \/ (nth l j).a + (nth l j).o < p
theorem apart_succ {l : List Rng} {p : Int} {k : Nat} (h : apart l p k) (hk : p < (nth l k).a \/ (nth l k).a + (nth l k).o < p) : apart l p (k + 1) := fun j hj => by
 rcases Nat.lt_or_ge j k with h1 | h1
 ·exact h j h1
 ·obtain rfl : j = k := by omega
  exact hk
theorem rightL_before {l : List Rng} : ∀ {e : Int} {j k : Nat}, rightL l e = true -> j < k -> k < l.length -> (nth l j).a + (nth l j).o <= (nth l k).a := by
 induction l with
 | nil => intro e j k _ _ h; simp at h
 | cons x r ih =>
  intro e j k h hjk hk
  obtain ⟨h1, h2⟩ := rightL_cons h
  cases k with
  | zero => omega
  | succ k =>
   have hk' : k < r.length := by simpa using hk
   cases j with
   | zero =>
    have hm : nth r k ∈ r := List.mem_of_getElem? (nth_at hk')
    have := rightL_all h2 _ hm
    exact this.2.2.2
   | succ j => exact ih h2 (by omega) hk'
theorem went_of {l : List Rng} {p : Int} {k len : Nat} (_hl : l.length = len) (_hk : k <= len) (h : ∀ j, j < k -> (nth l j).a + (nth l j).o < p) : went l p ((List.finRange len).take k) := by
 intro i hi
 obtain ⟨j, hj, e⟩ := List.mem_iff_getElem.1 hi
 rw [List.length_take] at hj
 rw [List.getElem_take] at e
 simp at e
 subst e
 exact h j (by omega)
theorem send_hit {l : List Rng} {k : Nat} (hr : right l = true) (hk : k < l.length) {p : Int} (side : Int) (ha : apart l p k) (h1 : ¬ p < (nth l k).a) (h2 : p <= (nth l k).a + (nth l k).o) : sendL l 0 0 p side = spotR (nth l k) k (shiftL (l.take k)) p side := by
 rw [send_went rfl hr p side k (Nat.le_of_lt hk) (went_of rfl (Nat.le_of_lt hk) (fun j hj => by
  have h3 := rightL_before (right_len hr).2 hj hk
  have h4 := rightL_all (right_len hr).2 _ (List.mem_of_getElem? (nth_at (l := l) (k := j) (by omega)))
  rcases ha j hj with h | h <;> omega)), sendL_in hk _ _ _ h1 h2]
theorem send_miss {l : List Rng} {n : Nat} (hr : right l = true) (hn : n <= l.length) {p : Int} (side : Int) (ha : apart l p l.length) (h1 : ∀ j, j < n -> (nth l j).a < p) (h2 : n < l.length -> ¬ (nth l n).a < p) : sendL l 0 0 p side = ⟨p + shiftL (l.take n), false, -1, 0⟩ := by
 rw [send_went rfl hr p side n hn (went_of rfl hn (fun j hj => by
  have := h1 j hj
  rcases ha j (by omega) with h | h <;> omega))]
 rcases Nat.lt_or_ge n l.length with h | h
 ·refine sendL_ahead h _ _ _ ?_
  have h3 := h2 h
  have h4 := rightL_all (right_len hr).2 _ (List.mem_of_getElem? (nth_at (l := l) (k := n) h))
  rcases ha n h with h | h <;> omega
 ·rw [List.drop_eq_nil_of_le h, sendL_nil]
theorem spot_A {x : Rng} {k d p side : Int} (h0 : x.o = 0) (h1 : p = x.a) : spotR x k d p side = ⟨if side < 0 then x.a + d else x.a + d + x.n, false, -1, 0⟩ := by
 unfold spotR goal inner outer
 rw [h0, h1]
 by_cases hs : side < 0 <;> simp [hs]
theorem spot_B {x : Rng} {k d p side : Int} (h0 : 0 < x.o) (h1 : p = x.a) : spotR x k d p side = ⟨x.a + d, false, if side < 0 then -1 else k, if side < 0 then 0 else p - x.a⟩ := by
 unfold spotR goal inner outer
 rw [h1]
 have e1 : ¬ x.o = 0 := by omega
 have e2 : ¬ x.a = x.a + x.o := by omega
 by_cases hs : side < 0 <;> simp [hs, e1, e2]
theorem spot_C {x : Rng} {k d p side : Int} (h0 : 0 < x.o) (h1 : p = x.a + x.o) : spotR x k d p side = ⟨x.a + d + x.n, false, if side < 0 then k else -1, if side < 0 then p - x.a else 0⟩ := by
 unfold spotR goal inner outer
 rw [h1]
 have e1 : ¬ x.o = 0 := by omega
 have e2 : ¬ x.a + x.o = x.a := by omega
 by_cases hs : side < 0 <;> simp [hs, e1, e2]
theorem spot_D {x : Rng} {k d p side : Int} (h0 : x.a < p) (h1 : p < x.a + x.o) : spotR x k d p side = ⟨if side < 0 then x.a + d else x.a + d + x.n, true, k, p - x.a⟩ := by
 unfold spotR goal inner outer
 have e1 : ¬ p = x.a := by omega
 have e2 : ¬ p = x.a + x.o := by omega
 have e3 : (decide (x.a < p) && decide (p < x.a + x.o)) = true := by simp; omega
 rw [e3]
 by_cases hs : side < 0 <;> simp [hs, e1, e2]
set_option maxRecDepth 100000 in
set_option maxHeartbeats 8000000 in
theorem refmap_calls (a : Option Addr) (len cap : Nat) (l : List Rng) (p side : Int) (w : World) (hl : Rngs w a len l) (hz : len <= 9223372036854775807) :
  Calls Tryz.prog 31 #[.slice a len cap, .int .i64 p, .int .i64 side] w fun e w' => e = .returned (.tuple #[spotV (mapA l p side), .int .i64 (mapE l p)]) /\ Below w.heap.size w w' := by
 obtain ⟨W1, hW1⟩ : ∃ W1, w.alloc (.cells #[.int .i64 0, .bool false, .int .i64 0, .int .i64 0] 72) = W1 := ⟨_, rfl⟩
 have hB0 : Below w.heap.size w W1 := by rw [<- hW1]; exact (Below.refl _ _).alloc (Nat.le_refl _) _
 have m0 : W1.heap[w.heap.size]? = some (.cells #[.int .i64 0, .bool false, .int .i64 0, .int .i64 0] 72 (0, 0)) := by rw [<- hW1]; exact World.alloc_heap_new w _
 have hs1 : W1.heap.size = w.heap.size + 1 := by rw [<- hW1]; simp
 have HX : Hid (∀ X, Below W1.heap.size W1 X -> X.heap[w.heap.size]? = some (.cells #[.int .i64 0, .bool false, .int .i64 0, .int .i64 0] 72 (0, 0)) /\ Rngs X a len l /\ Below w.heap.size w X) := fun X hX => ⟨(hX.block _ (by omega)).trans m0, hl.below (hB0.trans (hX.mono hB0.size)), hB0.trans (hX.mono hB0.size)⟩
 have HW1 : Hid (w.alloc (.cells #[.int .i64 0, .bool false, .int .i64 0, .int .i64 0] 72) = W1) := hW1
 have HS1 : Hid (W1.heap.size = w.heap.size + 1) := hs1
 have hl1 := hl.below hB0
 have c1 := refright_calls a len cap l W1 hl1 hz
 have HLL : Hid (l.length = len) := hl.1
 unfold mapA mapE
 cases hr : right l with
 | false =>
  rw [if_pos rfl, if_pos rfl]
  rw [hr] at c1
  clear hW1 m0 hl hl1 hs1
  go_enter Tryz.func31, Tryz.ntmps31
  go_wp2_with fail
  rw [HW1.out]
  refine c1.mono ?_
  rintro e X ⟨rfl, hX⟩
  obtain ⟨r0, _, hB⟩ := HX.out X hX
  obtain ⟨j0, j1, j2, j3⟩ := cells4 r0
  have f0 : ∀ j, X.frozen? ⟨w.heap.size, j, none⟩ = false := fun j => frozen_block r0
  go_wp2
  refine bodyPost_ret (results_row_tmp rfl _ _ w.heap.size 72 _ (0, 0) _ rfl (put4 r0 _ _ _ _) Tryz.underlying72 rfl sizeSpot) rfl ?_
  exact ⟨rfl, below4 hB (Nat.le_refl _) ..⟩
 | true =>
  rw [if_neg (show ¬ (true = false) from by decide), if_neg (show ¬ (true = false) from by decide)]
  rw [hr] at c1
  have hlen : len <= 4 := by have := (right_len hr).1; rw [hl.1] at this; exact this
  have HSH : Hid (∀ (X : World) (n : Nat), Below W1.heap.size W1 X -> n <= len -> Calls Tryz.prog 64 #[.slice a len cap, .int .i64 (n : Int)] X fun e w' => e = .returned (.int .i64 (shiftL (l.take n))) /\ Below X.heap.size X w') := fun X n hX hn => shift_calls a len cap l n X (HX.out X hX).2.1 hr hn
  have HBD : Hid (∀ k, -262144 <= shiftL (l.take k) /\ shiftL (l.take k) <= 262144) := fun k => shift_take hr k
  by_cases hp0 : p < 0
  ·have hw : withinP p = false := by simp [withinP]; omega
   rw [if_pos hw, if_pos hw]
   clear hW1 m0 hl hl1 hs1
   go_enter Tryz.func31, Tryz.ntmps31
   go_wp2_with fail
   rw [HW1.out]
   refine c1.mono ?_
   rintro e X ⟨rfl, hX⟩
   obtain ⟨r0, _, hB⟩ := HX.out X hX
   obtain ⟨j0, j1, j2, j3⟩ := cells4 r0
   have f0 : ∀ j, X.frozen? ⟨w.heap.size, j, none⟩ = false := fun j => frozen_block r0
   go_wp2
   refine bodyPost_ret (results_row_tmp rfl _ _ w.heap.size 72 _ (0, 0) _ rfl (put4 r0 _ _ _ _) Tryz.underlying72 rfl sizeSpot) rfl ?_
   exact ⟨rfl, below4 hB (Nat.le_refl _) ..⟩
  ·by_cases hp1 : 65536 < p
   ·have hw : withinP p = false := by simp [withinP]; omega
    rw [if_pos hw, if_pos hw]
    clear hW1 m0 hl hl1 hs1
    go_enter Tryz.func31, Tryz.ntmps31
    go_wp2_with fail
    rw [HW1.out]
    refine c1.mono ?_
    rintro e X ⟨rfl, hX⟩
    obtain ⟨r0, _, hB⟩ := HX.out X hX
    obtain ⟨j0, j1, j2, j3⟩ := cells4 r0
    have f0 : ∀ j, X.frozen? ⟨w.heap.size, j, none⟩ = false := fun j => frozen_block r0
    go_wp2
    refine bodyPost_ret (results_row_tmp rfl _ _ w.heap.size 72 _ (0, 0) _ rfl (put4 r0 _ _ _ _) Tryz.underlying72 rfl sizeSpot) rfl ?_
    exact ⟨rfl, below4 hB (Nat.le_refl _) ..⟩
   ·have hw : withinP p = true := by simp [withinP]; omega
    rw [if_neg (by rw [hw]; decide), if_neg (by rw [hw]; decide)]
    clear hw
    have HHIT : Hid (∀ k, k < len -> apart l p k -> (nth l k).a <= p -> p <= (nth l k).a + (nth l k).o -> sendL l 0 0 p side = spotR (nth l k) k (shiftL (l.take k)) p side) := fun k hk h1 h2 h3 => send_hit hr (by rw [HLL.out]; exact hk) side h1 (by omega) h3
    have HMISS : Hid (∀ n, n <= len -> apart l p len -> (∀ j, j < n -> (nth l j).a < p) -> (n < len -> p <= (nth l n).a) -> sendL l 0 0 p side = ⟨p + shiftL (l.take n), false, -1, 0⟩) := fun n hn h1 h2 h3 => send_miss hr (by rw [HLL.out]; exact hn) side (by rw [HLL.out]; exact h1) h2 (by rw [HLL.out]; exact fun h => by have := h3 h; omega)
    have HRG : Hid (∀ (X : World) (k : Nat), Below W1.heap.size W1 X -> k < len -> ∃ b o, a = some ⟨b, o, none⟩ /\ b < X.heap.size /\ X.cell? ⟨b, o + k * 3, none⟩ = some (.int .i64 (nth l k).a) /\ X.cell? ⟨b, o + k * 3 + 1, none⟩ = some (.int .i64 (nth l k).o) /\ X.cell? ⟨b, o + k * 3 + 2, none⟩ = some (.int .i64 (nth l k).n) /\ (0 <= (nth l k).a /\ (nth l k).a <= 65536) /\ (0 <= (nth l k).o /\ (nth l k).o <= 65536) /\ (0 <= (nth l k).n /\ (nth l k).n <= 65536)) := fun X k hX hk => by
     obtain ⟨b, o, x, e, hb, hx, _, hc⟩ := (HX.out X hX).2.1.range hk
     obtain ⟨c0, c1, c2⟩ := hc X (Below.refl _ _)
     have h4 := rightL_all (right_len hr).2 _ (List.mem_of_getElem? hx)
     rw [nth_some hx]
     exact ⟨b, o, e, hb, c0, c1, c2, h4.1, h4.2.1, h4.2.2.1⟩
    generalize hSS : sendL l 0 0 p side = SS at *
    clear hSS
    clear hW1 m0 hl hl1 hs1 hr
    go_enter Tryz.func31, Tryz.ntmps31
    go_wp2_with fail
    rw [HW1.out]
    refine c1.mono ?_
    rintro e X ⟨rfl, hX⟩
    clear c1
    go_wp2_with fail
    go_loopw [8] (fun i w' => ∃ k : Nat, k <= len /\ i = .int .i64 (k : Int) /\ apart l p k /\ Below W1.heap.size W1 w') (fun i _ => len - (intOf i).toNat)
    case atStart => exact ⟨0, Nat.zero_le _, rfl, (fun j hj => by omega), hX⟩
    case round =>
     obtain ⟨k, hk, rfl, hap, hB⟩ := hrel
     by_cases hlt : k < len
     ·obtain ⟨b, o, rfl, hbl, p0, p1, p2, ⟨b1, b2⟩, ⟨b3, b4⟩, ⟨b5, b6⟩⟩ := HRG.out wr k hB hlt
      have HAP : Hid ((p < (nth l k).a \/ (nth l k).a + (nth l k).o < p) -> apart l p (k + 1)) := fun h => apart_succ hap h
      have HIT : Hid ((nth l k).a <= p -> p <= (nth l k).a + (nth l k).o -> SS = spotR (nth l k) k (shiftL (l.take k)) p side) := fun h1 h2 => HHIT.out k hlt hap h1 h2
      have hdk := HBD.out k
      have HSK : Hid (∀ X, Below W1.heap.size W1 X -> Calls Tryz.prog 64 #[.slice (some ⟨b, o, none⟩) len cap, .int .i64 (k : Int)] X fun e w' => e = .returned (.int .i64 (shiftL (l.take k))) /\ Below X.heap.size X w') := fun X hX => HSH.out X k hX hk
      generalize shiftL (l.take k) = d at *
      generalize hxx : nth l k = x at *
      obtain ⟨xa, xo, xn⟩ := x
      simp only at *
      clear hxx hap
      obtain ⟨V1, hV1⟩ : ∃ V1, wr.alloc (.cells #[.int .i64 xa, .int .i64 xo, .int .i64 xn] 117) = V1 := ⟨_, rfl⟩
      have hBV : Below wr.heap.size wr V1 := by rw [<- hV1]; exact (Below.refl _ _).alloc (Nat.le_refl _) _
      have mV : V1.heap[wr.heap.size]? = some (.cells #[.int .i64 xa, .int .i64 xo, .int .i64 xn] 117 (0, 0)) := by rw [<- hV1]; exact World.alloc_heap_new wr _
      have hsV : V1.heap.size = wr.heap.size + 1 := by rw [<- hV1]; simp
      have hB1 : Below W1.heap.size W1 V1 := hB.trans (hBV.mono hB.size)
      have HV1 : Hid (wr.alloc (.cells #[.int .i64 xa, .int .i64 xo, .int .i64 xn] 117) = V1) := hV1
      have HSV : Hid (V1.heap.size = wr.heap.size + 1 /\ W1.heap.size <= wr.heap.size) := ⟨hsV, hB.size⟩
      have HKV : Hid (∀ X, Below V1.heap.size V1 X -> (X.cell? ⟨wr.heap.size, 0, none⟩ = some (.int .i64 xa) /\ X.cell? ⟨wr.heap.size, 1, none⟩ = some (.int .i64 xo) /\ X.cell? ⟨wr.heap.size, 2, none⟩ = some (.int .i64 xn)) /\ Below W1.heap.size W1 X) := fun X hX => ⟨cells3P ((hX.block _ (by omega)).trans mV), hB1.trans (hX.mono hB1.size)⟩
      have hse : IntKind.i64.wrap (xa + xo) = xa + xo := by rw [IntKind.wrap_i64]; omega
      have hsd : IntKind.i64.wrap (xa + d) = xa + d := by rw [IntKind.wrap_i64]; omega
      have hsp : IntKind.i64.wrap (p - xa) = p - xa := by rw [IntKind.wrap_i64]; omega
      have hsn : IntKind.i64.wrap (xa + d + xn) = xa + d + xn := by rw [IntKind.wrap_i64]; omega
      clear hV1 hsV HSH HHIT HMISS HRG
      by_cases g1 : p < xa
      ·go_wp2_with fail
       go_roundw
       case rel => exact ⟨k + 1, by omega, by go_num, HAP.out (.inl g1), by rw [HV1.out]; exact hB1⟩
       case measure => simp [intOf]; omega
      ·by_cases g2 : xa + xo < p
       ·go_wp2_with fail
        go_roundw
        case rel => exact ⟨k + 1, by omega, by go_num, HAP.out (.inr g2), by rw [HV1.out]; exact hB1⟩
        case measure => simp [intOf]; omega
       ·have hit := HIT.out (by omega) (by omega)
        have HHH : Hid (SS = spotR ⟨xa, xo, xn⟩ k d p side) := hit
        clear hit HIT HAP mV
        obtain ⟨⟨q0, q1, q2⟩, _⟩ := HKV.out V1 (Below.refl _ _)
        by_cases h0 : xo = 0
        ·have HE : Hid (xo = 0 /\ p = xa) := ⟨h0, by omega⟩
         have ho : ¬ 0 < xo := by omega
         have ne1 : (p == xa) = true := by simp; omega
         have ne2 : (p == xa + xo) = true := by simp; omega
         have hgt : ¬ xa < p := by omega
         have hd1 : decide (xa < p) = false := by simpa using hgt
         have hd2 : decide (p < xa + xo) = false := by simp; omega
         clear h0
         by_cases hs : side < 0
         ·have HV : Hid (spotR ⟨xa, xo, xn⟩ k d p side = ⟨xa + d, false, -1, 0⟩) := by
           show spotR _ _ _ _ _ = _
           rw [spot_A (by first | exact HE.out.1 | exact ho) (by first | exact HE.out.2 | exact nl)]
           simp [hs]
          go_wp2_with fail
          rw [HV1.out]
          refine wp_region_held_drew (S := fun X => Below V1.heap.size V1 X) mixed (Below.refl _ _).drew (fun hS => ?_)
          generalize V1.drew = X0 at hS ⊢
          refine takeF 0 (some 68) (v := ?_) hS ?_ ?_
          rotate_left
          ·intro w hSw
           go_simp
           with_reducible rfl
          try simp only [lay4]
          refine takeF 1 (some 69) (v := ?_) hS ?_ ?_
          rotate_left
          ·intro w hSw
           obtain ⟨⟨q0, q1, q2⟩, _⟩ := HKV.out _ hSw
           go_simp
           with_reducible rfl
          try simp only [lay4]
          refine takeF 2 (some 70) (v := ?_) hS ?_ ?_
          rotate_left
          ·intro w hSw
           try go_simp
           with_reducible rfl
          try simp only [lay4]
          refine takeF 3 (some 71) (v := ?_) hS ?_ ?_
          rotate_left
          ·intro w hSw
           try go_simp
           with_reducible rfl
          try simp only [lay4]
          refine takeF 6 (some 74) (v := ?_) hS ?_ ?_
          rotate_left
          ·intro w hSw
           try go_simp
           with_reducible rfl
          try simp only [lay4]
          refine takeF 7 (some 75) (v := ?_) hS ?_ ?_
          rotate_left
          ·intro w hSw
           go_simp
           with_reducible rfl
          try simp only [lay4]
          refine takeF 8 (some 76) (v := ?_) hS ?_ ?_
          rotate_left
          ·intro w hSw
           obtain ⟨⟨q0, q1, q2⟩, _⟩ := HKV.out _ hSw
           go_simp
           with_reducible rfl
          try simp only [lay4]
          refine takeF 9 (some 77) (v := ?_) hS ?_ ?_
          rotate_left
          ·intro w hSw
           go_simp
           try simp only [hd1, hd2]
           with_reducible rfl
          try simp only [lay4]
          refine takeF 15 (some 83) (v := ?_) hS ?_ ?_
          rotate_left
          ·intro w hSw
           try go_simp
           with_reducible rfl
          try simp only [lay4]
          refine takeF 16 (some 84) (v := ?_) hS ?_ ?_
          rotate_left
          ·intro w hSw
           try go_simp
           with_reducible rfl
          try simp only [lay4]
          refine takeF 17 (some 85) (v := ?_) hS ?_ ?_
          rotate_left
          ·intro w hSw
           go_simp
           with_reducible rfl
          try simp only [lay4]
          refine takeF 18 (some 86) (v := ?_) hS ?_ ?_
          rotate_left
          ·intro w hSw
           obtain ⟨⟨q0, q1, q2⟩, _⟩ := HKV.out _ hSw
           go_simp
           with_reducible rfl
          try simp only [lay4]
          refine takeF 19 (some 87) (v := ?_) hS ?_ ?_
          rotate_left
          ·intro w hSw
           go_simp
           try simp only [hd1, hd2]
           with_reducible rfl
          try simp only [lay4]
          refine wpAnyH_ready (rs := [4, 21]) (by kernel_rfl) (by simp) (AllReadyH.cons rfl (fun K hK => ?_) ( AllReadyH.cons rfl (fun K hK => ?_) (AllReadyH.nil)))
          ·rw [if_pos (by rfl)]
           go_simp
           refine (HSK.out _ (HKV.out _ hS).2).mono ?_
           rintro e X1 ⟨rfl, b1⟩
           have hS1 := hS.trans (b1.mono hS.size)
           refine hK.out _ _ hS1 (fun _ => ?_)
           clear hK K
           try simp only [lay4]
           refine takeF 5 (some 73) (v := ?_) hS1 ?_ ?_
           rotate_left
           ·intro w hSw
            go_simp
            try simp only [hd1, hd2]
            with_reducible rfl
           try simp only [lay4]
           refine takeF 10 (some 78) (v := ?_) hS1 ?_ ?_
           rotate_left
           ·intro w hSw
            try go_simp
            with_reducible rfl
           try simp only [lay4]
           refine takeD 11 (some 79) (v := undef) rfl rfl (by kernel_rfl) (by kernel_rfl) (by kernel_rfl) (fun _ _ _ h => h) (Or.inr ⟨by rfl, rfl⟩) hS1 ?_
           try simp only [lay4]
           refine takeD 12 (some 80) (v := undef) rfl rfl (by kernel_rfl) (by kernel_rfl) (by kernel_rfl) (fun _ _ _ h => h) (Or.inr ⟨by rfl, rfl⟩) hS1 ?_
           try simp only [lay4]
           refine takeD 13 (some 81) (v := undef) rfl rfl (by kernel_rfl) (by kernel_rfl) (by kernel_rfl) (fun _ _ _ h => h) (Or.inr ⟨by rfl, rfl⟩) hS1 ?_
           try simp only [lay4]
           refine takeF 14 (some 82) (v := ?_) hS1 ?_ ?_
           rotate_left
           ·intro w hSw
            go_simp
            with_reducible rfl
           try simp only [lay4]
           refine takeF 20 (some 88) (v := ?_) hS1 ?_ ?_
           rotate_left
           ·intro w hSw
            go_simp
            with_reducible rfl
           try simp only [lay4]
           refine callD 21 (by kernel_rfl) rfl (fun K hK => ?_)
           rw [if_pos (by rfl)]
           go_simp
           have hS2 := hS1.alloc hS1.size (.cells #[.int .i64 0, .bool false, .int .i64 0, .int .i64 0] 72)
           have m7 := World.alloc_heap_new X1 (.cells #[.int .i64 0, .bool false, .int .i64 0, .int .i64 0] 72)
           have hN : V1.heap.size <= (X1).heap.size := hS1.size
           refine hK.out _ _ hS2 (fun _ => ?_)
           generalize (X1).alloc (.cells #[.int .i64 0, .bool false, .int .i64 0, .int .i64 0] 72) = X2 at *
           clear hK K
           try simp only [lay4]
           refine callD 22 (by kernel_rfl) rfl (fun K hK => ?_)
           rw [if_pos (by rfl)]
           refine wp_store_row 72 _ _ rfl (X1).heap.size #[.int .i64 (xa + d), .bool false, .int .i64 (k : Int), .int .i64 (p - xa)] rfl rfl 72 _ m7 sizeSpot rfl (ones4 ..) ?_
           have hV := below_setRow hS2 hN #[.int .i64 (xa + d), .bool false, .int .i64 (k : Int), .int .i64 (p - xa)]
           have mV := setRow_heap _ _ _ #[.int .i64 (xa + d), .bool false, .int .i64 (k : Int), .int .i64 (p - xa)] _ _ m7
           refine hK.out _ _ hV (fun _ => ?_)
           generalize World.setRow X2 (X1).heap.size #[.int .i64 (xa + d), .bool false, .int .i64 (k : Int), .int .i64 (p - xa)] = V at *
           generalize (X1).heap.size = N at *
           clear hK K
           try simp only [Act.put, List.setIfInBounds_toArray]
           refine wpAnyH_done (by kernel_rfl) ?_ _
           obtain ⟨⟨q0, q1, q2⟩, hVW⟩ := HKV.out V hV
           obtain ⟨r0, _, hBY⟩ := HX.out V hVW
           have sV := HSV.out
           have s1 := HS1.out
           have l3 : N ≠ w.heap.size := by omega
           have l4 : w.heap.size <= N := by omega
           have l5 : N ≠ wr.heap.size := by omega
           obtain ⟨j0, j1, j2, j3⟩ := cells4 r0
           obtain ⟨i0, i1, i2, i3⟩ := cells4 mV
           have f0 : ∀ j, V.frozen? ⟨w.heap.size, j, none⟩ = false := fun j => frozen_block r0
           have f1 : ∀ j, V.frozen? ⟨N, j, none⟩ = false := fun j => frozen_block mV
           clear sV s1
           go_wp2
           refine bodyPost_ret (results_row_tmp rfl _ _ w.heap.size 72 _ (0, 0) _ rfl (put4 (((Below.heap_setCell _ _ _ _ (fun e => l3 e.symm)).trans (Below.heap_setCell _ _ _ _ (fun e => l3 e.symm))).trans r0) _ _ _ _) Tryz.underlying72 rfl sizeSpot) rfl ?_
           exact ⟨by rw [HHH.out, HV.out]; rfl, below4 ((hBY.setCell (p := ⟨N, 2, none⟩) l4 _).setCell (p := ⟨N, 3, none⟩) l4 _) (Nat.le_refl _) ..⟩
          ·rw [if_pos (by rfl)]
           go_simp
           have hS1 := hS.alloc hS.size (.cells #[.int .i64 0, .bool false, .int .i64 0, .int .i64 0] 72)
           have m7 := World.alloc_heap_new X0 (.cells #[.int .i64 0, .bool false, .int .i64 0, .int .i64 0] 72)
           have hN : V1.heap.size <= (X0).heap.size := hS.size
           refine hK.out _ _ hS1 (fun _ => ?_)
           generalize (X0).alloc (.cells #[.int .i64 0, .bool false, .int .i64 0, .int .i64 0] 72) = X1 at *
           clear hK K
           try simp only [lay4]
           refine callD 4 (by kernel_rfl) rfl (fun K hK => ?_)
           rw [if_pos (by rfl)]
           go_simp
           refine (HSK.out _ (HKV.out _ hS1).2).mono ?_
           rintro e X2 ⟨rfl, b2⟩
           have hS2 := hS1.trans (b2.mono hS1.size)
           replace m7 := (b2.block _ (Array.getElem?_eq_some_iff.1 m7).1).trans m7
           refine hK.out _ _ hS2 (fun _ => ?_)
           clear hK K
           try simp only [lay4]
           refine takeF 5 (some 73) (v := ?_) hS2 ?_ ?_
           rotate_left
           ·intro w hSw
            go_simp
            try simp only [hd1, hd2]
            with_reducible rfl
           try simp only [lay4]
           refine takeF 10 (some 78) (v := ?_) hS2 ?_ ?_
           rotate_left
           ·intro w hSw
            try go_simp
            with_reducible rfl
           try simp only [lay4]
           refine takeD 11 (some 79) (v := undef) rfl rfl (by kernel_rfl) (by kernel_rfl) (by kernel_rfl) (fun _ _ _ h => h) (Or.inr ⟨by rfl, rfl⟩) hS2 ?_
           try simp only [lay4]
           refine takeD 12 (some 80) (v := undef) rfl rfl (by kernel_rfl) (by kernel_rfl) (by kernel_rfl) (fun _ _ _ h => h) (Or.inr ⟨by rfl, rfl⟩) hS2 ?_
           try simp only [lay4]
           refine takeD 13 (some 81) (v := undef) rfl rfl (by kernel_rfl) (by kernel_rfl) (by kernel_rfl) (fun _ _ _ h => h) (Or.inr ⟨by rfl, rfl⟩) hS2 ?_
           try simp only [lay4]
           refine takeF 14 (some 82) (v := ?_) hS2 ?_ ?_
           rotate_left
           ·intro w hSw
            go_simp
            with_reducible rfl
           try simp only [lay4]
           refine takeF 20 (some 88) (v := ?_) hS2 ?_ ?_
           rotate_left
           ·intro w hSw
            go_simp
            with_reducible rfl
           try simp only [lay4]
           refine callD 22 (by kernel_rfl) rfl (fun K hK => ?_)
           rw [if_pos (by rfl)]
           refine wp_store_row 72 _ _ rfl (X0).heap.size #[.int .i64 (xa + d), .bool false, .int .i64 (k : Int), .int .i64 (p - xa)] rfl rfl 72 _ m7 sizeSpot rfl (ones4 ..) ?_
           have hV := below_setRow hS2 hN #[.int .i64 (xa + d), .bool false, .int .i64 (k : Int), .int .i64 (p - xa)]
           have mV := setRow_heap _ _ _ #[.int .i64 (xa + d), .bool false, .int .i64 (k : Int), .int .i64 (p - xa)] _ _ m7
           refine hK.out _ _ hV (fun _ => ?_)
           generalize World.setRow X2 (X0).heap.size #[.int .i64 (xa + d), .bool false, .int .i64 (k : Int), .int .i64 (p - xa)] = V at *
           generalize (X0).heap.size = N at *
           clear hK K
           try simp only [Act.put, List.setIfInBounds_toArray]
           refine wpAnyH_done (by kernel_rfl) ?_ _
           obtain ⟨⟨q0, q1, q2⟩, hVW⟩ := HKV.out V hV
           obtain ⟨r0, _, hBY⟩ := HX.out V hVW
           have sV := HSV.out
           have s1 := HS1.out
           have l3 : N ≠ w.heap.size := by omega
           have l4 : w.heap.size <= N := by omega
           have l5 : N ≠ wr.heap.size := by omega
           obtain ⟨j0, j1, j2, j3⟩ := cells4 r0
           obtain ⟨i0, i1, i2, i3⟩ := cells4 mV
           have f0 : ∀ j, V.frozen? ⟨w.heap.size, j, none⟩ = false := fun j => frozen_block r0
           have f1 : ∀ j, V.frozen? ⟨N, j, none⟩ = false := fun j => frozen_block mV
           clear sV s1
           go_wp2
           refine bodyPost_ret (results_row_tmp rfl _ _ w.heap.size 72 _ (0, 0) _ rfl (put4 (((Below.heap_setCell _ _ _ _ (fun e => l3 e.symm)).trans (Below.heap_setCell _ _ _ _ (fun e => l3 e.symm))).trans r0) _ _ _ _) Tryz.underlying72 rfl sizeSpot) rfl ?_
           exact ⟨by rw [HHH.out, HV.out]; rfl, below4 ((hBY.setCell (p := ⟨N, 2, none⟩) l4 _).setCell (p := ⟨N, 3, none⟩) l4 _) (Nat.le_refl _) ..⟩
         ·have HV : Hid (spotR ⟨xa, xo, xn⟩ k d p side = ⟨xa + d + xn, false, -1, 0⟩) := by
           show spotR _ _ _ _ _ = _
           rw [spot_A (by first | exact HE.out.1 | exact ho) (by first | exact HE.out.2 | exact nl)]
           simp [hs]
          go_wp2_with fail
          rw [HV1.out]
          refine wp_region_held_drew (S := fun X => Below V1.heap.size V1 X) mixed (Below.refl _ _).drew (fun hS => ?_)
          generalize V1.drew = X0 at hS ⊢
          refine takeF 0 (some 68) (v := ?_) hS ?_ ?_
          rotate_left
          ·intro w hSw
           go_simp
           with_reducible rfl
          try simp only [lay4]
          refine takeF 1 (some 69) (v := ?_) hS ?_ ?_
          rotate_left
          ·intro w hSw
           obtain ⟨⟨q0, q1, q2⟩, _⟩ := HKV.out _ hSw
           go_simp
           with_reducible rfl
          try simp only [lay4]
          refine takeF 2 (some 70) (v := ?_) hS ?_ ?_
          rotate_left
          ·intro w hSw
           try go_simp
           with_reducible rfl
          try simp only [lay4]
          refine takeF 3 (some 71) (v := ?_) hS ?_ ?_
          rotate_left
          ·intro w hSw
           try go_simp
           with_reducible rfl
          try simp only [lay4]
          refine takeF 6 (some 74) (v := ?_) hS ?_ ?_
          rotate_left
          ·intro w hSw
           try go_simp
           with_reducible rfl
          try simp only [lay4]
          refine takeF 7 (some 75) (v := ?_) hS ?_ ?_
          rotate_left
          ·intro w hSw
           go_simp
           with_reducible rfl
          try simp only [lay4]
          refine takeF 8 (some 76) (v := ?_) hS ?_ ?_
          rotate_left
          ·intro w hSw
           obtain ⟨⟨q0, q1, q2⟩, _⟩ := HKV.out _ hSw
           go_simp
           with_reducible rfl
          try simp only [lay4]
          refine takeF 9 (some 77) (v := ?_) hS ?_ ?_
          rotate_left
          ·intro w hSw
           go_simp
           try simp only [hd1, hd2]
           with_reducible rfl
          try simp only [lay4]
          refine takeF 15 (some 83) (v := ?_) hS ?_ ?_
          rotate_left
          ·intro w hSw
           try go_simp
           with_reducible rfl
          try simp only [lay4]
          refine takeF 16 (some 84) (v := ?_) hS ?_ ?_
          rotate_left
          ·intro w hSw
           try go_simp
           with_reducible rfl
          try simp only [lay4]
          refine takeF 17 (some 85) (v := ?_) hS ?_ ?_
          rotate_left
          ·intro w hSw
           go_simp
           with_reducible rfl
          try simp only [lay4]
          refine takeF 18 (some 86) (v := ?_) hS ?_ ?_
          rotate_left
          ·intro w hSw
           obtain ⟨⟨q0, q1, q2⟩, _⟩ := HKV.out _ hSw
           go_simp
           with_reducible rfl
          try simp only [lay4]
          refine takeF 19 (some 87) (v := ?_) hS ?_ ?_
          rotate_left
          ·intro w hSw
           go_simp
           try simp only [hd1, hd2]
           with_reducible rfl
          try simp only [lay4]
          refine wpAnyH_ready (rs := [4, 21]) (by kernel_rfl) (by simp) (AllReadyH.cons rfl (fun K hK => ?_) ( AllReadyH.cons rfl (fun K hK => ?_) (AllReadyH.nil)))
          ·rw [if_pos (by rfl)]
           go_simp
           refine (HSK.out _ (HKV.out _ hS).2).mono ?_
           rintro e X1 ⟨rfl, b1⟩
           have hS1 := hS.trans (b1.mono hS.size)
           refine hK.out _ _ hS1 (fun _ => ?_)
           clear hK K
           try simp only [lay4]
           refine takeF 5 (some 73) (v := ?_) hS1 ?_ ?_
           rotate_left
           ·intro w hSw
            go_simp
            try simp only [hd1, hd2]
            with_reducible rfl
           try simp only [lay4]
           refine takeF 10 (some 78) (v := ?_) hS1 ?_ ?_
           rotate_left
           ·intro w hSw
            try go_simp
            with_reducible rfl
           try simp only [lay4]
           refine takeD 11 (some 79) (v := undef) rfl rfl (by kernel_rfl) (by kernel_rfl) (by kernel_rfl) (fun _ _ _ h => h) (Or.inr ⟨by rfl, rfl⟩) hS1 ?_
           try simp only [lay4]
           refine takeD 12 (some 80) (v := undef) rfl rfl (by kernel_rfl) (by kernel_rfl) (by kernel_rfl) (fun _ _ _ h => h) (Or.inr ⟨by rfl, rfl⟩) hS1 ?_
           try simp only [lay4]
           refine takeD 13 (some 81) (v := undef) rfl rfl (by kernel_rfl) (by kernel_rfl) (by kernel_rfl) (fun _ _ _ h => h) (Or.inr ⟨by rfl, rfl⟩) hS1 ?_
           try simp only [lay4]
           refine takeF 14 (some 82) (v := ?_) hS1 ?_ ?_
           rotate_left
           ·intro w hSw
            go_simp
            with_reducible rfl
           try simp only [lay4]
           refine takeF 20 (some 88) (v := ?_) hS1 ?_ ?_
           rotate_left
           ·intro w hSw
            go_simp
            with_reducible rfl
           try simp only [lay4]
           refine callD 21 (by kernel_rfl) rfl (fun K hK => ?_)
           rw [if_pos (by rfl)]
           go_simp
           have hS2 := hS1.alloc hS1.size (.cells #[.int .i64 0, .bool false, .int .i64 0, .int .i64 0] 72)
           have m7 := World.alloc_heap_new X1 (.cells #[.int .i64 0, .bool false, .int .i64 0, .int .i64 0] 72)
           have hN : V1.heap.size <= (X1).heap.size := hS1.size
           refine hK.out _ _ hS2 (fun _ => ?_)
           generalize (X1).alloc (.cells #[.int .i64 0, .bool false, .int .i64 0, .int .i64 0] 72) = X2 at *
           clear hK K
           try simp only [lay4]
           refine callD 22 (by kernel_rfl) rfl (fun K hK => ?_)
           rw [if_pos (by rfl)]
           refine wp_store_row 72 _ _ rfl (X1).heap.size #[.int .i64 (xa + d), .bool false, .int .i64 (k : Int), .int .i64 (p - xa)] rfl rfl 72 _ m7 sizeSpot rfl (ones4 ..) ?_
           have hV := below_setRow hS2 hN #[.int .i64 (xa + d), .bool false, .int .i64 (k : Int), .int .i64 (p - xa)]
           have mV := setRow_heap _ _ _ #[.int .i64 (xa + d), .bool false, .int .i64 (k : Int), .int .i64 (p - xa)] _ _ m7
           refine hK.out _ _ hV (fun _ => ?_)
           generalize World.setRow X2 (X1).heap.size #[.int .i64 (xa + d), .bool false, .int .i64 (k : Int), .int .i64 (p - xa)] = V at *
           generalize (X1).heap.size = N at *
           clear hK K
           try simp only [Act.put, List.setIfInBounds_toArray]
           refine wpAnyH_done (by kernel_rfl) ?_ _
           obtain ⟨⟨q0, q1, q2⟩, hVW⟩ := HKV.out V hV
           obtain ⟨r0, _, hBY⟩ := HX.out V hVW
           have sV := HSV.out
           have s1 := HS1.out
           have l3 : N ≠ w.heap.size := by omega
           have l4 : w.heap.size <= N := by omega
           have l5 : N ≠ wr.heap.size := by omega
           obtain ⟨j0, j1, j2, j3⟩ := cells4 r0
           obtain ⟨i0, i1, i2, i3⟩ := cells4 mV
           have f0 : ∀ j, V.frozen? ⟨w.heap.size, j, none⟩ = false := fun j => frozen_block r0
           have f1 : ∀ j, V.frozen? ⟨N, j, none⟩ = false := fun j => frozen_block mV
           clear sV s1
           go_wp2
           refine bodyPost_ret (results_row_tmp rfl _ _ w.heap.size 72 _ (0, 0) _ rfl (put4 ((((Below.heap_setCell _ _ _ _ (fun e => l3 e.symm)).trans (Below.heap_setCell _ _ _ _ (fun e => l3 e.symm))).trans (Below.heap_setCell _ _ _ _ (fun e => l3 e.symm))).trans r0) _ _ _ _) Tryz.underlying72 rfl sizeSpot) rfl ?_
           exact ⟨by rw [HHH.out, HV.out]; rfl, below4 (((hBY.setCell (p := ⟨N, 0, none⟩) l4 _).setCell (p := ⟨N, 2, none⟩) l4 _).setCell (p := ⟨N, 3, none⟩) l4 _) (Nat.le_refl _) ..⟩
          ·rw [if_pos (by rfl)]
           go_simp
           have hS1 := hS.alloc hS.size (.cells #[.int .i64 0, .bool false, .int .i64 0, .int .i64 0] 72)
           have m7 := World.alloc_heap_new X0 (.cells #[.int .i64 0, .bool false, .int .i64 0, .int .i64 0] 72)
           have hN : V1.heap.size <= (X0).heap.size := hS.size
           refine hK.out _ _ hS1 (fun _ => ?_)
           generalize (X0).alloc (.cells #[.int .i64 0, .bool false, .int .i64 0, .int .i64 0] 72) = X1 at *
           clear hK K
           try simp only [lay4]
           refine callD 4 (by kernel_rfl) rfl (fun K hK => ?_)
           rw [if_pos (by rfl)]
           go_simp
           refine (HSK.out _ (HKV.out _ hS1).2).mono ?_
           rintro e X2 ⟨rfl, b2⟩
           have hS2 := hS1.trans (b2.mono hS1.size)
           replace m7 := (b2.block _ (Array.getElem?_eq_some_iff.1 m7).1).trans m7
           refine hK.out _ _ hS2 (fun _ => ?_)
           clear hK K
           try simp only [lay4]
           refine takeF 5 (some 73) (v := ?_) hS2 ?_ ?_
           rotate_left
           ·intro w hSw
            go_simp
            try simp only [hd1, hd2]
            with_reducible rfl
           try simp only [lay4]
           refine takeF 10 (some 78) (v := ?_) hS2 ?_ ?_
           rotate_left
           ·intro w hSw
            try go_simp
            with_reducible rfl
           try simp only [lay4]
           refine takeD 11 (some 79) (v := undef) rfl rfl (by kernel_rfl) (by kernel_rfl) (by kernel_rfl) (fun _ _ _ h => h) (Or.inr ⟨by rfl, rfl⟩) hS2 ?_
           try simp only [lay4]
           refine takeD 12 (some 80) (v := undef) rfl rfl (by kernel_rfl) (by kernel_rfl) (by kernel_rfl) (fun _ _ _ h => h) (Or.inr ⟨by rfl, rfl⟩) hS2 ?_
           try simp only [lay4]
           refine takeD 13 (some 81) (v := undef) rfl rfl (by kernel_rfl) (by kernel_rfl) (by kernel_rfl) (fun _ _ _ h => h) (Or.inr ⟨by rfl, rfl⟩) hS2 ?_
           try simp only [lay4]
           refine takeF 14 (some 82) (v := ?_) hS2 ?_ ?_
           rotate_left
           ·intro w hSw
            go_simp
            with_reducible rfl
           try simp only [lay4]
           refine takeF 20 (some 88) (v := ?_) hS2 ?_ ?_
           rotate_left
           ·intro w hSw
            go_simp
            with_reducible rfl
           try simp only [lay4]
           refine callD 22 (by kernel_rfl) rfl (fun K hK => ?_)
           rw [if_pos (by rfl)]
           refine wp_store_row 72 _ _ rfl (X0).heap.size #[.int .i64 (xa + d), .bool false, .int .i64 (k : Int), .int .i64 (p - xa)] rfl rfl 72 _ m7 sizeSpot rfl (ones4 ..) ?_
           have hV := below_setRow hS2 hN #[.int .i64 (xa + d), .bool false, .int .i64 (k : Int), .int .i64 (p - xa)]
           have mV := setRow_heap _ _ _ #[.int .i64 (xa + d), .bool false, .int .i64 (k : Int), .int .i64 (p - xa)] _ _ m7
           refine hK.out _ _ hV (fun _ => ?_)
           generalize World.setRow X2 (X0).heap.size #[.int .i64 (xa + d), .bool false, .int .i64 (k : Int), .int .i64 (p - xa)] = V at *
           generalize (X0).heap.size = N at *
           clear hK K
           try simp only [Act.put, List.setIfInBounds_toArray]
           refine wpAnyH_done (by kernel_rfl) ?_ _
           obtain ⟨⟨q0, q1, q2⟩, hVW⟩ := HKV.out V hV
           obtain ⟨r0, _, hBY⟩ := HX.out V hVW
           have sV := HSV.out
           have s1 := HS1.out
           have l3 : N ≠ w.heap.size := by omega
           have l4 : w.heap.size <= N := by omega
           have l5 : N ≠ wr.heap.size := by omega
           obtain ⟨j0, j1, j2, j3⟩ := cells4 r0
           obtain ⟨i0, i1, i2, i3⟩ := cells4 mV
           have f0 : ∀ j, V.frozen? ⟨w.heap.size, j, none⟩ = false := fun j => frozen_block r0
           have f1 : ∀ j, V.frozen? ⟨N, j, none⟩ = false := fun j => frozen_block mV
           clear sV s1
           go_wp2
           refine bodyPost_ret (results_row_tmp rfl _ _ w.heap.size 72 _ (0, 0) _ rfl (put4 ((((Below.heap_setCell _ _ _ _ (fun e => l3 e.symm)).trans (Below.heap_setCell _ _ _ _ (fun e => l3 e.symm))).trans (Below.heap_setCell _ _ _ _ (fun e => l3 e.symm))).trans r0) _ _ _ _) Tryz.underlying72 rfl sizeSpot) rfl ?_
           exact ⟨by rw [HHH.out, HV.out]; rfl, below4 (((hBY.setCell (p := ⟨N, 0, none⟩) l4 _).setCell (p := ⟨N, 2, none⟩) l4 _).setCell (p := ⟨N, 3, none⟩) l4 _) (Nat.le_refl _) ..⟩
        ·have ho : 0 < xo := by omega
         by_cases e1 : p = xa
         ·have HE : Hid (0 < xo /\ p = xa) := ⟨ho, e1⟩
          have hgt : ¬ xa < p := by omega
          have ne1 : (p == xa) = true := by simpa using e1
          have ne2 : (p == xa + xo) = false := by simp; omega
          have hd1 : decide (xa < p) = false := by simpa using hgt
          have hd2 : decide (p < xa + xo) = true := by simp; omega
          clear e1 h0
          by_cases hs : side < 0
          ·have HV : Hid (spotR ⟨xa, xo, xn⟩ k d p side = ⟨xa + d, false, -1, 0⟩) := by
            show spotR _ _ _ _ _ = _
            rw [spot_B (by first | exact HE.out.1 | exact ho) (by first | exact HE.out.2 | exact nl)]
            simp [hs]
           go_wp2_with fail
           rw [HV1.out]
           refine wp_region_held_drew (S := fun X => Below V1.heap.size V1 X) mixed (Below.refl _ _).drew (fun hS => ?_)
           generalize V1.drew = X0 at hS ⊢
           refine takeF 0 (some 68) (v := ?_) hS ?_ ?_
           rotate_left
           ·intro w hSw
            go_simp
            with_reducible rfl
           try simp only [lay4]
           refine takeF 1 (some 69) (v := ?_) hS ?_ ?_
           rotate_left
           ·intro w hSw
            obtain ⟨⟨q0, q1, q2⟩, _⟩ := HKV.out _ hSw
            go_simp
            with_reducible rfl
           try simp only [lay4]
           refine takeF 2 (some 70) (v := ?_) hS ?_ ?_
           rotate_left
           ·intro w hSw
            try go_simp
            with_reducible rfl
           try simp only [lay4]
           refine takeF 3 (some 71) (v := ?_) hS ?_ ?_
           rotate_left
           ·intro w hSw
            try go_simp
            with_reducible rfl
           try simp only [lay4]
           refine takeF 6 (some 74) (v := ?_) hS ?_ ?_
           rotate_left
           ·intro w hSw
            try go_simp
            with_reducible rfl
           try simp only [lay4]
           refine takeF 7 (some 75) (v := ?_) hS ?_ ?_
           rotate_left
           ·intro w hSw
            go_simp
            with_reducible rfl
           try simp only [lay4]
           refine takeF 8 (some 76) (v := ?_) hS ?_ ?_
           rotate_left
           ·intro w hSw
            obtain ⟨⟨q0, q1, q2⟩, _⟩ := HKV.out _ hSw
            go_simp
            with_reducible rfl
           try simp only [lay4]
           refine takeF 9 (some 77) (v := ?_) hS ?_ ?_
           rotate_left
           ·intro w hSw
            go_simp
            try simp only [hd1, hd2]
            with_reducible rfl
           try simp only [lay4]
           refine takeF 15 (some 83) (v := ?_) hS ?_ ?_
           rotate_left
           ·intro w hSw
            try go_simp
            with_reducible rfl
           try simp only [lay4]
           refine takeF 16 (some 84) (v := ?_) hS ?_ ?_
           rotate_left
           ·intro w hSw
            try go_simp
            with_reducible rfl
           try simp only [lay4]
           refine takeF 17 (some 85) (v := ?_) hS ?_ ?_
           rotate_left
           ·intro w hSw
            go_simp
            with_reducible rfl
           try simp only [lay4]
           refine takeF 18 (some 86) (v := ?_) hS ?_ ?_
           rotate_left
           ·intro w hSw
            obtain ⟨⟨q0, q1, q2⟩, _⟩ := HKV.out _ hSw
            go_simp
            with_reducible rfl
           try simp only [lay4]
           refine takeF 19 (some 87) (v := ?_) hS ?_ ?_
           rotate_left
           ·intro w hSw
            go_simp
            try simp only [hd1, hd2]
            with_reducible rfl
           try simp only [lay4]
           refine wpAnyH_ready (rs := [4, 21]) (by kernel_rfl) (by simp) (AllReadyH.cons rfl (fun K hK => ?_) ( AllReadyH.cons rfl (fun K hK => ?_) (AllReadyH.nil)))
           ·rw [if_pos (by rfl)]
            go_simp
            refine (HSK.out _ (HKV.out _ hS).2).mono ?_
            rintro e X1 ⟨rfl, b1⟩
            have hS1 := hS.trans (b1.mono hS.size)
            refine hK.out _ _ hS1 (fun _ => ?_)
            clear hK K
            try simp only [lay4]
            refine takeF 5 (some 73) (v := ?_) hS1 ?_ ?_
            rotate_left
            ·intro w hSw
             go_simp
             try simp only [hd1, hd2]
             with_reducible rfl
            try simp only [lay4]
            refine takeF 10 (some 78) (v := ?_) hS1 ?_ ?_
            rotate_left
            ·intro w hSw
             try go_simp
             with_reducible rfl
            try simp only [lay4]
            refine takeD 11 (some 79) (v := undef) rfl rfl (by kernel_rfl) (by kernel_rfl) (by kernel_rfl) (fun _ _ _ h => h) (Or.inr ⟨by rfl, rfl⟩) hS1 ?_
            try simp only [lay4]
            refine takeD 12 (some 80) (v := undef) rfl rfl (by kernel_rfl) (by kernel_rfl) (by kernel_rfl) (fun _ _ _ h => h) (Or.inr ⟨by rfl, rfl⟩) hS1 ?_
            try simp only [lay4]
            refine takeD 13 (some 81) (v := undef) rfl rfl (by kernel_rfl) (by kernel_rfl) (by kernel_rfl) (fun _ _ _ h => h) (Or.inr ⟨by rfl, rfl⟩) hS1 ?_
            try simp only [lay4]
            refine takeF 14 (some 82) (v := ?_) hS1 ?_ ?_
            rotate_left
            ·intro w hSw
             go_simp
             with_reducible rfl
            try simp only [lay4]
            refine takeF 20 (some 88) (v := ?_) hS1 ?_ ?_
            rotate_left
            ·intro w hSw
             go_simp
             with_reducible rfl
            try simp only [lay4]
            refine callD 21 (by kernel_rfl) rfl (fun K hK => ?_)
            rw [if_pos (by rfl)]
            go_simp
            have hS2 := hS1.alloc hS1.size (.cells #[.int .i64 0, .bool false, .int .i64 0, .int .i64 0] 72)
            have m7 := World.alloc_heap_new X1 (.cells #[.int .i64 0, .bool false, .int .i64 0, .int .i64 0] 72)
            have hN : V1.heap.size <= (X1).heap.size := hS1.size
            refine hK.out _ _ hS2 (fun _ => ?_)
            generalize (X1).alloc (.cells #[.int .i64 0, .bool false, .int .i64 0, .int .i64 0] 72) = X2 at *
            clear hK K
            try simp only [lay4]
            refine callD 22 (by kernel_rfl) rfl (fun K hK => ?_)
            rw [if_pos (by rfl)]
            refine wp_store_row 72 _ _ rfl (X1).heap.size #[.int .i64 (xa + d), .bool false, .int .i64 (k : Int), .int .i64 (p - xa)] rfl rfl 72 _ m7 sizeSpot rfl (ones4 ..) ?_
            have hV := below_setRow hS2 hN #[.int .i64 (xa + d), .bool false, .int .i64 (k : Int), .int .i64 (p - xa)]
            have mV := setRow_heap _ _ _ #[.int .i64 (xa + d), .bool false, .int .i64 (k : Int), .int .i64 (p - xa)] _ _ m7
            refine hK.out _ _ hV (fun _ => ?_)
            generalize World.setRow X2 (X1).heap.size #[.int .i64 (xa + d), .bool false, .int .i64 (k : Int), .int .i64 (p - xa)] = V at *
            generalize (X1).heap.size = N at *
            clear hK K
            try simp only [Act.put, List.setIfInBounds_toArray]
            refine wpAnyH_done (by kernel_rfl) ?_ _
            obtain ⟨⟨q0, q1, q2⟩, hVW⟩ := HKV.out V hV
            obtain ⟨r0, _, hBY⟩ := HX.out V hVW
            have sV := HSV.out
            have s1 := HS1.out
            have l3 : N ≠ w.heap.size := by omega
            have l4 : w.heap.size <= N := by omega
            have l5 : N ≠ wr.heap.size := by omega
            obtain ⟨j0, j1, j2, j3⟩ := cells4 r0
            obtain ⟨i0, i1, i2, i3⟩ := cells4 mV
            have f0 : ∀ j, V.frozen? ⟨w.heap.size, j, none⟩ = false := fun j => frozen_block r0
            have f1 : ∀ j, V.frozen? ⟨N, j, none⟩ = false := fun j => frozen_block mV
            clear sV s1
            go_wp2
            refine bodyPost_ret (results_row_tmp rfl _ _ w.heap.size 72 _ (0, 0) _ rfl (put4 (((Below.heap_setCell _ _ _ _ (fun e => l3 e.symm)).trans (Below.heap_setCell _ _ _ _ (fun e => l3 e.symm))).trans r0) _ _ _ _) Tryz.underlying72 rfl sizeSpot) rfl ?_
            exact ⟨by rw [HHH.out, HV.out]; rfl, below4 ((hBY.setCell (p := ⟨N, 2, none⟩) l4 _).setCell (p := ⟨N, 3, none⟩) l4 _) (Nat.le_refl _) ..⟩
           ·rw [if_pos (by rfl)]
            go_simp
            have hS1 := hS.alloc hS.size (.cells #[.int .i64 0, .bool false, .int .i64 0, .int .i64 0] 72)
            have m7 := World.alloc_heap_new X0 (.cells #[.int .i64 0, .bool false, .int .i64 0, .int .i64 0] 72)
            have hN : V1.heap.size <= (X0).heap.size := hS.size
            refine hK.out _ _ hS1 (fun _ => ?_)
            generalize (X0).alloc (.cells #[.int .i64 0, .bool false, .int .i64 0, .int .i64 0] 72) = X1 at *
            clear hK K
            try simp only [lay4]
            refine callD 4 (by kernel_rfl) rfl (fun K hK => ?_)
            rw [if_pos (by rfl)]
            go_simp
            refine (HSK.out _ (HKV.out _ hS1).2).mono ?_
            rintro e X2 ⟨rfl, b2⟩
            have hS2 := hS1.trans (b2.mono hS1.size)
            replace m7 := (b2.block _ (Array.getElem?_eq_some_iff.1 m7).1).trans m7
            refine hK.out _ _ hS2 (fun _ => ?_)
            clear hK K
            try simp only [lay4]
            refine takeF 5 (some 73) (v := ?_) hS2 ?_ ?_
            rotate_left
            ·intro w hSw
             go_simp
             try simp only [hd1, hd2]
             with_reducible rfl
            try simp only [lay4]
            refine takeF 10 (some 78) (v := ?_) hS2 ?_ ?_
            rotate_left
            ·intro w hSw
             try go_simp
             with_reducible rfl
            try simp only [lay4]
            refine takeD 11 (some 79) (v := undef) rfl rfl (by kernel_rfl) (by kernel_rfl) (by kernel_rfl) (fun _ _ _ h => h) (Or.inr ⟨by rfl, rfl⟩) hS2 ?_
            try simp only [lay4]
            refine takeD 12 (some 80) (v := undef) rfl rfl (by kernel_rfl) (by kernel_rfl) (by kernel_rfl) (fun _ _ _ h => h) (Or.inr ⟨by rfl, rfl⟩) hS2 ?_
            try simp only [lay4]
            refine takeD 13 (some 81) (v := undef) rfl rfl (by kernel_rfl) (by kernel_rfl) (by kernel_rfl) (fun _ _ _ h => h) (Or.inr ⟨by rfl, rfl⟩) hS2 ?_
            try simp only [lay4]
            refine takeF 14 (some 82) (v := ?_) hS2 ?_ ?_
            rotate_left
            ·intro w hSw
             go_simp
             with_reducible rfl
            try simp only [lay4]
            refine takeF 20 (some 88) (v := ?_) hS2 ?_ ?_
            rotate_left
            ·intro w hSw
             go_simp
             with_reducible rfl
            try simp only [lay4]
            refine callD 22 (by kernel_rfl) rfl (fun K hK => ?_)
            rw [if_pos (by rfl)]
            refine wp_store_row 72 _ _ rfl (X0).heap.size #[.int .i64 (xa + d), .bool false, .int .i64 (k : Int), .int .i64 (p - xa)] rfl rfl 72 _ m7 sizeSpot rfl (ones4 ..) ?_
            have hV := below_setRow hS2 hN #[.int .i64 (xa + d), .bool false, .int .i64 (k : Int), .int .i64 (p - xa)]
            have mV := setRow_heap _ _ _ #[.int .i64 (xa + d), .bool false, .int .i64 (k : Int), .int .i64 (p - xa)] _ _ m7
            refine hK.out _ _ hV (fun _ => ?_)
            generalize World.setRow X2 (X0).heap.size #[.int .i64 (xa + d), .bool false, .int .i64 (k : Int), .int .i64 (p - xa)] = V at *
            generalize (X0).heap.size = N at *
            clear hK K
            try simp only [Act.put, List.setIfInBounds_toArray]
            refine wpAnyH_done (by kernel_rfl) ?_ _
            obtain ⟨⟨q0, q1, q2⟩, hVW⟩ := HKV.out V hV
            obtain ⟨r0, _, hBY⟩ := HX.out V hVW
            have sV := HSV.out
            have s1 := HS1.out
            have l3 : N ≠ w.heap.size := by omega
            have l4 : w.heap.size <= N := by omega
            have l5 : N ≠ wr.heap.size := by omega
            obtain ⟨j0, j1, j2, j3⟩ := cells4 r0
            obtain ⟨i0, i1, i2, i3⟩ := cells4 mV
            have f0 : ∀ j, V.frozen? ⟨w.heap.size, j, none⟩ = false := fun j => frozen_block r0
            have f1 : ∀ j, V.frozen? ⟨N, j, none⟩ = false := fun j => frozen_block mV
            clear sV s1
            go_wp2
            refine bodyPost_ret (results_row_tmp rfl _ _ w.heap.size 72 _ (0, 0) _ rfl (put4 (((Below.heap_setCell _ _ _ _ (fun e => l3 e.symm)).trans (Below.heap_setCell _ _ _ _ (fun e => l3 e.symm))).trans r0) _ _ _ _) Tryz.underlying72 rfl sizeSpot) rfl ?_
            exact ⟨by rw [HHH.out, HV.out]; rfl, below4 ((hBY.setCell (p := ⟨N, 2, none⟩) l4 _).setCell (p := ⟨N, 3, none⟩) l4 _) (Nat.le_refl _) ..⟩
          ·have HV : Hid (spotR ⟨xa, xo, xn⟩ k d p side = ⟨xa + d, false, k, p - xa⟩) := by
            show spotR _ _ _ _ _ = _
            rw [spot_B (by first | exact HE.out.1 | exact ho) (by first | exact HE.out.2 | exact nl)]
            simp [hs]
           go_wp2_with fail
           rw [HV1.out]
           refine wp_region_held_drew (S := fun X => Below V1.heap.size V1 X) mixed (Below.refl _ _).drew (fun hS => ?_)
           generalize V1.drew = X0 at hS ⊢
           refine takeF 0 (some 68) (v := ?_) hS ?_ ?_
           rotate_left
           ·intro w hSw
            go_simp
            with_reducible rfl
           try simp only [lay4]
           refine takeF 1 (some 69) (v := ?_) hS ?_ ?_
           rotate_left
           ·intro w hSw
            obtain ⟨⟨q0, q1, q2⟩, _⟩ := HKV.out _ hSw
            go_simp
            with_reducible rfl
           try simp only [lay4]
           refine takeF 2 (some 70) (v := ?_) hS ?_ ?_
           rotate_left
           ·intro w hSw
            try go_simp
            with_reducible rfl
           try simp only [lay4]
           refine takeF 3 (some 71) (v := ?_) hS ?_ ?_
           rotate_left
           ·intro w hSw
            try go_simp
            with_reducible rfl
           try simp only [lay4]
           refine takeF 6 (some 74) (v := ?_) hS ?_ ?_
           rotate_left
           ·intro w hSw
            try go_simp
            with_reducible rfl
           try simp only [lay4]
           refine takeF 7 (some 75) (v := ?_) hS ?_ ?_
           rotate_left
           ·intro w hSw
            go_simp
            with_reducible rfl
           try simp only [lay4]
           refine takeF 8 (some 76) (v := ?_) hS ?_ ?_
           rotate_left
           ·intro w hSw
            obtain ⟨⟨q0, q1, q2⟩, _⟩ := HKV.out _ hSw
            go_simp
            with_reducible rfl
           try simp only [lay4]
           refine takeF 9 (some 77) (v := ?_) hS ?_ ?_
           rotate_left
           ·intro w hSw
            go_simp
            try simp only [hd1, hd2]
            with_reducible rfl
           try simp only [lay4]
           refine takeF 15 (some 83) (v := ?_) hS ?_ ?_
           rotate_left
           ·intro w hSw
            try go_simp
            with_reducible rfl
           try simp only [lay4]
           refine takeF 16 (some 84) (v := ?_) hS ?_ ?_
           rotate_left
           ·intro w hSw
            try go_simp
            with_reducible rfl
           try simp only [lay4]
           refine takeF 17 (some 85) (v := ?_) hS ?_ ?_
           rotate_left
           ·intro w hSw
            go_simp
            with_reducible rfl
           try simp only [lay4]
           refine takeF 18 (some 86) (v := ?_) hS ?_ ?_
           rotate_left
           ·intro w hSw
            obtain ⟨⟨q0, q1, q2⟩, _⟩ := HKV.out _ hSw
            go_simp
            with_reducible rfl
           try simp only [lay4]
           refine takeF 19 (some 87) (v := ?_) hS ?_ ?_
           rotate_left
           ·intro w hSw
            go_simp
            try simp only [hd1, hd2]
            with_reducible rfl
           try simp only [lay4]
           refine wpAnyH_ready (rs := [4, 21]) (by kernel_rfl) (by simp) (AllReadyH.cons rfl (fun K hK => ?_) ( AllReadyH.cons rfl (fun K hK => ?_) (AllReadyH.nil)))
           ·rw [if_pos (by rfl)]
            go_simp
            refine (HSK.out _ (HKV.out _ hS).2).mono ?_
            rintro e X1 ⟨rfl, b1⟩
            have hS1 := hS.trans (b1.mono hS.size)
            refine hK.out _ _ hS1 (fun _ => ?_)
            clear hK K
            try simp only [lay4]
            refine takeF 5 (some 73) (v := ?_) hS1 ?_ ?_
            rotate_left
            ·intro w hSw
             go_simp
             try simp only [hd1, hd2]
             with_reducible rfl
            try simp only [lay4]
            refine takeF 10 (some 78) (v := ?_) hS1 ?_ ?_
            rotate_left
            ·intro w hSw
             try go_simp
             with_reducible rfl
            try simp only [lay4]
            refine takeD 11 (some 79) (v := undef) rfl rfl (by kernel_rfl) (by kernel_rfl) (by kernel_rfl) (fun _ _ _ h => h) (Or.inr ⟨by rfl, rfl⟩) hS1 ?_
            try simp only [lay4]
            refine takeD 12 (some 80) (v := undef) rfl rfl (by kernel_rfl) (by kernel_rfl) (by kernel_rfl) (fun _ _ _ h => h) (Or.inr ⟨by rfl, rfl⟩) hS1 ?_
            try simp only [lay4]
            refine takeD 13 (some 81) (v := undef) rfl rfl (by kernel_rfl) (by kernel_rfl) (by kernel_rfl) (fun _ _ _ h => h) (Or.inr ⟨by rfl, rfl⟩) hS1 ?_
            try simp only [lay4]
            refine takeF 14 (some 82) (v := ?_) hS1 ?_ ?_
            rotate_left
            ·intro w hSw
             go_simp
             with_reducible rfl
            try simp only [lay4]
            refine takeF 20 (some 88) (v := ?_) hS1 ?_ ?_
            rotate_left
            ·intro w hSw
             go_simp
             with_reducible rfl
            try simp only [lay4]
            refine callD 21 (by kernel_rfl) rfl (fun K hK => ?_)
            rw [if_pos (by rfl)]
            go_simp
            have hS2 := hS1.alloc hS1.size (.cells #[.int .i64 0, .bool false, .int .i64 0, .int .i64 0] 72)
            have m7 := World.alloc_heap_new X1 (.cells #[.int .i64 0, .bool false, .int .i64 0, .int .i64 0] 72)
            have hN : V1.heap.size <= (X1).heap.size := hS1.size
            refine hK.out _ _ hS2 (fun _ => ?_)
            generalize (X1).alloc (.cells #[.int .i64 0, .bool false, .int .i64 0, .int .i64 0] 72) = X2 at *
            clear hK K
            try simp only [lay4]
            refine callD 22 (by kernel_rfl) rfl (fun K hK => ?_)
            rw [if_pos (by rfl)]
            refine wp_store_row 72 _ _ rfl (X1).heap.size #[.int .i64 (xa + d), .bool false, .int .i64 (k : Int), .int .i64 (p - xa)] rfl rfl 72 _ m7 sizeSpot rfl (ones4 ..) ?_
            have hV := below_setRow hS2 hN #[.int .i64 (xa + d), .bool false, .int .i64 (k : Int), .int .i64 (p - xa)]
            have mV := setRow_heap _ _ _ #[.int .i64 (xa + d), .bool false, .int .i64 (k : Int), .int .i64 (p - xa)] _ _ m7
            refine hK.out _ _ hV (fun _ => ?_)
            generalize World.setRow X2 (X1).heap.size #[.int .i64 (xa + d), .bool false, .int .i64 (k : Int), .int .i64 (p - xa)] = V at *
            generalize (X1).heap.size = N at *
            clear hK K
            try simp only [Act.put, List.setIfInBounds_toArray]
            refine wpAnyH_done (by kernel_rfl) ?_ _
            obtain ⟨⟨q0, q1, q2⟩, hVW⟩ := HKV.out V hV
            obtain ⟨r0, _, hBY⟩ := HX.out V hVW
            have sV := HSV.out
            have s1 := HS1.out
            have l3 : N ≠ w.heap.size := by omega
            have l4 : w.heap.size <= N := by omega
            have l5 : N ≠ wr.heap.size := by omega
            obtain ⟨j0, j1, j2, j3⟩ := cells4 r0
            obtain ⟨i0, i1, i2, i3⟩ := cells4 mV
            have f0 : ∀ j, V.frozen? ⟨w.heap.size, j, none⟩ = false := fun j => frozen_block r0
            have f1 : ∀ j, V.frozen? ⟨N, j, none⟩ = false := fun j => frozen_block mV
            clear sV s1
            go_wp2
            refine bodyPost_ret (results_row_tmp rfl _ _ w.heap.size 72 _ (0, 0) _ rfl (put4 r0 _ _ _ _) Tryz.underlying72 rfl sizeSpot) rfl ?_
            exact ⟨by rw [HHH.out, HV.out]; rfl, below4 hBY (Nat.le_refl _) ..⟩
           ·rw [if_pos (by rfl)]
            go_simp
            have hS1 := hS.alloc hS.size (.cells #[.int .i64 0, .bool false, .int .i64 0, .int .i64 0] 72)
            have m7 := World.alloc_heap_new X0 (.cells #[.int .i64 0, .bool false, .int .i64 0, .int .i64 0] 72)
            have hN : V1.heap.size <= (X0).heap.size := hS.size
            refine hK.out _ _ hS1 (fun _ => ?_)
            generalize (X0).alloc (.cells #[.int .i64 0, .bool false, .int .i64 0, .int .i64 0] 72) = X1 at *
            clear hK K
            try simp only [lay4]
            refine callD 4 (by kernel_rfl) rfl (fun K hK => ?_)
            rw [if_pos (by rfl)]
            go_simp
            refine (HSK.out _ (HKV.out _ hS1).2).mono ?_
            rintro e X2 ⟨rfl, b2⟩
            have hS2 := hS1.trans (b2.mono hS1.size)
            replace m7 := (b2.block _ (Array.getElem?_eq_some_iff.1 m7).1).trans m7
            refine hK.out _ _ hS2 (fun _ => ?_)
            clear hK K
            try simp only [lay4]
            refine takeF 5 (some 73) (v := ?_) hS2 ?_ ?_
            rotate_left
            ·intro w hSw
             go_simp
             try simp only [hd1, hd2]
             with_reducible rfl
            try simp only [lay4]
            refine takeF 10 (some 78) (v := ?_) hS2 ?_ ?_
            rotate_left
            ·intro w hSw
             try go_simp
             with_reducible rfl
            try simp only [lay4]
            refine takeD 11 (some 79) (v := undef) rfl rfl (by kernel_rfl) (by kernel_rfl) (by kernel_rfl) (fun _ _ _ h => h) (Or.inr ⟨by rfl, rfl⟩) hS2 ?_
            try simp only [lay4]
            refine takeD 12 (some 80) (v := undef) rfl rfl (by kernel_rfl) (by kernel_rfl) (by kernel_rfl) (fun _ _ _ h => h) (Or.inr ⟨by rfl, rfl⟩) hS2 ?_
            try simp only [lay4]
            refine takeD 13 (some 81) (v := undef) rfl rfl (by kernel_rfl) (by kernel_rfl) (by kernel_rfl) (fun _ _ _ h => h) (Or.inr ⟨by rfl, rfl⟩) hS2 ?_
            try simp only [lay4]
            refine takeF 14 (some 82) (v := ?_) hS2 ?_ ?_
            rotate_left
            ·intro w hSw
             go_simp
             with_reducible rfl
            try simp only [lay4]
            refine takeF 20 (some 88) (v := ?_) hS2 ?_ ?_
            rotate_left
            ·intro w hSw
             go_simp
             with_reducible rfl
            try simp only [lay4]
            refine callD 22 (by kernel_rfl) rfl (fun K hK => ?_)
            rw [if_pos (by rfl)]
            refine wp_store_row 72 _ _ rfl (X0).heap.size #[.int .i64 (xa + d), .bool false, .int .i64 (k : Int), .int .i64 (p - xa)] rfl rfl 72 _ m7 sizeSpot rfl (ones4 ..) ?_
            have hV := below_setRow hS2 hN #[.int .i64 (xa + d), .bool false, .int .i64 (k : Int), .int .i64 (p - xa)]
            have mV := setRow_heap _ _ _ #[.int .i64 (xa + d), .bool false, .int .i64 (k : Int), .int .i64 (p - xa)] _ _ m7
            refine hK.out _ _ hV (fun _ => ?_)
            generalize World.setRow X2 (X0).heap.size #[.int .i64 (xa + d), .bool false, .int .i64 (k : Int), .int .i64 (p - xa)] = V at *
            generalize (X0).heap.size = N at *
            clear hK K
            try simp only [Act.put, List.setIfInBounds_toArray]
            refine wpAnyH_done (by kernel_rfl) ?_ _
            obtain ⟨⟨q0, q1, q2⟩, hVW⟩ := HKV.out V hV
            obtain ⟨r0, _, hBY⟩ := HX.out V hVW
            have sV := HSV.out
            have s1 := HS1.out
            have l3 : N ≠ w.heap.size := by omega
            have l4 : w.heap.size <= N := by omega
            have l5 : N ≠ wr.heap.size := by omega
            obtain ⟨j0, j1, j2, j3⟩ := cells4 r0
            obtain ⟨i0, i1, i2, i3⟩ := cells4 mV
            have f0 : ∀ j, V.frozen? ⟨w.heap.size, j, none⟩ = false := fun j => frozen_block r0
            have f1 : ∀ j, V.frozen? ⟨N, j, none⟩ = false := fun j => frozen_block mV
            clear sV s1
            go_wp2
            refine bodyPost_ret (results_row_tmp rfl _ _ w.heap.size 72 _ (0, 0) _ rfl (put4 r0 _ _ _ _) Tryz.underlying72 rfl sizeSpot) rfl ?_
            exact ⟨by rw [HHH.out, HV.out]; rfl, below4 hBY (Nat.le_refl _) ..⟩
         ·have hgt : xa < p := by omega
          have ne1 : (p == xa) = false := by simpa using e1
          by_cases e2 : p = xa + xo
          ·have HE : Hid (0 < xo /\ p = xa + xo) := ⟨ho, e2⟩
           have nl : ¬ p < xa + xo := by omega
           have ne2 : (p == xa + xo) = true := by simpa using e2
           have hd1 : decide (xa < p) = true := by simpa using hgt
           have hd2 : decide (p < xa + xo) = false := by simpa using nl
           clear e2 e1 h0
           by_cases hs : side < 0
           ·have HV : Hid (spotR ⟨xa, xo, xn⟩ k d p side = ⟨xa + d + xn, false, k, p - xa⟩) := by
             show spotR _ _ _ _ _ = _
             rw [spot_C (by first | exact HE.out.1 | exact ho) (by first | exact HE.out.2 | exact nl)]
             simp [hs]
            go_wp2_with fail
            rw [HV1.out]
            refine wp_region_held_drew (S := fun X => Below V1.heap.size V1 X) mixed (Below.refl _ _).drew (fun hS => ?_)
            generalize V1.drew = X0 at hS ⊢
            refine takeF 0 (some 68) (v := ?_) hS ?_ ?_
            rotate_left
            ·intro w hSw
             go_simp
             with_reducible rfl
            try simp only [lay4]
            refine takeF 1 (some 69) (v := ?_) hS ?_ ?_
            rotate_left
            ·intro w hSw
             obtain ⟨⟨q0, q1, q2⟩, _⟩ := HKV.out _ hSw
             go_simp
             with_reducible rfl
            try simp only [lay4]
            refine takeF 2 (some 70) (v := ?_) hS ?_ ?_
            rotate_left
            ·intro w hSw
             try go_simp
             with_reducible rfl
            try simp only [lay4]
            refine takeF 3 (some 71) (v := ?_) hS ?_ ?_
            rotate_left
            ·intro w hSw
             try go_simp
             with_reducible rfl
            try simp only [lay4]
            refine takeF 6 (some 74) (v := ?_) hS ?_ ?_
            rotate_left
            ·intro w hSw
             try go_simp
             with_reducible rfl
            try simp only [lay4]
            refine takeF 7 (some 75) (v := ?_) hS ?_ ?_
            rotate_left
            ·intro w hSw
             go_simp
             with_reducible rfl
            try simp only [lay4]
            refine takeF 8 (some 76) (v := ?_) hS ?_ ?_
            rotate_left
            ·intro w hSw
             obtain ⟨⟨q0, q1, q2⟩, _⟩ := HKV.out _ hSw
             go_simp
             with_reducible rfl
            try simp only [lay4]
            refine takeF 9 (some 77) (v := ?_) hS ?_ ?_
            rotate_left
            ·intro w hSw
             go_simp
             try simp only [hd1, hd2]
             with_reducible rfl
            try simp only [lay4]
            refine takeF 15 (some 83) (v := ?_) hS ?_ ?_
            rotate_left
            ·intro w hSw
             try go_simp
             with_reducible rfl
            try simp only [lay4]
            refine takeF 16 (some 84) (v := ?_) hS ?_ ?_
            rotate_left
            ·intro w hSw
             try go_simp
             with_reducible rfl
            try simp only [lay4]
            refine takeF 17 (some 85) (v := ?_) hS ?_ ?_
            rotate_left
            ·intro w hSw
             go_simp
             with_reducible rfl
            try simp only [lay4]
            refine takeF 18 (some 86) (v := ?_) hS ?_ ?_
            rotate_left
            ·intro w hSw
             obtain ⟨⟨q0, q1, q2⟩, _⟩ := HKV.out _ hSw
             go_simp
             with_reducible rfl
            try simp only [lay4]
            refine takeF 19 (some 87) (v := ?_) hS ?_ ?_
            rotate_left
            ·intro w hSw
             go_simp
             try simp only [hd1, hd2]
             with_reducible rfl
            try simp only [lay4]
            refine wpAnyH_ready (rs := [4, 21]) (by kernel_rfl) (by simp) (AllReadyH.cons rfl (fun K hK => ?_) ( AllReadyH.cons rfl (fun K hK => ?_) (AllReadyH.nil)))
            ·rw [if_pos (by rfl)]
             go_simp
             refine (HSK.out _ (HKV.out _ hS).2).mono ?_
             rintro e X1 ⟨rfl, b1⟩
             have hS1 := hS.trans (b1.mono hS.size)
             refine hK.out _ _ hS1 (fun _ => ?_)
             clear hK K
             try simp only [lay4]
             refine takeF 5 (some 73) (v := ?_) hS1 ?_ ?_
             rotate_left
             ·intro w hSw
              go_simp
              try simp only [hd1, hd2]
              with_reducible rfl
             try simp only [lay4]
             refine takeF 10 (some 78) (v := ?_) hS1 ?_ ?_
             rotate_left
             ·intro w hSw
              try go_simp
              with_reducible rfl
             try simp only [lay4]
             refine takeF 11 (some 79) (v := ?_) hS1 ?_ ?_
             rotate_left
             ·intro w hSw
              try go_simp
              with_reducible rfl
             try simp only [lay4]
             refine takeF 12 (some 80) (v := ?_) hS1 ?_ ?_
             rotate_left
             ·intro w hSw
              try go_simp
              with_reducible rfl
             try simp only [lay4]
             refine takeF 13 (some 81) (v := ?_) hS1 ?_ ?_
             rotate_left
             ·intro w hSw
              go_simp
              try simp only [hd1, hd2]
              with_reducible rfl
             try simp only [lay4]
             refine takeF 14 (some 82) (v := ?_) hS1 ?_ ?_
             rotate_left
             ·intro w hSw
              go_simp
              with_reducible rfl
             try simp only [lay4]
             refine takeF 20 (some 88) (v := ?_) hS1 ?_ ?_
             rotate_left
             ·intro w hSw
              go_simp
              with_reducible rfl
             try simp only [lay4]
             refine callD 21 (by kernel_rfl) rfl (fun K hK => ?_)
             rw [if_pos (by rfl)]
             go_simp
             have hS2 := hS1.alloc hS1.size (.cells #[.int .i64 0, .bool false, .int .i64 0, .int .i64 0] 72)
             have m7 := World.alloc_heap_new X1 (.cells #[.int .i64 0, .bool false, .int .i64 0, .int .i64 0] 72)
             have hN : V1.heap.size <= (X1).heap.size := hS1.size
             refine hK.out _ _ hS2 (fun _ => ?_)
             generalize (X1).alloc (.cells #[.int .i64 0, .bool false, .int .i64 0, .int .i64 0] 72) = X2 at *
             clear hK K
             try simp only [lay4]
             refine callD 22 (by kernel_rfl) rfl (fun K hK => ?_)
             rw [if_pos (by rfl)]
             refine wp_store_row 72 _ _ rfl (X1).heap.size #[.int .i64 (xa + d), .bool false, .int .i64 (k : Int), .int .i64 (p - xa)] rfl rfl 72 _ m7 sizeSpot rfl (ones4 ..) ?_
             have hV := below_setRow hS2 hN #[.int .i64 (xa + d), .bool false, .int .i64 (k : Int), .int .i64 (p - xa)]
             have mV := setRow_heap _ _ _ #[.int .i64 (xa + d), .bool false, .int .i64 (k : Int), .int .i64 (p - xa)] _ _ m7
             refine hK.out _ _ hV (fun _ => ?_)
             generalize World.setRow X2 (X1).heap.size #[.int .i64 (xa + d), .bool false, .int .i64 (k : Int), .int .i64 (p - xa)] = V at *
             generalize (X1).heap.size = N at *
             clear hK K
             try simp only [Act.put, List.setIfInBounds_toArray]
             refine wpAnyH_done (by kernel_rfl) ?_ _
             obtain ⟨⟨q0, q1, q2⟩, hVW⟩ := HKV.out V hV
             obtain ⟨r0, _, hBY⟩ := HX.out V hVW
             have sV := HSV.out
             have s1 := HS1.out
             have l3 : N ≠ w.heap.size := by omega
             have l4 : w.heap.size <= N := by omega
             have l5 : N ≠ wr.heap.size := by omega
             obtain ⟨j0, j1, j2, j3⟩ := cells4 r0
             obtain ⟨i0, i1, i2, i3⟩ := cells4 mV
             have f0 : ∀ j, V.frozen? ⟨w.heap.size, j, none⟩ = false := fun j => frozen_block r0
             have f1 : ∀ j, V.frozen? ⟨N, j, none⟩ = false := fun j => frozen_block mV
             clear sV s1
             go_wp2
             refine bodyPost_ret (results_row_tmp rfl _ _ w.heap.size 72 _ (0, 0) _ rfl (put4 ((Below.heap_setCell _ _ _ _ (fun e => l3 e.symm)).trans r0) _ _ _ _) Tryz.underlying72 rfl sizeSpot) rfl ?_
             exact ⟨by rw [HHH.out, HV.out]; rfl, below4 (hBY.setCell (p := ⟨N, 0, none⟩) l4 _) (Nat.le_refl _) ..⟩
            ·rw [if_pos (by rfl)]
             go_simp
             have hS1 := hS.alloc hS.size (.cells #[.int .i64 0, .bool false, .int .i64 0, .int .i64 0] 72)
             have m7 := World.alloc_heap_new X0 (.cells #[.int .i64 0, .bool false, .int .i64 0, .int .i64 0] 72)
             have hN : V1.heap.size <= (X0).heap.size := hS.size
             refine hK.out _ _ hS1 (fun _ => ?_)
             generalize (X0).alloc (.cells #[.int .i64 0, .bool false, .int .i64 0, .int .i64 0] 72) = X1 at *
             clear hK K
             try simp only [lay4]
             refine callD 4 (by kernel_rfl) rfl (fun K hK => ?_)
             rw [if_pos (by rfl)]
             go_simp
             refine (HSK.out _ (HKV.out _ hS1).2).mono ?_
             rintro e X2 ⟨rfl, b2⟩
             have hS2 := hS1.trans (b2.mono hS1.size)
             replace m7 := (b2.block _ (Array.getElem?_eq_some_iff.1 m7).1).trans m7
             refine hK.out _ _ hS2 (fun _ => ?_)
             clear hK K
             try simp only [lay4]
             refine takeF 5 (some 73) (v := ?_) hS2 ?_ ?_
             rotate_left
             ·intro w hSw
              go_simp
              try simp only [hd1, hd2]
              with_reducible rfl
             try simp only [lay4]
             refine takeF 10 (some 78) (v := ?_) hS2 ?_ ?_
             rotate_left
             ·intro w hSw
              try go_simp
              with_reducible rfl
             try simp only [lay4]
             refine takeF 11 (some 79) (v := ?_) hS2 ?_ ?_
             rotate_left
             ·intro w hSw
              try go_simp
              with_reducible rfl
             try simp only [lay4]
             refine takeF 12 (some 80) (v := ?_) hS2 ?_ ?_
             rotate_left
             ·intro w hSw
              try go_simp
              with_reducible rfl
             try simp only [lay4]
             refine takeF 13 (some 81) (v := ?_) hS2 ?_ ?_
             rotate_left
             ·intro w hSw
              go_simp
              try simp only [hd1, hd2]
              with_reducible rfl
             try simp only [lay4]
             refine takeF 14 (some 82) (v := ?_) hS2 ?_ ?_
             rotate_left
             ·intro w hSw
              go_simp
              with_reducible rfl
             try simp only [lay4]
             refine takeF 20 (some 88) (v := ?_) hS2 ?_ ?_
             rotate_left
             ·intro w hSw
              go_simp
              with_reducible rfl
             try simp only [lay4]
             refine callD 22 (by kernel_rfl) rfl (fun K hK => ?_)
             rw [if_pos (by rfl)]
             refine wp_store_row 72 _ _ rfl (X0).heap.size #[.int .i64 (xa + d), .bool false, .int .i64 (k : Int), .int .i64 (p - xa)] rfl rfl 72 _ m7 sizeSpot rfl (ones4 ..) ?_
             have hV := below_setRow hS2 hN #[.int .i64 (xa + d), .bool false, .int .i64 (k : Int), .int .i64 (p - xa)]
             have mV := setRow_heap _ _ _ #[.int .i64 (xa + d), .bool false, .int .i64 (k : Int), .int .i64 (p - xa)] _ _ m7
             refine hK.out _ _ hV (fun _ => ?_)
             generalize World.setRow X2 (X0).heap.size #[.int .i64 (xa + d), .bool false, .int .i64 (k : Int), .int .i64 (p - xa)] = V at *
             generalize (X0).heap.size = N at *
             clear hK K
             try simp only [Act.put, List.setIfInBounds_toArray]
             refine wpAnyH_done (by kernel_rfl) ?_ _
             obtain ⟨⟨q0, q1, q2⟩, hVW⟩ := HKV.out V hV
             obtain ⟨r0, _, hBY⟩ := HX.out V hVW
             have sV := HSV.out
             have s1 := HS1.out
             have l3 : N ≠ w.heap.size := by omega
             have l4 : w.heap.size <= N := by omega
             have l5 : N ≠ wr.heap.size := by omega
             obtain ⟨j0, j1, j2, j3⟩ := cells4 r0
             obtain ⟨i0, i1, i2, i3⟩ := cells4 mV
             have f0 : ∀ j, V.frozen? ⟨w.heap.size, j, none⟩ = false := fun j => frozen_block r0
             have f1 : ∀ j, V.frozen? ⟨N, j, none⟩ = false := fun j => frozen_block mV
             clear sV s1
             go_wp2
             refine bodyPost_ret (results_row_tmp rfl _ _ w.heap.size 72 _ (0, 0) _ rfl (put4 ((Below.heap_setCell _ _ _ _ (fun e => l3 e.symm)).trans r0) _ _ _ _) Tryz.underlying72 rfl sizeSpot) rfl ?_
             exact ⟨by rw [HHH.out, HV.out]; rfl, below4 (hBY.setCell (p := ⟨N, 0, none⟩) l4 _) (Nat.le_refl _) ..⟩
           ·have HV : Hid (spotR ⟨xa, xo, xn⟩ k d p side = ⟨xa + d + xn, false, -1, 0⟩) := by
             show spotR _ _ _ _ _ = _
             rw [spot_C (by first | exact HE.out.1 | exact ho) (by first | exact HE.out.2 | exact nl)]
             simp [hs]
            go_wp2_with fail
            rw [HV1.out]
            refine wp_region_held_drew (S := fun X => Below V1.heap.size V1 X) mixed (Below.refl _ _).drew (fun hS => ?_)
            generalize V1.drew = X0 at hS ⊢
            refine takeF 0 (some 68) (v := ?_) hS ?_ ?_
            rotate_left
            ·intro w hSw
             go_simp
             with_reducible rfl
            try simp only [lay4]
            refine takeF 1 (some 69) (v := ?_) hS ?_ ?_
            rotate_left
            ·intro w hSw
             obtain ⟨⟨q0, q1, q2⟩, _⟩ := HKV.out _ hSw
             go_simp
             with_reducible rfl
            try simp only [lay4]
            refine takeF 2 (some 70) (v := ?_) hS ?_ ?_
            rotate_left
            ·intro w hSw
             try go_simp
             with_reducible rfl
            try simp only [lay4]
            refine takeF 3 (some 71) (v := ?_) hS ?_ ?_
            rotate_left
            ·intro w hSw
             try go_simp
             with_reducible rfl
            try simp only [lay4]
            refine takeF 6 (some 74) (v := ?_) hS ?_ ?_
            rotate_left
            ·intro w hSw
             try go_simp
             with_reducible rfl
            try simp only [lay4]
            refine takeF 7 (some 75) (v := ?_) hS ?_ ?_
            rotate_left
            ·intro w hSw
             go_simp
             with_reducible rfl
            try simp only [lay4]
            refine takeF 8 (some 76) (v := ?_) hS ?_ ?_
            rotate_left
            ·intro w hSw
             obtain ⟨⟨q0, q1, q2⟩, _⟩ := HKV.out _ hSw
             go_simp
             with_reducible rfl
            try simp only [lay4]
            refine takeF 9 (some 77) (v := ?_) hS ?_ ?_
            rotate_left
            ·intro w hSw
             go_simp
             try simp only [hd1, hd2]
             with_reducible rfl
            try simp only [lay4]
            refine takeF 15 (some 83) (v := ?_) hS ?_ ?_
            rotate_left
            ·intro w hSw
             try go_simp
             with_reducible rfl
            try simp only [lay4]
            refine takeF 16 (some 84) (v := ?_) hS ?_ ?_
            rotate_left
            ·intro w hSw
             try go_simp
             with_reducible rfl
            try simp only [lay4]
            refine takeF 17 (some 85) (v := ?_) hS ?_ ?_
            rotate_left
            ·intro w hSw
             go_simp
             with_reducible rfl
            try simp only [lay4]
            refine takeF 18 (some 86) (v := ?_) hS ?_ ?_
            rotate_left
            ·intro w hSw
             obtain ⟨⟨q0, q1, q2⟩, _⟩ := HKV.out _ hSw
             go_simp
             with_reducible rfl
            try simp only [lay4]
            refine takeF 19 (some 87) (v := ?_) hS ?_ ?_
            rotate_left
            ·intro w hSw
             go_simp
             try simp only [hd1, hd2]
             with_reducible rfl
            try simp only [lay4]
            refine wpAnyH_ready (rs := [4, 21]) (by kernel_rfl) (by simp) (AllReadyH.cons rfl (fun K hK => ?_) ( AllReadyH.cons rfl (fun K hK => ?_) (AllReadyH.nil)))
            ·rw [if_pos (by rfl)]
             go_simp
             refine (HSK.out _ (HKV.out _ hS).2).mono ?_
             rintro e X1 ⟨rfl, b1⟩
             have hS1 := hS.trans (b1.mono hS.size)
             refine hK.out _ _ hS1 (fun _ => ?_)
             clear hK K
             try simp only [lay4]
             refine takeF 5 (some 73) (v := ?_) hS1 ?_ ?_
             rotate_left
             ·intro w hSw
              go_simp
              try simp only [hd1, hd2]
              with_reducible rfl
             try simp only [lay4]
             refine takeF 10 (some 78) (v := ?_) hS1 ?_ ?_
             rotate_left
             ·intro w hSw
              try go_simp
              with_reducible rfl
             try simp only [lay4]
             refine takeF 11 (some 79) (v := ?_) hS1 ?_ ?_
             rotate_left
             ·intro w hSw
              try go_simp
              with_reducible rfl
             try simp only [lay4]
             refine takeF 12 (some 80) (v := ?_) hS1 ?_ ?_
             rotate_left
             ·intro w hSw
              try go_simp
              with_reducible rfl
             try simp only [lay4]
             refine takeF 13 (some 81) (v := ?_) hS1 ?_ ?_
             rotate_left
             ·intro w hSw
              go_simp
              try simp only [hd1, hd2]
              with_reducible rfl
             try simp only [lay4]
             refine takeF 14 (some 82) (v := ?_) hS1 ?_ ?_
             rotate_left
             ·intro w hSw
              go_simp
              with_reducible rfl
             try simp only [lay4]
             refine takeF 20 (some 88) (v := ?_) hS1 ?_ ?_
             rotate_left
             ·intro w hSw
              go_simp
              with_reducible rfl
             try simp only [lay4]
             refine callD 21 (by kernel_rfl) rfl (fun K hK => ?_)
             rw [if_pos (by rfl)]
             go_simp
             have hS2 := hS1.alloc hS1.size (.cells #[.int .i64 0, .bool false, .int .i64 0, .int .i64 0] 72)
             have m7 := World.alloc_heap_new X1 (.cells #[.int .i64 0, .bool false, .int .i64 0, .int .i64 0] 72)
             have hN : V1.heap.size <= (X1).heap.size := hS1.size
             refine hK.out _ _ hS2 (fun _ => ?_)
             generalize (X1).alloc (.cells #[.int .i64 0, .bool false, .int .i64 0, .int .i64 0] 72) = X2 at *
             clear hK K
             try simp only [lay4]
             refine callD 22 (by kernel_rfl) rfl (fun K hK => ?_)
             rw [if_pos (by rfl)]
             refine wp_store_row 72 _ _ rfl (X1).heap.size #[.int .i64 (xa + d), .bool false, .int .i64 (k : Int), .int .i64 (p - xa)] rfl rfl 72 _ m7 sizeSpot rfl (ones4 ..) ?_
             have hV := below_setRow hS2 hN #[.int .i64 (xa + d), .bool false, .int .i64 (k : Int), .int .i64 (p - xa)]
             have mV := setRow_heap _ _ _ #[.int .i64 (xa + d), .bool false, .int .i64 (k : Int), .int .i64 (p - xa)] _ _ m7
             refine hK.out _ _ hV (fun _ => ?_)
             generalize World.setRow X2 (X1).heap.size #[.int .i64 (xa + d), .bool false, .int .i64 (k : Int), .int .i64 (p - xa)] = V at *
             generalize (X1).heap.size = N at *
             clear hK K
             try simp only [Act.put, List.setIfInBounds_toArray]
             refine wpAnyH_done (by kernel_rfl) ?_ _
             obtain ⟨⟨q0, q1, q2⟩, hVW⟩ := HKV.out V hV
             obtain ⟨r0, _, hBY⟩ := HX.out V hVW
             have sV := HSV.out
             have s1 := HS1.out
             have l3 : N ≠ w.heap.size := by omega
             have l4 : w.heap.size <= N := by omega
             have l5 : N ≠ wr.heap.size := by omega
             obtain ⟨j0, j1, j2, j3⟩ := cells4 r0
             obtain ⟨i0, i1, i2, i3⟩ := cells4 mV
             have f0 : ∀ j, V.frozen? ⟨w.heap.size, j, none⟩ = false := fun j => frozen_block r0
             have f1 : ∀ j, V.frozen? ⟨N, j, none⟩ = false := fun j => frozen_block mV
             clear sV s1
             go_wp2
             refine bodyPost_ret (results_row_tmp rfl _ _ w.heap.size 72 _ (0, 0) _ rfl (put4 ((((Below.heap_setCell _ _ _ _ (fun e => l3 e.symm)).trans (Below.heap_setCell _ _ _ _ (fun e => l3 e.symm))).trans (Below.heap_setCell _ _ _ _ (fun e => l3 e.symm))).trans r0) _ _ _ _) Tryz.underlying72 rfl sizeSpot) rfl ?_
             exact ⟨by rw [HHH.out, HV.out]; rfl, below4 (((hBY.setCell (p := ⟨N, 0, none⟩) l4 _).setCell (p := ⟨N, 2, none⟩) l4 _).setCell (p := ⟨N, 3, none⟩) l4 _) (Nat.le_refl _) ..⟩
            ·rw [if_pos (by rfl)]
             go_simp
             have hS1 := hS.alloc hS.size (.cells #[.int .i64 0, .bool false, .int .i64 0, .int .i64 0] 72)
             have m7 := World.alloc_heap_new X0 (.cells #[.int .i64 0, .bool false, .int .i64 0, .int .i64 0] 72)
             have hN : V1.heap.size <= (X0).heap.size := hS.size
             refine hK.out _ _ hS1 (fun _ => ?_)
             generalize (X0).alloc (.cells #[.int .i64 0, .bool false, .int .i64 0, .int .i64 0] 72) = X1 at *
             clear hK K
             try simp only [lay4]
             refine callD 4 (by kernel_rfl) rfl (fun K hK => ?_)
             rw [if_pos (by rfl)]
             go_simp
             refine (HSK.out _ (HKV.out _ hS1).2).mono ?_
             rintro e X2 ⟨rfl, b2⟩
             have hS2 := hS1.trans (b2.mono hS1.size)
             replace m7 := (b2.block _ (Array.getElem?_eq_some_iff.1 m7).1).trans m7
             refine hK.out _ _ hS2 (fun _ => ?_)
             clear hK K
             try simp only [lay4]
             refine takeF 5 (some 73) (v := ?_) hS2 ?_ ?_
             rotate_left
             ·intro w hSw
              go_simp
              try simp only [hd1, hd2]
              with_reducible rfl
             try simp only [lay4]
             refine takeF 10 (some 78) (v := ?_) hS2 ?_ ?_
             rotate_left
             ·intro w hSw
              try go_simp
              with_reducible rfl
             try simp only [lay4]
             refine takeF 11 (some 79) (v := ?_) hS2 ?_ ?_
             rotate_left
             ·intro w hSw
              try go_simp
              with_reducible rfl
             try simp only [lay4]
             refine takeF 12 (some 80) (v := ?_) hS2 ?_ ?_
             rotate_left
             ·intro w hSw
              try go_simp
              with_reducible rfl
             try simp only [lay4]
             refine takeF 13 (some 81) (v := ?_) hS2 ?_ ?_
             rotate_left
             ·intro w hSw
              go_simp
              try simp only [hd1, hd2]
              with_reducible rfl
             try simp only [lay4]
             refine takeF 14 (some 82) (v := ?_) hS2 ?_ ?_
             rotate_left
             ·intro w hSw
              go_simp
              with_reducible rfl
             try simp only [lay4]
             refine takeF 20 (some 88) (v := ?_) hS2 ?_ ?_
             rotate_left
             ·intro w hSw
              go_simp
              with_reducible rfl
             try simp only [lay4]
             refine callD 22 (by kernel_rfl) rfl (fun K hK => ?_)
             rw [if_pos (by rfl)]
             refine wp_store_row 72 _ _ rfl (X0).heap.size #[.int .i64 (xa + d), .bool false, .int .i64 (k : Int), .int .i64 (p - xa)] rfl rfl 72 _ m7 sizeSpot rfl (ones4 ..) ?_
             have hV := below_setRow hS2 hN #[.int .i64 (xa + d), .bool false, .int .i64 (k : Int), .int .i64 (p - xa)]
             have mV := setRow_heap _ _ _ #[.int .i64 (xa + d), .bool false, .int .i64 (k : Int), .int .i64 (p - xa)] _ _ m7
             refine hK.out _ _ hV (fun _ => ?_)
             generalize World.setRow X2 (X0).heap.size #[.int .i64 (xa + d), .bool false, .int .i64 (k : Int), .int .i64 (p - xa)] = V at *
             generalize (X0).heap.size = N at *
             clear hK K
             try simp only [Act.put, List.setIfInBounds_toArray]
             refine wpAnyH_done (by kernel_rfl) ?_ _
             obtain ⟨⟨q0, q1, q2⟩, hVW⟩ := HKV.out V hV
             obtain ⟨r0, _, hBY⟩ := HX.out V hVW
             have sV := HSV.out
             have s1 := HS1.out
             have l3 : N ≠ w.heap.size := by omega
             have l4 : w.heap.size <= N := by omega
             have l5 : N ≠ wr.heap.size := by omega
             obtain ⟨j0, j1, j2, j3⟩ := cells4 r0
             obtain ⟨i0, i1, i2, i3⟩ := cells4 mV
             have f0 : ∀ j, V.frozen? ⟨w.heap.size, j, none⟩ = false := fun j => frozen_block r0
             have f1 : ∀ j, V.frozen? ⟨N, j, none⟩ = false := fun j => frozen_block mV
             clear sV s1
             go_wp2
             refine bodyPost_ret (results_row_tmp rfl _ _ w.heap.size 72 _ (0, 0) _ rfl (put4 ((((Below.heap_setCell _ _ _ _ (fun e => l3 e.symm)).trans (Below.heap_setCell _ _ _ _ (fun e => l3 e.symm))).trans (Below.heap_setCell _ _ _ _ (fun e => l3 e.symm))).trans r0) _ _ _ _) Tryz.underlying72 rfl sizeSpot) rfl ?_
             exact ⟨by rw [HHH.out, HV.out]; rfl, below4 (((hBY.setCell (p := ⟨N, 0, none⟩) l4 _).setCell (p := ⟨N, 2, none⟩) l4 _).setCell (p := ⟨N, 3, none⟩) l4 _) (Nat.le_refl _) ..⟩
          ·have HE : Hid (xa < p /\ p < xa + xo) := ⟨hgt, by omega⟩
           have nl : p < xa + xo := by omega
           have ne2 : (p == xa + xo) = false := by simpa using e2
           have hd1 : decide (xa < p) = true := by simpa using hgt
           have hd2 : decide (p < xa + xo) = true := by simpa using nl
           clear e2 e1 h0
           by_cases hs : side < 0
           ·have HV : Hid (spotR ⟨xa, xo, xn⟩ k d p side = ⟨xa + d, true, k, p - xa⟩) := by
             show spotR _ _ _ _ _ = _
             rw [spot_D (by first | exact HE.out.1 | exact ho) (by first | exact HE.out.2 | exact nl)]
             simp [hs]
            go_wp2_with fail
            rw [HV1.out]
            refine wp_region_held_drew (S := fun X => Below V1.heap.size V1 X) mixed (Below.refl _ _).drew (fun hS => ?_)
            generalize V1.drew = X0 at hS ⊢
            refine takeF 0 (some 68) (v := ?_) hS ?_ ?_
            rotate_left
            ·intro w hSw
             go_simp
             with_reducible rfl
            try simp only [lay4]
            refine takeF 1 (some 69) (v := ?_) hS ?_ ?_
            rotate_left
            ·intro w hSw
             obtain ⟨⟨q0, q1, q2⟩, _⟩ := HKV.out _ hSw
             go_simp
             with_reducible rfl
            try simp only [lay4]
            refine takeF 2 (some 70) (v := ?_) hS ?_ ?_
            rotate_left
            ·intro w hSw
             try go_simp
             with_reducible rfl
            try simp only [lay4]
            refine takeF 3 (some 71) (v := ?_) hS ?_ ?_
            rotate_left
            ·intro w hSw
             try go_simp
             with_reducible rfl
            try simp only [lay4]
            refine takeF 6 (some 74) (v := ?_) hS ?_ ?_
            rotate_left
            ·intro w hSw
             try go_simp
             with_reducible rfl
            try simp only [lay4]
            refine takeF 7 (some 75) (v := ?_) hS ?_ ?_
            rotate_left
            ·intro w hSw
             go_simp
             with_reducible rfl
            try simp only [lay4]
            refine takeF 8 (some 76) (v := ?_) hS ?_ ?_
            rotate_left
            ·intro w hSw
             obtain ⟨⟨q0, q1, q2⟩, _⟩ := HKV.out _ hSw
             go_simp
             with_reducible rfl
            try simp only [lay4]
            refine takeF 9 (some 77) (v := ?_) hS ?_ ?_
            rotate_left
            ·intro w hSw
             go_simp
             try simp only [hd1, hd2]
             with_reducible rfl
            try simp only [lay4]
            refine takeF 15 (some 83) (v := ?_) hS ?_ ?_
            rotate_left
            ·intro w hSw
             try go_simp
             with_reducible rfl
            try simp only [lay4]
            refine takeF 16 (some 84) (v := ?_) hS ?_ ?_
            rotate_left
            ·intro w hSw
             try go_simp
             with_reducible rfl
            try simp only [lay4]
            refine takeF 17 (some 85) (v := ?_) hS ?_ ?_
            rotate_left
            ·intro w hSw
             go_simp
             with_reducible rfl
            try simp only [lay4]
            refine takeF 18 (some 86) (v := ?_) hS ?_ ?_
            rotate_left
            ·intro w hSw
             obtain ⟨⟨q0, q1, q2⟩, _⟩ := HKV.out _ hSw
             go_simp
             with_reducible rfl
            try simp only [lay4]
            refine takeF 19 (some 87) (v := ?_) hS ?_ ?_
            rotate_left
            ·intro w hSw
             go_simp
             try simp only [hd1, hd2]
             with_reducible rfl
            try simp only [lay4]
            refine wpAnyH_ready (rs := [4, 21]) (by kernel_rfl) (by simp) (AllReadyH.cons rfl (fun K hK => ?_) ( AllReadyH.cons rfl (fun K hK => ?_) (AllReadyH.nil)))
            ·rw [if_pos (by rfl)]
             go_simp
             refine (HSK.out _ (HKV.out _ hS).2).mono ?_
             rintro e X1 ⟨rfl, b1⟩
             have hS1 := hS.trans (b1.mono hS.size)
             refine hK.out _ _ hS1 (fun _ => ?_)
             clear hK K
             try simp only [lay4]
             refine takeF 5 (some 73) (v := ?_) hS1 ?_ ?_
             rotate_left
             ·intro w hSw
              go_simp
              try simp only [hd1, hd2]
              with_reducible rfl
             try simp only [lay4]
             refine takeF 10 (some 78) (v := ?_) hS1 ?_ ?_
             rotate_left
             ·intro w hSw
              try go_simp
              with_reducible rfl
             try simp only [lay4]
             refine takeF 11 (some 79) (v := ?_) hS1 ?_ ?_
             rotate_left
             ·intro w hSw
              try go_simp
              with_reducible rfl
             try simp only [lay4]
             refine takeF 12 (some 80) (v := ?_) hS1 ?_ ?_
             rotate_left
             ·intro w hSw
              try go_simp
              with_reducible rfl
             try simp only [lay4]
             refine takeF 13 (some 81) (v := ?_) hS1 ?_ ?_
             rotate_left
             ·intro w hSw
              go_simp
              try simp only [hd1, hd2]
              with_reducible rfl
             try simp only [lay4]
             refine takeF 14 (some 82) (v := ?_) hS1 ?_ ?_
             rotate_left
             ·intro w hSw
              go_simp
              with_reducible rfl
             try simp only [lay4]
             refine takeF 20 (some 88) (v := ?_) hS1 ?_ ?_
             rotate_left
             ·intro w hSw
              go_simp
              with_reducible rfl
             try simp only [lay4]
             refine callD 21 (by kernel_rfl) rfl (fun K hK => ?_)
             rw [if_pos (by rfl)]
             go_simp
             have hS2 := hS1.alloc hS1.size (.cells #[.int .i64 0, .bool false, .int .i64 0, .int .i64 0] 72)
             have m7 := World.alloc_heap_new X1 (.cells #[.int .i64 0, .bool false, .int .i64 0, .int .i64 0] 72)
             have hN : V1.heap.size <= (X1).heap.size := hS1.size
             refine hK.out _ _ hS2 (fun _ => ?_)
             generalize (X1).alloc (.cells #[.int .i64 0, .bool false, .int .i64 0, .int .i64 0] 72) = X2 at *
             clear hK K
             try simp only [lay4]
             refine callD 22 (by kernel_rfl) rfl (fun K hK => ?_)
             rw [if_pos (by rfl)]
             refine wp_store_row 72 _ _ rfl (X1).heap.size #[.int .i64 (xa + d), .bool true, .int .i64 (k : Int), .int .i64 (p - xa)] rfl rfl 72 _ m7 sizeSpot rfl (ones4 ..) ?_
             have hV := below_setRow hS2 hN #[.int .i64 (xa + d), .bool true, .int .i64 (k : Int), .int .i64 (p - xa)]
             have mV := setRow_heap _ _ _ #[.int .i64 (xa + d), .bool true, .int .i64 (k : Int), .int .i64 (p - xa)] _ _ m7
             refine hK.out _ _ hV (fun _ => ?_)
             generalize World.setRow X2 (X1).heap.size #[.int .i64 (xa + d), .bool true, .int .i64 (k : Int), .int .i64 (p - xa)] = V at *
             generalize (X1).heap.size = N at *
             clear hK K
             try simp only [Act.put, List.setIfInBounds_toArray]
             refine wpAnyH_done (by kernel_rfl) ?_ _
             obtain ⟨⟨q0, q1, q2⟩, hVW⟩ := HKV.out V hV
             obtain ⟨r0, _, hBY⟩ := HX.out V hVW
             have sV := HSV.out
             have s1 := HS1.out
             have l3 : N ≠ w.heap.size := by omega
             have l4 : w.heap.size <= N := by omega
             have l5 : N ≠ wr.heap.size := by omega
             obtain ⟨j0, j1, j2, j3⟩ := cells4 r0
             obtain ⟨i0, i1, i2, i3⟩ := cells4 mV
             have f0 : ∀ j, V.frozen? ⟨w.heap.size, j, none⟩ = false := fun j => frozen_block r0
             have f1 : ∀ j, V.frozen? ⟨N, j, none⟩ = false := fun j => frozen_block mV
             clear sV s1
             go_wp2
             refine bodyPost_ret (results_row_tmp rfl _ _ w.heap.size 72 _ (0, 0) _ rfl (put4 r0 _ _ _ _) Tryz.underlying72 rfl sizeSpot) rfl ?_
             exact ⟨by rw [HHH.out, HV.out]; rfl, below4 hBY (Nat.le_refl _) ..⟩
            ·rw [if_pos (by rfl)]
             go_simp
             have hS1 := hS.alloc hS.size (.cells #[.int .i64 0, .bool false, .int .i64 0, .int .i64 0] 72)
             have m7 := World.alloc_heap_new X0 (.cells #[.int .i64 0, .bool false, .int .i64 0, .int .i64 0] 72)
             have hN : V1.heap.size <= (X0).heap.size := hS.size
             refine hK.out _ _ hS1 (fun _ => ?_)
             generalize (X0).alloc (.cells #[.int .i64 0, .bool false, .int .i64 0, .int .i64 0] 72) = X1 at *
             clear hK K
             try simp only [lay4]
             refine callD 4 (by kernel_rfl) rfl (fun K hK => ?_)
             rw [if_pos (by rfl)]
             go_simp
             refine (HSK.out _ (HKV.out _ hS1).2).mono ?_
             rintro e X2 ⟨rfl, b2⟩
             have hS2 := hS1.trans (b2.mono hS1.size)
             replace m7 := (b2.block _ (Array.getElem?_eq_some_iff.1 m7).1).trans m7
             refine hK.out _ _ hS2 (fun _ => ?_)
             clear hK K
             try simp only [lay4]
             refine takeF 5 (some 73) (v := ?_) hS2 ?_ ?_
             rotate_left
             ·intro w hSw
              go_simp
              try simp only [hd1, hd2]
              with_reducible rfl
             try simp only [lay4]
             refine takeF 10 (some 78) (v := ?_) hS2 ?_ ?_
             rotate_left
             ·intro w hSw
              try go_simp
              with_reducible rfl
             try simp only [lay4]
             refine takeF 11 (some 79) (v := ?_) hS2 ?_ ?_
             rotate_left
             ·intro w hSw
              try go_simp
              with_reducible rfl
             try simp only [lay4]
             refine takeF 12 (some 80) (v := ?_) hS2 ?_ ?_
             rotate_left
             ·intro w hSw
              try go_simp
              with_reducible rfl
             try simp only [lay4]
             refine takeF 13 (some 81) (v := ?_) hS2 ?_ ?_
             rotate_left
             ·intro w hSw
              go_simp
              try simp only [hd1, hd2]
              with_reducible rfl
             try simp only [lay4]
             refine takeF 14 (some 82) (v := ?_) hS2 ?_ ?_
             rotate_left
             ·intro w hSw
              go_simp
              with_reducible rfl
             try simp only [lay4]
             refine takeF 20 (some 88) (v := ?_) hS2 ?_ ?_
             rotate_left
             ·intro w hSw
              go_simp
              with_reducible rfl
             try simp only [lay4]
             refine callD 22 (by kernel_rfl) rfl (fun K hK => ?_)
             rw [if_pos (by rfl)]
             refine wp_store_row 72 _ _ rfl (X0).heap.size #[.int .i64 (xa + d), .bool true, .int .i64 (k : Int), .int .i64 (p - xa)] rfl rfl 72 _ m7 sizeSpot rfl (ones4 ..) ?_
             have hV := below_setRow hS2 hN #[.int .i64 (xa + d), .bool true, .int .i64 (k : Int), .int .i64 (p - xa)]
             have mV := setRow_heap _ _ _ #[.int .i64 (xa + d), .bool true, .int .i64 (k : Int), .int .i64 (p - xa)] _ _ m7
             refine hK.out _ _ hV (fun _ => ?_)
             generalize World.setRow X2 (X0).heap.size #[.int .i64 (xa + d), .bool true, .int .i64 (k : Int), .int .i64 (p - xa)] = V at *
             generalize (X0).heap.size = N at *
             clear hK K
             try simp only [Act.put, List.setIfInBounds_toArray]
             refine wpAnyH_done (by kernel_rfl) ?_ _
             obtain ⟨⟨q0, q1, q2⟩, hVW⟩ := HKV.out V hV
             obtain ⟨r0, _, hBY⟩ := HX.out V hVW
             have sV := HSV.out
             have s1 := HS1.out
             have l3 : N ≠ w.heap.size := by omega
             have l4 : w.heap.size <= N := by omega
             have l5 : N ≠ wr.heap.size := by omega
             obtain ⟨j0, j1, j2, j3⟩ := cells4 r0
             obtain ⟨i0, i1, i2, i3⟩ := cells4 mV
             have f0 : ∀ j, V.frozen? ⟨w.heap.size, j, none⟩ = false := fun j => frozen_block r0
             have f1 : ∀ j, V.frozen? ⟨N, j, none⟩ = false := fun j => frozen_block mV
             clear sV s1
             go_wp2
             refine bodyPost_ret (results_row_tmp rfl _ _ w.heap.size 72 _ (0, 0) _ rfl (put4 r0 _ _ _ _) Tryz.underlying72 rfl sizeSpot) rfl ?_
             exact ⟨by rw [HHH.out, HV.out]; rfl, below4 hBY (Nat.le_refl _) ..⟩
           ·have HV : Hid (spotR ⟨xa, xo, xn⟩ k d p side = ⟨xa + d + xn, true, k, p - xa⟩) := by
             show spotR _ _ _ _ _ = _
             rw [spot_D (by first | exact HE.out.1 | exact ho) (by first | exact HE.out.2 | exact nl)]
             simp [hs]
            go_wp2_with fail
            rw [HV1.out]
            refine wp_region_held_drew (S := fun X => Below V1.heap.size V1 X) mixed (Below.refl _ _).drew (fun hS => ?_)
            generalize V1.drew = X0 at hS ⊢
            refine takeF 0 (some 68) (v := ?_) hS ?_ ?_
            rotate_left
            ·intro w hSw
             go_simp
             with_reducible rfl
            try simp only [lay4]
            refine takeF 1 (some 69) (v := ?_) hS ?_ ?_
            rotate_left
            ·intro w hSw
             obtain ⟨⟨q0, q1, q2⟩, _⟩ := HKV.out _ hSw
             go_simp
             with_reducible rfl
            try simp only [lay4]
            refine takeF 2 (some 70) (v := ?_) hS ?_ ?_
            rotate_left
            ·intro w hSw
             try go_simp
             with_reducible rfl
            try simp only [lay4]
            refine takeF 3 (some 71) (v := ?_) hS ?_ ?_
            rotate_left
            ·intro w hSw
             try go_simp
             with_reducible rfl
            try simp only [lay4]
            refine takeF 6 (some 74) (v := ?_) hS ?_ ?_
            rotate_left
            ·intro w hSw
             try go_simp
             with_reducible rfl
            try simp only [lay4]
            refine takeF 7 (some 75) (v := ?_) hS ?_ ?_
            rotate_left
            ·intro w hSw
             go_simp
             with_reducible rfl
            try simp only [lay4]
            refine takeF 8 (some 76) (v := ?_) hS ?_ ?_
            rotate_left
            ·intro w hSw
             obtain ⟨⟨q0, q1, q2⟩, _⟩ := HKV.out _ hSw
             go_simp
             with_reducible rfl
            try simp only [lay4]
            refine takeF 9 (some 77) (v := ?_) hS ?_ ?_
            rotate_left
            ·intro w hSw
             go_simp
             try simp only [hd1, hd2]
             with_reducible rfl
            try simp only [lay4]
            refine takeF 15 (some 83) (v := ?_) hS ?_ ?_
            rotate_left
            ·intro w hSw
             try go_simp
             with_reducible rfl
            try simp only [lay4]
            refine takeF 16 (some 84) (v := ?_) hS ?_ ?_
            rotate_left
            ·intro w hSw
             try go_simp
             with_reducible rfl
            try simp only [lay4]
            refine takeF 17 (some 85) (v := ?_) hS ?_ ?_
            rotate_left
            ·intro w hSw
             go_simp
             with_reducible rfl
            try simp only [lay4]
            refine takeF 18 (some 86) (v := ?_) hS ?_ ?_
            rotate_left
            ·intro w hSw
             obtain ⟨⟨q0, q1, q2⟩, _⟩ := HKV.out _ hSw
             go_simp
             with_reducible rfl
            try simp only [lay4]
            refine takeF 19 (some 87) (v := ?_) hS ?_ ?_
            rotate_left
            ·intro w hSw
             go_simp
             try simp only [hd1, hd2]
             with_reducible rfl
            try simp only [lay4]
            refine wpAnyH_ready (rs := [4, 21]) (by kernel_rfl) (by simp) (AllReadyH.cons rfl (fun K hK => ?_) ( AllReadyH.cons rfl (fun K hK => ?_) (AllReadyH.nil)))
            ·rw [if_pos (by rfl)]
             go_simp
             refine (HSK.out _ (HKV.out _ hS).2).mono ?_
             rintro e X1 ⟨rfl, b1⟩
             have hS1 := hS.trans (b1.mono hS.size)
             refine hK.out _ _ hS1 (fun _ => ?_)
             clear hK K
             try simp only [lay4]
             refine takeF 5 (some 73) (v := ?_) hS1 ?_ ?_
             rotate_left
             ·intro w hSw
              go_simp
              try simp only [hd1, hd2]
              with_reducible rfl
             try simp only [lay4]
             refine takeF 10 (some 78) (v := ?_) hS1 ?_ ?_
             rotate_left
             ·intro w hSw
              try go_simp
              with_reducible rfl
             try simp only [lay4]
             refine takeF 11 (some 79) (v := ?_) hS1 ?_ ?_
             rotate_left
             ·intro w hSw
              try go_simp
              with_reducible rfl
             try simp only [lay4]
             refine takeF 12 (some 80) (v := ?_) hS1 ?_ ?_
             rotate_left
             ·intro w hSw
              try go_simp
              with_reducible rfl
             try simp only [lay4]
             refine takeF 13 (some 81) (v := ?_) hS1 ?_ ?_
             rotate_left
             ·intro w hSw
              go_simp
              try simp only [hd1, hd2]
              with_reducible rfl
             try simp only [lay4]
             refine takeF 14 (some 82) (v := ?_) hS1 ?_ ?_
             rotate_left
             ·intro w hSw
              go_simp
              with_reducible rfl
             try simp only [lay4]
             refine takeF 20 (some 88) (v := ?_) hS1 ?_ ?_
             rotate_left
             ·intro w hSw
              go_simp
              with_reducible rfl
             try simp only [lay4]
             refine callD 21 (by kernel_rfl) rfl (fun K hK => ?_)
             rw [if_pos (by rfl)]
             go_simp
             have hS2 := hS1.alloc hS1.size (.cells #[.int .i64 0, .bool false, .int .i64 0, .int .i64 0] 72)
             have m7 := World.alloc_heap_new X1 (.cells #[.int .i64 0, .bool false, .int .i64 0, .int .i64 0] 72)
             have hN : V1.heap.size <= (X1).heap.size := hS1.size
             refine hK.out _ _ hS2 (fun _ => ?_)
             generalize (X1).alloc (.cells #[.int .i64 0, .bool false, .int .i64 0, .int .i64 0] 72) = X2 at *
             clear hK K
             try simp only [lay4]
             refine callD 22 (by kernel_rfl) rfl (fun K hK => ?_)
             rw [if_pos (by rfl)]
             refine wp_store_row 72 _ _ rfl (X1).heap.size #[.int .i64 (xa + d), .bool true, .int .i64 (k : Int), .int .i64 (p - xa)] rfl rfl 72 _ m7 sizeSpot rfl (ones4 ..) ?_
             have hV := below_setRow hS2 hN #[.int .i64 (xa + d), .bool true, .int .i64 (k : Int), .int .i64 (p - xa)]
             have mV := setRow_heap _ _ _ #[.int .i64 (xa + d), .bool true, .int .i64 (k : Int), .int .i64 (p - xa)] _ _ m7
             refine hK.out _ _ hV (fun _ => ?_)
             generalize World.setRow X2 (X1).heap.size #[.int .i64 (xa + d), .bool true, .int .i64 (k : Int), .int .i64 (p - xa)] = V at *
             generalize (X1).heap.size = N at *
             clear hK K
             try simp only [Act.put, List.setIfInBounds_toArray]
             refine wpAnyH_done (by kernel_rfl) ?_ _
             obtain ⟨⟨q0, q1, q2⟩, hVW⟩ := HKV.out V hV
             obtain ⟨r0, _, hBY⟩ := HX.out V hVW
             have sV := HSV.out
             have s1 := HS1.out
             have l3 : N ≠ w.heap.size := by omega
             have l4 : w.heap.size <= N := by omega
             have l5 : N ≠ wr.heap.size := by omega
             obtain ⟨j0, j1, j2, j3⟩ := cells4 r0
             obtain ⟨i0, i1, i2, i3⟩ := cells4 mV
             have f0 : ∀ j, V.frozen? ⟨w.heap.size, j, none⟩ = false := fun j => frozen_block r0
             have f1 : ∀ j, V.frozen? ⟨N, j, none⟩ = false := fun j => frozen_block mV
             clear sV s1
             go_wp2
             refine bodyPost_ret (results_row_tmp rfl _ _ w.heap.size 72 _ (0, 0) _ rfl (put4 ((Below.heap_setCell _ _ _ _ (fun e => l3 e.symm)).trans r0) _ _ _ _) Tryz.underlying72 rfl sizeSpot) rfl ?_
             exact ⟨by rw [HHH.out, HV.out]; rfl, below4 (hBY.setCell (p := ⟨N, 0, none⟩) l4 _) (Nat.le_refl _) ..⟩
            ·rw [if_pos (by rfl)]
             go_simp
             have hS1 := hS.alloc hS.size (.cells #[.int .i64 0, .bool false, .int .i64 0, .int .i64 0] 72)
             have m7 := World.alloc_heap_new X0 (.cells #[.int .i64 0, .bool false, .int .i64 0, .int .i64 0] 72)
             have hN : V1.heap.size <= (X0).heap.size := hS.size
             refine hK.out _ _ hS1 (fun _ => ?_)
             generalize (X0).alloc (.cells #[.int .i64 0, .bool false, .int .i64 0, .int .i64 0] 72) = X1 at *
             clear hK K
             try simp only [lay4]
             refine callD 4 (by kernel_rfl) rfl (fun K hK => ?_)
             rw [if_pos (by rfl)]
             go_simp
             refine (HSK.out _ (HKV.out _ hS1).2).mono ?_
             rintro e X2 ⟨rfl, b2⟩
             have hS2 := hS1.trans (b2.mono hS1.size)
             replace m7 := (b2.block _ (Array.getElem?_eq_some_iff.1 m7).1).trans m7
             refine hK.out _ _ hS2 (fun _ => ?_)
             clear hK K
             try simp only [lay4]
             refine takeF 5 (some 73) (v := ?_) hS2 ?_ ?_
             rotate_left
             ·intro w hSw
              go_simp
              try simp only [hd1, hd2]
              with_reducible rfl
             try simp only [lay4]
             refine takeF 10 (some 78) (v := ?_) hS2 ?_ ?_
             rotate_left
             ·intro w hSw
              try go_simp
              with_reducible rfl
             try simp only [lay4]
             refine takeF 11 (some 79) (v := ?_) hS2 ?_ ?_
             rotate_left
             ·intro w hSw
              try go_simp
              with_reducible rfl
             try simp only [lay4]
             refine takeF 12 (some 80) (v := ?_) hS2 ?_ ?_
             rotate_left
             ·intro w hSw
              try go_simp
              with_reducible rfl
             try simp only [lay4]
             refine takeF 13 (some 81) (v := ?_) hS2 ?_ ?_
             rotate_left
             ·intro w hSw
              go_simp
              try simp only [hd1, hd2]
              with_reducible rfl
             try simp only [lay4]
             refine takeF 14 (some 82) (v := ?_) hS2 ?_ ?_
             rotate_left
             ·intro w hSw
              go_simp
              with_reducible rfl
             try simp only [lay4]
             refine takeF 20 (some 88) (v := ?_) hS2 ?_ ?_
             rotate_left
             ·intro w hSw
              go_simp
              with_reducible rfl
             try simp only [lay4]
             refine callD 22 (by kernel_rfl) rfl (fun K hK => ?_)
             rw [if_pos (by rfl)]
             refine wp_store_row 72 _ _ rfl (X0).heap.size #[.int .i64 (xa + d), .bool true, .int .i64 (k : Int), .int .i64 (p - xa)] rfl rfl 72 _ m7 sizeSpot rfl (ones4 ..) ?_
             have hV := below_setRow hS2 hN #[.int .i64 (xa + d), .bool true, .int .i64 (k : Int), .int .i64 (p - xa)]
             have mV := setRow_heap _ _ _ #[.int .i64 (xa + d), .bool true, .int .i64 (k : Int), .int .i64 (p - xa)] _ _ m7
             refine hK.out _ _ hV (fun _ => ?_)
             generalize World.setRow X2 (X0).heap.size #[.int .i64 (xa + d), .bool true, .int .i64 (k : Int), .int .i64 (p - xa)] = V at *
             generalize (X0).heap.size = N at *
             clear hK K
             try simp only [Act.put, List.setIfInBounds_toArray]
             refine wpAnyH_done (by kernel_rfl) ?_ _
             obtain ⟨⟨q0, q1, q2⟩, hVW⟩ := HKV.out V hV
             obtain ⟨r0, _, hBY⟩ := HX.out V hVW
             have sV := HSV.out
             have s1 := HS1.out
             have l3 : N ≠ w.heap.size := by omega
             have l4 : w.heap.size <= N := by omega
             have l5 : N ≠ wr.heap.size := by omega
             obtain ⟨j0, j1, j2, j3⟩ := cells4 r0
             obtain ⟨i0, i1, i2, i3⟩ := cells4 mV
             have f0 : ∀ j, V.frozen? ⟨w.heap.size, j, none⟩ = false := fun j => frozen_block r0
             have f1 : ∀ j, V.frozen? ⟨N, j, none⟩ = false := fun j => frozen_block mV
             clear sV s1
             go_wp2
             refine bodyPost_ret (results_row_tmp rfl _ _ w.heap.size 72 _ (0, 0) _ rfl (put4 ((Below.heap_setCell _ _ _ _ (fun e => l3 e.symm)).trans r0) _ _ _ _) Tryz.underlying72 rfl sizeSpot) rfl ?_
             exact ⟨by rw [HHH.out, HV.out]; rfl, below4 (hBY.setCell (p := ⟨N, 0, none⟩) l4 _) (Nat.le_refl _) ..⟩
     ·obtain rfl : k = len := by omega
      have HAPL : Hid (apart l p k) := hap
      clear hap HHIT
      go_wp2_with fail
      go_loopw [13] (fun i w' => ∃ n : Nat, n <= k /\ i = .int .i64 (n : Int) /\ (∀ j, j < n -> (nth l j).a < p) /\ Below W1.heap.size W1 w') (fun i _ => k - (intOf i).toNat)
      case atStart => exact ⟨0, Nat.zero_le _, rfl, (fun j hj => by omega), hB⟩
      case round =>
       obtain ⟨n, hn, rfl, hlo, hBn⟩ := hrel
       have HLO : Hid (∀ j, j < n -> (nth l j).a < p) := hlo
       clear hlo
       by_cases hltn : n < k
       ·obtain ⟨b, o, rfl, hbl, p0, p1, p2, ⟨b1, b2⟩, ⟨b3, b4⟩, ⟨b5, b6⟩⟩ := HRG.out _ n hBn hltn
        by_cases g1 : (nth l n).a < p
        ·have HLO1 : Hid (∀ j, j < n + 1 -> (nth l j).a < p) := fun j hj => by
          rcases Nat.lt_or_ge j n with h | h
          ·exact HLO.out j h
          ·obtain rfl : j = n := by omega
           exact g1
         generalize (nth l n).a = xa at *
         go_wp2_with fail
         go_roundw
         case rel => exact ⟨n + 1, by omega, by go_num, HLO1.out, hBn⟩
         case measure => simp [intOf]; omega
        ·have HF : Hid (SS = ⟨p + shiftL (l.take n), false, -1, 0⟩) := HMISS.out n (by omega) HAPL.out HLO.out (fun _ => by omega)
         have hdn := HBD.out n
         have HSN := HSH.out
         generalize (nth l n).a = xa at *
         have HSN' : Hid (∀ (X : World), Below W1.heap.size W1 X -> Calls Tryz.prog 64 #[.slice (some ⟨b, o, none⟩) k cap, .int .i64 (n : Int)] X fun e w' => e = .returned (.int .i64 (shiftL (l.take n))) /\ Below X.heap.size X w') := fun X hX => HSN X n hX (by omega)
         clear HSN HRG HMISS HSH HBD
         generalize shiftL (l.take n) = d at *
         have hpd : IntKind.i64.wrap (p + d) = p + d := by rw [IntKind.wrap_i64]; omega
         go_wp2_with fail
         refine (HSN'.out _ hBn).mono ?_
         rintro e Y ⟨rfl, bY⟩
         have hY := hBn.trans (bY.mono hBn.size)
         obtain ⟨r0, _, hBY⟩ := HX.out Y hY
         obtain ⟨j0, j1, j2, j3⟩ := cells4 r0
         have f0 : ∀ j, Y.frozen? ⟨w.heap.size, j, none⟩ = false := fun j => frozen_block r0
         go_wp2
         refine bodyPost_ret (results_row_tmp rfl _ _ w.heap.size 72 _ (0, 0) _ rfl (put4 r0 _ _ _ _) Tryz.underlying72 rfl sizeSpot) rfl ?_
         exact ⟨by rw [HF.out]; rfl, below4 hBY (Nat.le_refl _) ..⟩
       ·obtain rfl : n = k := by omega
        have HF : Hid (SS = ⟨p + shiftL (l.take n), false, -1, 0⟩) := HMISS.out n (by omega) HAPL.out HLO.out (fun h => absurd h (by omega))
        have hdn := HBD.out n
        have HSN := HSH.out
        have HSN' : Hid (∀ (X : World), Below W1.heap.size W1 X -> Calls Tryz.prog 64 #[.slice a n cap, .int .i64 (n : Int)] X fun e w' => e = .returned (.int .i64 (shiftL (l.take n))) /\ Below X.heap.size X w') := fun X hX => HSN X n hX (by omega)
        clear HSN HRG HMISS HSH HBD
        generalize shiftL (l.take n) = d at *
        have hpd : IntKind.i64.wrap (p + d) = p + d := by rw [IntKind.wrap_i64]; omega
        go_wp2_with fail
        refine (HSN'.out _ hBn).mono ?_
        rintro e Y ⟨rfl, bY⟩
        have hY := hBn.trans (bY.mono hBn.size)
        obtain ⟨r0, _, hBY⟩ := HX.out Y hY
        obtain ⟨j0, j1, j2, j3⟩ := cells4 r0
        have f0 : ∀ j, Y.frozen? ⟨w.heap.size, j, none⟩ = false := fun j => frozen_block r0
        go_wp2
        refine bodyPost_ret (results_row_tmp rfl _ _ w.heap.size 72 _ (0, 0) _ rfl (put4 r0 _ _ _ _) Tryz.underlying72 rfl sizeSpot) rfl ?_
        exact ⟨by rw [HF.out]; rfl, below4 hBY (Nat.le_refl _) ..⟩
end Go.Proofs.YtbkpehfaofhmaaaGreatDoor
