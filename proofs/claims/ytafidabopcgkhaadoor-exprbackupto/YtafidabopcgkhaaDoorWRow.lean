/-
  PROVED HERE: writeRow: what it writes, where write does.
-/
import Derived.Test.YtafidabopcgkhaaDoorWithin
namespace Go.Proofs.YtafidabopcgkhaaDoor
open Go.RowKit

theorem joinE_grows (f : DataW Unit → ByteArray) (k : Int) : ∀ (l : List (DataW Unit)) (acc : ByteArray) (i : Nat), acc.size ≤ (joinE f k acc i l).size := by
  intro l
  induction l with
  | nil => intro acc i; exact Nat.le_refl _
  | cons x r ih =>
    intro acc i
    rw [joinE]
    refine Nat.le_trans ?_ (ih _ _)
    rw [ByteArray.size_append]
    have : acc.size ≤ (ahead k i acc).size := by
      unfold ahead
      split
      · split
        · rw [ByteArray.size_append]; omega
        · split
          · rw [ByteArray.size_append]; omega
          · exact Nat.le_refl _
      · exact Nat.le_refl _
    omega
theorem joinE_split (f : DataW Unit → ByteArray) (k : Int) : ∀ (l r : List (DataW Unit)) (acc : ByteArray) (i : Nat), joinE f k acc i (l ++ r) = joinE f k (joinE f k acc i l) (i + l.length) r := by
  intro l
  induction l with
  | nil => intro r acc i; rfl
  | cons x l ih =>
    intro r acc i
    rw [List.cons_append, joinE, joinE, ih, List.length_cons]
    congr 1
    omega
theorem joinE_part (f : DataW Unit → ByteArray) (k : Int) (l : List (DataW Unit)) (acc : ByteArray) (j : Nat) : (joinE f k acc 0 (l.take j)).size ≤ (joinE f k acc 0 l).size := by
  have h := joinE_split f k (l.take j) (l.drop j) acc 0
  rw [List.take_append_drop] at h
  rw [h]
  exact joinE_grows f k _ _ _
theorem piece_wi {k : Int} (hk : k = 2 ∨ k = 3) (f : DataW Unit → ByteArray) (x : DataW Unit) : wiT (f x) (kindT x) k = piece f k x := by
  unfold wiT piece brK
  rcases hk with rfl | rfl
  · have h0 : (if (2 : Int) = 3 then false else if (2 : Int) = 2 then kindT x == 3 else rowK (kindT x)) = (kindT x == 3) := by rw [if_neg (by decide), if_pos rfl]
    rw [h0]
    by_cases h : kindT x = 3
    · rw [if_pos (by rw [h]; rfl), if_pos ⟨rfl, h⟩]
    · rw [if_neg (by rw [beq_iff_eq]; exact h), if_neg (fun e => h e.2)]
  · have h0 : (if (3 : Int) = 3 then false else if (3 : Int) = 2 then kindT x == 3 else rowK (kindT x)) = false := by rw [if_pos rfl]
    rw [h0, if_neg (by decide), if_neg (fun e => by have := e.1; omega)]
theorem ahead_next {k : Int} {c : UInt8} (hk : (k = 2 ∧ c = 32) ∨ (k = 3 ∧ c = 124)) (i : Nat) (acc : ByteArray) : ahead k i acc = if 0 < i then acc ++ sign c else acc := by
  unfold ahead
  rcases hk with ⟨rfl, rfl⟩ | ⟨rfl, rfl⟩
  · split <;> rfl
  · split <;> rfl
set_option maxRecDepth 100000 in
set_option maxHeartbeats 4000000 in
theorem wrow_calls (w0 : World) (B b n S : Nat) (hB0 : B = w0.heap.size) (k : Int) (c : UInt8) (hk : (k = 2 ∧ c = 32) ∨ (k = 3 ∧ c = 124)) (nm : ByteArray) (a : Option Addr) (ln cp : Nat) (ts : List (DataW Unit)) (f : DataW Unit → ByteArray)
    (hX : Ex w0 (n + 1) (node k nm ts) (.agg #[.int .i64 k, .string nm, .slice a ln cp]))
    (HW : ∀ x v, x ∈ ts → Ex w0 n x v → ∀ W bs', Below B w0 W → Lib.IsBuilder 57 5 B b bs' W → B ≤ W.heap.size → bs'.length + (f x).size + S ≤ 140737488355328 → Calls Tryd.prog 22 #[.pointer (some ⟨b, 0, none⟩), v] W fun e w' => e = .returned (.tuple #[]) ∧ Lib.IsBuilder 57 5 B b (bs' ++ Lib.strCells (f x)) w' ∧ Below B W w' ∧ BoxK W w')
    (bs : List Value) (w : World) (hB : Below B w0 w) (h : Lib.IsBuilder 57 5 B b bs w) (hs : B ≤ w.heap.size) (hlen : bs.length + (joinE f k ⟨#[]⟩ 0 ts).size + 3 + S ≤ 140737488355328) :
    Calls Tryd.prog 36 #[.pointer (some ⟨b, 0, none⟩), .agg #[.int .i64 k, .string nm, .slice a ln cp], .int .u8 c.toNat] w fun e w' => e = .returned (.tuple #[]) ∧ Lib.IsBuilder 57 5 B b (bs ++ Lib.strCells (joinE f k ⟨#[]⟩ 0 ts)) w' ∧ Below B w w' ∧ BoxK w w' := by
  obtain ⟨k', s', a', len', cap', ts', hn, hv, hl, hz, hkid⟩ := hX
  obtain ⟨rfl, rfl, rfl⟩ := node_inj.1 hn
  injection hv with hv1
  simp only [Array.mk.injEq, List.cons.injEq, Value.slice.injEq, and_true, true_and] at hv1
  obtain ⟨rfl, rfl, rfl⟩ := hv1
  obtain ⟨w1, hw1⟩ : ∃ w1, w1 = w.alloc (.cells #[.int .i64 k, .string nm, .slice a ln cp] 24) := ⟨_, rfl⟩
  have hB1 : Below B w w1 := by rw [hw1]; exact (Below.refl B w).alloc hs _
  have hx1 : BoxK w w1 := by rw [hw1]; exact BoxK.alloc w _
  have hbox : w1.heap[w.heap.size]? = some (.cells #[.int .i64 k, .string nm, .slice a ln cp] 24 (0, 0)) := by rw [hw1]; exact heap_alloc_new w _
  have hb1 : Lib.IsBuilder 57 5 B b bs w1 := by rw [hw1]; exact isb_alloc h _
  have HS : Hid (Lib.IsBuilder 57 5 B b (bs ++ Lib.strCells (joinE f k ⟨#[]⟩ 0 (ts.take 0))) w1 ∧ Below B w w1 ∧ BoxK w w1 ∧ w1.heap[w.heap.size]? = some (.cells #[.int .i64 k, .string nm, .slice a ln cp] 24 (0, 0))) := ⟨by simpa [joinE, Lib.strCells] using hb1, hB1, hx1, hbox⟩
  have HK : Hid (∀ i, i < ln → ∃ b o x k' s' a' len' cap', a = some ⟨b, o, none⟩ ∧ b < w0.heap.size ∧ ts[i]? = some x ∧ ∀ W : World, Below w0.heap.size w0 W → W.cell? ⟨b, o + i * 3, none⟩ = some (.int .i64 k') ∧ W.cell? ⟨b, o + i * 3 + 1, none⟩ = some (.string s') ∧ W.cell? ⟨b, o + i * 3 + 2, none⟩ = some (.slice a' len' cap') ∧ Ex W n x (.agg #[.int .i64 k', .string s', .slice a' len' cap'])) := fun i hi => kid_at hl hkid hi
  have HWD : Hid (∀ x v, x ∈ ts → Ex w0 n x v → ∀ W bs', Below B w0 W → Lib.IsBuilder 57 5 B b bs' W → B ≤ W.heap.size → bs'.length + (f x).size + S ≤ 140737488355328 → Calls Tryd.prog 22 #[.pointer (some ⟨b, 0, none⟩), v] W fun e w' => e = .returned (.tuple #[]) ∧ Lib.IsBuilder 57 5 B b (bs' ++ Lib.strCells (f x)) w' ∧ Below B W w' ∧ BoxK W w') := HW
  have HC : Hid (B = w0.heap.size ∧ Below B w0 w ∧ B ≤ w.heap.size ∧ bs.length + (joinE f k ⟨#[]⟩ 0 ts).size + 3 + S ≤ 140737488355328 ∧ ((k = 2 ∧ c = 32) ∨ (k = 3 ∧ c = 124)) ∧ ts.length = ln) := ⟨hB0, hB, hs, hlen, hk, hl⟩
  have hln : ln ≤ 4398046511104 := hz
  clear HW hkid hB1 hx1 hbox hb1 hB0 hB hs hlen hk h hn hl
  obtain ⟨C, hC⟩ : ∃ C : Int, (c.toNat : Int) = C := ⟨_, rfl⟩
  rw [hC]
  have HCC : Hid ((c.toNat : Int) = C) := hC
  clear hC
  go_enter Tryd.func36, Tryd.ntmps36
  go_wp2
  rw [← hw1]
  go_loopw [11] (fun i w' => ∃ j : Nat, j ≤ ln ∧ i = .int .i64 (j : Int) ∧ Lib.IsBuilder 57 5 B b (bs ++ Lib.strCells (joinE f k ⟨#[]⟩ 0 (ts.take j))) w' ∧ Below B w w' ∧ BoxK w w' ∧ w'.heap[w.heap.size]? = some (.cells #[.int .i64 k, .string nm, .slice a ln cp] 24 (0, 0))) (fun i _ => ln - (intOf i).toNat)
  case atStart => exact ⟨0, by omega, rfl, HS.out.1, HS.out.2.1, HS.out.2.2.1, HS.out.2.2.2⟩
  case round =>
    clear HS hw1
    obtain ⟨i, hi, rfl, hI, hBw, hXk, hbx⟩ := hrel
    by_cases hlt : i < ln
    · obtain ⟨bb, o, x, kx, sx, ax, lx, cx, rfl, _, hx, hcx⟩ := HK.out i hlt
      obtain ⟨hB0, hB, hs, hlen, hk, hl⟩ := HC.out
      have hBB : Below B w0 wr := hB.trans hBw
      obtain ⟨p0, p1, p2, -⟩ := hcx wr (by rw [← hB0]; exact hBB)
      obtain ⟨-, -, -, p3⟩ := hcx w0 (Below.refl _ _)
      have hkx : kindT x = kx := ex_kind p3
      have hsr : B ≤ wr.heap.size := Bld.next hBw hs
      have hwl : w.heap.size < wr.heap.size := (Array.getElem?_eq_some_iff.1 hbx).1
      have htk := joinE_take f k ts ⟨#[]⟩ 0 i x hx
      rw [Nat.zero_add, ahead_next hk, ← piece_wi (by omega) f x, hkx] at htk
      have hpart := joinE_part f k ts ⟨#[]⟩ (i + 1)
      obtain ⟨wa, hwa⟩ : ∃ wa, wa = wr.alloc (.cells #[.int .i64 kx, .string sx, .slice ax lx cx] 24) := ⟨_, rfl⟩
      have hBa : Below B wr wa := by rw [hwa]; exact (Below.refl B wr).alloc hsr _
      have hXa : BoxK wr wa := by rw [hwa]; exact BoxK.alloc wr _
      have hIa := isb_alloc hI (.cells #[.int .i64 kx, .string sx, .slice ax lx cx] 24)
      rw [← hwa] at hIa
      have hsa : B ≤ wa.heap.size := Bld.next hBa hsr
      have hin : wa.heap[wr.heap.size]? = some (.cells #[.int .i64 kx, .string sx, .slice ax lx cx] 24 (0, 0)) := by rw [hwa]; exact heap_alloc_new wr _
      have hbx2 : wa.heap[w.heap.size]? = some (.cells #[.int .i64 k, .string nm, .slice (some ⟨bb, o, none⟩) ln cp] 24 (0, 0)) := hXa _ _ _ hbx
      have hwt : (f x).size ≤ (wiT (f x) kx k).size := by
        unfold wiT
        split
        · rw [ByteArray.size_append, ByteArray.size_append]; omega
        · exact Nat.le_refl _
      have HWX : Hid (∀ W bs', Below B w0 W → Lib.IsBuilder 57 5 B b bs' W → B ≤ W.heap.size → bs'.length + (f x).size + S ≤ 140737488355328 → Calls Tryd.prog 22 #[.pointer (some ⟨b, 0, none⟩), .agg #[.int .i64 kx, .string sx, .slice ax lx cx]] W fun e w' => e = .returned (.tuple #[]) ∧ Lib.IsBuilder 57 5 B b (bs' ++ Lib.strCells (f x)) w' ∧ Below B W w' ∧ BoxK W w') := fun W bs' h1 h2 h3 h4 => HWD.out x _ (List.mem_of_getElem? hx) p3 W bs' h1 h2 h3 h4
      by_cases h0 : i = 0
      · subst h0
        simp only [Nat.zero_mul, Nat.add_zero] at p0 p1 p2
        rw [if_neg (by decide)] at htk
        have hb0 : (bs ++ Lib.strCells (joinE f k ⟨#[]⟩ 0 (ts.take 0))).length = bs.length + (joinE f k ⟨#[]⟩ 0 (ts.take 0)).size := by rw [List.length_append, Lib.strCells_length]
        rw [htk, ByteArray.size_append] at hpart
        have HWI := within_calls B b kx sx ax lx cx k (f x) (bs ++ Lib.strCells (joinE f k ⟨#[]⟩ 0 (ts.take 0))) wa (fun W bs' h1 h2 h3 h4 => HWX.out W bs' ((hBB.trans hBa).trans h1) h2 h3 (by omega)) hIa hsa (by omega)
        have HN : Hid (joinE f k ⟨#[]⟩ 0 (ts.take (0 + 1)) = joinE f k ⟨#[]⟩ 0 (ts.take 0) ++ wiT (f x) kx k) := htk
        have HA : Hid (Below B w wa ∧ BoxK w wa ∧ wa.heap[w.heap.size]? = some (.cells #[.int .i64 k, .string nm, .slice (some ⟨bb, o, none⟩) ln cp] 24 (0, 0))) := ⟨hBw.trans hBa, hXk.trans hXa, hbx2⟩
        have e0 : wa.cell? ⟨w.heap.size, 0, none⟩ = some (.int .i64 k) := cell_of_row wa _ 0 _ _ _ hbx2
        rw [hwa] at e0
        have HWE : Hid (wa = wr.alloc (.cells #[.int .i64 kx, .string sx, .slice ax lx cx] 24)) := hwa
        clear hcx hx p3 hkx hsr hwl htk hpart hBa hXa hIa hsa hin hbx2 hwa hbx hXk hBw hI hB0 hB hs hlen hk hl hBB hwt hb0 HWX HWD HK
        go_wp2_with fail
        rw [← HWE.out]
        refine HWI.mono ?_
        clear HWI
        rintro e W2 ⟨rfl, h2, hB2, hx2⟩
        have HR : Hid (Lib.IsBuilder 57 5 B b (bs ++ Lib.strCells (joinE f k ⟨#[]⟩ 0 (ts.take (0 + 1)))) W2 ∧ Below B w W2 ∧ BoxK w W2 ∧ W2.heap[w.heap.size]? = some (.cells #[.int .i64 k, .string nm, .slice (some ⟨bb, o, none⟩) ln cp] 24 (0, 0))) := by
          obtain ⟨a1, a2, a3⟩ := HA.out
          refine ⟨?_, a1.trans hB2, a2.trans hx2, hx2 _ _ _ a3⟩
          rw [HN.out, strCells_append, ← List.append_assoc]
          exact h2
        clear h2 hB2 hx2 HA HN HWE e0 p0 p1 p2
        go_wp2
        go_roundw
        case rel => exact ⟨0 + 1, by omega, rfl, HR.out.1, HR.out.2.1, HR.out.2.2.1, HR.out.2.2.2⟩
        case measure => simp [intOf]; omega
      · rw [if_pos (by omega)] at htk
        have hb0 : (bs ++ Lib.strCells (joinE f k ⟨#[]⟩ 0 (ts.take i))).length = bs.length + (joinE f k ⟨#[]⟩ 0 (ts.take i)).size := by rw [List.length_append, Lib.strCells_length]
        rw [htk, ByteArray.size_append, ByteArray.size_append, sign_size] at hpart
        have HBY := bbyte_calls B b _ C wa hIa (by omega) hsa
        have HWI : Hid (∀ W, Below B wa W → Lib.IsBuilder 57 5 B b ((bs ++ Lib.strCells (joinE f k ⟨#[]⟩ 0 (ts.take i))) ++ [.int .u8 C]) W → B ≤ W.heap.size → Calls Tryd.prog 37 #[.pointer (some ⟨b, 0, none⟩), .agg #[.int .i64 kx, .string sx, .slice ax lx cx], .int .i64 k] W fun e w' => e = .returned (.tuple #[]) ∧ Lib.IsBuilder 57 5 B b (((bs ++ Lib.strCells (joinE f k ⟨#[]⟩ 0 (ts.take i))) ++ [.int .u8 C]) ++ Lib.strCells (wiT (f x) kx k)) w' ∧ Below B W w' ∧ BoxK W w') := fun W h1 h2 h3 => within_calls B b kx sx ax lx cx k (f x) _ W (fun W' bs' g1 g2 g3 g4 => HWX.out W' bs' (((hBB.trans hBa).trans h1).trans g1) g2 g3 (by rw [List.length_append, hb0, List.length_singleton] at g4; omega)) h2 h3 (by rw [List.length_append, hb0, List.length_singleton]; omega)
        have HN : Hid (joinE f k ⟨#[]⟩ 0 (ts.take (i + 1)) = joinE f k ⟨#[]⟩ 0 (ts.take i) ++ sign c ++ wiT (f x) kx k) := htk
        have HA : Hid (Below B w wa ∧ BoxK w wa ∧ wa.heap[w.heap.size]? = some (.cells #[.int .i64 k, .string nm, .slice (some ⟨bb, o, none⟩) ln cp] 24 (0, 0)) ∧ wa.heap[wr.heap.size]? = some (.cells #[.int .i64 kx, .string sx, .slice ax lx cx] 24 (0, 0)) ∧ B ≤ wa.heap.size) := ⟨hBw.trans hBa, hXk.trans hXa, hbx2, hin, hsa⟩
        have hig : (0 : Int) < (i : Int) := by omega
        have HWE : Hid (wa = wr.alloc (.cells #[.int .i64 kx, .string sx, .slice ax lx cx] 24)) := hwa
        clear hcx hx p3 hkx hsr hwl htk hpart hBa hXa hIa hsa hin hbx2 hwa hbx hXk hBw hI hB0 hB hs hlen hk hl hBB hwt hb0 HWX HWD HK h0
        go_wp2_with fail
        rw [← HWE.out]
        refine HBY.mono ?_
        clear HBY
        rintro e W1 ⟨rfl, h1, hB1, hx1⟩
        obtain ⟨a1, a2, a3, a4, a5⟩ := HA.out
        have a31 := hx1 _ _ _ a3
        have a41 := hx1 _ _ _ a4
        have HWJ := HWI.out W1 hB1 h1 (Bld.next hB1 a5)
        have e0 : W1.cell? ⟨w.heap.size, 0, none⟩ = some (.int .i64 k) := cell_of_row W1 _ 0 _ _ _ a31
        have d0 : W1.cell? ⟨wr.heap.size, 0, none⟩ = some (.int .i64 kx) := cell_of_row W1 _ 0 _ _ _ a41
        have d1 : W1.cell? ⟨wr.heap.size, 1, none⟩ = some (.string sx) := cell_of_row W1 _ 1 _ _ _ a41
        have d2 : W1.cell? ⟨wr.heap.size, 2, none⟩ = some (.slice ax lx cx) := cell_of_row W1 _ 2 _ _ _ a41
        have HA1 : Hid (Below B w W1 ∧ BoxK w W1 ∧ W1.heap[w.heap.size]? = some (.cells #[.int .i64 k, .string nm, .slice (some ⟨bb, o, none⟩) ln cp] 24 (0, 0))) := ⟨a1.trans hB1, a2.trans hx1, a31⟩
        clear a1 a2 a3 a4 a5 a31 a41 h1 hB1 hx1 HA HWI HWE p0 p1 p2
        go_wp2_with fail
        refine HWJ.mono ?_
        clear HWJ
        rintro e W2 ⟨rfl, h2, hB2, hx2⟩
        have HR : Hid (Lib.IsBuilder 57 5 B b (bs ++ Lib.strCells (joinE f k ⟨#[]⟩ 0 (ts.take (i + 1)))) W2 ∧ Below B w W2 ∧ BoxK w W2 ∧ W2.heap[w.heap.size]? = some (.cells #[.int .i64 k, .string nm, .slice (some ⟨bb, o, none⟩) ln cp] 24 (0, 0))) := by
          obtain ⟨a1, a2, a3⟩ := HA1.out
          refine ⟨?_, a1.trans hB2, a2.trans hx2, hx2 _ _ _ a3⟩
          rw [HN.out, strCells_append, strCells_append, strCells_sign, HCC.out, ← List.append_assoc, ← List.append_assoc]
          exact h2
        clear h2 hB2 hx2 HA1 HN e0 d0 d1 d2
        go_wp2
        go_roundw
        case rel => exact ⟨i + 1, by omega, rfl, HR.out.1, HR.out.2.1, HR.out.2.2.1, HR.out.2.2.2⟩
        case measure => simp [intOf]; omega
    · have hil : i = ln := by omega
      have HE : Hid (Lib.IsBuilder 57 5 B b (bs ++ Lib.strCells (joinE f k ⟨#[]⟩ 0 ts)) wr ∧ Below B w wr ∧ BoxK w wr) := by
        refine ⟨?_, hBw, hXk⟩
        rw [List.take_of_length_le (by rw [HC.out.2.2.2.2.2]; omega)] at hI
        exact hI
      have hni : ¬ (i : Int) < (ln : Int) := by omega
      clear hI hBw hXk hbx hil HK HWD HC
      go_wp2
      go_end0
      exact ⟨rfl, HE.out.1, HE.out.2.1, HE.out.2.2⟩
end Go.Proofs.YtafidabopcgkhaaDoor
