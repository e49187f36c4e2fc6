/-
  PROVED HERE: the document's own Print at every act: its line, or an error.
-/
import Derived.Test.YtmkcdkfjomaidaaDoorPPrint
import Derived.Test.YtmkcdkfjomaidaaDoorRPut
import Derived.Test.YtmkcdkfjomaidaaDoorRFill
import Derived.Test.YtmkcdkfjomaidaaDoorRWord
import Derived.Test.YtmkcdkfjomaidaaDoorRTold
import Derived.Test.YtmkcdkfjomaidaaDoorRSame2
import Derived.Test.YtmkcdkfjomaidaaDoorRAct
namespace Go.Proofs.YtmkcdkfjomaidaaDoor
open Go.RowKit

theorem str3 (acc : ByteArray) (l : List UInt8) : ((acc ++ (⟨#[32]⟩ : ByteArray)) ++ (⟨l.toArray⟩ : ByteArray)).data.toList = acc.data.toList ++ (32 :: l) := by
  simp [ByteArray.data_append]

theorem tail_step {a c d n : Int} {s : ByteArray} {i : Nat} (h : i < s.size) : tail a c d n (s.data.toList.take (i + 1)) = tail a c d n (s.data.toList.take i) ++ (32 :: Lib.itoa (numAt a c d n (s[i]'h))) := by
  have e : s.data.toList[i]? = some (s[i]'h) := by
    rw [Array.getElem?_toList]
    exact Array.getElem?_eq_getElem h
  rw [List.take_add_one, e]
  unfold tail
  rw [List.flatMap_append]
  congr 1
  simp

set_option maxRecDepth 100000 in
set_option maxHeartbeats 1000000 in
theorem rprint_miss (k a b c d n : Int) (bp : Option Addr) (bl bc : Nat) (h : NoWord k b) (w : World) :
    Calls Tryd.prog 8 #[.agg #[.int .i64 k, .int .i64 a, .int .i64 b, .int .i64 c, .int .i64 d, .int .i64 n, .slice bp bl bc]] w fun e w' => e = .returned (.tuple #[.string ⟨#[]⟩, .int .i64 1]) ∧ Below w.heap.size w w' := by
  have HW := hide_ (word_miss k b h)
  have HB : Hid (∀ o, Below w.heap.size w (w.alloc o)) := fun o => (Below.refl _ w).alloc (Nat.le_refl _) o
  clear h
  go_enter Tryd.func8, Tryd.ntmps8
  go_wp2_with fail
  refine (HW.out _).mono ?_
  rintro e W ⟨rfl, hWW⟩
  obtain rfl := hWW.symm
  go_wp2_with fail
  go_ret2
  exact ⟨rfl, HB.out _⟩

/-- What the loop keeps. -/
structure Kp (t : Shp) (a c d n k B : Int) (w0 wr : World) (xb : Nat) (act : Array Value) (i : Nat) (acc : ByteArray) (a1 c1 d1 n1 : Int) : Prop where
  x : wr.heap[xb]? = some (.cells (actC k a1 B c1 d1 n1) 24 (0, 0))
  y : wr.heap[w0.heap.size]? = some (.cells act 24 (0, 0))
  xb : w0.heap.size < xb
  b : Below w0.heap.size w0 wr
  acc : acc.data.toList = t.word.data.toList ++ tail a c d n (t.fs.data.toList.take i)
  set : setP a c d n (actC k 0 B 0 0 0) t.fs.data.toList = setP a c d n (actC k a1 B c1 d1 n1) (t.fs.data.toList.drop i)
  rng : ∀ l ∈ t.fs.data.toList.take i, InR (numAt a c d n l)

set_option maxRecDepth 100000 in
set_option maxHeartbeats 4000000 in
theorem rprint_hit (t : Shp) (ht : t ∈ tab) (k a b c d n : Int) (hk : t.k = k) (hb : k = 0 → t.b = b) (bp : Option Addr) (bl bc : Nat) (w : World) :
    Calls Tryd.prog 8 #[.agg #[.int .i64 k, .int .i64 a, .int .i64 b, .int .i64 c, .int .i64 d, .int .i64 n, .slice bp bl bc]] w fun e w' => (OkR t k a b c d n bl → e = .returned (.tuple #[.string (lineS t a c d n), .int .i64 0])) ∧ (¬ OkR t k a b c d n bl → e = .returned (.tuple #[.string ⟨#[]⟩, .int .i64 1])) ∧ Below w.heap.size w w' := by
  have HW := hide_ (word_hit t ht k b hk hb)
  have hte : t.word.toList.isEmpty = false := by
    have := (tab_blank ht).2
    have e : t.word.data.toList.length = t.word.size := rfl
    rw [ByteArray.toList_eq]
    cases h : t.word.data.toList with
    | nil => rw [h] at e; simp at e; omega
    | cons _ _ => rfl
  have hf4 := (tab_asc ht).2
  have hw10 := tab_word ht
  have HBb : Hid (k ≠ 0 → t.b = 0) := fun h => (tab_k ht).2.2.2.2 (by rw [hk]; exact h)
  obtain ⟨OK, hOK⟩ : ∃ OK, OK = OkR t k a b c d n bl := ⟨_, rfl⟩
  rw [← hOK]
  by_cases hk0 : k = 0
  · subst hk0
    have HOK : Hid (OK = OkR t 0 a b c d n bl) := hOK
    have HTB : Hid (t.k = 0 ∧ t.b = b) := ⟨hk, hb rfl⟩
    have HB0 : Hid (∀ o1 o2, Below w.heap.size w ((w.alloc o1).alloc o2)) := fun o1 o2 => by
      have h := (Below.refl _ w).alloc (Nat.le_refl _) o1
      exact h.alloc h.size o2
    have HX0 : Hid (∀ o1 o2, ((w.alloc o1).alloc o2).heap[w.heap.size + 1]? = some o2) := fun o1 o2 => by
      have := World.alloc_heap_new (w.alloc o1) o2
      rw [World.size_alloc] at this
      exact this
    have HY0 : Hid (∀ o1 o2, ((w.alloc o1).alloc o2).heap[w.heap.size]? = some o1) := fun o1 o2 => (Below.heap_alloc (w.alloc o1) o2 _ (by rw [World.size_alloc]; omega)).trans (World.alloc_heap_new w o1)
    clear hOK hk hb ht
    go_enter Tryd.func8, Tryd.ntmps8
    go_wp2_with fail
    refine (HW.out _).mono ?_
    rintro e W ⟨rfl, hWW⟩
    obtain rfl := hWW.symm
    clear HW
    go_wp2_with fail
    go_loopg [6, 8] (t.fs.size + 1) (fun gk v u wr => ∃ (i : Nat) (acc : ByteArray) (a1 c1 d1 n1 : Int), v = .string acc ∧ u = .int .i64 (i : Int) ∧ i ≤ t.fs.size ∧ t.fs.size < i + gk ∧ acc.size ≤ 10 + 22 * i ∧ Hid (Kp t a c d n 0 b w wr (w.heap.size + 1) #[.int .i64 0, .int .i64 a, .int .i64 b, .int .i64 c, .int .i64 d, .int .i64 n, .slice bp bl bc] i acc a1 c1 d1 n1))
    case atStart =>
      refine ⟨0, t.word, 0, 0, 0, 0, rfl, rfl, Nat.zero_le _, by omega, by omega, ?_, ?_, by omega, HB0.out _ _, by simp [tail], rfl, fun l hl => by simp at hl⟩
      · exact HX0.out _ _
      · exact HY0.out _ _
    case round =>
      obtain ⟨i, acc, a1, c1, d1, n1, rfl, rfl, hi, hgk, hac, HR⟩ := hrel
      have hi0 : (0 : Int) ≤ (i : Int) := by omega
      have hxl : w.heap.size + 1 < wr.heap.size := (Array.getElem?_eq_some_iff.1 HR.out.x).1
      have hyl : w.heap.size < wr.heap.size := by omega
      have m0 : wr.cell? ⟨w.heap.size, 0, none⟩ = some (.int .i64 0) := cell_of_row wr w.heap.size 0 _ _ _ HR.out.y
      have m1 : wr.cell? ⟨w.heap.size, 1, none⟩ = some (.int .i64 a) := cell_of_row wr w.heap.size 1 _ _ _ HR.out.y
      have m2 : wr.cell? ⟨w.heap.size, 2, none⟩ = some (.int .i64 b) := cell_of_row wr w.heap.size 2 _ _ _ HR.out.y
      have m3 : wr.cell? ⟨w.heap.size, 3, none⟩ = some (.int .i64 c) := cell_of_row wr w.heap.size 3 _ _ _ HR.out.y
      have m4 : wr.cell? ⟨w.heap.size, 4, none⟩ = some (.int .i64 d) := cell_of_row wr w.heap.size 4 _ _ _ HR.out.y
      have m5 : wr.cell? ⟨w.heap.size, 5, none⟩ = some (.int .i64 n) := cell_of_row wr w.heap.size 5 _ _ _ HR.out.y
      have m6 : wr.cell? ⟨w.heap.size, 6, none⟩ = some (.slice bp bl bc) := cell_of_row wr w.heap.size 6 _ _ _ HR.out.y
      have x0 : wr.cell? ⟨w.heap.size + 1, 0, none⟩ = some (.int .i64 0) := cell_of_row wr (w.heap.size + 1) 0 _ _ _ HR.out.x
      have x1 : wr.cell? ⟨w.heap.size + 1, 1, none⟩ = some (.int .i64 a1) := cell_of_row wr (w.heap.size + 1) 1 _ _ _ HR.out.x
      have x2 : wr.cell? ⟨w.heap.size + 1, 2, none⟩ = some (.int .i64 b) := cell_of_row wr (w.heap.size + 1) 2 _ _ _ HR.out.x
      have x3 : wr.cell? ⟨w.heap.size + 1, 3, none⟩ = some (.int .i64 c1) := cell_of_row wr (w.heap.size + 1) 3 _ _ _ HR.out.x
      have x4 : wr.cell? ⟨w.heap.size + 1, 4, none⟩ = some (.int .i64 d1) := cell_of_row wr (w.heap.size + 1) 4 _ _ _ HR.out.x
      have x5 : wr.cell? ⟨w.heap.size + 1, 5, none⟩ = some (.int .i64 n1) := cell_of_row wr (w.heap.size + 1) 5 _ _ _ HR.out.x
      have x6 : wr.cell? ⟨w.heap.size + 1, 6, none⟩ = some (.slice none 0 0) := cell_of_row wr (w.heap.size + 1) 6 _ _ _ HR.out.x
      by_cases hlt : i < t.fs.size
      · have hii : (i : Int) < (t.fs.size : Int) := by omega
        have HG : Hid (∀ W, Calls Tryd.prog 20 #[.agg #[.int .i64 0, .int .i64 a, .int .i64 b, .int .i64 c, .int .i64 d, .int .i64 n, .slice bp bl bc], .int .u8 ((t.fs[i]'hlt).toNat : Int)] W fun e w' => e = .returned (.int .i64 (numAt a c d n (t.fs[i]'hlt))) ∧ Below W.heap.size W w') := fun W => get_calls 0 a b c d n bp bl bc (t.fs[i]'hlt) W
        have hmem : (t.fs[i]'hlt) ∈ t.fs.data.toList := by
          have e : t.fs.data.toList[i]? = some (t.fs[i]'hlt) := by rw [Array.getElem?_toList]; exact Array.getElem?_eq_getElem hlt
          exact List.mem_of_getElem? e
        have hTS := tail_step (a := a) (c := c) (d := d) (n := n) hlt
        have hDR := drop_at hlt
        obtain ⟨z, hz⟩ : ∃ z, z = numAt a c d n (t.fs[i]'hlt) := ⟨_, rfl⟩
        rw [← hz] at HG hTS
        have HZ := hide_ hz
        have HTS := hide_ hTS
        have HDR := hide_ hDR
        have HMEM := hide_ hmem
        clear hz hTS hDR hmem
        have HNX : Hid (∀ W1 : World, (Below wr.heap.size wr W1) → (W1.heap[w.heap.size + 1]? = some (.cells (actC 0 a1 b c1 d1 n1) 24 (0, 0)) ∧ W1.heap[w.heap.size]? = some (.cells #[.int .i64 0, .int .i64 a, .int .i64 b, .int .i64 c, .int .i64 d, .int .i64 n, .slice bp bl bc] 24 (0, 0)) ∧ Below w.heap.size w W1)) := fun W1 h => ⟨(h.block _ hxl).trans HR.out.x, (h.block _ hyl).trans HR.out.y, HR.out.b.trans (h.mono (by omega))⟩
        go_wp2_with fail
        go_region_with (refine (HG.out _).mono ?_; rintro e W1 ⟨rfl, hB1⟩)
        all_goals
          have hB1' : Below wr.heap.size wr W1 := (show Below wr.heap.size wr wr.drew from (Below.refl _ wr).drew).trans (show Below wr.heap.size wr.drew W1 from hB1)
          obtain ⟨hx1, hy1, hb1⟩ := HNX.out W1 hB1'
          have HX1 := hide_ hx1
          have HY1 := hide_ hy1
          have HB1 := hide_ hb1
          have y0 : W1.cell? ⟨w.heap.size + 1, 0, none⟩ = some (.int .i64 0) := cell_of_row W1 (w.heap.size + 1) 0 _ _ _ hx1
          have y1 : W1.cell? ⟨w.heap.size + 1, 1, none⟩ = some (.int .i64 a1) := cell_of_row W1 (w.heap.size + 1) 1 _ _ _ hx1
          have y2 : W1.cell? ⟨w.heap.size + 1, 2, none⟩ = some (.int .i64 b) := cell_of_row W1 (w.heap.size + 1) 2 _ _ _ hx1
          have y3 : W1.cell? ⟨w.heap.size + 1, 3, none⟩ = some (.int .i64 c1) := cell_of_row W1 (w.heap.size + 1) 3 _ _ _ hx1
          have y4 : W1.cell? ⟨w.heap.size + 1, 4, none⟩ = some (.int .i64 d1) := cell_of_row W1 (w.heap.size + 1) 4 _ _ _ hx1
          have y5 : W1.cell? ⟨w.heap.size + 1, 5, none⟩ = some (.int .i64 n1) := cell_of_row W1 (w.heap.size + 1) 5 _ _ _ hx1
          have y6 : W1.cell? ⟨w.heap.size + 1, 6, none⟩ = some (.slice none 0 0) := cell_of_row W1 (w.heap.size + 1) 6 _ _ _ hx1
          have hl1 : w.heap.size + 1 < W1.heap.size := (Array.getElem?_eq_some_iff.1 hx1).1
          clear m0 x0 m1 x1 m2 x2 m3 x3 m4 x4 m5 x5 m6 x6 hB1 hB1' hx1 hy1 hb1 HG HNX
          by_cases hin : InR z
          · have hz0 : ¬ (z < -999999999) := by have := hin.1; omega
            have hz1 : ¬ (999999999 < z) := by have := hin.2; omega
            obtain ⟨a2, c2, d2, n2, hset, _, _⟩ := numAt_set a1 c1 d1 n1 z (t.fs[i]'hlt)
            have HP2 : Hid (Calls Tryd.prog 21 #[.agg #[.int .i64 0, .int .i64 a1, .int .i64 b, .int .i64 c1, .int .i64 d1, .int .i64 n1, .slice none 0 0], .int .u8 ((t.fs[i]'hlt).toNat : Int), .int .i64 z] W1.drew fun e W2 => e = .returned (.agg #[.int .i64 0, .int .i64 a2, .int .i64 b, .int .i64 c2, .int .i64 d2, .int .i64 n2, .slice none 0 0]) ∧ (W2.cell? ⟨w.heap.size + 1, 0, none⟩ = some (.int .i64 0) ∧ W2.cell? ⟨w.heap.size + 1, 1, none⟩ = some (.int .i64 a1) ∧ W2.cell? ⟨w.heap.size + 1, 2, none⟩ = some (.int .i64 b) ∧ W2.cell? ⟨w.heap.size + 1, 3, none⟩ = some (.int .i64 c1) ∧ W2.cell? ⟨w.heap.size + 1, 4, none⟩ = some (.int .i64 d1) ∧ W2.cell? ⟨w.heap.size + 1, 5, none⟩ = some (.int .i64 n1) ∧ W2.cell? ⟨w.heap.size + 1, 6, none⟩ = some (.slice none 0 0)) ∧ (∀ o, W2.frozen? ⟨w.heap.size + 1, o, none⟩ = false) ∧ Hid (W2.heap[w.heap.size + 1]? = some (.cells (actC 0 a1 b c1 d1 n1) 24 (0, 0)) ∧ W2.heap[w.heap.size]? = some (.cells #[.int .i64 0, .int .i64 a, .int .i64 b, .int .i64 c, .int .i64 d, .int .i64 n, .slice bp bl bc] 24 (0, 0)) ∧ Below w.heap.size w W2)) := by
              refine (put_calls 0 a1 b c1 d1 n1 z (t.fs[i]'hlt) a2 c2 d2 n2 (hset 0 b) W1.drew).mono ?_
              rintro e W2 ⟨rfl, hB2⟩
              have hB4 : Below W1.heap.size W1 W2 := (show Below W1.heap.size W1 W1.drew from (Below.refl _ W1).drew).trans (show Below W1.heap.size W1.drew W2 from hB2)
              have hr2 := (hB4.block _ hl1).trans HX1.out
              exact ⟨rfl, ⟨cell_of_row W2 (w.heap.size + 1) 0 _ _ _ hr2, cell_of_row W2 (w.heap.size + 1) 1 _ _ _ hr2, cell_of_row W2 (w.heap.size + 1) 2 _ _ _ hr2, cell_of_row W2 (w.heap.size + 1) 3 _ _ _ hr2, cell_of_row W2 (w.heap.size + 1) 4 _ _ _ hr2, cell_of_row W2 (w.heap.size + 1) 5 _ _ _ hr2, cell_of_row W2 (w.heap.size + 1) 6 _ _ _ hr2⟩, fun o => by simp [World.frozen?, hr2], hr2, (hB4.block _ (by omega)).trans HY1.out, HB1.out.trans (hB4.mono (by omega))⟩
            have HT := hide_ (fun W => told_calls z hin.1 hin.2 W)
            have hlz : (Lib.itoa z).length ≤ 21 := Lib.itoa_length_le z (by have := hin.1; omega) (by have := hin.2; omega)
            have hadd1 : ∀ W, (Op.stringOp .add acc ⟨#[32]⟩).run Tryd.prog W = .ok (.string (acc ++ (⟨#[32]⟩ : ByteArray))) W := fun W => run_string_add_sum W _ _ (by show acc.size + 1 ≤ _; omega)
            have hs1 : (acc ++ (⟨#[32]⟩ : ByteArray)).size = acc.size + 1 := by rw [ByteArray.size_append]; rfl
            have hadd2 : ∀ W, (Op.stringOp .add (acc ++ (⟨#[32]⟩ : ByteArray)) ⟨(Lib.itoa z).toArray⟩).run Tryd.prog W = .ok (.string ((acc ++ (⟨#[32]⟩ : ByteArray)) ++ (⟨(Lib.itoa z).toArray⟩ : ByteArray))) W := fun W => run_string_add_sum W _ _ (by rw [hs1]; show acc.size + 1 + (Lib.itoa z).toArray.size ≤ _; rw [List.size_toArray]; omega)
            have HN : Hid (((acc ++ (⟨#[32]⟩ : ByteArray)) ++ (⟨(Lib.itoa z).toArray⟩ : ByteArray)).size ≤ 10 + 22 * (i + 1) ∧ ((acc ++ (⟨#[32]⟩ : ByteArray)) ++ (⟨(Lib.itoa z).toArray⟩ : ByteArray)).data.toList = t.word.data.toList ++ tail a c d n (t.fs.data.toList.take (i + 1)) ∧
              setP a c d n (actC 0 0 b 0 0 0) t.fs.data.toList = setP a c d n (actC 0 a2 b c2 d2 n2) (t.fs.data.toList.drop (i + 1)) ∧ ∀ l ∈ t.fs.data.toList.take (i + 1), InR (numAt a c d n l)) := by
              refine ⟨by rw [ByteArray.size_append, hs1]; show acc.size + 1 + (Lib.itoa z).toArray.size ≤ _; rw [List.size_toArray]; omega, by rw [str3, HR.out.acc, HTS.out, List.append_assoc], ?_, ?_⟩
              · rw [HR.out.set, HDR.out, setP, ← HZ.out, hset]
              · intro l hl
                have e : t.fs.data.toList[i]? = some (t.fs[i]'hlt) := by rw [Array.getElem?_toList]; exact Array.getElem?_eq_getElem hlt
                rw [List.take_add_one, e] at hl
                rcases List.mem_append.1 hl with h | h
                · exact HR.out.rng l h
                · have : l = (t.fs[i]'hlt) := by simpa using h
                  rw [this, ← HZ.out]
                  exact hin
            clear HR HTS HDR HZ HMEM hset hin HX1 HY1 HB1
            go_wp2_with fail
            go_region_with (refine HP2.out.mono ?_; rintro e W2 ⟨rfl, ⟨q0, q1, q2, q3, q4, q5, q6⟩, qf, HQ⟩)
            all_goals
              obtain ⟨V, hV⟩ : ∃ V, V = (((((((W2.setCell ⟨w.heap.size + 1, 0, none⟩ (.int .i64 0)).setCell ⟨w.heap.size + 1, 1, none⟩ (.int .i64 a2)).setCell ⟨w.heap.size + 1, 2, none⟩ (.int .i64 b)).setCell ⟨w.heap.size + 1, 3, none⟩ (.int .i64 c2)).setCell ⟨w.heap.size + 1, 4, none⟩ (.int .i64 d2)).setCell ⟨w.heap.size + 1, 5, none⟩ (.int .i64 n2)).setCell ⟨w.heap.size + 1, 6, none⟩ (.slice none 0 0)) := ⟨_, rfl⟩
              rw [← hV]
              have HV : Hid (V.heap[w.heap.size + 1]? = some (.cells (actC 0 a2 b c2 d2 n2) 24 (0, 0)) ∧ V.heap[w.heap.size]? = some (.cells #[.int .i64 0, .int .i64 a, .int .i64 b, .int .i64 c, .int .i64 d, .int .i64 n, .slice bp bl bc] 24 (0, 0)) ∧ Below w.heap.size w V) := by
                have hB : But (· = w.heap.size + 1) W2 V := by
                  rw [hV]
                  exact (But.trans (But.trans (But.trans (But.trans (But.trans (But.trans (But.trans (But.refl (· = w.heap.size + 1) W2) (But.setCell (· = w.heap.size + 1) _ ⟨w.heap.size + 1, 0, none⟩ (.int .i64 0) rfl) (fun _ _ h => h)) (But.setCell (· = w.heap.size + 1) _ ⟨w.heap.size + 1, 1, none⟩ (.int .i64 a2) rfl) (fun _ _ h => h)) (But.setCell (· = w.heap.size + 1) _ ⟨w.heap.size + 1, 2, none⟩ (.int .i64 b) rfl) (fun _ _ h => h)) (But.setCell (· = w.heap.size + 1) _ ⟨w.heap.size + 1, 3, none⟩ (.int .i64 c2) rfl) (fun _ _ h => h)) (But.setCell (· = w.heap.size + 1) _ ⟨w.heap.size + 1, 4, none⟩ (.int .i64 d2) rfl) (fun _ _ h => h)) (But.setCell (· = w.heap.size + 1) _ ⟨w.heap.size + 1, 5, none⟩ (.int .i64 n2) rfl) (fun _ _ h => h)) (But.setCell (· = w.heap.size + 1) _ ⟨w.heap.size + 1, 6, none⟩ (.slice none 0 0) rfl) (fun _ _ h => h))
                refine ⟨by rw [hV]; exact seven_set W2 (w.heap.size + 1) _ _ _ _ _ _ _ _ _ _ _ _ _ _ _ HQ.out.1, (hB.block _ (by have := (Array.getElem?_eq_some_iff.1 HQ.out.2.1).1; exact this) (show ¬ w.heap.size = w.heap.size + 1 by omega)).trans HQ.out.2.1, ?_⟩
                have hs2 : w.heap.size + 1 < W2.heap.size := (Array.getElem?_eq_some_iff.1 HQ.out.1).1
                exact HQ.out.2.2.trans (hB.below (by omega) (fun q hq => by rw [show q = w.heap.size + 1 from hq]; omega))
              clear hV HQ q0 q1 q2 q3 q4 q5 q6 qf HP2 y0 y1 y2 y3 y4 y5 y6
              go_wp2_with fail
              refine (HT.out _).mono ?_
              rintro e W3 ⟨rfl, hB3⟩
              have HB3 : Hid (W3.heap[w.heap.size + 1]? = some (.cells (actC 0 a2 b c2 d2 n2) 24 (0, 0)) ∧ W3.heap[w.heap.size]? = some (.cells #[.int .i64 0, .int .i64 a, .int .i64 b, .int .i64 c, .int .i64 d, .int .i64 n, .slice bp bl bc] 24 (0, 0)) ∧ Below w.heap.size w W3) := ⟨(hB3.block _ (Array.getElem?_eq_some_iff.1 HV.out.1).1).trans HV.out.1, (hB3.block _ (Array.getElem?_eq_some_iff.1 HV.out.2.1).1).trans HV.out.2.1, HV.out.2.2.trans (hB3.mono HV.out.2.2.size)⟩
              clear hB3
              go_wp2_with fail
              go_roundg (t.fs.size - i)
              case measure => omega
              case rel => exact ⟨i + 1, _, a2, c2, d2, n2, rfl, by first | rfl | go_num, by omega, by omega, HN.out.1, HB3.out.1, HB3.out.2.1, by omega, HB3.out.2.2, HN.out.2.1, HN.out.2.2.1, HN.out.2.2.2⟩
          · have HNO : Hid (¬ OK) := by
              show ¬ OK
              rw [HOK.out]
              exact fun e => hin (by rw [HZ.out]; exact e.1 _ HMEM.out)
            have hin' : z < -999999999 ∨ 999999999 < z := by
              by_cases h1 : z < -999999999
              · exact .inl h1
              · by_cases h2 : 999999999 < z
                · exact .inr h2
                · exact absurd ⟨by omega, by omega⟩ hin
            clear HR HTS HDR HZ HMEM hin
            by_cases hz0 : z < -999999999
            · clear hin'
              go_wp2_with fail
              go_ret2
              exact ⟨fun e => absurd e HNO.out, fun _ => rfl, HB1.out⟩
            · have hz1 : 999999999 < z := hin'.resolve_left hz0
              clear hin'
              go_wp2_with fail
              go_ret2
              exact ⟨fun e => absurd e HNO.out, fun _ => rfl, HB1.out⟩
      · obtain rfl : i = t.fs.size := by omega
        have HQ : Hid ((OK ↔ ((0 = 0 ∧ a1 = a ∧ b = b ∧ c1 = c ∧ d1 = d ∧ n1 = n ∧ 0 = 0 ∧ bl = 0))) ∧ acc = lineS t a c d n ∧ Below w.heap.size w wr) := by
          have htk : t.fs.data.toList.take t.fs.size = t.fs.data.toList := List.take_of_length_le (Nat.le_refl _)
          have hdr : t.fs.data.toList.drop t.fs.size = [] := List.drop_eq_nil_of_le (Nat.le_refl _)
          have h1 := HR.out.set
          have h2 := HR.out.acc
          have h3 := HR.out.rng
          rw [hdr] at h1
          rw [htk] at h2 h3
          have h1' : setP a c d n (actC 0 0 b 0 0 0) t.fs.data.toList = actC 0 a1 b c1 d1 n1 := h1
          refine ⟨?_, of_list h2, HR.out.b⟩
          rw [HOK.out]
          unfold OkR
          rw [HTB.out.1, HTB.out.2, h1']
          constructor
          · rintro ⟨_, e, e2⟩
            obtain ⟨_, e3, e4, e5, e6, e7⟩ := actC_inj e
            exact ⟨rfl, e3, e4, e5, e6, e7, rfl, e2⟩
          · rintro ⟨_, e3, e4, e5, e6, e7, _, e2⟩
            exact ⟨h3, by rw [e3, e4, e5, e6, e7], e2⟩
        have HRS := hide_ (rsame_calls 0 a1 b c1 d1 n1 0 a b c d n none bp 0 0 bl bc wr)
        clear HR HOK
        go_wp2_with fail
        refine HRS.out.mono ?_
        rintro e W ⟨ok, rfl, hok, hB⟩
        have HBW := hide_ (HQ.out.2.2.trans (hB.mono HQ.out.2.2.size))
        cases ok with
        | false =>
          have HNO : Hid (¬ OK) := fun e => by have := hok.2 (HQ.out.1.1 e); cases this
          clear hok HQ hB
          go_wp2_with fail
          go_ret2
          exact ⟨fun e => absurd e HNO.out, fun _ => rfl, HBW.out⟩
        | true =>
          have HYES : Hid (OK ∧ acc = lineS t a c d n) := ⟨HQ.out.1.2 (hok.1 rfl), HQ.out.2.1⟩
          clear hok HQ hB
          go_wp2_with fail
          go_ret2
          obtain ⟨e1, e2⟩ := HYES.out
          subst e2
          exact ⟨fun _ => rfl, fun e => absurd e1 e, HBW.out⟩
  · have hk00 : (k == (0 : Int)) = false := beq_eq_false_iff_ne.2 hk0
    have HOK : Hid (OK = OkR t k a b c d n bl) := hOK
    have HTB : Hid (t.k = k ∧ t.b = 0) := ⟨hk, HBb.out hk0⟩
    have HB0 : Hid (∀ o1 o2, Below w.heap.size w ((w.alloc o1).alloc o2)) := fun o1 o2 => by
      have h := (Below.refl _ w).alloc (Nat.le_refl _) o1
      exact h.alloc h.size o2
    have HX0 : Hid (∀ o1 o2, ((w.alloc o1).alloc o2).heap[w.heap.size + 1]? = some o2) := fun o1 o2 => by
      have := World.alloc_heap_new (w.alloc o1) o2
      rw [World.size_alloc] at this
      exact this
    have HY0 : Hid (∀ o1 o2, ((w.alloc o1).alloc o2).heap[w.heap.size]? = some o1) := fun o1 o2 => (Below.heap_alloc (w.alloc o1) o2 _ (by rw [World.size_alloc]; omega)).trans (World.alloc_heap_new w o1)
    clear hOK hk hb ht hk0
    go_enter Tryd.func8, Tryd.ntmps8
    go_wp2_with fail
    refine (HW.out _).mono ?_
    rintro e W ⟨rfl, hWW⟩
    obtain rfl := hWW.symm
    clear HW
    go_wp2_with fail
    go_loopg [6, 8] (t.fs.size + 1) (fun gk v u wr => ∃ (i : Nat) (acc : ByteArray) (a1 c1 d1 n1 : Int), v = .string acc ∧ u = .int .i64 (i : Int) ∧ i ≤ t.fs.size ∧ t.fs.size < i + gk ∧ acc.size ≤ 10 + 22 * i ∧ Hid (Kp t a c d n k 0 w wr (w.heap.size + 1) #[.int .i64 k, .int .i64 a, .int .i64 b, .int .i64 c, .int .i64 d, .int .i64 n, .slice bp bl bc] i acc a1 c1 d1 n1))
    case atStart =>
      refine ⟨0, t.word, 0, 0, 0, 0, rfl, rfl, Nat.zero_le _, by omega, by omega, ?_, ?_, by omega, HB0.out _ _, by simp [tail], rfl, fun l hl => by simp at hl⟩
      · exact HX0.out _ _
      · exact HY0.out _ _
    case round =>
      obtain ⟨i, acc, a1, c1, d1, n1, rfl, rfl, hi, hgk, hac, HR⟩ := hrel
      have hi0 : (0 : Int) ≤ (i : Int) := by omega
      have hxl : w.heap.size + 1 < wr.heap.size := (Array.getElem?_eq_some_iff.1 HR.out.x).1
      have hyl : w.heap.size < wr.heap.size := by omega
      have m0 : wr.cell? ⟨w.heap.size, 0, none⟩ = some (.int .i64 k) := cell_of_row wr w.heap.size 0 _ _ _ HR.out.y
      have m1 : wr.cell? ⟨w.heap.size, 1, none⟩ = some (.int .i64 a) := cell_of_row wr w.heap.size 1 _ _ _ HR.out.y
      have m2 : wr.cell? ⟨w.heap.size, 2, none⟩ = some (.int .i64 b) := cell_of_row wr w.heap.size 2 _ _ _ HR.out.y
      have m3 : wr.cell? ⟨w.heap.size, 3, none⟩ = some (.int .i64 c) := cell_of_row wr w.heap.size 3 _ _ _ HR.out.y
      have m4 : wr.cell? ⟨w.heap.size, 4, none⟩ = some (.int .i64 d) := cell_of_row wr w.heap.size 4 _ _ _ HR.out.y
      have m5 : wr.cell? ⟨w.heap.size, 5, none⟩ = some (.int .i64 n) := cell_of_row wr w.heap.size 5 _ _ _ HR.out.y
      have m6 : wr.cell? ⟨w.heap.size, 6, none⟩ = some (.slice bp bl bc) := cell_of_row wr w.heap.size 6 _ _ _ HR.out.y
      have x0 : wr.cell? ⟨w.heap.size + 1, 0, none⟩ = some (.int .i64 k) := cell_of_row wr (w.heap.size + 1) 0 _ _ _ HR.out.x
      have x1 : wr.cell? ⟨w.heap.size + 1, 1, none⟩ = some (.int .i64 a1) := cell_of_row wr (w.heap.size + 1) 1 _ _ _ HR.out.x
      have x2 : wr.cell? ⟨w.heap.size + 1, 2, none⟩ = some (.int .i64 0) := cell_of_row wr (w.heap.size + 1) 2 _ _ _ HR.out.x
      have x3 : wr.cell? ⟨w.heap.size + 1, 3, none⟩ = some (.int .i64 c1) := cell_of_row wr (w.heap.size + 1) 3 _ _ _ HR.out.x
      have x4 : wr.cell? ⟨w.heap.size + 1, 4, none⟩ = some (.int .i64 d1) := cell_of_row wr (w.heap.size + 1) 4 _ _ _ HR.out.x
      have x5 : wr.cell? ⟨w.heap.size + 1, 5, none⟩ = some (.int .i64 n1) := cell_of_row wr (w.heap.size + 1) 5 _ _ _ HR.out.x
      have x6 : wr.cell? ⟨w.heap.size + 1, 6, none⟩ = some (.slice none 0 0) := cell_of_row wr (w.heap.size + 1) 6 _ _ _ HR.out.x
      by_cases hlt : i < t.fs.size
      · have hii : (i : Int) < (t.fs.size : Int) := by omega
        have HG : Hid (∀ W, Calls Tryd.prog 20 #[.agg #[.int .i64 k, .int .i64 a, .int .i64 b, .int .i64 c, .int .i64 d, .int .i64 n, .slice bp bl bc], .int .u8 ((t.fs[i]'hlt).toNat : Int)] W fun e w' => e = .returned (.int .i64 (numAt a c d n (t.fs[i]'hlt))) ∧ Below W.heap.size W w') := fun W => get_calls k a b c d n bp bl bc (t.fs[i]'hlt) W
        have hmem : (t.fs[i]'hlt) ∈ t.fs.data.toList := by
          have e : t.fs.data.toList[i]? = some (t.fs[i]'hlt) := by rw [Array.getElem?_toList]; exact Array.getElem?_eq_getElem hlt
          exact List.mem_of_getElem? e
        have hTS := tail_step (a := a) (c := c) (d := d) (n := n) hlt
        have hDR := drop_at hlt
        obtain ⟨z, hz⟩ : ∃ z, z = numAt a c d n (t.fs[i]'hlt) := ⟨_, rfl⟩
        rw [← hz] at HG hTS
        have HZ := hide_ hz
        have HTS := hide_ hTS
        have HDR := hide_ hDR
        have HMEM := hide_ hmem
        clear hz hTS hDR hmem
        have HNX : Hid (∀ W1 : World, (Below wr.heap.size wr W1) → (W1.heap[w.heap.size + 1]? = some (.cells (actC k a1 0 c1 d1 n1) 24 (0, 0)) ∧ W1.heap[w.heap.size]? = some (.cells #[.int .i64 k, .int .i64 a, .int .i64 b, .int .i64 c, .int .i64 d, .int .i64 n, .slice bp bl bc] 24 (0, 0)) ∧ Below w.heap.size w W1)) := fun W1 h => ⟨(h.block _ hxl).trans HR.out.x, (h.block _ hyl).trans HR.out.y, HR.out.b.trans (h.mono (by omega))⟩
        go_wp2_with fail
        go_region_with (refine (HG.out _).mono ?_; rintro e W1 ⟨rfl, hB1⟩)
        all_goals
          have hB1' : Below wr.heap.size wr W1 := (show Below wr.heap.size wr wr.drew from (Below.refl _ wr).drew).trans (show Below wr.heap.size wr.drew W1 from hB1)
          obtain ⟨hx1, hy1, hb1⟩ := HNX.out W1 hB1'
          have HX1 := hide_ hx1
          have HY1 := hide_ hy1
          have HB1 := hide_ hb1
          have y0 : W1.cell? ⟨w.heap.size + 1, 0, none⟩ = some (.int .i64 k) := cell_of_row W1 (w.heap.size + 1) 0 _ _ _ hx1
          have y1 : W1.cell? ⟨w.heap.size + 1, 1, none⟩ = some (.int .i64 a1) := cell_of_row W1 (w.heap.size + 1) 1 _ _ _ hx1
          have y2 : W1.cell? ⟨w.heap.size + 1, 2, none⟩ = some (.int .i64 0) := cell_of_row W1 (w.heap.size + 1) 2 _ _ _ hx1
          have y3 : W1.cell? ⟨w.heap.size + 1, 3, none⟩ = some (.int .i64 c1) := cell_of_row W1 (w.heap.size + 1) 3 _ _ _ hx1
          have y4 : W1.cell? ⟨w.heap.size + 1, 4, none⟩ = some (.int .i64 d1) := cell_of_row W1 (w.heap.size + 1) 4 _ _ _ hx1
          have y5 : W1.cell? ⟨w.heap.size + 1, 5, none⟩ = some (.int .i64 n1) := cell_of_row W1 (w.heap.size + 1) 5 _ _ _ hx1
          have y6 : W1.cell? ⟨w.heap.size + 1, 6, none⟩ = some (.slice none 0 0) := cell_of_row W1 (w.heap.size + 1) 6 _ _ _ hx1
          have hl1 : w.heap.size + 1 < W1.heap.size := (Array.getElem?_eq_some_iff.1 hx1).1
          clear m0 x0 m1 x1 m2 x2 m3 x3 m4 x4 m5 x5 m6 x6 hB1 hB1' hx1 hy1 hb1 HG HNX
          by_cases hin : InR z
          · have hz0 : ¬ (z < -999999999) := by have := hin.1; omega
            have hz1 : ¬ (999999999 < z) := by have := hin.2; omega
            obtain ⟨a2, c2, d2, n2, hset, _, _⟩ := numAt_set a1 c1 d1 n1 z (t.fs[i]'hlt)
            have HP2 : Hid (Calls Tryd.prog 21 #[.agg #[.int .i64 k, .int .i64 a1, .int .i64 0, .int .i64 c1, .int .i64 d1, .int .i64 n1, .slice none 0 0], .int .u8 ((t.fs[i]'hlt).toNat : Int), .int .i64 z] W1.drew fun e W2 => e = .returned (.agg #[.int .i64 k, .int .i64 a2, .int .i64 0, .int .i64 c2, .int .i64 d2, .int .i64 n2, .slice none 0 0]) ∧ (W2.cell? ⟨w.heap.size + 1, 0, none⟩ = some (.int .i64 k) ∧ W2.cell? ⟨w.heap.size + 1, 1, none⟩ = some (.int .i64 a1) ∧ W2.cell? ⟨w.heap.size + 1, 2, none⟩ = some (.int .i64 0) ∧ W2.cell? ⟨w.heap.size + 1, 3, none⟩ = some (.int .i64 c1) ∧ W2.cell? ⟨w.heap.size + 1, 4, none⟩ = some (.int .i64 d1) ∧ W2.cell? ⟨w.heap.size + 1, 5, none⟩ = some (.int .i64 n1) ∧ W2.cell? ⟨w.heap.size + 1, 6, none⟩ = some (.slice none 0 0)) ∧ (∀ o, W2.frozen? ⟨w.heap.size + 1, o, none⟩ = false) ∧ Hid (W2.heap[w.heap.size + 1]? = some (.cells (actC k a1 0 c1 d1 n1) 24 (0, 0)) ∧ W2.heap[w.heap.size]? = some (.cells #[.int .i64 k, .int .i64 a, .int .i64 b, .int .i64 c, .int .i64 d, .int .i64 n, .slice bp bl bc] 24 (0, 0)) ∧ Below w.heap.size w W2)) := by
              refine (put_calls k a1 0 c1 d1 n1 z (t.fs[i]'hlt) a2 c2 d2 n2 (hset k 0) W1.drew).mono ?_
              rintro e W2 ⟨rfl, hB2⟩
              have hB4 : Below W1.heap.size W1 W2 := (show Below W1.heap.size W1 W1.drew from (Below.refl _ W1).drew).trans (show Below W1.heap.size W1.drew W2 from hB2)
              have hr2 := (hB4.block _ hl1).trans HX1.out
              exact ⟨rfl, ⟨cell_of_row W2 (w.heap.size + 1) 0 _ _ _ hr2, cell_of_row W2 (w.heap.size + 1) 1 _ _ _ hr2, cell_of_row W2 (w.heap.size + 1) 2 _ _ _ hr2, cell_of_row W2 (w.heap.size + 1) 3 _ _ _ hr2, cell_of_row W2 (w.heap.size + 1) 4 _ _ _ hr2, cell_of_row W2 (w.heap.size + 1) 5 _ _ _ hr2, cell_of_row W2 (w.heap.size + 1) 6 _ _ _ hr2⟩, fun o => by simp [World.frozen?, hr2], hr2, (hB4.block _ (by omega)).trans HY1.out, HB1.out.trans (hB4.mono (by omega))⟩
            have HT := hide_ (fun W => told_calls z hin.1 hin.2 W)
            have hlz : (Lib.itoa z).length ≤ 21 := Lib.itoa_length_le z (by have := hin.1; omega) (by have := hin.2; omega)
            have hadd1 : ∀ W, (Op.stringOp .add acc ⟨#[32]⟩).run Tryd.prog W = .ok (.string (acc ++ (⟨#[32]⟩ : ByteArray))) W := fun W => run_string_add_sum W _ _ (by show acc.size + 1 ≤ _; omega)
            have hs1 : (acc ++ (⟨#[32]⟩ : ByteArray)).size = acc.size + 1 := by rw [ByteArray.size_append]; rfl
            have hadd2 : ∀ W, (Op.stringOp .add (acc ++ (⟨#[32]⟩ : ByteArray)) ⟨(Lib.itoa z).toArray⟩).run Tryd.prog W = .ok (.string ((acc ++ (⟨#[32]⟩ : ByteArray)) ++ (⟨(Lib.itoa z).toArray⟩ : ByteArray))) W := fun W => run_string_add_sum W _ _ (by rw [hs1]; show acc.size + 1 + (Lib.itoa z).toArray.size ≤ _; rw [List.size_toArray]; omega)
            have HN : Hid (((acc ++ (⟨#[32]⟩ : ByteArray)) ++ (⟨(Lib.itoa z).toArray⟩ : ByteArray)).size ≤ 10 + 22 * (i + 1) ∧ ((acc ++ (⟨#[32]⟩ : ByteArray)) ++ (⟨(Lib.itoa z).toArray⟩ : ByteArray)).data.toList = t.word.data.toList ++ tail a c d n (t.fs.data.toList.take (i + 1)) ∧
              setP a c d n (actC k 0 0 0 0 0) t.fs.data.toList = setP a c d n (actC k a2 0 c2 d2 n2) (t.fs.data.toList.drop (i + 1)) ∧ ∀ l ∈ t.fs.data.toList.take (i + 1), InR (numAt a c d n l)) := by
              refine ⟨by rw [ByteArray.size_append, hs1]; show acc.size + 1 + (Lib.itoa z).toArray.size ≤ _; rw [List.size_toArray]; omega, by rw [str3, HR.out.acc, HTS.out, List.append_assoc], ?_, ?_⟩
              · rw [HR.out.set, HDR.out, setP, ← HZ.out, hset]
              · intro l hl
                have e : t.fs.data.toList[i]? = some (t.fs[i]'hlt) := by rw [Array.getElem?_toList]; exact Array.getElem?_eq_getElem hlt
                rw [List.take_add_one, e] at hl
                rcases List.mem_append.1 hl with h | h
                · exact HR.out.rng l h
                · have : l = (t.fs[i]'hlt) := by simpa using h
                  rw [this, ← HZ.out]
                  exact hin
            clear HR HTS HDR HZ HMEM hset hin HX1 HY1 HB1
            go_wp2_with fail
            go_region_with (refine HP2.out.mono ?_; rintro e W2 ⟨rfl, ⟨q0, q1, q2, q3, q4, q5, q6⟩, qf, HQ⟩)
            all_goals
              obtain ⟨V, hV⟩ : ∃ V, V = (((((((W2.setCell ⟨w.heap.size + 1, 0, none⟩ (.int .i64 k)).setCell ⟨w.heap.size + 1, 1, none⟩ (.int .i64 a2)).setCell ⟨w.heap.size + 1, 2, none⟩ (.int .i64 0)).setCell ⟨w.heap.size + 1, 3, none⟩ (.int .i64 c2)).setCell ⟨w.heap.size + 1, 4, none⟩ (.int .i64 d2)).setCell ⟨w.heap.size + 1, 5, none⟩ (.int .i64 n2)).setCell ⟨w.heap.size + 1, 6, none⟩ (.slice none 0 0)) := ⟨_, rfl⟩
              rw [← hV]
              have HV : Hid (V.heap[w.heap.size + 1]? = some (.cells (actC k a2 0 c2 d2 n2) 24 (0, 0)) ∧ V.heap[w.heap.size]? = some (.cells #[.int .i64 k, .int .i64 a, .int .i64 b, .int .i64 c, .int .i64 d, .int .i64 n, .slice bp bl bc] 24 (0, 0)) ∧ Below w.heap.size w V) := by
                have hB : But (· = w.heap.size + 1) W2 V := by
                  rw [hV]
                  exact (But.trans (But.trans (But.trans (But.trans (But.trans (But.trans (But.trans (But.refl (· = w.heap.size + 1) W2) (But.setCell (· = w.heap.size + 1) _ ⟨w.heap.size + 1, 0, none⟩ (.int .i64 k) rfl) (fun _ _ h => h)) (But.setCell (· = w.heap.size + 1) _ ⟨w.heap.size + 1, 1, none⟩ (.int .i64 a2) rfl) (fun _ _ h => h)) (But.setCell (· = w.heap.size + 1) _ ⟨w.heap.size + 1, 2, none⟩ (.int .i64 0) rfl) (fun _ _ h => h)) (But.setCell (· = w.heap.size + 1) _ ⟨w.heap.size + 1, 3, none⟩ (.int .i64 c2) rfl) (fun _ _ h => h)) (But.setCell (· = w.heap.size + 1) _ ⟨w.heap.size + 1, 4, none⟩ (.int .i64 d2) rfl) (fun _ _ h => h)) (But.setCell (· = w.heap.size + 1) _ ⟨w.heap.size + 1, 5, none⟩ (.int .i64 n2) rfl) (fun _ _ h => h)) (But.setCell (· = w.heap.size + 1) _ ⟨w.heap.size + 1, 6, none⟩ (.slice none 0 0) rfl) (fun _ _ h => h))
                refine ⟨by rw [hV]; exact seven_set W2 (w.heap.size + 1) _ _ _ _ _ _ _ _ _ _ _ _ _ _ _ HQ.out.1, (hB.block _ (by have := (Array.getElem?_eq_some_iff.1 HQ.out.2.1).1; exact this) (show ¬ w.heap.size = w.heap.size + 1 by omega)).trans HQ.out.2.1, ?_⟩
                have hs2 : w.heap.size + 1 < W2.heap.size := (Array.getElem?_eq_some_iff.1 HQ.out.1).1
                exact HQ.out.2.2.trans (hB.below (by omega) (fun q hq => by rw [show q = w.heap.size + 1 from hq]; omega))
              clear hV HQ q0 q1 q2 q3 q4 q5 q6 qf HP2 y0 y1 y2 y3 y4 y5 y6
              go_wp2_with fail
              refine (HT.out _).mono ?_
              rintro e W3 ⟨rfl, hB3⟩
              have HB3 : Hid (W3.heap[w.heap.size + 1]? = some (.cells (actC k a2 0 c2 d2 n2) 24 (0, 0)) ∧ W3.heap[w.heap.size]? = some (.cells #[.int .i64 k, .int .i64 a, .int .i64 b, .int .i64 c, .int .i64 d, .int .i64 n, .slice bp bl bc] 24 (0, 0)) ∧ Below w.heap.size w W3) := ⟨(hB3.block _ (Array.getElem?_eq_some_iff.1 HV.out.1).1).trans HV.out.1, (hB3.block _ (Array.getElem?_eq_some_iff.1 HV.out.2.1).1).trans HV.out.2.1, HV.out.2.2.trans (hB3.mono HV.out.2.2.size)⟩
              clear hB3
              go_wp2_with fail
              go_roundg (t.fs.size - i)
              case measure => omega
              case rel => exact ⟨i + 1, _, a2, c2, d2, n2, rfl, by first | rfl | go_num, by omega, by omega, HN.out.1, HB3.out.1, HB3.out.2.1, by omega, HB3.out.2.2, HN.out.2.1, HN.out.2.2.1, HN.out.2.2.2⟩
          · have HNO : Hid (¬ OK) := by
              show ¬ OK
              rw [HOK.out]
              exact fun e => hin (by rw [HZ.out]; exact e.1 _ HMEM.out)
            have hin' : z < -999999999 ∨ 999999999 < z := by
              by_cases h1 : z < -999999999
              · exact .inl h1
              · by_cases h2 : 999999999 < z
                · exact .inr h2
                · exact absurd ⟨by omega, by omega⟩ hin
            clear HR HTS HDR HZ HMEM hin
            by_cases hz0 : z < -999999999
            · clear hin'
              go_wp2_with fail
              go_ret2
              exact ⟨fun e => absurd e HNO.out, fun _ => rfl, HB1.out⟩
            · have hz1 : 999999999 < z := hin'.resolve_left hz0
              clear hin'
              go_wp2_with fail
              go_ret2
              exact ⟨fun e => absurd e HNO.out, fun _ => rfl, HB1.out⟩
      · obtain rfl : i = t.fs.size := by omega
        have HQ : Hid ((OK ↔ ((k = k ∧ a1 = a ∧ 0 = b ∧ c1 = c ∧ d1 = d ∧ n1 = n ∧ 0 = 0 ∧ bl = 0))) ∧ acc = lineS t a c d n ∧ Below w.heap.size w wr) := by
          have htk : t.fs.data.toList.take t.fs.size = t.fs.data.toList := List.take_of_length_le (Nat.le_refl _)
          have hdr : t.fs.data.toList.drop t.fs.size = [] := List.drop_eq_nil_of_le (Nat.le_refl _)
          have h1 := HR.out.set
          have h2 := HR.out.acc
          have h3 := HR.out.rng
          rw [hdr] at h1
          rw [htk] at h2 h3
          have h1' : setP a c d n (actC k 0 0 0 0 0) t.fs.data.toList = actC k a1 0 c1 d1 n1 := h1
          refine ⟨?_, of_list h2, HR.out.b⟩
          rw [HOK.out]
          unfold OkR
          rw [HTB.out.1, HTB.out.2, h1']
          constructor
          · rintro ⟨_, e, e2⟩
            obtain ⟨_, e3, e4, e5, e6, e7⟩ := actC_inj e
            exact ⟨rfl, e3, e4, e5, e6, e7, rfl, e2⟩
          · rintro ⟨_, e3, e4, e5, e6, e7, _, e2⟩
            exact ⟨h3, by rw [e3, e4, e5, e6, e7], e2⟩
        have HRS := hide_ (rsame_calls k a1 0 c1 d1 n1 k a b c d n none bp 0 0 bl bc wr)
        clear HR HOK
        go_wp2_with fail
        refine HRS.out.mono ?_
        rintro e W ⟨ok, rfl, hok, hB⟩
        have HBW := hide_ (HQ.out.2.2.trans (hB.mono HQ.out.2.2.size))
        cases ok with
        | false =>
          have HNO : Hid (¬ OK) := fun e => by have := hok.2 (HQ.out.1.1 e); cases this
          clear hok HQ hB
          go_wp2_with fail
          go_ret2
          exact ⟨fun e => absurd e HNO.out, fun _ => rfl, HBW.out⟩
        | true =>
          have HYES : Hid (OK ∧ acc = lineS t a c d n) := ⟨HQ.out.1.2 (hok.1 rfl), HQ.out.2.1⟩
          clear hok HQ hB
          go_wp2_with fail
          go_ret2
          obtain ⟨e1, e2⟩ := HYES.out
          subst e2
          exact ⟨fun _ => rfl, fun e => absurd e1 e, HBW.out⟩
end Go.Proofs.YtmkcdkfjomaidaaDoor
