/-
  PROVED HERE: the line that a shape gives an act's numbers.
-/
import Derived.Test.YtmkcdkfjomaidaaDoorSAct
import Derived.Lib.ItoaLen
namespace Go.Proofs.YtmkcdkfjomaidaaDoor
open Go.RowKit

/-- The number that a letter means. -/
def numAt (a c d n : Int) (l : UInt8) : Int := if (l.toNat : Int) = 97 then a else if (l.toNat : Int) = 99 then c else if (l.toNat : Int) = 100 then d else n
/-- The numbers behind a word, each behind a blank. -/
def tail (a c d n : Int) (fs : List UInt8) : List UInt8 := fs.flatMap fun l => 32 :: Lib.itoa (numAt a c d n l)
def lineP (t : Shp) (a c d n : Int) : List UInt8 := t.word.data.toList ++ tail a c d n t.fs.data.toList

def I64 (z : Int) : Prop := -9223372036854775808 ≤ z ∧ z ≤ 9223372036854775807

theorem actC_at (k a b c d n : Int) (p : Value) (l : UInt8) : (#[.int .i64 k, .int .i64 a, .int .i64 b, .int .i64 c, .int .i64 d, .int .i64 n, p] : Array Value)[off (l.toNat : Int)]? = some (.int .i64 (numAt a c d n l)) := by
  unfold off numAt
  split
  · rfl
  · split
    · rfl
    · split <;> rfl

theorem numAt_i64 {a c d n : Int} (ha : I64 a) (hc : I64 c) (hd : I64 d) (hn : I64 n) (l : UInt8) : I64 (numAt a c d n l) := by
  unfold numAt
  split
  · exact ha
  · split
    · exact hc
    · split
      · exact hd
      · exact hn

theorem bytes_append (s : ByteArray) (l : List UInt8) : (s ++ (⟨l.toArray⟩ : ByteArray)).data.toList = s.data.toList ++ l := by
  simp [ByteArray.data_append]

set_option maxRecDepth 100000 in
set_option maxHeartbeats 1000000 in
theorem line_calls (t : Shp) (k a b c d n : Int) (bp : Option Addr) (bl bc : Nat) (ta : Asc t.fs) (tf : t.fs.size ≤ 4) (tw : t.word.size ≤ 10) (ha : I64 a) (hc : I64 c) (hd : I64 d) (hn : I64 n) (w : World) (hE : Env w) :
    Calls Tryd.prog 18 #[.agg #[.string t.word, .string t.fs, .int .i64 t.k, .int .i64 t.b], .agg #[.int .i64 k, .int .i64 a, .int .i64 b, .int .i64 c, .int .i64 d, .int .i64 n, .slice bp bl bc]] w fun e w' =>
      ∃ s : ByteArray, e = .returned (.string s) ∧ s.data.toList = lineP t a c d n ∧ Below w.heap.size w w' := by
  have hrg := fun W => run_range_string (P := Tryd.prog) W 9 t.fs Tryd.underlying9
  have HN : Hid (∀ l, I64 (numAt a c d n l)) := numAt_i64 ha hc hd hn
  have HE := hide_ hE
  clear hE ha hc hd hn
  obtain ⟨W0, hW⟩ : ∃ W0, W0 = (w.alloc (.cells #[.string t.word, .string t.fs, .int .i64 t.k, .int .i64 t.b] 44)).alloc (.cells #[.int .i64 k, .int .i64 a, .int .i64 b, .int .i64 c, .int .i64 d, .int .i64 n, .slice bp bl bc] 24) := ⟨_, rfl⟩
  have HW : Hid (W0.heap.size = w.heap.size + 1 + 1 ∧ Below w.heap.size w W0 ∧ W0.heap[w.heap.size + 1]? = some (.cells #[.int .i64 k, .int .i64 a, .int .i64 b, .int .i64 c, .int .i64 d, .int .i64 n, .slice bp bl bc] 24 (0, 0))) := by
    have h0 : Below w.heap.size w (w.alloc (.cells #[.string t.word, .string t.fs, .int .i64 t.k, .int .i64 t.b] 44)) := (Below.refl _ w).alloc (Nat.le_refl _) _
    subst hW
    refine ⟨by rw [World.size_alloc, World.size_alloc], h0.alloc h0.size _, ?_⟩
    have := World.alloc_heap_new (w.alloc (.cells #[.string t.word, .string t.fs, .int .i64 t.k, .int .i64 t.b] 44)) (.cells #[.int .i64 k, .int .i64 a, .int .i64 b, .int .i64 c, .int .i64 d, .int .i64 n, .slice bp bl bc] 24)
    rw [World.size_alloc] at this
    exact this
  have HWE := hide_ hW
  go_enter Tryd.func18, Tryd.ntmps18
  go_wp2
  go_loopg [5] (t.fs.size + 1) (fun gk v wr => ∃ (i : Nat) (acc : ByteArray), v = .string acc ∧ i ≤ t.fs.size ∧ t.fs.size < i + gk ∧ acc.size ≤ 10 + 22 * i ∧ wr.heap[w.heap.size + 1 + 1]? = some (.stringIter t.fs i) ∧ Hid (acc.data.toList = t.word.data.toList ++ tail a c d n (t.fs.data.toList.take i) ∧ Below (w.heap.size + 1 + 1) W0 wr))
  case atStart => exact ⟨0, t.word, rfl, Nat.zero_le _, by omega, by omega, by rw [← HWE.out, ← HW.out.1]; exact World.iter_heap W0 t.fs 0, by simp [tail], by rw [← HWE.out]; exact (Below.refl _ W0).alloc (Nat.le_of_eq HW.out.1.symm) _⟩
  case round =>
    obtain ⟨i, acc, rfl, hi, hgk, hac, hk, HO⟩ := hrel
    have hk0 : w.heap.size + 1 + 1 < wr.heap.size := (Array.getElem?_eq_some_iff.1 hk).1
    clear hrg HWE
    by_cases hlt2 : i < t.fs.size
    · have hasc := ta i hlt2
      have hnx : ∀ ty, (Instr.next (.pointer (some ⟨w.heap.size + 1 + 1, 0, none⟩)) true ty).run Tryd.prog wr = _ := fun ty => Lib.run_next_ascii_at wr (w.heap.size + 1 + 1) t.fs i ty hk hlt2 hasc
      have hB : Below (w.heap.size + 1 + 1) W0 (wr.iterAt (w.heap.size + 1 + 1) t.fs (i + 1)) := Lib.below_iterAt HO.out.2 (Nat.le_refl _) t.fs (i + 1)
      have hk2 := hide_ (Lib.iterAt_heap wr (w.heap.size + 1 + 1) t.fs i (i + 1) hk)
      have hsV := hide_ (Lib.iterAt_size wr (w.heap.size + 1 + 1) t.fs (i + 1))
      have hEV := hide_ (((HE.out.new HW.out.2.1).below hB (by have := HE.out.big; omega)))
      have hcell : (wr.iterAt (w.heap.size + 1 + 1) t.fs (i + 1)).cell? ⟨w.heap.size + 1, off ((t.fs[i]'hlt2).toNat : Int), none⟩ = some (.int .i64 (numAt a c d n (t.fs[i]'hlt2))) :=
        (cell_of_row _ _ _ _ _ _ ((hB.block _ (by have := HW.out.1; omega)).trans HW.out.2.2)).trans (actC_at _ _ _ _ _ _ _ _)
      have hb := HN.out (t.fs[i]'hlt2)
      have HT : Hid (t.word.data.toList ++ tail a c d n (t.fs.data.toList.take (i + 1)) = acc.data.toList ++ (32 :: Lib.itoa (numAt a c d n (t.fs[i]'hlt2)))) := by
        have e : t.fs.data.toList[i]? = some (t.fs[i]'hlt2) := by
          rw [Array.getElem?_toList]
          exact Array.getElem?_eq_getElem hlt2
        rw [HO.out.1, List.take_add_one, e]
        unfold tail
        rw [List.flatMap_append, List.append_assoc]
        show _ = _
        congr 2
        simp
      have HF := hide_ (field_calls (w.heap.size + 1) ((t.fs[i]'hlt2).toNat : Int) (wr.iterAt (w.heap.size + 1 + 1) t.fs (i + 1)))
      generalize hz : numAt a c d n (t.fs[i]'hlt2) = z at *
      have hlz : (Lib.itoa z).length ≤ 21 := Lib.itoa_length_le z hb.1 hb.2
      have HI := hide_ (itoa_calls z hb.1 hb.2 (wr.iterAt (w.heap.size + 1 + 1) t.fs (i + 1)) hEV.out)
      have hadd1 : ∀ W, (Op.stringOp .add ⟨#[32]⟩ ⟨(Lib.itoa z).toArray⟩).run Tryd.prog W = .ok (.string ((⟨#[32]⟩ : ByteArray) ++ ⟨(Lib.itoa z).toArray⟩)) W := fun W => run_string_add_sum W _ _ (by show 1 + (Lib.itoa z).toArray.size ≤ _; rw [List.size_toArray]; omega)
      have hs2 : ((⟨#[32]⟩ : ByteArray) ++ ⟨(Lib.itoa z).toArray⟩).size ≤ 22 := by rw [ByteArray.size_append]; show 1 + (Lib.itoa z).toArray.size ≤ _; rw [List.size_toArray]; omega
      have HC : Hid (∀ acc' : ByteArray, acc' = acc ++ ((⟨#[32]⟩ : ByteArray) ++ ⟨(Lib.itoa z).toArray⟩) → acc'.size ≤ 10 + 22 * (i + 1) ∧ acc'.data.toList = t.word.data.toList ++ tail a c d n (t.fs.data.toList.take (i + 1))) := fun acc' e => by
        subst e
        refine ⟨by rw [ByteArray.size_append]; omega, ?_⟩
        rw [HT.out]
        simp [ByteArray.data_append]
      have hadd2 : ∀ W, (Op.stringOp .add acc ((⟨#[32]⟩ : ByteArray) ++ ⟨(Lib.itoa z).toArray⟩)).run Tryd.prog W = .ok (.string (acc ++ ((⟨#[32]⟩ : ByteArray) ++ ⟨(Lib.itoa z).toArray⟩))) W := fun W => run_string_add_sum W _ _ (by have : t.fs.size ≤ 4 := tf; omega)
      have HB := hide_ hB
      clear HO hz hB HT
      go_wp2_with fail
      refine HF.out.mono ?_
      rintro e W ⟨rfl, rfl⟩
      go_wp2_with fail
      refine HI.out.mono ?_
      rintro e W5 ⟨rfl, hB5⟩
      have HB5 := hide_ hB5
      clear hB5
      go_wp2_with fail
      go_roundg (t.fs.size - i)
      case measure => omega
      case rel =>
        obtain ⟨q1, q2⟩ := HC.out _ rfl
        exact ⟨i + 1, _, rfl, by omega, by omega, q1, (HB5.out.block _ (by have := hsV.out; omega)).trans hk2.out, q2, HB.out.trans (HB5.out.mono (by have := hsV.out; omega))⟩
    · obtain rfl : i = t.fs.size := by omega
      have hnx : ∀ ty, (Instr.next (.pointer (some ⟨w.heap.size + 1 + 1, 0, none⟩)) true ty).run Tryd.prog wr = _ := fun ty => Lib.run_next_end_at wr (w.heap.size + 1 + 1) t.fs t.fs.size ty hk hlt2
      go_wp2
      go_ret
      have hl : t.fs.data.toList.take t.fs.size = t.fs.data.toList := List.take_of_length_le (Nat.le_refl _)
      obtain ⟨h1, h2⟩ := HO.out
      rw [hl] at h1
      exact ⟨acc, rfl, h1, HW.out.2.1.trans (h2.mono (by omega))⟩
end Go.Proofs.YtmkcdkfjomaidaaDoor
