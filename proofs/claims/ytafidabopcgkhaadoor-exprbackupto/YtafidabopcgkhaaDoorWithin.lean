/-
  PROVED HERE: needsBrackets and writeWithin: what they answer and write, where write does.
-/
import Derived.Test.YtafidabopcgkhaaDoorBld5
import Derived.Test.YtafidabopcgkhaaDoorPRight
import Derived.Test.YtafidabopcgkhaaDoorTextE
namespace Go.Proofs.YtafidabopcgkhaaDoor
open Go.RowKit

/-- Whether brackets are wanted around the kind i in the kind o. -/
def brK (i o : Int) : Bool := if o = 3 then false else if o = 2 then i == 3 else rowK i
set_option maxRecDepth 100000 in
set_option maxHeartbeats 2000000 in
theorem needs_calls (i o : Int) (w : World) : Calls Tryd.prog 51 #[.int .i64 i, .int .i64 o] w fun e w' => e = .returned (.bool (brK i o)) ∧ w' = w := by
  have HR : Hid (∀ W, Calls Tryd.prog 62 #[.int .i64 i] W fun e w' => e = .returned (.bool (rowK i)) ∧ w' = W) := fun W => isrow_calls i W
  unfold brK
  by_cases h3 : o = 3
  · subst h3
    rw [if_pos rfl]
    go_enter Tryd.func51, Tryd.ntmps51
    go_wp2
    go_ret
    exact ⟨rfl, rfl⟩
  · rw [if_neg h3]
    have b3 : (o == 3) = false := by rw [beq_eq_false_iff_ne]; exact h3
    by_cases h2 : o = 2
    · subst h2
      rw [if_pos rfl]
      go_enter Tryd.func51, Tryd.ntmps51
      go_wp2
      go_ret
      exact ⟨rfl, rfl⟩
    · rw [if_neg h2]
      have b2 : (o == 2) = false := by rw [beq_eq_false_iff_ne]; exact h2
      generalize rowK i = C at *
      clear h3 h2
      go_enter Tryd.func51, Tryd.ntmps51
      go_wp2_with fail
      refine (HR.out _).mono ?_
      rintro e W ⟨rfl, rfl⟩
      go_wp2
      go_ret
      exact ⟨rfl, rfl⟩
theorem strCells_append (a b : ByteArray) : Lib.strCells (a ++ b) = Lib.strCells a ++ Lib.strCells b := by
  unfold Lib.strCells
  rw [ByteArray.data_append, Array.toList_append, List.map_append]
theorem strCells_sign (c : UInt8) : Lib.strCells (sign c) = [.int .u8 c.toNat] := rfl
theorem Bld.next {B : Nat} {w w' : World} (h : Below B w w') (hB : B ≤ w.heap.size) : B ≤ w'.heap.size := Nat.le_trans hB h.size
theorem isb_alloc {B b : Nat} {bs : List Value} {w : World} (h : Lib.IsBuilder 57 5 B b bs w) (o : Obj) : Lib.IsBuilder 57 5 B b bs (w.alloc o) := by
  rcases h with ⟨hB, v, hbk, hown, hne⟩ | ⟨hB, v, hbk, hown, hne⟩
  · exact .inl ⟨hB, v, (Below.heap_alloc w o b (Array.getElem?_eq_some_iff.1 hbk).1).trans hbk, hown.alloc o, hne⟩
  · exact .inr ⟨hB, v, (Below.heap_alloc w o b (Array.getElem?_eq_some_iff.1 hbk).1).trans hbk, hown.alloc o, hne⟩
/-- What is written of a part of the kind o. -/
def wiT (f : ByteArray) (i o : Int) : ByteArray := if brK i o = true then sign 40 ++ f ++ sign 41 else f
set_option maxRecDepth 100000 in
set_option maxHeartbeats 4000000 in
theorem within_calls (B b : Nat) (k : Int) (nm : ByteArray) (a : Option Addr) (ln cp : Nat) (o : Int) (txt : ByteArray) (bs : List Value) (w : World)
    (HW : ∀ W bs', Below B w W → Lib.IsBuilder 57 5 B b bs' W → B ≤ W.heap.size → bs'.length ≤ bs.length + 1 → Calls Tryd.prog 22 #[.pointer (some ⟨b, 0, none⟩), .agg #[.int .i64 k, .string nm, .slice a ln cp]] W fun e w' => e = .returned (.tuple #[]) ∧ Lib.IsBuilder 57 5 B b (bs' ++ Lib.strCells txt) w' ∧ Below B W w' ∧ BoxK W w')
    (h : Lib.IsBuilder 57 5 B b bs w) (hB : B ≤ w.heap.size) (hlen : bs.length + txt.size + 2 ≤ 140737488355328) :
    Calls Tryd.prog 37 #[.pointer (some ⟨b, 0, none⟩), .agg #[.int .i64 k, .string nm, .slice a ln cp], .int .i64 o] w fun e w' => e = .returned (.tuple #[]) ∧ Lib.IsBuilder 57 5 B b (bs ++ Lib.strCells (wiT txt k o)) w' ∧ Below B w w' ∧ BoxK w w' := by
  obtain ⟨w1, hw1⟩ : ∃ w1, w1 = w.alloc (.cells #[.int .i64 k, .string nm, .slice a ln cp] 24) := ⟨_, rfl⟩
  have hB1 : Below B w w1 := by rw [hw1]; exact (Below.refl B w).alloc hB _
  have hx1 : BoxK w w1 := by rw [hw1]; exact BoxK.alloc w _
  have hbox : w1.heap[w.heap.size]? = some (.cells #[.int .i64 k, .string nm, .slice a ln cp] 24 (0, 0)) := by rw [hw1]; exact heap_alloc_new w _
  have hb1 : Lib.IsBuilder 57 5 B b bs w1 := by rw [hw1]; exact isb_alloc h _
  have hs1 : B ≤ w1.heap.size := Bld.next hB1 hB
  have HNB : Hid (∀ W, Calls Tryd.prog 51 #[.int .i64 k, .int .i64 o] W fun e w' => e = .returned (.bool (brK k o)) ∧ w' = W) := fun W => needs_calls k o W
  unfold wiT
  cases hbr : brK k o with
  | false =>
    rw [if_neg (by simp)]
    rw [hbr] at HNB
    have HWR := HW w1 bs hB1 hb1 hs1 (by omega)
    have HF : Hid (Below B w w1 ∧ BoxK w w1) := ⟨hB1, hx1⟩
    clear HW h hB hlen hB1 hx1 hbox hb1 hs1 hbr
    go_enter Tryd.func37, Tryd.ntmps37
    go_wp2_with fail
    refine (HNB.out _).mono ?_
    rintro e W ⟨rfl, hWe⟩
    rw [hWe]
    clear hWe
    go_wp2_with fail
    rw [← hw1]
    refine HWR.mono ?_
    rintro e W2 ⟨rfl, h2, hB2, hx2⟩
    have HE : Hid (Lib.IsBuilder 57 5 B b (bs ++ Lib.strCells txt) W2 ∧ Below B w W2 ∧ BoxK w W2) := ⟨h2, HF.out.1.trans hB2, HF.out.2.trans hx2⟩
    clear h2 hB2 hx2 HWR HF HNB
    go_wp2
    (try simp only [Exit.inBlock, Exit.then]); refine bodyPost_ret (results_none rfl _ _ _) rfl ?_
    exact ⟨rfl, HE.out.1, HE.out.2.1, HE.out.2.2⟩
  | true =>
    rw [if_pos rfl]
    rw [hbr] at HNB
    have HB1 := bbyte_calls B b bs 40 w1 hb1 (by omega) hs1
    have HW2 : Hid (∀ W, Below B w W → Lib.IsBuilder 57 5 B b (bs ++ [.int .u8 40]) W → B ≤ W.heap.size → Calls Tryd.prog 22 #[.pointer (some ⟨b, 0, none⟩), .agg #[.int .i64 k, .string nm, .slice a ln cp]] W fun e w' => e = .returned (.tuple #[]) ∧ Lib.IsBuilder 57 5 B b ((bs ++ [.int .u8 40]) ++ Lib.strCells txt) w' ∧ Below B W w' ∧ BoxK W w') := fun W h1 h2 h3 => HW W _ h1 h2 h3 (by simp)
    have HB3 : Hid (∀ W, Lib.IsBuilder 57 5 B b ((bs ++ [.int .u8 40]) ++ Lib.strCells txt) W → B ≤ W.heap.size → Calls Tryd.prog 38 #[.pointer (some ⟨b, 0, none⟩), .int .u8 41] W fun e w' => e = .returned .nilIface ∧ Lib.IsBuilder 57 5 B b (((bs ++ [.int .u8 40]) ++ Lib.strCells txt) ++ [.int .u8 41]) w' ∧ Below B W w' ∧ BoxK W w') := fun W h1 h2 => bbyte_calls B b _ 41 W h1 (by rw [List.length_append, List.length_append, Lib.strCells_length, List.length_singleton]; omega) h2
    have HF : Hid (Below B w w1 ∧ BoxK w w1 ∧ B ≤ w1.heap.size ∧ w1.heap[w.heap.size]? = some (.cells #[.int .i64 k, .string nm, .slice a ln cp] 24 (0, 0)) ∧ B ≤ w.heap.size) := ⟨hB1, hx1, hs1, hbox, hB⟩
    clear HW h hB hlen hB1 hx1 hbox hb1 hs1 hbr
    go_enter Tryd.func37, Tryd.ntmps37
    go_wp2_with fail
    refine (HNB.out _).mono ?_
    rintro e W ⟨rfl, hWe⟩
    rw [hWe]
    clear hWe
    go_wp2_with fail
    rw [← hw1]
    refine HB1.mono ?_
    clear HB1
    rintro e W2 ⟨rfl, h2, hB2, hx2⟩
    obtain ⟨hB1, hx1, hs1, hbox, hB⟩ := HF.out
    have hbox2 := hx2 _ _ _ hbox
    have c0 : W2.cell? ⟨w.heap.size, 0, none⟩ = some (.int .i64 k) := cell_of_row W2 _ 0 _ _ _ hbox2
    have c1 : W2.cell? ⟨w.heap.size, 1, none⟩ = some (.string nm) := cell_of_row W2 _ 1 _ _ _ hbox2
    have c2 : W2.cell? ⟨w.heap.size, 2, none⟩ = some (.slice a ln cp) := cell_of_row W2 _ 2 _ _ _ hbox2
    have HWR := HW2.out W2 (hB1.trans hB2) h2 (Bld.next hB2 hs1)
    have HF2 : Hid (Below B w W2 ∧ BoxK w W2 ∧ B ≤ W2.heap.size) := ⟨hB1.trans hB2, hx1.trans hx2, Bld.next hB2 hs1⟩
    clear h2 hB2 hx2 hB1 hx1 hs1 hbox hB hbox2 HW2 HF HNB hw1
    go_wp2_with fail
    refine HWR.mono ?_
    clear HWR c0 c1 c2
    rintro e W3 ⟨rfl, h3, hB3, hx3⟩
    have HB4 := HB3.out W3 h3 (Bld.next hB3 HF2.out.2.2)
    have HF3 : Hid (Below B w W3 ∧ BoxK w W3) := ⟨HF2.out.1.trans hB3, HF2.out.2.1.trans hx3⟩
    clear h3 hB3 hx3 HF2 HB3
    go_wp2_with fail
    refine HB4.mono ?_
    clear HB4
    rintro e W4 ⟨rfl, h4, hB4, hx4⟩
    have HE : Hid (Lib.IsBuilder 57 5 B b (bs ++ Lib.strCells (sign 40 ++ txt ++ sign 41)) W4 ∧ Below B w W4 ∧ BoxK w W4) := by
      refine ⟨?_, HF3.out.1.trans hB4, HF3.out.2.trans hx4⟩
      rw [strCells_append, strCells_append, strCells_sign, strCells_sign]
      simpa [List.append_assoc] using h4
    clear h4 hB4 hx4 HF3
    go_wp2
    go_end0
    exact ⟨rfl, HE.out.1, HE.out.2.1, HE.out.2.2⟩
end Go.Proofs.YtafidabopcgkhaaDoor
