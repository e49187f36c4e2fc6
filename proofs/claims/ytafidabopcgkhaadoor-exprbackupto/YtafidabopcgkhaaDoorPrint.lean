/-
  PROVED HERE: Print at every tree: its text, or the error; nothing that lay before is turned.
-/
import Derived.Test.YtafidabopcgkhaaDoorWrite
namespace Go.Proofs.YtafidabopcgkhaaDoor
open Go.RowKit

/-- What Print answers. -/
def printT (n : Nat) (t : DataW Unit) : ByteArray := if checkE n t = 0 then textE n t else ⟨#[]⟩
theorem check_right {n : Nat} {t : DataW Unit} (h : checkE n t = 0) : rightE n t = true := by
  unfold checkE at h
  by_cases h1 : 200 < cnt n t ∨ 60 < dp n t
  · rw [if_pos h1] at h
    cases h
  · rw [if_neg h1] at h
    by_cases h2 : rightE n t = true
    · exact h2
    · rw [if_neg h2] at h
      cases h
set_option maxRecDepth 100000 in
set_option maxHeartbeats 4000000 in
theorem print_calls (n : Nat) (t : DataW Unit) (k : Int) (nm : ByteArray) (a : Option Addr) (ln cp : Nat) (w : World) (hX : Ex w n t (.agg #[.int .i64 k, .string nm, .slice a ln cp])) (hN : named n t) (hlen : (textE n t).size + 4 * n ≤ 140737488355328) :
    Calls Tryd.prog 13 #[.agg #[.int .i64 k, .string nm, .slice a ln cp]] w fun e w' => Below w.heap.size w w' ∧ e = .returned (.tuple #[.string (printT n t), .int .i64 (checkE n t)]) := by
  obtain ⟨w1, hw1⟩ : ∃ w1, w1 = w.alloc (.cells #[.int .i64 k, .string nm, .slice a ln cp] 24) := ⟨_, rfl⟩
  have hB1 : Below w.heap.size w w1 := by rw [hw1]; exact (Below.refl _ w).alloc (Nat.le_refl _) _
  have hbox : w1.heap[w.heap.size]? = some (.cells #[.int .i64 k, .string nm, .slice a ln cp] 24 (0, 0)) := by rw [hw1]; exact heap_alloc_new w _
  have hs1 : w1.heap.size = w.heap.size + 1 := by rw [hw1]; simp
  have hX1 : Ex w1 n t (.agg #[.int .i64 k, .string nm, .slice a ln cp]) := Ex.below hB1 _ _ _ hX
  have HCK := check_calls n t _ w1 hX1 hN
  have HF : Hid (Below w.heap.size w w1 ∧ w1.heap[w.heap.size]? = some (.cells #[.int .i64 k, .string nm, .slice a ln cp] 24 (0, 0)) ∧ w1.heap.size = w.heap.size + 1 ∧ Ex w1 n t (.agg #[.int .i64 k, .string nm, .slice a ln cp]) ∧ (textE n t).size + 4 * n ≤ 140737488355328) := ⟨hB1, hbox, hs1, hX1, hlen⟩
  unfold printT
  clear hB1 hbox hs1 hX1 hX hN hlen
  by_cases hc : checkE n t = 0
  · have hr := check_right hc
    rw [if_pos hc, hc]
    rw [hc] at HCK
    have HR : Hid (rightE n t = true) := hr
    clear hc hr
    go_enter Tryd.func13, Tryd.ntmps13
    go_wp2_with fail
    rw [← hw1]
    clear hw1
    refine HCK.mono ?_
    clear HCK
    rintro e W2 ⟨rfl, hB2⟩
    obtain ⟨hB1, hbox, hs1, hX1, hlen⟩ := HF.out
    have hs2 := hB2.size
    have hX2 : Ex W2 n t (.agg #[.int .i64 k, .string nm, .slice a ln cp]) := Ex.below hB2 _ _ _ hX1
    obtain ⟨W3, hW3⟩ : ∃ W3, W3 = W2.alloc (.cells #[.pointer none, .slice none 0 0] 57) := ⟨_, rfl⟩
    have hB3 : Below W2.heap.size W2 W3 := by rw [hW3]; exact (Below.refl _ W2).alloc (Nat.le_refl _) _
    have hs3 : W3.heap.size = W2.heap.size + 1 := by rw [hW3]; simp
    have hbox3 : W3.heap[w.heap.size]? = some (.cells #[.int .i64 k, .string nm, .slice a ln cp] 24 (0, 0)) := (hB3.block _ (by omega)).trans ((hB2.block _ (by omega)).trans hbox)
    have hisb : Lib.IsBuilder 57 5 W2.heap.size W2.heap.size [] W3 := .inl ⟨Nat.le_refl _, .slice none 0 0, by rw [hW3]; exact heap_alloc_new W2 _, World.ownsRow_nil _ _ _ _, fun e => by cases e⟩
    have HWR := write_calls W2 W2.heap.size W2.heap.size rfl n t _ hX2 HR.out W3 [] hB3 hisb (by omega) (by simpa using hlen)
    have HST : Hid (∀ W, Lib.IsBuilder 57 5 W2.heap.size W2.heap.size ([] ++ Lib.strCells (textE n t)) W → W2.heap.size ≤ W.heap.size → Calls Tryd.prog 23 #[.pointer (some ⟨W2.heap.size, 0, none⟩)] W fun e w' => e = .returned (.string (textE n t)) ∧ Below W2.heap.size W w') := fun W g1 g2 => bstring_calls W2.heap.size W2.heap.size (textE n t).data.toList W g1 g2
    have HG : Hid (Below w.heap.size w W3 ∧ W2.heap.size ≤ W3.heap.size ∧ w.heap.size ≤ W2.heap.size) := ⟨(hB1.trans (hB2.mono (by omega))).trans (hB3.mono (by omega)), by omega, by omega⟩
    have c0 : W3.cell? ⟨w.heap.size, 0, none⟩ = some (.int .i64 k) := cell_of_row W3 _ 0 _ _ _ hbox3
    have c1 : W3.cell? ⟨w.heap.size, 1, none⟩ = some (.string nm) := cell_of_row W3 _ 1 _ _ _ hbox3
    have c2 : W3.cell? ⟨w.heap.size, 2, none⟩ = some (.slice a ln cp) := cell_of_row W3 _ 2 _ _ _ hbox3
    rw [hW3] at c0 c1 c2
    have HWE : Hid (W3 = W2.alloc (.cells #[.pointer none, .slice none 0 0] 57)) := hW3
    clear hB1 hbox hs1 hX1 hlen hs2 hX2 hW3 hB3 hs3 hbox3 hisb HF hB2 HR
    go_wp2_with fail
    rw [← HWE.out]
    clear HWE c0 c1 c2
    refine HWR.mono ?_
    clear HWR
    rintro e W4 ⟨rfl, h4, hB4, hx4⟩
    have HS2 := HST.out W4 h4 (Nat.le_trans HG.out.2.1 hB4.size)
    have HG2 : Hid (Below w.heap.size w W4 ∧ w.heap.size ≤ W2.heap.size) := ⟨HG.out.1.trans (hB4.mono HG.out.2.2), HG.out.2.2⟩
    clear h4 hB4 hx4 HST HG
    go_wp2_with fail
    refine HS2.mono ?_
    clear HS2
    rintro e W5 ⟨rfl, hB5⟩
    have HE : Hid (Below w.heap.size w W5) := HG2.out.1.trans (hB5.mono HG2.out.2)
    clear hB5 HG2
    go_wp2
    go_ret2
    exact ⟨HE.out, rfl⟩
  · rw [if_neg hc]
    generalize checkE n t = C at *
    have e1 : (C == 0) = false := by rw [beq_eq_false_iff_ne]; exact hc
    have e2 : (C != 0) = true := by rw [bne_iff_ne]; exact hc
    go_enter Tryd.func13, Tryd.ntmps13
    go_wp2_with fail
    rw [← hw1]
    clear hw1
    refine HCK.mono ?_
    clear HCK
    rintro e W2 ⟨rfl, hB2⟩
    have HE : Hid (Below w.heap.size w W2) := HF.out.1.trans (hB2.mono HF.out.1.size)
    clear hB2 HF hc
    go_wp2
    go_ret2
    exact ⟨HE.out, rfl⟩
end Go.Proofs.YtafidabopcgkhaaDoor
