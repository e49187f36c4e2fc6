/-
  PROVED HERE: the function that sum.goOn hands back goes on from the rests that it holds, over whatever bytes; so sum.Of, sum.More and the document's own Of and More at every slice: they return the sum and turn nothing that lay before.
-/
import Derived.Test.YtppiklgkpicfeaaSFun
import Derived.RangeFuncNested
import Derived.RangeFuncBox
import Derived.Below
namespace Go.Proofs.Ytppiklgkpicfeaa
open Go.RowKit

theorem Bytes.get {l : List Int} (h : Bytes l) {k : Nat} (hk : k < l.length) : 0 ≤ l.getD k 0 ∧ l.getD k 0 ≤ 255 := by
  rw [List.getD_eq_getElem?_getD, List.getElem?_eq_getElem hk]
  exact h _ (List.getElem_mem hk)
theorem goes_take (p : Int × Int) (l : List Int) (k : Nat) (hk : k < l.length) : goes p (l.take (k + 1)) = step (goes p (l.take k)) (l.getD k 0) := by
  rw [take_snocD l k hk, goes_snoc]

set_option maxRecDepth 100000 in
set_option maxHeartbeats 1000000 in
/-- The function that goOn hands back. -/
theorem goOn1_calls (base Ba Bb : Nat) (a : Option Addr) (len cap : Nat) (bs : List Int) (x y : Int) (W w : World) (hrow : Row .u8 W a len bs) (hbs : Bytes bs) (hb : W.heap.size ≤ base) (hWw : Below base W w) (hlen : len ≤ 140737488355328)
    (ha : Boxed w Ba 42 (.int .u32 x)) (hbb : Boxed w Bb 42 (.int .u32 y)) (h1 : base ≤ Ba) (h2 : base ≤ Bb) (hne : Ba ≠ Bb) (hxy : Rests (x, y)) :
    Calls Try.prog 42 #[.slice a len cap, .pointer (some ⟨Ba, 0, none⟩), .pointer (some ⟨Bb, 0, none⟩)] w fun e w' => e = .returned (.int .u32 (whole (goes (x, y) bs))) ∧ Below base W w' := by
  have hl : bs.length = len := hrow.1
  go_enter Try.func42, Try.ntmps42
  go_wp2
  go_loopw [9] (fun q w' => ∃ k : Nat, k ≤ len ∧ q = .int .i64 (k : Int) ∧ Boxed w' Ba 42 (.int .u32 (goes (x, y) (bs.take k)).1) ∧ Boxed w' Bb 42 (.int .u32 (goes (x, y) (bs.take k)).2) ∧ Below base W w') (fun q _ => len - (intOf q).toNat)
  case atStart => exact ⟨0, Nat.zero_le _, rfl, ha, hbb, hWw⟩
  case round =>
    obtain ⟨k, hk, rfl, hA, hB, hBel⟩ := hrel
    have hR := rests_goes (x, y) hxy (bs.take k)
    by_cases hlt : k < len
    · have HG := goes_take (x, y) bs k (by omega)
      have hc := hbs.get (k := k) (by omega)
      obtain ⟨b, o, rfl, hbl, hcl⟩ : ∃ b o, a = some ⟨b, o, none⟩ ∧ b < W.heap.size ∧ ∀ i, i < len → W.cell? ⟨b, o + i, none⟩ = some (.int .u8 (bs.getD i 0)) := by
        rcases hrow.2 with h | h
        · omega
        · exact h
      have hck : wr.cell? ⟨b, o + k, none⟩ = some (.int .u8 (bs.getD k 0)) := (hBel.cell (p := ⟨b, o + k, none⟩) (by show b < base; omega)).trans (hcl k hlt)
      generalize bs.getD k 0 = c at *
      obtain ⟨r1, r2, r3, r4⟩ := hR
      have HG' : Hid (goes (x, y) (bs.take (k + 1)) = step (goes (x, y) (bs.take k)) c) := HG
      clear HG hcl hrow
      generalize goes (x, y) (bs.take k) = p at *
      obtain ⟨u, v⟩ := p
      simp only at *
      have cA := hA.cell
      have cB := hB.cell
      have fA := hA.frozen
      have fB := hB.frozen
      have hk0 : (0 : Int) ≤ (k : Int) := by omega
      have hk1 : (k : Int) < (len : Int) := by omega
      have s1 := rests_step (u, v) c
      have k1 := fun w' => rest32_calls (u + c) w' (by omega) (by omega)
      have k2 := fun w' => rest32_calls (v + (u + c) % 65521) w' (by omega) (by omega)
      unfold step at HG' s1
      obtain ⟨s1, s2, s3, s4⟩ := s1
      simp only at HG' s1 s2 s3 s4
      generalize (u + c) % 65521 = a1 at *
      generalize (v + a1) % 65521 = b1 at *
      have K1 : Hid (∀ w' : World, Calls Try.prog 43 #[.int .u32 (u + c)] w' fun e w'' => e = .returned (.int .u32 a1) ∧ w'' = w') := k1
      have K2 : Hid (∀ w' : World, Calls Try.prog 43 #[.int .u32 (v + a1)] w' fun e w'' => e = .returned (.int .u32 b1) ∧ w'' = w') := k2
      clear k1 k2
      have hA1 := hA.set (.int .u32 a1)
      have hB1 := hB.other (fun e => hne e.symm) (.int .u32 a1)
      have hA2 := hA1.other (B' := Bb) hne (.int .u32 b1)
      have hB2 := hB1.set (.int .u32 b1)
      have hBel1 : Below base W (wr.setCell ⟨Ba, 0, none⟩ (.int .u32 a1)) := hBel.setCell h1 _
      have hBel2 : Below base W ((wr.setCell ⟨Ba, 0, none⟩ (.int .u32 a1)).setCell ⟨Bb, 0, none⟩ (.int .u32 b1)) := hBel1.setCell h2 _
      have cA1 := hA1.cell
      have cB1 := hB1.cell
      have fA1 := hA1.frozen
      have fB1 := hB1.frozen
      go_wp2_with fail
      refine (K1.out wr).mono ?_
      rintro e w' ⟨rfl, rfl⟩
      go_wp2_with fail
      refine (K2.out _).mono ?_
      rintro e w' ⟨rfl, rfl⟩
      go_wp2_with fail
      exact ⟨⟨k + 1, by omega, by go_num, by rw [HG'.out]; exact hA2, by rw [HG'.out]; exact hB2, hBel2⟩, by simp [intOf]; omega⟩
    · obtain ⟨r1, r2, r3, r4⟩ := hR
      have HG : Hid (goes (x, y) bs = goes (x, y) (bs.take k)) := by
        show goes (x, y) bs = _
        rw [List.take_of_length_le (by omega)]
      generalize goes (x, y) (bs.take k) = p at *
      obtain ⟨u, v⟩ := p
      simp only at *
      have cA := hA.cell
      have cB := hB.cell
      go_wp2_with fail
      refine (whole_calls u v wr (by omega) (by omega) (by omega) (by omega)).mono ?_
      rintro e w' ⟨rfl, rfl⟩
      go_wp2
      go_ret
      rw [HG.out]
      exact ⟨rfl, hBel⟩

set_option maxHeartbeats 1000000 in
/-- goOn: two new variables, and the function that holds them. -/
theorem goOn_calls (s : Int) (w : World) (h0 : 0 ≤ s) (h1 : s ≤ 4294967295) :
    Calls Try.prog 35 #[.int .u32 s] w fun e w' => e = .returned (.func (.func 42) #[] #[.pointer (some ⟨w.heap.size, 0, none⟩), .pointer (some ⟨w.heap.size + 1, 0, none⟩)]) ∧
      Boxed w' w.heap.size 42 (.int .u32 (parts s).1) ∧ Boxed w' (w.heap.size + 1) 42 (.int .u32 (parts s).2) ∧ Below w.heap.size w w' := by
  have hp := parts_calls s w h0 h1
  generalize (parts s).1 = a at *
  generalize (parts s).2 = b at *
  have HP : Hid (Calls Try.prog 41 #[.int .u32 s] w fun e w' => e = .returned (.tuple #[.int .u32 a, .int .u32 b]) ∧ w' = w) := hp
  clear hp
  go_enter Try.func35, Try.ntmps35
  go_wp2_with fail
  refine HP.out.mono ?_
  rintro e w' ⟨rfl, rfl⟩
  go_wp2
  go_ret
  refine ⟨rfl, (Boxed.new _ _ _).alloc _, ?_, ((Below.refl _ _).alloc (Nat.le_refl _) _).alloc (by simp) _⟩
  have := Boxed.new (w'.alloc (Obj.cells #[Value.int IntKind.u32 a] 42)) 42 (.int .u32 b)
  simpa using this

set_option maxHeartbeats 1000000 in
theorem of_calls (a : Option Addr) (len cap : Nat) (bs : List Int) (w : World) (hrow : Row .u8 w a len bs) (hbs : Bytes bs) (hlen : len ≤ 140737488355328) :
    Calls Try.prog 22 #[.slice a len cap] w fun e w' => e = .returned (.int .u32 (more 1 bs)) ∧ Below w.heap.size w w' := by
  go_enter Try.func22, Try.ntmps22
  go_wp2_with fail
  refine (goOn_calls 1 w (by omega) (by omega)).mono ?_
  rintro e W1 ⟨rfl, hA, hB, hb⟩
  go_wp2_with fail
  refine (goOn1_calls w.heap.size w.heap.size (w.heap.size + 1) a len cap bs _ _ w W1 hrow hbs (Nat.le_refl _) hb hlen hA hB (Nat.le_refl _) (by omega) (by omega) (rests_parts 1)).mono ?_
  rintro e W2 ⟨rfl, hb2⟩
  go_wp2
  go_ret
  exact ⟨rfl, hb2⟩

set_option maxRecDepth 100000 in
set_option maxHeartbeats 1000000 in
/-- The document's own More. -/
theorem refMore_calls (s : Int) (a : Option Addr) (len cap : Nat) (bs : List Int) (w : World) (h0 : 0 ≤ s) (h1 : s ≤ 4294967295) (hrow : Row .u8 w a len bs) (hbs : Bytes bs) (hlen : len ≤ 140737488355328) :
    Calls Try.prog 24 #[.int .u32 s, .slice a len cap] w fun e w' => e = .returned (.int .u32 (more s bs)) ∧ Below w.heap.size w w' := by
  have hl : bs.length = len := hrow.1
  have ea : s % 65536 % 65521 = (parts s).1 := rfl
  have eb : s / 65536 % 65521 = (parts s).2 := rfl
  have HM : Hid (more s bs = whole (goes (parts s) bs)) := rfl
  have hxy := rests_parts s
  generalize parts s = q at *
  obtain ⟨x, y⟩ := q
  simp only at ea eb
  go_enter Try.func24, Try.ntmps24
  go_wp2
  go_loopw [5, 6, 7] (fun p q r w' => ∃ k : Nat, k ≤ len ∧ r = .int .i64 (k : Int) ∧ p = .int .u32 (goes (x, y) (bs.take k)).1 ∧ q = .int .u32 (goes (x, y) (bs.take k)).2 ∧ Below w.heap.size w w') (fun _ _ r _ => len - (intOf r).toNat)
  case atStart => exact ⟨0, Nat.zero_le _, rfl, congrArg (Value.int .u32) ea, congrArg (Value.int .u32) eb, Below.refl _ _⟩
  case round =>
    obtain ⟨k, hk, rfl, rfl, rfl, hBel⟩ := hrel
    have hR := rests_goes (x, y) hxy (bs.take k)
    by_cases hlt : k < len
    · have HG := goes_take (x, y) bs k (by omega)
      have hc := hbs.get (k := k) (by omega)
      obtain ⟨b, o, rfl, hbl, hcl⟩ : ∃ b o, a = some ⟨b, o, none⟩ ∧ b < w.heap.size ∧ ∀ i, i < len → w.cell? ⟨b, o + i, none⟩ = some (.int .u8 (bs.getD i 0)) := by
        rcases hrow.2 with h | h
        · omega
        · exact h
      have hck : wr.cell? ⟨b, o + k, none⟩ = some (.int .u8 (bs.getD k 0)) := (hBel.cell (p := ⟨b, o + k, none⟩) hbl).trans (hcl k hlt)
      generalize bs.getD k 0 = c at *
      obtain ⟨r1, r2, r3, r4⟩ := hR
      have HG' : Hid (goes (x, y) (bs.take (k + 1)) = step (goes (x, y) (bs.take k)) c) := HG
      clear HG hcl hrow
      generalize goes (x, y) (bs.take k) = p at *
      obtain ⟨u, v⟩ := p
      simp only at *
      have hk0 : (0 : Int) ≤ (k : Int) := by omega
      have hk1 : (k : Int) < (len : Int) := by omega
      go_wp2_with fail
      exact ⟨⟨k + 1, by omega, by go_num, by rw [HG'.out]; rfl, by rw [HG'.out]; rfl, hBel⟩, by simp [intOf]; omega⟩
    · obtain ⟨r1, r2, r3, r4⟩ := hR
      have HG : Hid (goes (x, y) bs = goes (x, y) (bs.take k)) := by
        show goes (x, y) bs = _
        rw [List.take_of_length_le (by omega)]
      generalize goes (x, y) (bs.take k) = p at *
      obtain ⟨u, v⟩ := p
      simp only at *
      go_wp2_with fail
      go_ret
      rw [HM.out, HG.out]
      exact ⟨rfl, hBel⟩

set_option maxHeartbeats 1000000 in
/-- The document's own Of. -/
theorem refOf_calls (a : Option Addr) (len cap : Nat) (bs : List Int) (w : World) (hrow : Row .u8 w a len bs) (hbs : Bytes bs) (hlen : len ≤ 140737488355328) :
    Calls Try.prog 14 #[.slice a len cap] w fun e w' => e = .returned (.int .u32 (more 1 bs)) ∧ Below w.heap.size w w' := by
  go_enter Try.func14, Try.ntmps14
  go_wp2_with fail
  refine (refMore_calls 1 a len cap bs w (by omega) (by omega) hrow hbs hlen).mono ?_
  rintro e W1 ⟨rfl, hb⟩
  go_wp2
  go_ret
  exact ⟨rfl, hb⟩
end Go.Proofs.Ytppiklgkpicfeaa
