/-
  PROVED HERE: the walk of RegNames.
-/
import Derived.Test.YtijeegoabobgaabAwake
namespace Go.Proofs.Ytijeegoabobgaab
open Go.RowKit

def eqAny (t : Int) (l : List Int) : Bool := l.any (fun x => x == t)
theorem eqAny_take {t x : Int} {l : List Int} {i : Nat} (h : l[i]? = some x) : eqAny t (l.take (i + 1)) = (eqAny t (l.take i) || (x == t)) := by
  unfold eqAny
  rw [List.take_add_one, h, List.any_append]
  simp
set_option maxRecDepth 100000 in
set_option maxHeartbeats 1000000 in
theorem names_walk (a : Option Addr) (len cap : Nat) (ts : List Int) (t : Int) (w : World) (hT : Ints w a len ts) :
    Calls Try.prog 3 #[.slice a len cap, .int .i64 t] w fun e w' => e = .returned (.bool true) ∧ Below w.heap.size w w' := by
  obtain ⟨w2, hw2⟩ : ∃ w2, w2 = (w.alloc (.cells #[.int .i64 1, .string ⟨#[97]⟩, .slice none 0 0] 25)).alloc (.cells #[.string ⟨#[97]⟩, .slice a len cap] 27) := ⟨_, rfl⟩
  have hb2 : Below w.heap.size w w2 := by rw [hw2]; exact ((Below.refl _ w).alloc (Nat.le_refl _) _).alloc (by simp) _
  have hs2 : w2.heap.size = w.heap.size + 2 := by rw [hw2]; simp
  have m0 : w2.heap[w.heap.size]? = some (.cells #[.int .i64 1, .string ⟨#[97]⟩, .slice none 0 0] 25 (0, 0)) := by rw [hw2, Below.heap_alloc _ _ _ (by simp)]; exact World.alloc_heap_new w _
  have m1 : w2.heap[w.heap.size + 1]? = some (.cells #[.string ⟨#[97]⟩, .slice a len cap] 27 (0, 0)) := by
    rw [hw2]
    have := World.alloc_heap_new (w.alloc (.cells #[.int .i64 1, .string ⟨#[97]⟩, .slice none 0 0] 25)) (.cells #[.string ⟨#[97]⟩, .slice a len cap] 27)
    rwa [World.size_alloc] at this
  have hG : Groups w2 (some ⟨w.heap.size + 1, 0, none⟩) 1 [(⟨#[97]⟩, ts)] := Groups.one m1 (hT.below hb2)
  have HC : Hid (Calls Try.prog 4 #[.agg #[.int .i64 1, .string ⟨#[97]⟩, .slice none 0 0], .slice (some ⟨w.heap.size + 1, 0, none⟩) 1 1] w2 fun e w' => e = .returned (.int .i64 (chk 1 (node 1 ⟨#[97]⟩ []) [(⟨#[97]⟩, ts)])) ∧ Below w2.heap.size w2 w') := rcheck_calls 1 _ _ _ _ _ _ w2 (Ex.leaf w2 1 ⟨#[97]⟩ none 0) named_a hG
  have HA : Hid (∀ (W : World) (za : Option Addr) (zl zc : Nat) (zs : List Int), Below w2.heap.size w2 W → Ints W za zl zs → Calls Try.prog 5 #[.agg #[.int .i64 1, .string ⟨#[97]⟩, .slice none 0 0], .slice (some ⟨w.heap.size + 1, 0, none⟩) 1 1, .slice za zl zc] W fun e w' => ∃ b, e = .returned (.bool b) ∧ (b = true ↔ (chk 1 (node 1 ⟨#[97]⟩ []) [(⟨#[97]⟩, ts)] = 0 ∧ LangD [(⟨#[97]⟩, ts)] 1 (node 1 ⟨#[97]⟩ []) zs)) ∧ Below W.heap.size W w') := fun W za zl zc zs hW hZ => accepts_calls 1 _ _ _ _ _ _ za zl zc zs W (Ex.leaf W 1 ⟨#[97]⟩ none 0) named_a (hG.below hW) hZ
  have HK : Hid (∀ W : World, Below w2.heap.size w2 W → W.cell? ⟨w.heap.size, 0, none⟩ = some (.int .i64 1) ∧ W.cell? ⟨w.heap.size, 1, none⟩ = some (.string ⟨#[97]⟩) ∧ W.cell? ⟨w.heap.size, 2, none⟩ = some (.slice none 0 0) ∧ w.heap.size < W.heap.size) := fun W hW => by
    obtain ⟨c0, c1, c2, _⟩ := cells3 ((hW.block _ (by omega)).trans m0)
    exact ⟨c0, c1, c2, by have := hW.size; omega⟩
  have HAW : Hid (∀ W : World, Calls Try.prog 6 #[] W fun e w' => e = .returned (.bool true) ∧ Below W.heap.size W w') := fun W => awake_calls W
  have HW2 : Hid ((w.alloc (.cells #[.int .i64 1, .string ⟨#[97]⟩, .slice none 0 0] 25)).alloc (.cells #[.string ⟨#[97]⟩, .slice a len cap] 27) = w2) := hw2.symm
  have HB : Hid (∀ W : World, Below w2.heap.size w2 W → Below w.heap.size w W) := fun W hW => hb2.trans (hW.mono (by omega))
  have HI1 : Hid (∀ W : World, Below w2.heap.size w2 W → Below w2.heap.size w2 (W.alloc (.cells #[.int .i64 t] 3)) ∧ Ints (W.alloc (.cells #[.int .i64 t] 3)) (some ⟨W.heap.size, 0, none⟩) 1 [t]) := fun W hW => ⟨hW.alloc hW.size _, Ints.one (World.alloc_heap_new W _)⟩
  have HI2 : Hid (∀ W : World, Below w2.heap.size w2 W → Below w2.heap.size w2 (W.alloc (.cells #[.int .i64 t, .int .i64 t] 3)) ∧ Ints (W.alloc (.cells #[.int .i64 t, .int .i64 t] 3)) (some ⟨W.heap.size, 0, none⟩) 2 [t, t]) := fun W hW => ⟨hW.alloc hW.size _, Ints.two (World.alloc_heap_new W _)⟩
  obtain ⟨hl, hz, _⟩ := id hT
  have HT : Hid (∀ W : World, Below w2.heap.size w2 W → ∀ i, i < len → ∃ b o x, a = some ⟨b, o, none⟩ ∧ ts[i]? = some x ∧ W.cell? ⟨b, o + i, none⟩ = some (.int .i64 x)) := fun W hW i hi => by
    obtain ⟨b, o, x, e1, e2, e3⟩ := hT.at hi
    exact ⟨b, o, x, e1, e2, e3 W (hb2.trans (hW.mono (by omega)))⟩
  obtain ⟨x0, x1, x2, x3⟩ := HK.out w2 (Below.refl _ _)
  have hck := name_chk ts
  have HL : Hid (rightTs ts = true → ∀ zs, LangD [(⟨#[97]⟩, ts)] 1 (node 1 ⟨#[97]⟩ []) zs ↔ ∃ a, zs = [a] ∧ a ∈ ts) := fun h zs => name_lang ts zs h
  generalize LangD [(⟨#[97]⟩, ts)] 1 (node 1 ⟨#[97]⟩ []) = Q at *
  generalize chk 1 (node 1 ⟨#[97]⟩ []) [(⟨#[97]⟩, ts)] = c at *
  clear hT hG m0 m1 hb2 hw2
  by_cases hc : c = 0
  · subst hc
    have HQ : Hid (∀ zs, Q zs ↔ ∃ a, zs = [a] ∧ a ∈ ts) := HL.out (hck.1 rfl).1
    have HA1 : Hid (∀ (W : World) (za : Option Addr) (zl zc : Nat) (zs : List Int), Below w2.heap.size w2 W → Ints W za zl zs → Calls Try.prog 5 #[.agg #[.int .i64 1, .string ⟨#[97]⟩, .slice none 0 0], .slice (some ⟨w.heap.size + 1, 0, none⟩) 1 1, .slice za zl zc] W fun e w' => ∃ b, e = .returned (.bool b) ∧ (b = true ↔ ∃ a, zs = [a] ∧ a ∈ ts) ∧ Below W.heap.size W w') := fun W za zl zc zs hW hZ => (HA.out W za zl zc zs hW hZ).mono (by
      rintro e w' ⟨b, h1, h2, h3⟩
      refine ⟨b, h1, ?_, h3⟩
      rw [h2, HQ.out]
      exact ⟨fun h => h.2, fun h => ⟨rfl, h⟩⟩)
    clear HL HQ HA hck
    obtain ⟨R, hR⟩ : ∃ R, eqAny t ts = R := ⟨_, rfl⟩
    have HR : Hid (eqAny t ts = R) := hR
    have HM : Hid (R = true ↔ t ∈ ts) := by
      show _ ↔ _
      rw [← hR]
      unfold eqAny
      rw [List.any_eq_true]
      constructor
      · rintro ⟨x, hx, e⟩
        rw [← (beq_iff_eq.1 e)]
        exact hx
      · intro h
        exact ⟨t, h, by simp⟩
    clear hR
    go_enter Try.func3, Try.ntmps3
    go_wp2_with fail
    rw [HW2.out]
    refine HC.out.mono ?_
    rintro e W ⟨rfl, hW⟩
    have HBW : Hid (Below w2.heap.size w2 W) := hW
    obtain ⟨y0, y1, y2, y3⟩ := HK.out W hW
    clear hW x0 x1 x2 x3
    go_wp2_with fail
    go_loop [7, 8] (fun u i => ∃ j : Nat, j ≤ len ∧ i = .int .i64 (j : Int) ∧ u = .bool (eqAny t (ts.take j))) (fun _ i => len - (intOf i).toNat)
    case atStart => exact ⟨0, Nat.zero_le _, rfl, rfl⟩
    case round =>
      obtain ⟨j, hj, rfl, rfl⟩ := hrel
      by_cases hlt : j < len
      · obtain ⟨b, o, x, rfl, hx, hcx⟩ := HT.out W HBW.out j hlt
        have HS : Hid (eqAny t (ts.take (j + 1)) = (eqAny t (ts.take j) || (x == t))) := eqAny_take hx
        have hji : (j : Int) < (len : Int) := by omega
        clear hx
        generalize eqAny t (ts.take j) = q at *
        cases q with
        | true =>
          go_wp2
          go_round
          case rel => exact ⟨j + 1, by omega, by first | rfl | go_num, by rw [HS.out]; rfl⟩
          case measure => simp [intOf]; omega
        | false =>
          go_wp2
          go_round
          case rel => exact ⟨j + 1, by omega, by first | rfl | go_num, by rw [HS.out]; rfl⟩
          case measure => simp [intOf]; omega
      · obtain rfl : j = len := by omega
        rw [List.take_of_length_le (Nat.le_of_eq hl), HR.out]
        obtain ⟨hB1, hI1⟩ := HI1.out W HBW.out
        have HC1 := HA1.out _ _ 1 1 _ hB1 hI1
        clear hB1 hI1
        go_wp2_with fail
        refine HC1.mono ?_
        rintro e W1 ⟨b1, rfl, hb1, hW1⟩
        clear HC1
        have hB2 : Below w2.heap.size w2 W1 := (HI1.out W HBW.out).1.trans (hW1.mono (HI1.out W HBW.out).1.size)
        have hbR : b1 = R := by
          rw [Bool.eq_iff_iff, hb1, HM.out]
          constructor
          · rintro ⟨a, e, h⟩
            cases e
            exact h
          · intro h; exact ⟨t, rfl, h⟩
        subst hbR
        obtain ⟨z0, z1, z2, z3⟩ := HK.out W1 hB2
        have HC2 := HA1.out W1 none 0 0 [] hB2 (Ints.none0 W1)
        have hbb : (b1 == b1) = true := by simp
        clear hb1 hW1 y0 y1 y2 y3 HM HR
        go_wp2_with fail
        refine HC2.mono ?_
        rintro e W2 ⟨b2, rfl, hb2, hW2⟩
        clear HC2
        have hB3 : Below w2.heap.size w2 W2 := hB2.trans (hW2.mono hB2.size)
        obtain rfl : b2 = false := by
          cases b2 with
          | false => rfl
          | true =>
            obtain ⟨a, e, _⟩ := hb2.1 rfl
            cases e
        obtain ⟨u0, u1, u2, u3⟩ := HK.out W2 hB3
        obtain ⟨hB4, hI4⟩ := HI2.out W2 hB3
        have HC3 := HA1.out _ _ 2 2 _ hB4 hI4
        clear hb2 hW2 z0 z1 z2 z3 hB4 hI4
        go_wp2_with fail
        refine HC3.mono ?_
        rintro e W3 ⟨b3, rfl, hb3, hW3⟩
        clear HC3
        have hB5 : Below w2.heap.size w2 W3 := (HI2.out W2 hB3).1.trans (hW3.mono (HI2.out W2 hB3).1.size)
        obtain rfl : b3 = false := by
          cases b3 with
          | false => rfl
          | true =>
            obtain ⟨a, e, _⟩ := hb3.1 rfl
            cases e
        clear hb3 hW3 u0 u1 u2 u3
        go_wp2_with fail
        refine (HAW.out W3).mono ?_
        rintro e W4 ⟨rfl, hW4⟩
        have HF : Hid (Below w.heap.size w W4) := HB.out W4 (hB5.trans (hW4.mono hB5.size))
        clear hW4
        go_wp2
        go_ret
        exact ⟨rfl, HF.out⟩
  · have e0 : (c == 0) = false := by simpa using hc
    have e1 : (c != 0) = true := by simp [bne, e0]
    have HA1 : Hid (∀ (W : World) (za : Option Addr) (zl zc : Nat) (zs : List Int), Below w2.heap.size w2 W → Ints W za zl zs → Calls Try.prog 5 #[.agg #[.int .i64 1, .string ⟨#[97]⟩, .slice none 0 0], .slice (some ⟨w.heap.size + 1, 0, none⟩) 1 1, .slice za zl zc] W fun e w' => e = .returned (.bool false) ∧ Below W.heap.size W w') := fun W za zl zc zs hW hZ => (HA.out W za zl zc zs hW hZ).mono (by
      rintro e w' ⟨b, rfl, h2, h3⟩
      refine ⟨?_, h3⟩
      cases b with
      | false => rfl
      | true => exact absurd (h2.1 rfl).1 hc)
    clear HL HA hck hc
    go_enter Try.func3, Try.ntmps3
    go_wp2_with fail
    rw [HW2.out]
    refine HC.out.mono ?_
    rintro e W ⟨rfl, hW⟩
    obtain ⟨y0, y1, y2, y3⟩ := HK.out W hW
    obtain ⟨hB1, hI1⟩ := HI1.out W hW
    have HC1 := HA1.out _ _ 1 1 _ hB1 hI1
    have HBW : Hid (Below w2.heap.size w2 W) := hW
    clear hW x0 x1 x2 x3 hB1 hI1
    go_wp2_with fail
    refine HC1.mono ?_
    rintro e W1 ⟨rfl, hW1⟩
    have hB2 : Below w2.heap.size w2 W1 := (HI1.out W HBW.out).1.trans (hW1.mono (HI1.out W HBW.out).1.size)
    clear HC1 hW1 y0 y1 y2 y3
    go_wp2_with fail
    refine (HAW.out W1).mono ?_
    rintro e W4 ⟨rfl, hW4⟩
    have HF : Hid (Below w.heap.size w W4) := HB.out W4 (hB2.trans (hW4.mono hB2.size))
    clear hW4
    go_wp2
    go_ret
    exact ⟨rfl, HF.out⟩
end Go.Proofs.Ytijeegoabobgaab
