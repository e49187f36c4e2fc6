/-
  PROVED HERE: what Begins and Nexts answer of every tree; when two rows are the same; what is light.
-/
import Derived.Test.YtajabenlkmgjeaaDoorRefSays
import Derived.Test.YtajabenlkmgjeaaDoorAwake
import Derived.Laws.IdiomRangeMap
import Derived.BigQuiet
namespace Go.Proofs.YtajabenlkmgjeaaDoor
open Go.RowKit

set_option maxRecDepth 100000 in
set_option maxHeartbeats 1000000 in
theorem begins_no (n : Nat) (t : DataW Unit) (v : Value) (ga : Option Addr) (gl gc : Nat) (gs : List Grp) (za : Option Addr) (zl zc : Nat) (w : World) (h : Ex w n t v) (hN : named n t) (hG : Groups w ga gl gs) (hc : chk n t gs ≠ 0) :
    Calls Tryd.prog 12 #[v, .slice ga gl gc, .slice za zl zc] w fun e w' => e = .returned (.int .i64 0) ∧ Below w.heap.size w w' := by
  have HB0 : Hid (∀ o, Below w.heap.size w (w.alloc o)) := fun o => (Below.refl _ w).alloc (Nat.le_refl _) _
  have H1 : Hid (∀ W, Below w.heap.size w W → Calls Tryd.prog 24 #[v, .slice ga gl gc, .slice za zl zc] W fun e w' => ∃ Bw, e = .returned (.tuple #[.pointer (some ⟨Bw, 0, none⟩), .int .i64 0]) ∧ w'.heap[Bw]? = some (.cells #[.slice none 0 0, .map none, .map none] 73 (0, 0)) ∧ Below W.heap.size W w') := fun W hW => walked_no n t v ga gl gc gs za zl zc W (Ex.below hW _ _ _ h) hN (hG.below hW) hc
  obtain ⟨k, s, a, len, cap, rfl⟩ : ∃ k s a len cap, v = .agg #[.int .i64 k, .string s, .slice a len cap] := by
    cases n with
    | zero => exact h.elim
    | succ n => obtain ⟨k, s, a, len, cap, ts, _, rfl, _⟩ := h; exact ⟨k, s, a, len, cap, rfl⟩
  clear h hN hG hc
  go_enter Tryd.func12, Tryd.ntmps12
  go_wp2_with fail
  refine (H1.out _ (HB0.out _)).mono ?_
  rintro e W ⟨Bw, rfl, hM, hW⟩
  have HB : Hid (Below w.heap.size w W) := (HB0.out _).trans (hW.mono (by simp))
  clear hM hW H1
  go_wp2
  go_ret
  exact ⟨rfl, HB.out⟩
theorem begins_any (n : Nat) (t : DataW Unit) (v : Value) (ga : Option Addr) (gl gc : Nat) (gs : List Grp) (za : Option Addr) (zl zc : Nat) (zs : List Int) (w : World) (h : Ex w n t v) (hN : named n t) (hG : Groups w ga gl gs) (hZ : Ints w za zl zs) :
    Calls Tryd.prog 12 #[v, .slice ga gl gc, .slice za zl zc] w fun e w' => ∃ i : Nat, e = .returned (.int .i64 (i : Int)) ∧ (chk n t gs = 0 → LongD gs n t zs i) ∧ (chk n t gs ≠ 0 → i = 0) ∧ Below w.heap.size w w' := by
  by_cases hc : chk n t gs = 0
  · refine (begins_calls n t v ga gl gc gs za zl zc zs w h hN hG hZ hc).mono ?_
    rintro e W ⟨i, rfl, h1, h2⟩
    exact ⟨i, rfl, fun _ => h1, fun e => absurd hc e, h2⟩
  · refine (begins_no n t v ga gl gc gs za zl zc w h hN hG hc).mono ?_
    rintro e W ⟨rfl, h2⟩
    exact ⟨0, rfl, fun e => absurd e hc, fun _ => rfl, h2⟩
set_option maxRecDepth 100000 in
set_option maxHeartbeats 1000000 in
theorem types_nil (w : World) (Bw : Nat) (fv : Value) (h : w.heap[Bw]? = some (.cells #[.slice none 0 0, .map none, .map none] 73 (0, 0))) :
    Calls Tryd.prog 29 #[.pointer (some ⟨Bw, 0, none⟩), fv] w fun e w' => e = .returned (.int .u16 0) ∧ Below w.heap.size w w' := by
  obtain ⟨c0, c1, _⟩ := cells3 h
  have hrg := run_range_nilMap (P := Tryd.prog) w 71 3 87 Tryd.underlying71
  have hnx : ∀ ty, (Instr.next (.pointer (some ⟨w.heap.size, 0, none⟩)) false ty).run Tryd.prog (w.alloc (.mapIter none 0 #[] 0)) = _ := fun ty => run_next_nilMap w ty 0 0 #[]
  have HB0 : Hid (∀ o, Below w.heap.size w (w.alloc o)) := fun o => (Below.refl _ w).alloc (Nat.le_refl _) _
  clear h
  go_enter Tryd.func29, Tryd.ntmps29
  go_wp2
  refine wp_loop_rounds 1 ?_
  rw [rounds_succ]
  go_wp2
  go_ret
  exact ⟨rfl, HB0.out _⟩
set_option maxRecDepth 100000 in
set_option maxHeartbeats 1000000 in
theorem nexts_any (n : Nat) (t : DataW Unit) (v : Value) (ga : Option Addr) (gl gc : Nat) (gs : List Grp) (za : Option Addr) (zl zc : Nat) (zs : List Int) (w : World) (h : Ex w n t v) (hN : named n t) (hG : Groups w ga gl gs) (hZ : Ints w za zl zs) (hc : chk n t gs = 0) (hT : Tab w) (hw0 : 0 < w.heap.size) :
    Calls Tryd.prog 15 #[v, .slice ga gl gc, .slice za zl zc] w fun e w' => ∃ (a : Option Addr) (c : Nat) (xs : List Int), e = .returned (.slice a xs.length c) ∧ Ints w' a xs.length xs ∧ (∀ x : Int, x ∈ xs ↔ PreD gs n t (zs ++ [x])) ∧ (∀ x ∈ xs, 0 ≤ x ∧ x < 16) ∧ xs.Pairwise (· < ·) ∧ xs.length ≤ 16 ∧ Below w.heap.size w w' := by
  have hb0 : ∀ o, Below w.heap.size w (w.alloc o) := fun o => (Below.refl _ w).alloc (Nat.le_refl _) _
  obtain ⟨hsound, _⟩ := plan_sound hc
  have HW : Hid (∀ o, Calls Tryd.prog 24 #[v, .slice ga gl gc, .slice za zl zc] (w.alloc o) fun e w' => ∃ (Bw : Nat) (i : Nat), e = .returned (.tuple #[.pointer (some ⟨Bw, 0, none⟩), .int .i64 (i : Int)]) ∧ Below w.heap.size w w' ∧ Calls Tryd.prog 29 #[.pointer (some ⟨Bw, 0, none⟩), .func (.func 30) #[] #[]] w' fun e w2 => ∃ acc : Nat, e = .returned (.int .u16 (acc : Int)) ∧ acc < 65536 ∧ (∀ x : Int, PreD gs n t (zs ++ [x]) ↔ ∃ j : Nat, x = (j : Int) ∧ acc.testBit j = true) ∧ Below w.heap.size w w2) := fun o => by
    refine (walked_calls n t v ga gl gc gs za zl zc zs (w.alloc o) (Ex.below (hb0 o) _ _ _ h) hN (hG.below (hb0 o)) (hZ.below (hb0 o)) hc).mono ?_
    rintro e W ⟨Bw, S, i, rfl, ⟨hBw, lv, bh, bs, _, _, hWk⟩, ⟨r1, r2, r3⟩, hB⟩
    have hB' : Below w.heap.size w W := (hb0 o).trans (hB.mono (by simp))
    have hbit : ∀ x : Int, PreD gs n t (zs ++ [x]) ↔ ∃ j : Nat, x = (j : Int) ∧ ∃ (p : Nat) (y : Place), S p = true ∧ (planF gs n t)[p]? = some y ∧ y.1.testBit j = true := by
      intro x
      rcases r3 with ⟨_, e⟩ | ⟨e1, e2, e⟩
      · exact pre_snoc hsound e x
      · constructor
        · intro hp
          exfalso
          have hq := pre_less hp
          rw [← List.take_append_drop (i + 1) zs] at hq
          obtain ⟨q, hq⟩ := pre_less hq
          exact e q hq
        · rintro ⟨j, _, p, y, h1, _⟩
          rw [e2 p] at h1
          cases h1
    refine ⟨Bw, i, rfl, hB', ?_⟩
    refine (types_all _ _ hsound Bw bh bs lv S W hWk (fun _ => true) (fun X m a n c l => all_calls m a n c l X)).mono ?_
    rintro e W2 ⟨acc, rfl, hacc, hbits, hB2⟩
    refine ⟨acc, rfl, hacc, fun x => ?_, hB'.trans (hB2.mono hB'.size)⟩
    rw [hbit]
    constructor
    · rintro ⟨j, e, p, y, h1, h2, h3⟩
      exact ⟨j, e, (hbits j).2 ⟨p, y, h1, h2, rfl, h3⟩⟩
    · rintro ⟨j, e, hj⟩
      obtain ⟨p, y, h1, h2, _, h3⟩ := (hbits j).1 hj
      exact ⟨j, e, p, y, h1, h2, h3⟩
  have HL : Hid (∀ (W : World) (acc : Nat), Below w.heap.size w W → acc < 65536 → Calls Tryd.prog 28 #[.int .u16 (acc : Int)] W fun e w' => ∃ (a : Option Addr) (c : Nat) (xs : List Int), e = .returned (.slice a xs.length c) ∧ Ints w' a xs.length xs ∧ (∀ x : Int, x ∈ xs ↔ ∃ j : Nat, x = (j : Int) ∧ acc.testBit j = true) ∧ xs.Pairwise (· < ·) ∧ xs.length ≤ 16 ∧ Below W.heap.size W w') := fun W acc hW ha => listed_calls acc ha W (hT.below hW hw0) (Nat.lt_of_lt_of_le hw0 hW.size)
  obtain ⟨k, s, a, len, cap, rfl⟩ : ∃ k s a len cap, v = .agg #[.int .i64 k, .string s, .slice a len cap] := by
    cases n with
    | zero => exact h.elim
    | succ n => obtain ⟨k, s, a, len, cap, ts, _, rfl, _⟩ := h; exact ⟨k, s, a, len, cap, rfl⟩
  clear h hN hG hZ hc hb0 hT hw0 hsound
  go_enter Tryd.func15, Tryd.ntmps15
  go_wp2_with fail
  refine (HW.out _).mono ?_
  rintro e W ⟨Bw, i, rfl, hB, hty⟩
  have HB : Hid (Below w.heap.size w W) := hB
  clear hB HW
  go_wp2_with fail
  refine hty.mono ?_
  rintro e W2 ⟨acc, rfl, hacc, hpre, hB2⟩
  have HCA := HL.out W2 acc hB2 hacc
  have HP : Hid ((∀ x : Int, PreD gs n t (zs ++ [x]) ↔ ∃ j : Nat, x = (j : Int) ∧ acc.testBit j = true) ∧ acc < 65536 ∧ Below w.heap.size w W2) := ⟨hpre, hacc, hB2⟩
  clear hty hpre hacc hB2 HL HB
  go_wp2_with fail
  refine HCA.mono ?_
  rintro e W3 ⟨a', c', xs, rfl, hI, hm, hr, hl, hB3⟩
  have HE : Hid (Ints W3 a' xs.length xs ∧ (∀ x : Int, x ∈ xs ↔ PreD gs n t (zs ++ [x])) ∧ (∀ x ∈ xs, 0 ≤ x ∧ x < 16) ∧ xs.Pairwise (· < ·) ∧ xs.length ≤ 16 ∧ Below w.heap.size w W3) := by
    obtain ⟨p1, p2, p3⟩ := HP.out
    refine ⟨hI, fun x => by rw [hm, p1], fun x hx => ?_, hr, hl, p3.trans (hB3.mono p3.size)⟩
    obtain ⟨j, rfl, hj⟩ := (hm x).1 hx
    have := bit_small p2 hj
    omega
  clear hI hm hr hl hB3 HP HCA
  go_wp2
  go_ret
  exact ⟨a', c', xs, rfl, HE.out⟩
set_option maxRecDepth 100000 in
set_option maxHeartbeats 1000000 in
theorem nexts_no (n : Nat) (t : DataW Unit) (v : Value) (ga : Option Addr) (gl gc : Nat) (gs : List Grp) (za : Option Addr) (zl zc : Nat) (w : World) (h : Ex w n t v) (hN : named n t) (hG : Groups w ga gl gs) (hc : chk n t gs ≠ 0) (hT : Tab w) (hw0 : 0 < w.heap.size) :
    Calls Tryd.prog 15 #[v, .slice ga gl gc, .slice za zl zc] w fun e w' => ∃ (a : Option Addr) (c : Nat), e = .returned (.slice a 0 c) ∧ Below w.heap.size w w' := by
  have HB0 : Hid (∀ o, Below w.heap.size w (w.alloc o)) := fun o => (Below.refl _ w).alloc (Nat.le_refl _) _
  have H1 : Hid (∀ W, Below w.heap.size w W → Calls Tryd.prog 24 #[v, .slice ga gl gc, .slice za zl zc] W fun e w' => ∃ Bw, e = .returned (.tuple #[.pointer (some ⟨Bw, 0, none⟩), .int .i64 0]) ∧ w'.heap[Bw]? = some (.cells #[.slice none 0 0, .map none, .map none] 73 (0, 0)) ∧ Below W.heap.size W w') := fun W hW => walked_no n t v ga gl gc gs za zl zc W (Ex.below hW _ _ _ h) hN (hG.below hW) hc
  obtain ⟨k, s, a, len, cap, rfl⟩ : ∃ k s a len cap, v = .agg #[.int .i64 k, .string s, .slice a len cap] := by
    cases n with
    | zero => exact h.elim
    | succ n => obtain ⟨k, s, a, len, cap, ts, _, rfl, _⟩ := h; exact ⟨k, s, a, len, cap, rfl⟩
  have HL : Hid (∀ (W : World), Below w.heap.size w W → Calls Tryd.prog 28 #[.int .u16 0] W fun e w' => ∃ (a : Option Addr) (c : Nat), e = .returned (.slice a 0 c) ∧ Below W.heap.size W w') := fun W hW => by
    have := listed_calls 0 (by decide) W (hT.below hW hw0) (Nat.lt_of_lt_of_le hw0 hW.size)
    refine Calls.mono this ?_
    rintro e W' ⟨a, c, xs, rfl, _, hm, _, _, hB⟩
    cases xs with
    | nil => exact ⟨a, c, rfl, hB⟩
    | cons x r =>
      obtain ⟨j, _, hj⟩ := (hm x).1 (List.mem_cons_self ..)
      simp at hj
  clear h hN hG hc hT hw0
  go_enter Tryd.func15, Tryd.ntmps15
  go_wp2_with fail
  refine (H1.out _ (HB0.out _)).mono ?_
  rintro e W ⟨Bw, rfl, hM, hW⟩
  have HB : Hid (Below w.heap.size w W) := (HB0.out _).trans (hW.mono (by simp))
  have HTY := types_nil W Bw (.func (.func 30) #[] #[]) hM
  clear hM hW H1
  go_wp2_with fail
  refine HTY.mono ?_
  rintro e W2 ⟨rfl, hB2⟩
  have HB2 : Hid (Below w.heap.size w W2) := HB.out.trans (hB2.mono HB.out.size)
  have HLL := HL.out W2 HB2.out
  clear hB2 HL HTY
  go_wp2_with fail
  refine HLL.mono ?_
  rintro e W3 ⟨a', c', rfl, hB3⟩
  have HB3 : Hid (Below w.heap.size w W3) := HB2.out.trans (hB3.mono HB2.out.size)
  clear hB3
  go_wp2
  go_ret
  exact ⟨a', c', rfl, HB3.out⟩
theorem nexts_all (n : Nat) (t : DataW Unit) (v : Value) (ga : Option Addr) (gl gc : Nat) (gs : List Grp) (za : Option Addr) (zl zc : Nat) (zs : List Int) (w : World) (h : Ex w n t v) (hN : named n t) (hG : Groups w ga gl gs) (hZ : Ints w za zl zs) (hT : Tab w) (hw0 : 0 < w.heap.size) :
    Calls Tryd.prog 15 #[v, .slice ga gl gc, .slice za zl zc] w fun e w' => ∃ (a : Option Addr) (c : Nat) (xs : List Int), e = .returned (.slice a xs.length c) ∧ Ints w' a xs.length xs ∧ (∀ x : Int, x ∈ xs ↔ (chk n t gs = 0 ∧ PreD gs n t (zs ++ [x]))) ∧ xs.Pairwise (· < ·) ∧ xs.length ≤ 16 ∧ Below w.heap.size w w' := by
  by_cases hc : chk n t gs = 0
  · refine (nexts_any n t v ga gl gc gs za zl zc zs w h hN hG hZ hc hT hw0).mono ?_
    rintro e W ⟨a, c, xs, rfl, h1, h2, _, h3, h4, h5⟩
    exact ⟨a, c, xs, rfl, h1, fun x => (h2 x).trans ⟨fun e => ⟨hc, e⟩, fun e => e.2⟩, h3, h4, h5⟩
  · refine (nexts_no n t v ga gl gc gs za zl zc w h hN hG hc hT hw0).mono ?_
    rintro e W ⟨a, c, rfl, h2⟩
    exact ⟨a, c, [], rfl, ⟨rfl, by decide, .inl rfl⟩, fun x => ⟨fun e => (by cases e), fun e => absurd e.1 hc⟩, List.Pairwise.nil, Nat.zero_le _, h2⟩
set_option maxRecDepth 100000 in
set_option maxHeartbeats 1000000 in
theorem list_calls (w : World) (xa ya : Option Addr) (xc yc : Nat) (xs : List Int) (hx : Ints w xa xs.length xs) (hy : Ints w ya xs.length xs) :
    Calls Tryd.prog 14 #[.slice xa xs.length xc, .slice ya xs.length yc] w fun e w' => e = .returned (.bool true) ∧ Below w.heap.size w w' := by
  obtain ⟨zl, hz⟩ : ∃ zl, xs.length = zl := ⟨_, rfl⟩
  rw [hz] at hx hy ⊢
  have hzi : (zl : Int) ≤ 9223372036854775807 := by have := hx.2.1; omega
  have HX : Hid (∀ (X : World) (i : Nat), Below w.heap.size w X → i < zl → ∃ b o b' o' x, xa = some ⟨b, o, none⟩ ∧ ya = some ⟨b', o', none⟩ ∧ X.cell? ⟨b, o + i, none⟩ = some (.int .i64 x) ∧ X.cell? ⟨b', o' + i, none⟩ = some (.int .i64 x)) := fun X i hX hi => by
    obtain ⟨b, o, x, e1, e2, e3⟩ := hx.at hi
    obtain ⟨b', o', x', f1, f2, f3⟩ := hy.at hi
    rw [e2] at f2
    cases f2
    exact ⟨b, o, b', o', x, e1, f1, e3 X hX, f3 X hX⟩
  have hne : ((zl : Int) != (zl : Int)) = false := by simp
  clear hx hy hz
  go_enter Tryd.func14, Tryd.ntmps14
  go_wp2
  go_loopg [5] (zl + 1) (fun gk v wr => ∃ i : Nat, i ≤ zl ∧ zl < i + gk ∧ v = .int .i64 (i : Int) ∧ Below w.heap.size w wr)
  case atStart => exact ⟨0, Nat.zero_le _, by omega, rfl, Below.refl _ _⟩
  case round =>
    obtain ⟨i, hi, hgk, rfl, hB⟩ := hrel
    by_cases hlt : i < zl
    · obtain ⟨b, o, b', o', x, rfl, rfl, c1, c2⟩ := HX.out wr i hB hlt
      have hii : (i : Int) < (zl : Int) := by omega
      have hi0 : (0 : Int) ≤ (i : Int) := by omega
      have hxx : (x != x) = false := by simp
      have HB : Hid (Below w.heap.size w wr) := hB
      clear hB HX
      go_wp2
      go_quiet (fail)
      go_wp2
      go_roundg (zl - i)
      case measure => omega
      case rel => exact ⟨i + 1, by omega, by omega, by first | rfl | go_num, by first | exact HB.out | exact HB.out.trans ⟨rfl, rfl, rfl, Nat.le_refl _, fun _ _ => rfl⟩⟩
    · obtain rfl : i = zl := by omega
      have hd : decide ((i : Int) < (i : Int)) = false := by simp
      have HB : Hid (Below w.heap.size w wr) := hB
      clear hB HX
      go_wp2
      go_ret
      exact ⟨rfl, HB.out⟩
set_option maxRecDepth 100000 in
theorem light_calls (ga : Option Addr) (gl gc : Nat) (za : Option Addr) (zl zc : Nat) (w : World) :
    Calls Tryd.prog 6 #[.slice ga gl gc, .slice za zl zc] w fun e w' => ∃ b, e = .returned (.bool b) ∧ w' = w := by
  by_cases h1 : decide ((gl : Int) ≤ 16) = true
  · go_enter Tryd.func6, Tryd.ntmps6
    go_wp2
    go_ret
    exact ⟨_, rfl, rfl⟩
  · have h2 : decide ((gl : Int) ≤ 16) = false := by simpa using h1
    clear h1
    go_enter Tryd.func6, Tryd.ntmps6
    go_wp2
    go_ret
    exact ⟨_, rfl, rfl⟩
end Go.Proofs.YtajabenlkmgjeaaDoor
