/-
  PROVED HERE: reg's Begins and Nexts at every right tree, all groups and every word; nothing that lay before is turned.
-/
import Derived.Test.YtajabenlkmgjeaaDoorTypes6
import Derived.Test.YtajabenlkmgjeaaDoorListed6
import Derived.Test.YtajabenlkmgjeaaDoorAcc
namespace Go.Proofs.YtajabenlkmgjeaaDoor
open Go.RowKit

/-- The word leads somewhere. -/
def PreD (gs : List Grp) (n : Nat) (t : DataW Unit) (zs : List Int) : Prop := ∃ q, afterS (planF gs n t) (startS (planF gs n t) (firstF gs n t)) zs q
/-- How long the longest beginning is that leads somewhere. -/
def LongD (gs : List Grp) (n : Nat) (t : DataW Unit) (zs : List Int) (i : Nat) : Prop := i ≤ zs.length ∧ PreD gs n t (zs.take i) ∧ (i < zs.length → ¬ PreD gs n t (zs.take (i + 1)))
theorem pre_less {gs : List Grp} {n : Nat} {t : DataW Unit} {xs ys : List Int} (h : PreD gs n t (xs ++ ys)) : PreD gs n t xs := by
  unfold PreD at h ⊢
  obtain ⟨q, hq⟩ := h
  apply Classical.byContradiction
  intro hn
  have : ∀ p, ¬ afterS (planF gs n t) (startS (planF gs n t) (firstF gs n t)) xs p := fun p hp => hn ⟨p, hp⟩
  have h2 := afterS_empty (F := planF gs n t) this ys q
  unfold afterS at hq h2
  rw [List.foldl_append] at hq
  exact h2 hq
theorem long_all {gs : List Grp} {n : Nat} {t : DataW Unit} {zs : List Int} {i : Nat} (h : LongD gs n t zs i) (hp : PreD gs n t zs) : i = zs.length := by
  obtain ⟨h1, _, h3⟩ := h
  rcases Nat.lt_or_ge i zs.length with e | e
  · refine absurd ?_ (h3 e)
    rw [← List.take_append_drop (i + 1) zs] at hp
    exact pre_less hp
  · omega
theorem long_of {gs : List Grp} {n : Nat} {t : DataW Unit} {zs : List Int} {i : Nat} (h : LongD gs n t zs i) (hp : i = zs.length) : PreD gs n t zs := by
  have := h.2.1
  rwa [hp, List.take_of_length_le (Nat.le_refl _)] at this
set_option maxRecDepth 100000 in
set_option maxHeartbeats 1000000 in
theorem begins_calls (n : Nat) (t : DataW Unit) (v : Value) (ga : Option Addr) (gl gc : Nat) (gs : List Grp) (za : Option Addr) (zl zc : Nat) (zs : List Int) (w : World) (h : Ex w n t v) (hN : named n t) (hG : Groups w ga gl gs) (hZ : Ints w za zl zs) (hc : chk n t gs = 0) :
    Calls Tryd.prog 12 #[v, .slice ga gl gc, .slice za zl zc] w fun e w' => ∃ i : Nat, e = .returned (.int .i64 (i : Int)) ∧ LongD gs n t zs i ∧ Below w.heap.size w w' := by
  have hb0 : ∀ o, Below w.heap.size w (w.alloc o) := fun o => (Below.refl _ w).alloc (Nat.le_refl _) _
  have HW : Hid (∀ o, Calls Tryd.prog 24 #[v, .slice ga gl gc, .slice za zl zc] (w.alloc o) fun e w' => ∃ (Bw : Nat) (i : Nat), e = .returned (.tuple #[.pointer (some ⟨Bw, 0, none⟩), .int .i64 (i : Int)]) ∧ LongD gs n t zs i ∧ Below w.heap.size w w') := fun o => by
    refine (walked_calls n t v ga gl gc gs za zl zc zs (w.alloc o) (Ex.below (hb0 o) _ _ _ h) hN (hG.below (hb0 o)) (hZ.below (hb0 o)) hc).mono ?_
    rintro e W ⟨Bw, S, i, rfl, _, ⟨r1, r2, r3⟩, hB⟩
    refine ⟨Bw, i, rfl, ⟨r1, r2, fun hi hp => ?_⟩, (hb0 o).trans (hB.mono (by simp))⟩
    rcases r3 with ⟨e, _⟩ | ⟨_, _, e⟩
    · omega
    · obtain ⟨q, hq⟩ := hp
      exact e q hq
  obtain ⟨k, s, a, len, cap, rfl⟩ : ∃ k s a len cap, v = .agg #[.int .i64 k, .string s, .slice a len cap] := by
    cases n with
    | zero => exact h.elim
    | succ n => obtain ⟨k, s, a, len, cap, ts, _, rfl, _⟩ := h; exact ⟨k, s, a, len, cap, rfl⟩
  clear h hN hG hZ hc hb0
  go_enter Tryd.func12, Tryd.ntmps12
  go_wp2_with fail
  refine (HW.out _).mono ?_
  rintro e W ⟨Bw, i, rfl, hL, hB⟩
  have HE : Hid (LongD gs n t zs i ∧ Below w.heap.size w W) := ⟨hL, hB⟩
  clear hL hB HW
  go_wp2
  go_ret
  exact ⟨i, rfl, HE.out⟩
theorem takes_bit {m : Nat} (hm : m < 65536) (x : Int) : takes m x = true ↔ ∃ j : Nat, x = (j : Int) ∧ m.testBit j = true := by
  have htk : takes m x = (isTy x && m.testBit x.toNat) := by unfold takes isTy; rfl
  rw [htk, Bool.and_eq_true]
  constructor
  · rintro ⟨h1, h2⟩
    refine ⟨x.toNat, ?_, h2⟩
    unfold isTy at h1
    simp at h1
    omega
  · rintro ⟨j, rfl, hj⟩
    have := bit_small hm hj
    refine ⟨by unfold isTy; simp; omega, by simpa using hj⟩
/-- What a set of places takes on leads somewhere. -/
theorem pre_snoc {gs : List Grp} {n : Nat} {t : DataW Unit} {zs : List Int} {S : Nat → Bool} (hF : Sound1 (planF gs n t) (planF gs n t).length) (hS : ∀ q, S q = true ↔ afterS (planF gs n t) (startS (planF gs n t) (firstF gs n t)) zs q) (x : Int) :
    PreD gs n t (zs ++ [x]) ↔ ∃ j : Nat, x = (j : Int) ∧ ∃ (p : Nat) (y : Place), S p = true ∧ (planF gs n t)[p]? = some y ∧ y.1.testBit j = true := by
  unfold PreD
  rw [afterS_snoc]
  constructor
  · rintro ⟨q, a, y, r, k, h1, h2, h3, h4, h5⟩
    obtain ⟨j, rfl, hj⟩ := (takes_bit (hF.mask a y h2) x).1 h3
    exact ⟨j, rfl, a, y, (hS a).2 h1, h2, hj⟩
  · rintro ⟨j, rfl, p, y, h1, h2, h3⟩
    have h0 : y.1 ≠ 0 := fun e => by rw [e] at h3; simp at h3
    obtain ⟨q, e, _⟩ := hF.step h2 h0
    exact ⟨q, p, y, q, 0, (hS p).1 h1, h2, (takes_bit (hF.mask p y h2) _).2 ⟨j, rfl, h3⟩, by rw [e]; rfl, rfl⟩
set_option maxRecDepth 100000 in
set_option maxHeartbeats 1000000 in
theorem nexts_calls (n : Nat) (t : DataW Unit) (v : Value) (ga : Option Addr) (gl gc : Nat) (gs : List Grp) (za : Option Addr) (zl zc : Nat) (zs : List Int) (w : World) (h : Ex w n t v) (hN : named n t) (hG : Groups w ga gl gs) (hZ : Ints w za zl zs) (hc : chk n t gs = 0) (hp : PreD gs n t zs) (hT : Tab w) (hw0 : 0 < w.heap.size) :
    Calls Tryd.prog 15 #[v, .slice ga gl gc, .slice za zl zc] w fun e w' => ∃ (a : Option Addr) (c : Nat) (xs : List Int), e = .returned (.slice a xs.length c) ∧ Ints w' a xs.length xs ∧ (∀ x : Int, x ∈ xs ↔ PreD gs n t (zs ++ [x])) ∧ (∀ x ∈ xs, 0 ≤ x ∧ x < 16) ∧ xs.Pairwise (· < ·) ∧ xs.length ≤ 16 ∧ Below w.heap.size w w' := by
  have hb0 : ∀ o, Below w.heap.size w (w.alloc o) := fun o => (Below.refl _ w).alloc (Nat.le_refl _) _
  obtain ⟨hsound, _⟩ := plan_sound hc
  have HW : Hid (∀ o, Calls Tryd.prog 24 #[v, .slice ga gl gc, .slice za zl zc] (w.alloc o) fun e w' => ∃ (Bw : Nat) (i : Nat), e = .returned (.tuple #[.pointer (some ⟨Bw, 0, none⟩), .int .i64 (i : Int)]) ∧ Below w.heap.size w w' ∧ Calls Tryd.prog 29 #[.pointer (some ⟨Bw, 0, none⟩), .func (.func 30) #[] #[]] w' fun e w2 => ∃ acc : Nat, e = .returned (.int .u16 (acc : Int)) ∧ acc < 65536 ∧ (∀ x : Int, PreD gs n t (zs ++ [x]) ↔ ∃ j : Nat, x = (j : Int) ∧ acc.testBit j = true) ∧ Below w.heap.size w w2) := fun o => by
    refine (walked_calls n t v ga gl gc gs za zl zc zs (w.alloc o) (Ex.below (hb0 o) _ _ _ h) hN (hG.below (hb0 o)) (hZ.below (hb0 o)) hc).mono ?_
    rintro e W ⟨Bw, S, i, rfl, ⟨hBw, lv, bh, bs, _, _, hWk⟩, ⟨r1, r2, r3⟩, hB⟩
    have hB' : Below w.heap.size w W := (hb0 o).trans (hB.mono (by simp))
    have hS : ∀ q, S q = true ↔ afterS (planF gs n t) (startS (planF gs n t) (firstF gs n t)) zs q := by
      rcases r3 with ⟨_, e⟩ | ⟨e1, _, e⟩
      · exact e
      · exfalso
        rw [← List.take_append_drop (i + 1) zs] at hp
        obtain ⟨q, hq⟩ := pre_less hp
        exact e q hq
    refine ⟨Bw, i, rfl, hB', ?_⟩
    refine (types_all _ _ hsound Bw bh bs lv S W hWk (fun _ => true) (fun X m a n c l => all_calls m a n c l X)).mono ?_
    rintro e W2 ⟨acc, rfl, hacc, hbits, hB2⟩
    refine ⟨acc, rfl, hacc, fun x => ?_, hB'.trans (hB2.mono hB'.size)⟩
    rw [pre_snoc hsound hS]
    constructor
    · rintro ⟨j, e, p, y, h1, h2, h3⟩
      exact ⟨j, e, (hbits j).2 ⟨p, y, h1, h2, rfl, h3⟩⟩
    · rintro ⟨j, e, hj⟩
      obtain ⟨p, y, h1, h2, _, h3⟩ := (hbits j).1 hj
      exact ⟨j, e, p, y, h1, h2, h3⟩
  have HL : Hid (∀ (W : World) (acc : Nat), Below w.heap.size w W → acc < 65536 → Calls Tryd.prog 28 #[.int .u16 (acc : Int)] W fun e w' => ∃ (a : Option Addr) (c : Nat) (xs : List Int), e = .returned (.slice a xs.length c) ∧ Ints w' a xs.length xs ∧ (∀ x : Int, x ∈ xs ↔ ∃ j : Nat, x = (j : Int) ∧ acc.testBit j = true) ∧ xs.Pairwise (· < ·) ∧ xs.length ≤ 16 ∧ Below W.heap.size W w') := fun W acc hW ha => listed_calls acc ha W (hT.below hW hw0) (Nat.lt_of_lt_of_le hw0 hW.size)
  obtain ⟨k, s, a, len, cap, rfl⟩ : ∃ k s a len cap, v = .agg #[.int .i64 k, .string s, .slice a len cap] := by
    cases n with
    | zero => exact h.elim
    | succ n => obtain ⟨k, s, a, len, cap, ts, _, rfl, _⟩ := h; exact ⟨k, s, a, len, cap, rfl⟩
  clear h hN hG hZ hc hb0 hp hT hw0 hsound
  go_enter Tryd.func15, Tryd.ntmps15
  go_wp2_with fail
  refine (HW.out _).mono ?_
  rintro e W ⟨Bw, i, rfl, hB, hty⟩
  have HB : Hid (Below w.heap.size w W) := hB
  clear hB HW
  go_wp2_with fail
  refine hty.mono ?_
  rintro e W2 ⟨acc, rfl, hacc, hpre, hB2⟩
  have HCA := HL.out W2 acc hB2 hacc
  have HP : Hid ((∀ x : Int, PreD gs n t (zs ++ [x]) ↔ ∃ j : Nat, x = (j : Int) ∧ acc.testBit j = true) ∧ acc < 65536 ∧ Below w.heap.size w W2) := ⟨hpre, hacc, hB2⟩
  clear hty hpre hacc hB2 HL HB
  go_wp2_with fail
  refine HCA.mono ?_
  rintro e W3 ⟨a', c', xs, rfl, hI, hm, hr, hl, hB3⟩
  have HE : Hid (Ints W3 a' xs.length xs ∧ (∀ x : Int, x ∈ xs ↔ PreD gs n t (zs ++ [x])) ∧ (∀ x ∈ xs, 0 ≤ x ∧ x < 16) ∧ xs.Pairwise (· < ·) ∧ xs.length ≤ 16 ∧ Below w.heap.size w W3) := by
    obtain ⟨p1, p2, p3⟩ := HP.out
    refine ⟨hI, fun x => by rw [hm, p1], fun x hx => ?_, hr, hl, p3.trans (hB3.mono p3.size)⟩
    obtain ⟨j, rfl, hj⟩ := (hm x).1 hx
    have := bit_small p2 hj
    omega
  clear hI hm hr hl hB3 HP HCA
  go_wp2
  go_ret
  exact ⟨a', c', xs, rfl, HE.out⟩
end Go.Proofs.YtajabenlkmgjeaaDoor
