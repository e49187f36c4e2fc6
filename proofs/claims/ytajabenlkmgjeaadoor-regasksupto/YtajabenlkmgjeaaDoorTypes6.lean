/-
  PROVED HERE: reg's types at every walk: what the places that fit would take; nothing that lay before is turned.
-/
import Derived.Test.YtajabenlkmgjeaaDoorWalked
namespace Go.Proofs.YtajabenlkmgjeaaDoor
open Go.RowKit Go.Maps

/-- What the places of S that fit would take, of those that are no more left: its bits. -/
def TakenBy (F : List Place) (S : Nat → Bool) (ok : Nat → Bool) (left : Lit → Bool) (j : Nat) : Prop := ∃ (p : Nat) (x : Place), S p = true ∧ left (.int .i64 (p : Int)) = false ∧ F[p]? = some x ∧ ok x.2.2 = true ∧ x.1.testBit j = true
/-- How far the walk over the set is. -/
structure TypI (F : List Place) (N : Nat) (S : Nat → Bool) (ok : Nat → Bool) (bh : Nat) (W1 wr : World) (D : DataW Unit) (left : Lit → Bool) (cnt acc : Nat) : Prop where
  rg : wr.ranges Tryd.prog 3 unitElem bh W1.heap.size N D left cnt
  sub : ∀ kl, left kl = true → ∃ p : Nat, kl = .int .i64 (p : Int) ∧ S p = true
  iff : ∀ j, acc.testBit j = true ↔ TakenBy F S ok left j
  lt : acc < 65536
  bel : Below W1.heap.size W1 wr
theorem TypI.on {F : List Place} {N : Nat} {S ok : Nat → Bool} {bh : Nat} {W1 wr : World} {D : DataW Unit} {left : Lit → Bool} {cnt acc : Nat} (h : TypI F N S ok bh W1 wr D left cnt acc) {p : Nat} {x : Place} (hp : S p = true) (hx : F[p]? = some x) (hm : x.1 < 65536) {w1 w2 : World} {cnt1 : Nat} (hg1 : wr.grownBy w1 (some W1.heap.size)) (hrg : w1.ranges Tryd.prog 3 unitElem bh W1.heap.size N D (fun z => left z && !z.sameKey (.int .i64 (p : Int))) cnt1) (hg2 : w1.grownBy w2 none) :
    TypI F N S ok bh W1 w2 D (fun z => left z && !z.sameKey (.int .i64 (p : Int))) cnt1 (if ok x.2.2 = true then acc ||| x.1 else acc) := by
  have hkey : WideAt.IsKeyLit (.int .i64 (p : Int)) := by trivial
  have hsame : ∀ z : Lit, z.sameKey (.int .i64 (p : Int)) = true ↔ z = .int .i64 (p : Int) := fun z => ⟨fun e => WideAt.sameKey_eq e, fun e => by rw [e]; exact WideAt.sameKey_self hkey⟩
  have hleft : ∀ q : Nat, (left (.int .i64 (q : Int)) && !(Lit.int .i64 (q : Int)).sameKey (.int .i64 (p : Int))) = false ↔ (left (.int .i64 (q : Int)) = false ∨ q = p) := fun q => by
    rw [Bool.and_eq_false_iff, Bool.not_eq_false', hsame]
    constructor
    · rintro (e | e)
      · exact .inl e
      · right
        have : (q : Int) = (p : Int) := by injection e
        omega
    · rintro (e | e)
      · exact .inl e
      · exact .inr (by rw [e])
  have hT : ∀ j, TakenBy F S ok (fun z => left z && !z.sameKey (.int .i64 (p : Int))) j ↔ (TakenBy F S ok left j ∨ (ok x.2.2 = true ∧ x.1.testBit j = true)) := fun j => by
    constructor
    · rintro ⟨q, y, h1, h2, h3, h4, h5⟩
      rcases (hleft q).1 h2 with e | e
      · exact .inl ⟨q, y, h1, e, h3, h4, h5⟩
      · subst e
        rw [hx] at h3
        cases h3
        exact .inr ⟨h4, h5⟩
    · rintro (⟨q, y, h1, h2, h3, h4, h5⟩ | ⟨h4, h5⟩)
      · exact ⟨q, y, h1, (hleft q).2 (.inl h2), h3, h4, h5⟩
      · exact ⟨p, x, hp, (hleft p).2 (.inr rfl), hx, h4, h5⟩
  refine ⟨hrg.kept hg2 (by simp) (by simp), fun kl hk => h.sub kl (by rw [Bool.and_eq_true] at hk; exact hk.1), fun j => ?_, ?_, ?_⟩
  · rw [hT, ← h.iff]
    split
    · rename_i e
      rw [Nat.testBit_or, Bool.or_eq_true]
      exact ⟨fun q => q.imp_right fun r => ⟨e, r⟩, fun q => q.imp_right fun r => r.2⟩
    · rename_i e
      exact ⟨.inl, fun q => q.elim id fun r => absurd r.1 e⟩
  · split
    · exact Nat.or_lt_two_pow (n := 16) h.lt hm
    · exact h.lt
  · exact (h.bel.grown hg1 h.bel.size (fun k e => by cases e; exact Nat.le_refl _)).grown hg2 (Nat.le_trans h.bel.size hg1.size) (fun k e => by cases e)
set_option maxRecDepth 100000 in
theorem all_calls (m : Int) (a : Option Addr) (n c : Nat) (l : Int) (w : World) : Calls Tryd.prog 30 #[.agg #[.int .u16 m, .slice a n c, .int .i64 l]] w fun e w' => e = .returned (.bool true) ∧ w.grownBy w' none := by
  have HG : Hid (∀ o, w.grownBy (w.alloc o) none) := fun o => World.grownBy_alloc w o none
  go_enter Tryd.func30, Tryd.ntmps30
  go_wp2
  go_ret
  first | exact HG.out _ | exact ⟨rfl, HG.out _⟩
set_option maxRecDepth 100000 in
set_option maxHeartbeats 4000000 in
theorem types_all (F : List Place) (N : Nat) (hF : Sound1 F N) (Bw bh bs : Nat) (lv : Value) (Sh : Nat → Bool) (w : World) (h : WalkAt w Bw lv bh bs N F Sh) (ok : Nat → Bool) (HF : ∀ (X : World) (m : Int) (a : Option Addr) (n c : Nat) (l : Int), Calls Tryd.prog 30 #[.agg #[.int .u16 m, .slice a n c, .int .i64 l]] X fun e w' => e = .returned (.bool (ok l.toNat)) ∧ X.grownBy w' none) :
    Calls Tryd.prog 29 #[.pointer (some ⟨Bw, 0, none⟩), .func (.func 30) #[] #[]] w fun e w' => ∃ acc : Nat, e = .returned (.int .u16 (acc : Int)) ∧ acc < 65536 ∧ (∀ j, acc.testBit j = true ↔ ∃ (p : Nat) (x : Place), Sh p = true ∧ F[p]? = some x ∧ ok x.2.2 = true ∧ x.1.testBit j = true) ∧ Below w.heap.size w w' := by
  have hF0 : 0 < F.length := hF.wf.pos
  obtain ⟨g, cap, rfl, hcell⟩ := h.pl.slice hF0
  obtain ⟨c0, c1, _, _, _⟩ := cells3 h.blk
  have hBlt : Bw < w.heap.size := (Array.getElem?_eq_some_iff.1 h.blk).1
  obtain ⟨D, hown, hDN, hD⟩ := id h.here
  have hglt : g < w.heap.size := by
    obtain ⟨rs, q1, _⟩ := id h.pl
    exact (owns_lt q1 (g := g) rfl).1
  have HPL : Hid (∀ p : Nat, Sh p = true → ∃ x a n c, F[p]? = some x ∧ x.1 < 65536 ∧ p < F.length ∧ ∀ X : World, Below w.heap.size w X → X.cell? ⟨Bw, 0, none⟩ = some (.slice (some ⟨g, 0, none⟩) F.length cap) ∧ X.cell? ⟨g, p * 3, none⟩ = some (.int .u16 (x.1 : Int)) ∧ X.cell? ⟨g, p * 3 + 1, none⟩ = some (.slice a n c) ∧ X.cell? ⟨g, p * 3 + 2, none⟩ = some (.int .i64 (x.2.2 : Int))) := by
    intro p hp
    have hpN : p < N := hDN p hp
    obtain ⟨x, hx⟩ : ∃ x, F[p]? = some x := ⟨_, List.getElem?_eq_getElem (by rw [hF.len]; exact hpN)⟩
    obtain ⟨t0, t2, a, n, c, t1, _⟩ := hcell p x hx
    exact ⟨x, a, n, c, hx, hF.mask p x hx, by rw [hF.len]; exact hpN, fun X hX => ⟨(hX.cell (p := ⟨Bw, 0, none⟩) hBlt).trans c0, (hX.cell (p := ⟨g, p * 3, none⟩) hglt).trans t0, (hX.cell (p := ⟨g, p * 3 + 1, none⟩) hglt).trans t1, (hX.cell (p := ⟨g, p * 3 + 2, none⟩) hglt).trans t2⟩⟩
  have HST : Hid (∀ w0 : World, w0.ranges Tryd.prog 3 unitElem bh w.heap.size N D (Maps.has D) (Maps.size D) → w.grownBy w0 none → TypI F N Sh ok bh w w0 D (Maps.has D) (Maps.size D) 0) := by
    intro w0 hrg g0
    refine ⟨hrg, fun kl hk => (hD kl).1 hk, fun j => ?_, by omega, (Below.refl _ w).grown g0 (Nat.le_refl _) (fun k e => by cases e)⟩
    constructor
    · intro e; simp at e
    · rintro ⟨p, x, h1, h2, _⟩
      have := (hD (.int .i64 (p : Int))).2 ⟨p, rfl, h1⟩
      rw [h2] at this
      cases this
  have HEND : Hid (∀ (wr : World) (left : Lit → Bool) (cnt acc : Nat), TypI F N Sh ok bh w wr D left cnt acc → (∀ kl, left kl = false) → acc < 65536 ∧ (∀ j, acc.testBit j = true ↔ ∃ (p : Nat) (x : Place), Sh p = true ∧ F[p]? = some x ∧ ok x.2.2 = true ∧ x.1.testBit j = true) ∧ Below w.heap.size w wr) := by
    intro wr left cnt acc hI hl
    refine ⟨hI.lt, fun j => ?_, hI.bel⟩
    rw [hI.iff]
    exact ⟨fun ⟨p, x, h1, _, h3, h4, h5⟩ => ⟨p, x, h1, h3, h4, h5⟩, fun ⟨p, x, h1, h3, h4, h5⟩ => ⟨p, x, h1, hl _, h3, h4, h5⟩⟩
  have hFi : (F.length : Int) ≤ 1000000000 := by have := hF.small; have := hF.len; omega
  clear hD hDN h hF hcell c0
  go_enter Tryd.func29, Tryd.ntmps29
  go_wp2_with (first
    | (at_range; refine wpList_range_own _ rfl _ 71 rfl 3 87 lawI Tryd.underlying71 _ bh N D rfl hown ?_; intro w0 hrg0 hg0 hs0)
    | fail)
  go_frame
  have HI0 : Hid (TypI F N Sh ok bh w w0 D (Maps.has D) (Maps.size D) 0) := HST.out w0 hrg0 hg0
  clear hrg0 hg0 hs0 hown c1 HST
  go_loopw [5] (fun v wr => ∃ (left : Lit → Bool) (cnt acc : Nat), v = .int .u16 (acc : Int) ∧ TypI F N Sh ok bh w wr D left cnt acc) (fun _ wr => wr.rangeLeft bh w.heap.size)
  case atStart => exact ⟨_, _, 0, rfl, HI0.out⟩
  case round =>
    obtain ⟨left, cnt, acc, rfl, hI⟩ := hrel
    have hrg := hI.rg
    have HI : Hid (TypI F N Sh ok bh w wr D left cnt acc) := hI
    clear hI HI0
    go_wp2_with (first
      | (at_next; refine wpList_next_ranges _ rfl _ rfl 3 lawI unitElem (Value.int .i64) (fun _ : Unit => Value.agg #[]) (fun key kl hkey => by obtain ⟨x, e, _⟩ := keyOf_int_inv Tryd.underlying3 hkey; exact ⟨x, e⟩) (fun v y hv => ⟨(), (unitElem_inv hv).1⟩) bh w.heap.size N _ _ _ rfl hrg ?_ ?_)
      | fail)
    · intro _ hl0
      have HE := HEND.out wr left cnt acc HI.out hl0
      have HE' : Hid (acc < 65536 ∧ (∀ j, acc.testBit j = true ↔ ∃ (p : Nat) (x : Place), Sh p = true ∧ F[p]? = some x ∧ ok x.2.2 = true ∧ x.1.testBit j = true) ∧ Below w.heap.size w wr) := HE
      clear HE HEND HPL HI hrg hl0
      go_wp2
      go_ret
      exact ⟨acc, rfl, HE'.out⟩
    · intro x c kl y w1 cnt1 hkey hlk hv hat hrg1 hlt hg1 hs1 hen
      obtain ⟨rfl, hwx⟩ := key_nat hkey
      obtain ⟨p, ep, hp⟩ := HI.out.sub _ hlk
      obtain rfl : x = (p : Int) := by injection ep
      obtain ⟨x, a, n, c', hx, hm, hpN, hX⟩ := HPL.out p hp
      have hB1 : Below w.heap.size w w1 := HI.out.bel.grown hg1 HI.out.bel.size (fun k e => by cases e; exact Nat.le_refl _)
      obtain ⟨x0, x1, x2, x3⟩ := hX w1 hB1
      have hpi : (p : Int) < (F.length : Int) := by omega
      have hp0 : (0 : Int) ≤ (p : Int) := by omega
      have HON : Hid (∀ w2 : World, w1.grownBy w2 none → TypI F N Sh ok bh w w2 D (fun z => left z && !z.sameKey (.int .i64 (p : Int))) cnt1 (if ok x.2.2 = true then acc ||| x.1 else acc) ∧ w2.rangeLeft bh w.heap.size < wr.rangeLeft bh w.heap.size ∧ w2.cell? ⟨Bw, 0, none⟩ = some (.slice (some ⟨g, 0, none⟩) F.length cap) ∧ w2.cell? ⟨g, p * 3, none⟩ = some (.int .u16 (x.1 : Int)) ∧ w2.cell? ⟨g, p * 3 + 1, none⟩ = some (.slice a n c') ∧ w2.cell? ⟨g, p * 3 + 2, none⟩ = some (.int .i64 (x.2.2 : Int))) := fun w2 hg2 => by
        have hon := HI.out.on hp hx hm hg1 hrg1 hg2
        refine ⟨hon, ?_, hX w2 (hB1.grown hg2 hB1.size (fun k e => by cases e))⟩
        rw [hon.rg.left_eq, HI.out.rg.left_eq]
        exact hlt
      have hor := u16_or_nat acc x.1 HI.out.lt hm
      have HCL := HF w1 (x.1 : Int) a n c' (x.2.2 : Int)
      rw [Int.toNat_natCast] at HCL
      have HRL : Hid (ok x.2.2 = ok x.2.2) := rfl
      generalize ok x.2.2 = okx at *
      clear hX HPL HEND hx hat hv hkey ep hlk hp hrg1 hg1 HI hrg hs1 hlt hm hwx HRL
      go_wp2_with fail
      refine HCL.mono ?_
      rintro e w2 ⟨rfl, hg2⟩
      obtain ⟨hon, hlft, y0, y1, y2, y3⟩ := HON.out w2 hg2
      have HON2 : Hid (TypI F N Sh ok bh w w2 D (fun z => left z && !z.sameKey (.int .i64 (p : Int))) cnt1 (if okx = true then acc ||| x.1 else acc)) := hon
      clear hon HON hg2 x0 x1 x2 x3 HCL
      cases okx with
      | true =>
        go_wp2_with fail
        go_roundw
        case rel => exact ⟨_, _, acc ||| x.1, by first | rfl | rw [hor], HON2.out⟩
        case measure => exact hlft
      | false =>
        go_wp2_with fail
        go_roundw
        case rel => exact ⟨_, _, acc, rfl, HON2.out⟩
        case measure => exact hlft
end Go.Proofs.YtajabenlkmgjeaaDoor
