/-
  PROVED HERE: what the texts Rules, Every, Types6, Bits6, Tz6 say (each has its own words below).
-/
import Derived.Test.YtgkplmnhmobnnaaGreatDoorSM22
import Derived.BigQuiet
import Derived.Test.YtgkplmnhmobnnaaGreatDoorSMWalked
import Derived.Test.YtgkplmnhmobnnaaGreatDoorSM1
import Derived.Laws.BitsAllLaws
/- Rules: what schema's rules of a type answer: its marks, its numbers, that a leaf has no expression. -/
namespace Go.Proofs.YtgkplmnhmobnnaaGreatDoor
open Go.RowKit

def okM (s : SpecD) : Bool := decide (0 ≤ s.marks) && decide (s.marks ≤ 7)
def okN (s : SpecD) : Bool := decide (0 ≤ s.least) && decide (s.least ≤ s.most) && decide (s.most ≤ 15)
def okL (s : SpecD) : Bool := !s.leaf || s.expr.toList.isEmpty
set_option maxRecDepth 100000 in
set_option maxHeartbeats 400000 in
theorem hasmarks_calls (b o : Nat) (s : SpecD) (w : World) (h : SpecAt w b o s) : Calls Tryz.prog 49 #[.pointer (some ⟨b, o, none⟩)] w fun e w' => e = .returned (.bool (okM s)) ∧ Below w.heap.size w w' := by
  obtain ⟨_, _, _, c3, _, _, _⟩ := h
  have HR : Hid (Below w.heap.size w w) := Below.refl _ _
  have HD : Hid (Below w.heap.size w w.drew) := (Below.refl _ _).drew
  unfold okM
  by_cases d1 : 0 ≤ s.marks
  · by_cases d2 : s.marks ≤ 7
    · have e1 : decide (0 ≤ s.marks) = true := by simpa using d1
      have e2 : decide (s.marks ≤ 7) = true := by simpa using d2
      go_enter Tryz.func49, Tryz.ntmps49
      go_wp2
      go_ret
      exact ⟨by simp [d1, d2], HR.out⟩
    · have e1 : decide (0 ≤ s.marks) = true := by simpa using d1
      have e2 : decide (s.marks ≤ 7) = false := by simpa using d2
      go_enter Tryz.func49, Tryz.ntmps49
      go_wp2
      go_ret
      exact ⟨by simp, HR.out⟩
  · have e1 : decide (0 ≤ s.marks) = false := by simpa using d1
    go_enter Tryz.func49, Tryz.ntmps49
    go_wp2
    go_ret
    exact ⟨by simp, HR.out⟩
set_option maxRecDepth 100000 in
set_option maxHeartbeats 400000 in
theorem hasnumbers_calls (b o : Nat) (s : SpecD) (w : World) (h : SpecAt w b o s) : Calls Tryz.prog 50 #[.pointer (some ⟨b, o, none⟩)] w fun e w' => e = .returned (.bool (okN s)) ∧ Below w.heap.size w w' := by
  obtain ⟨_, _, _, _, c4, c5, _⟩ := h
  have HR : Hid (∀ X, Below w.heap.size w X → Below w.heap.size w X) := fun _ h => h
  unfold okN
  by_cases d1 : 0 ≤ s.least
  · have e1 : decide (0 ≤ s.least) = true := by simpa using d1
    by_cases d2 : s.least ≤ s.most
    · have e2 : decide (s.least ≤ s.most) = true := by simpa using d2
      by_cases d3 : s.most ≤ 15
      · have e3 : decide (s.most ≤ 15) = true := by simpa using d3
        go_enter Tryz.func50, Tryz.ntmps50
        go_wp2
        go_quiet (fail)
        go_wp2
        go_ret
        exact ⟨by simp [d1, d2, d3], ⟨rfl, rfl, rfl, Nat.le_refl _, fun _ _ => rfl⟩⟩
      · have e3 : decide (s.most ≤ 15) = false := by simpa using d3
        go_enter Tryz.func50, Tryz.ntmps50
        go_wp2
        go_quiet (fail)
        go_wp2
        go_ret
        exact ⟨by simp [d1, d2, d3], ⟨rfl, rfl, rfl, Nat.le_refl _, fun _ _ => rfl⟩⟩
    · have e2 : decide (s.least ≤ s.most) = false := by simpa using d2
      go_enter Tryz.func50, Tryz.ntmps50
      go_wp2
      go_quiet (fail)
      go_wp2
      go_ret
      exact ⟨by first | (rw [e1, e2]; rfl) | (simp; omega), ⟨rfl, rfl, rfl, Nat.le_refl _, fun _ _ => rfl⟩⟩
  · have e1 : decide (0 ≤ s.least) = false := by simpa using d1
    go_enter Tryz.func50, Tryz.ntmps50
    go_wp2
    go_quiet (fail)
    go_wp2
    go_ret
    exact ⟨by first | (rw [e1]; rfl) | (simp; omega), ⟨rfl, rfl, rfl, Nat.le_refl _, fun _ _ => rfl⟩⟩
set_option maxRecDepth 100000 in
set_option maxHeartbeats 400000 in
theorem isemptyleaf_calls (b o : Nat) (s : SpecD) (w : World) (h : SpecAt w b o s) : Calls Tryz.prog 51 #[.pointer (some ⟨b, o, none⟩)] w fun e w' => e = .returned (.bool (okL s)) ∧ Below w.heap.size w w' := by
  obtain ⟨_, c1, c2, _, _, _, _⟩ := h
  have HR : Hid (Below w.heap.size w w) := Below.refl _ _
  unfold okL
  generalize s.leaf = lf at *
  cases lf with
  | false =>
    go_enter Tryz.func51, Tryz.ntmps51
    go_wp2
    go_ret
    exact ⟨by simp, HR.out⟩
  | true =>
    by_cases d : s.expr.toList = []
    · have e : s.expr.toList.isEmpty = true := by rw [d]; rfl
      rw [e]
      go_enter Tryz.func51, Tryz.ntmps51
      go_wp2
      go_ret
      exact ⟨by simp, HR.out⟩
    · have e : s.expr.toList.isEmpty = false := List.isEmpty_eq_false_iff.2 d
      rw [e]
      go_enter Tryz.func51, Tryz.ntmps51
      go_wp2
      go_ret
      exact ⟨by simp, HR.out⟩
end Go.Proofs.YtgkplmnhmobnnaaGreatDoor

/- Every: schema's everyType with New's three rules: whether all types keep them. -/
namespace Go.Proofs.YtgkplmnhmobnnaaGreatDoor
open Go.RowKit

/-- A row of kinds in memory, as a schema reads it. -/
def KindsAt (w : World) (g : Nat) (ks : List KindD) : Prop := g < w.heap.size ∧ ∀ (i : Nat) (x : KindD), ks[i]? = some x → SpecAt w g (i * 10) x.1
theorem KindsAt.below {w w' : World} {g : Nat} {ks : List KindD} (h : KindsAt w g ks) (hB : Below w.heap.size w w') : KindsAt w' g ks :=
  ⟨Nat.lt_of_lt_of_le h.1 hB.size, fun i x hx => (h.2 i x hx).same (hB.block g h.1)⟩
theorem kinds_at {w : World} {base g n c : Nat} {ks : List KindD} (h : w.ownsRow base 76 10 (.slice (some ⟨g, 0, none⟩) n c) ks.length (flatK ks)) : KindsAt w g ks := by
  refine ⟨(owns_lt h (g := g) rfl).1, fun i x hx => ?_⟩
  have h0 : 0 < ks.length := by have := (List.getElem?_eq_some_iff.1 hx).1; omega
  obtain ⟨g', cap', e, hc⟩ := owns_cell h h0
  injection e with e1
  injection e1 with e1
  injection e1 with e1
  subst e1
  exact ⟨hc _ _ (flatK_at (j := 0) hx rfl), hc _ _ (flatK_at (j := 1) hx rfl), hc _ _ (flatK_at (j := 2) hx rfl), hc _ _ (flatK_at (j := 3) hx rfl), hc _ _ (flatK_at (j := 4) hx rfl), hc _ _ (flatK_at (j := 5) hx rfl), hc _ _ (flatK_at (j := 6) hx rfl)⟩
def okS (s : SpecD) : Bool := okM s && (okN s && okL s)
set_option maxRecDepth 100000 in
set_option maxHeartbeats 800000 in
theorem everytype_calls (B g c nn : Nat) (nv : Value) (ks : List KindD) (w : World) (hs : w.heap[B]? = some (.cells #[.slice (some ⟨g, 0, none⟩) ks.length c, nv] 81 (0, 0))) (hk : KindsAt w g ks) (hf : w.heap[nn]? = some (.cells #[.func (.func 49) #[] #[], .func (.func 50) #[] #[], .func (.func 51) #[] #[]] 86 (0, 0))) (hlen : ks.length ≤ 100) :
    Calls Tryz.prog 48 #[.pointer (some ⟨B, 0, none⟩), .slice (some ⟨nn, 0, none⟩) 3 3] w fun e w' => e = .returned (.bool ((ks.drop 1).all fun x => okS x.1)) ∧ Below w.heap.size w w' := by
  have hB0 : B < w.heap.size := (Array.getElem?_eq_some_iff.1 hs).1
  have hn0 : nn < w.heap.size := (Array.getElem?_eq_some_iff.1 hf).1
  have HC : Hid (∀ X, Below w.heap.size w X → X.cell? ⟨B, 0, none⟩ = some (.slice (some ⟨g, 0, none⟩) ks.length c) ∧ X.cell? ⟨nn, 0, none⟩ = some (.func (.func 49) #[] #[]) ∧ X.cell? ⟨nn, 1, none⟩ = some (.func (.func 50) #[] #[]) ∧ X.cell? ⟨nn, 2, none⟩ = some (.func (.func 51) #[] #[])) := fun X hX => by
    have h1 := fun j => cell_of_row X B j _ _ _ ((hX.block _ hB0).trans hs)
    have h2 := fun j => cell_of_row X nn j _ _ _ ((hX.block _ hn0).trans hf)
    exact ⟨h1 0, h2 0, h2 1, h2 2⟩
  have HK : Hid (∀ X, Below w.heap.size w X → ∀ (i : Nat) (x : KindD), ks[i]? = some x → SpecAt X g (i * 10) x.1) := fun X hX => (hk.below hX).2
  have hli : (ks.length : Int) ≤ 100 := by omega
  clear hs hk hf hB0 hn0
  go_enter Tryz.func48, Tryz.ntmps48
  go_wp2
  go_loopg [5] (ks.length + 2) (fun gk v wr => ∃ i : Nat, 1 ≤ i ∧ ks.length + 1 < i + gk ∧ (i ≤ ks.length ∨ i = 1) ∧ v = .int .i64 (i : Int) ∧ (∀ (j : Nat) (x : KindD), 1 ≤ j → j < i → ks[j]? = some x → okS x.1 = true) ∧ Below w.heap.size w wr)
  case atStart => exact ⟨1, by omega, by omega, .inr rfl, rfl, fun j x h1 h2 => by omega, Below.refl _ _⟩
  case round =>
    obtain ⟨i, hi1, hgk, hi2, rfl, hT, hB⟩ := hrel
    obtain ⟨c0, f0, f1, f2⟩ := HC.out wr hB
    by_cases hlt : i < ks.length
    · obtain ⟨x, hx⟩ : ∃ x, ks[i]? = some x := ⟨_, List.getElem?_eq_getElem hlt⟩
      have hii : (i : Int) < (ks.length : Int) := by omega
      have hi0 : (0 : Int) ≤ (i : Int) := by omega
      have hdi : decide ((i : Int) < (ks.length : Int)) = true := by simpa using hii
      have HSP : Hid (∀ X, Below w.heap.size w X → SpecAt X g (i * 10) x.1) := fun X hX => HK.out X hX i x hx
      have HB : Hid (ks[i]? = some x ∧ (∀ (j : Nat) (x : KindD), 1 ≤ j → j < i → ks[j]? = some x → okS x.1 = true) ∧ Below w.heap.size w wr) := ⟨hx, hT, hB⟩
      have HM1 := hasmarks_calls g (i * 10) x.1 wr (HSP.out wr hB)
      clear hT hB hx HK
      go_wp2
      clear HM1 c0 f0 f1 f2
      go_loopg [19] 4 (fun gk v wr => ∃ j : Nat, j ≤ 3 ∧ 3 < j + gk ∧ v = .int .i64 (j : Int) ∧ (1 ≤ j → okM x.1 = true) ∧ (2 ≤ j → okN x.1 = true) ∧ (3 ≤ j → okL x.1 = true) ∧ Below w.heap.size w wr)
      case atStart => exact ⟨0, by omega, by omega, rfl, fun h => by omega, fun h => by omega, fun h => by omega, HB.out.2.2⟩
      case round =>
        obtain ⟨j, hj, hgk2, rfl, t1, t2, t3, hBr⟩ := hrel
        obtain rfl | rfl | rfl | rfl : j = 0 ∨ j = 1 ∨ j = 2 ∨ j = 3 := by omega
        · have HM := hasmarks_calls g (i * 10) x.1 wr (HSP.out wr hBr)
          obtain ⟨c0, f0, f1, f2⟩ := HC.out wr hBr
          have HBr : Hid (Below w.heap.size w wr ∧ (1 ≤ 0 → okM x.1 = true) ∧ (2 ≤ 0 → okN x.1 = true) ∧ (3 ≤ 0 → okL x.1 = true)) := ⟨hBr, t1, t2, t3⟩
          obtain ⟨r, hr⟩ : ∃ r, okM x.1 = r := ⟨_, rfl⟩
          rw [hr] at HM
          have HR : Hid (okM x.1 = r) := hr
          clear hBr t1 t2 t3 hr
          go_wp2_with fail
          refine HM.mono ?_
          rintro e W1 ⟨rfl, hB1⟩
          have HB1 : Hid (Below w.heap.size w W1) := HBr.out.1.trans (hB1.mono HBr.out.1.size)
          clear hB1 HM
          cases r with
          | true =>
            go_wp2
            go_roundg (3 - 0)
            case measure => omega
            case rel => exact ⟨0 + 1, by omega, by omega, by first | rfl | go_num, fun _ => HR.out, fun h => HBr.out.2.2.1 (by omega), fun h => HBr.out.2.2.2 (by omega), HB1.out⟩
          | false =>
            have HF : Hid (((ks.drop 1).all fun x => okS x.1) = false) := by
              refine List.all_eq_false.2 ⟨x, List.mem_of_getElem? (i := i - 1) (by rw [List.getElem?_drop, show 1 + (i - 1) = i by omega]; exact HB.out.1), ?_⟩
              have hr := HR.out
              unfold okS
              rw [hr]
              simp
            go_wp2
            go_ret
            exact ⟨by rw [HF.out]; rfl, HB1.out⟩
        · have HM := hasnumbers_calls g (i * 10) x.1 wr (HSP.out wr hBr)
          obtain ⟨c0, f0, f1, f2⟩ := HC.out wr hBr
          have HBr : Hid (Below w.heap.size w wr ∧ (1 ≤ 1 → okM x.1 = true) ∧ (2 ≤ 1 → okN x.1 = true) ∧ (3 ≤ 1 → okL x.1 = true)) := ⟨hBr, t1, t2, t3⟩
          obtain ⟨r, hr⟩ : ∃ r, okN x.1 = r := ⟨_, rfl⟩
          rw [hr] at HM
          have HR : Hid (okN x.1 = r) := hr
          clear hBr t1 t2 t3 hr
          go_wp2_with fail
          refine HM.mono ?_
          rintro e W1 ⟨rfl, hB1⟩
          have HB1 : Hid (Below w.heap.size w W1) := HBr.out.1.trans (hB1.mono HBr.out.1.size)
          clear hB1 HM
          cases r with
          | true =>
            go_wp2
            go_roundg (3 - 1)
            case measure => omega
            case rel => exact ⟨1 + 1, by omega, by omega, by first | rfl | go_num, fun h => HBr.out.2.1 (by omega), fun _ => HR.out, fun h => HBr.out.2.2.2 (by omega), HB1.out⟩
          | false =>
            have HF : Hid (((ks.drop 1).all fun x => okS x.1) = false) := by
              refine List.all_eq_false.2 ⟨x, List.mem_of_getElem? (i := i - 1) (by rw [List.getElem?_drop, show 1 + (i - 1) = i by omega]; exact HB.out.1), ?_⟩
              have hr := HR.out
              unfold okS
              rw [hr]
              simp
            go_wp2
            go_ret
            exact ⟨by rw [HF.out]; rfl, HB1.out⟩
        · have HM := isemptyleaf_calls g (i * 10) x.1 wr (HSP.out wr hBr)
          obtain ⟨c0, f0, f1, f2⟩ := HC.out wr hBr
          have HBr : Hid (Below w.heap.size w wr ∧ (1 ≤ 2 → okM x.1 = true) ∧ (2 ≤ 2 → okN x.1 = true) ∧ (3 ≤ 2 → okL x.1 = true)) := ⟨hBr, t1, t2, t3⟩
          obtain ⟨r, hr⟩ : ∃ r, okL x.1 = r := ⟨_, rfl⟩
          rw [hr] at HM
          have HR : Hid (okL x.1 = r) := hr
          clear hBr t1 t2 t3 hr
          go_wp2_with fail
          refine HM.mono ?_
          rintro e W1 ⟨rfl, hB1⟩
          have HB1 : Hid (Below w.heap.size w W1) := HBr.out.1.trans (hB1.mono HBr.out.1.size)
          clear hB1 HM
          cases r with
          | true =>
            go_wp2
            go_roundg (3 - 2)
            case measure => omega
            case rel => exact ⟨2 + 1, by omega, by omega, by first | rfl | go_num, fun h => HBr.out.2.1 (by omega), fun h => HBr.out.2.2.1 (by omega), fun _ => HR.out, HB1.out⟩
          | false =>
            have HF : Hid (((ks.drop 1).all fun x => okS x.1) = false) := by
              refine List.all_eq_false.2 ⟨x, List.mem_of_getElem? (i := i - 1) (by rw [List.getElem?_drop, show 1 + (i - 1) = i by omega]; exact HB.out.1), ?_⟩
              have hr := HR.out
              unfold okS
              rw [hr]
              simp
            go_wp2
            go_ret
            exact ⟨by rw [HF.out]; rfl, HB1.out⟩
        · have HN : Hid ((∀ (j : Nat) (x : KindD), 1 ≤ j → j < i + 1 → ks[j]? = some x → okS x.1 = true) ∧ Below w.heap.size w wr) := by
            refine ⟨fun q y h1 h2 hy => ?_, hBr⟩
            by_cases e : q = i
            · subst e
              rw [HB.out.1] at hy
              cases hy
              unfold okS
              rw [t1 (by omega), t2 (by omega), t3 (by omega)]
              rfl
            · exact HB.out.2.1 q y h1 (by omega) hy
          clear hBr t1 t2 t3
          go_wp2
          go_roundg (ks.length + 1 - i)
          case measure => omega
          case rel => exact ⟨i + 1, by omega, by omega, .inl (by omega), by first | rfl | go_num, HN.out⟩
    · have hdi : decide ((i : Int) < (ks.length : Int)) = false := by simp; omega
      have HE : Hid (((ks.drop 1).all fun x => okS x.1) = true ∧ Below w.heap.size w wr) := ⟨by
        rw [List.all_eq_true]
        intro x hx
        obtain ⟨j, hj⟩ := List.getElem?_of_mem hx
        rw [List.getElem?_drop] at hj
        exact hT (1 + j) x (by omega) (by have := (List.getElem?_eq_some_iff.1 hj).1; omega) hj, hB⟩
      clear hT hB HK HC
      go_wp2
      go_ret
      exact ⟨by rw [HE.out.1]; rfl, HE.out.2⟩
end Go.Proofs.YtgkplmnhmobnnaaGreatDoor

/- Types6: reg's types at every walk: what the places that fit would take; nothing that lay before is turned. -/
namespace Go.Proofs.YtgkplmnhmobnnaaGreatDoor
open Go.RowKit Go.Maps

/-- What the places of S that fit would take, of those that are no more left: its bits. -/
def TakenBy (F : List Place) (S : Nat → Bool) (ok : Nat → Bool) (left : Lit → Bool) (j : Nat) : Prop := ∃ (p : Nat) (x : Place), S p = true ∧ left (.int .i64 (p : Int)) = false ∧ F[p]? = some x ∧ ok x.2.2 = true ∧ x.1.testBit j = true
/-- How far the walk over the set is. -/
structure TypI (F : List Place) (N : Nat) (S : Nat → Bool) (ok : Nat → Bool) (bh : Nat) (W1 wr : World) (D : DataW Unit) (left : Lit → Bool) (cnt acc : Nat) : Prop where
  rg : wr.ranges Tryz.prog 3 unitElem bh W1.heap.size N D left cnt
  sub : ∀ kl, left kl = true → ∃ p : Nat, kl = .int .i64 (p : Int) ∧ S p = true
  iff : ∀ j, acc.testBit j = true ↔ TakenBy F S ok left j
  lt : acc < 65536
  bel : Below W1.heap.size W1 wr
theorem TypI.on {F : List Place} {N : Nat} {S ok : Nat → Bool} {bh : Nat} {W1 wr : World} {D : DataW Unit} {left : Lit → Bool} {cnt acc : Nat} (h : TypI F N S ok bh W1 wr D left cnt acc) {p : Nat} {x : Place} (hp : S p = true) (hx : F[p]? = some x) (hm : x.1 < 65536) {w1 w2 : World} {cnt1 : Nat} (hg1 : wr.grownBy w1 (some W1.heap.size)) (hrg : w1.ranges Tryz.prog 3 unitElem bh W1.heap.size N D (fun z => left z && !z.sameKey (.int .i64 (p : Int))) cnt1) (hg2 : w1.grownBy w2 none) :
    TypI F N S ok bh W1 w2 D (fun z => left z && !z.sameKey (.int .i64 (p : Int))) cnt1 (if ok x.2.2 = true then acc ||| x.1 else acc) := by
  have hkey : WideAt.IsKeyLit (.int .i64 (p : Int)) := by trivial
  have hsame : ∀ z : Lit, z.sameKey (.int .i64 (p : Int)) = true ↔ z = .int .i64 (p : Int) := fun z => ⟨fun e => WideAt.sameKey_eq e, fun e => by rw [e]; exact WideAt.sameKey_self hkey⟩
  have hleft : ∀ q : Nat, (left (.int .i64 (q : Int)) && !(Lit.int .i64 (q : Int)).sameKey (.int .i64 (p : Int))) = false ↔ (left (.int .i64 (q : Int)) = false ∨ q = p) := fun q => by
    rw [Bool.and_eq_false_iff, Bool.not_eq_false', hsame]
    constructor
    · rintro (e | e)
      · exact .inl e
      · right
        have : (q : Int) = (p : Int) := by injection e
        omega
    · rintro (e | e)
      · exact .inl e
      · exact .inr (by rw [e])
  have hT : ∀ j, TakenBy F S ok (fun z => left z && !z.sameKey (.int .i64 (p : Int))) j ↔ (TakenBy F S ok left j ∨ (ok x.2.2 = true ∧ x.1.testBit j = true)) := fun j => by
    constructor
    · rintro ⟨q, y, h1, h2, h3, h4, h5⟩
      rcases (hleft q).1 h2 with e | e
      · exact .inl ⟨q, y, h1, e, h3, h4, h5⟩
      · subst e
        rw [hx] at h3
        cases h3
        exact .inr ⟨h4, h5⟩
    · rintro (⟨q, y, h1, h2, h3, h4, h5⟩ | ⟨h4, h5⟩)
      · exact ⟨q, y, h1, (hleft q).2 (.inl h2), h3, h4, h5⟩
      · exact ⟨p, x, hp, (hleft p).2 (.inr rfl), hx, h4, h5⟩
  refine ⟨hrg.kept hg2 (by simp) (by simp), fun kl hk => h.sub kl (by rw [Bool.and_eq_true] at hk; exact hk.1), fun j => ?_, ?_, ?_⟩
  · rw [hT, ← h.iff]
    split
    · rename_i e
      rw [Nat.testBit_or, Bool.or_eq_true]
      exact ⟨fun q => q.imp_right fun r => ⟨e, r⟩, fun q => q.imp_right fun r => r.2⟩
    · rename_i e
      exact ⟨.inl, fun q => q.elim id fun r => absurd r.1 e⟩
  · split
    · exact Nat.or_lt_two_pow (n := 16) h.lt hm
    · exact h.lt
  · exact (h.bel.grown hg1 h.bel.size (fun k e => by cases e; exact Nat.le_refl _)).grown hg2 (Nat.le_trans h.bel.size hg1.size) (fun k e => by cases e)
end Go.Proofs.YtgkplmnhmobnnaaGreatDoor

/- Bits6: the lowest bit of a number of sixteen bits, and the list of its bits. -/
namespace Go.Proofs.YtgkplmnhmobnnaaGreatDoor
open Go.RowKit

/-- A number that is not 0: its lowest bit. -/
theorem low_bit : ∀ (b m : Nat), m ≤ b → m ≠ 0 → ∃ k q, m = 2 ^ k * (2 * q + 1) := by
  intro b
  induction b with
  | zero => intro m h1 h2; omega
  | succ b ih =>
    intro m h1 h2
    rcases Nat.mod_two_eq_zero_or_one m with h | h
    · obtain ⟨k, q, e⟩ := ih (m / 2) (by omega) (by omega)
      refine ⟨k + 1, q, ?_⟩
      have : m = 2 * (m / 2) := by omega
      rw [this, e, Nat.pow_succ, Nat.mul_comm (2 ^ k) 2, Nat.mul_assoc]
    · exact ⟨0, m / 2, by omega⟩
theorem bit_odd (q i : Nat) : (2 * q + 1).testBit i = (decide (i = 0) || (2 * q).testBit i) := by
  cases i with
  | zero => simp
  | succ i =>
    rw [Nat.testBit_succ, Nat.testBit_succ, show (2 * q + 1) / 2 = q by omega, show 2 * q / 2 = q by omega]
    simp
theorem bit_even (q : Nat) : (2 * q).testBit 0 = false := by simp
theorem low_test (k q j : Nat) : (2 ^ k * (2 * q + 1)).testBit j = (decide (k ≤ j) && (2 * q + 1).testBit (j - k)) := by
  rw [Nat.mul_comm, Nat.testBit_mul_two_pow]
theorem less_one (k q : Nat) : 2 ^ k * (2 * q + 1) - 1 = 2 ^ k * (2 * q) + (2 ^ k - 1) := by
  have : 0 < 2 ^ k := Nat.two_pow_pos k
  rw [Nat.mul_add]
  omega
/-- With one less, and both: the lowest bit is struck. -/
theorem struck (k q j : Nat) : ((2 ^ k * (2 * q + 1)) &&& (2 ^ k * (2 * q + 1) - 1)).testBit j = ((2 ^ k * (2 * q + 1)).testBit j && !decide (j = k)) := by
  have hp : 0 < 2 ^ k := Nat.two_pow_pos k
  rw [Nat.testBit_and, low_test, less_one, Nat.testBit_two_pow_mul_add _ (by omega)]
  by_cases h : j < k
  · have h1 : decide (k ≤ j) = false := by simp; omega
    rw [h1]; simp
  · have h1 : decide (k ≤ j) = true := by simp; omega
    rw [if_neg h, h1, bit_odd]
    by_cases h2 : j = k
    · subst h2
      simp
    · have h3 : ¬ j - k = 0 := by omega
      simp [h2, h3]
theorem low_is (k q : Nat) : (2 ^ k * (2 * q + 1)).testBit k = true := by rw [low_test, bit_odd]; simp
theorem low_none (k q j : Nat) (h : j < k) : (2 ^ k * (2 * q + 1)).testBit j = false := by
  rw [low_test]
  have : decide (k ≤ j) = false := by simp; omega
  rw [this]; rfl
end Go.Proofs.YtgkplmnhmobnnaaGreatDoor

/- Tz6: bits.TrailingZeros16 at every number of sixteen bits that is not 0: its lowest bit; memory stays. -/
namespace Go.Proofs.YtgkplmnhmobnnaaGreatDoor
open Go.RowKit

theorem low_and (k q : Nat) (h : 2 ^ k * (2 * q + 1) < 65536) : (2 ^ k * (2 * q + 1)) &&& (65536 - 2 ^ k * (2 * q + 1)) = 2 ^ k := by
  have hk : k < 16 := by
    rcases Nat.lt_or_ge k 16 with e | e
    · exact e
    · have h1 : 2 ^ 16 ≤ 2 ^ k := Nat.pow_le_pow_right (by decide) e
      have h2 : 2 ^ k * 1 ≤ 2 ^ k * (2 * q + 1) := Nat.mul_le_mul_left _ (by omega)
      omega
  have hp : 2 ^ k * 2 ^ (16 - k) = 65536 := by rw [← Nat.pow_add, show k + (16 - k) = 16 by omega]
  have hq : 2 * q < 2 ^ (16 - k) := by
    have : 2 ^ k * (2 * q + 1) < 2 ^ k * 2 ^ (16 - k) := by rw [hp]; exact h
    have := Nat.lt_of_mul_lt_mul_left this
    omega
  have e : 65536 - 2 ^ k * (2 * q + 1) = 2 ^ k * (2 ^ (16 - k) - (2 * q + 1)) := by rw [Nat.mul_sub, hp]
  apply Nat.eq_of_testBit_eq
  intro j
  rw [Nat.testBit_and, low_test, e, Nat.mul_comm (2 ^ k) (2 ^ (16 - k) - (2 * q + 1)), Nat.testBit_mul_two_pow, Nat.testBit_two_pow_sub_succ hq, bit_odd, Nat.testBit_two_pow]
  by_cases hj : k ≤ j
  · by_cases h0 : j - k = 0
    · have : k = j := by omega
      subst this
      simp
      omega
    · have h1 : ¬ k = j := by omega
      cases hb : (2 * q).testBit (j - k) <;> simp [h0, h1]
  · have h1 : ¬ k = j := by omega
    simp [hj, h1]
/-- The table that the program's variable holds. -/
def tabL : List Int := [0, 1, 28, 2, 29, 14, 24, 3, 30, 22, 20, 15, 25, 17, 4, 8, 31, 27, 13, 23, 21, 19, 16, 7, 26, 12, 18, 6, 11, 5, 10, 9]
def Tab (w : World) : Prop := ∀ i x, tabL[i]? = some x → w.cell? ⟨0, i, none⟩ = some (.int .u8 x)
theorem Tab.below {b : Nat} {w w' : World} (h : Tab w) (hb : Below b w w') (h0 : 0 < b) : Tab w' := fun i x hx => (hb.cell (p := ⟨0, i, none⟩) h0).trans (h i x hx)
set_option maxRecDepth 100000 in
set_option maxHeartbeats 4000000 in
theorem tz_calls (k q : Nat) (w : World) (h : 2 ^ k * (2 * q + 1) < 65536) (hT : Tab w) :
    Calls Tryz.prog 116 #[.int .u16 ((2 ^ k * (2 * q + 1) : Nat) : Int)] w fun e w' => e = .returned (.int .i64 (k : Int)) ∧ w' = w := by
  have hla := low_and k q h
  have hpos : 0 < 2 ^ k * (2 * q + 1) := Nat.mul_pos (Nat.two_pow_pos k) (by omega)
  obtain ⟨m, hm⟩ : ∃ m, m = 2 ^ k * (2 * q + 1) := ⟨_, rfl⟩
  rw [← hm] at h hla hpos ⊢
  have hne : ((m : Int) == 0) = false := by rw [beq_eq_false_iff_ne]; omega
  have hk : k < 16 := by
    rcases Nat.lt_or_ge k 16 with e | e
    · exact e
    · have h1 : 2 ^ 16 ≤ 2 ^ k := Nat.pow_le_pow_right (by decide) e
      have h2 : m &&& 65536 - m ≤ m := Nat.and_le_left
      omega
  have hw : IntKind.u16.wrap (-(m : Int)) = ((65536 - m : Nat) : Int) := by
    show (-(m : Int)) % 65536 = _
    omega
  have hb : bits .and .u16 (m : Int) (IntKind.u16.wrap (-(m : Int))) = ((2 ^ k : Nat) : Int) := by
    rw [hw, u16_and_nat m (65536 - m) h (by omega), hla]
  have key : ∀ k : Fin 16, 0 ≤ ((2 ^ k.val : Nat) : Int) % 4294967296 * 125613361 % 4294967296 / 134217728 ∧ ((2 ^ k.val : Nat) : Int) % 4294967296 * 125613361 % 4294967296 / 134217728 < 32 ∧ tabL[(((2 ^ k.val : Nat) : Int) % 4294967296 * 125613361 % 4294967296 / 134217728).toNat]? = some (k.val : Int) := by decide +kernel
  obtain ⟨k1, k2, k3⟩ := key ⟨k, hk⟩
  have hc := hT _ _ k3
  rw [← hb] at k1 k2 hc
  have hki : (k : Int) < 16 := by omega
  clear hm k3 key hla hw hb hT hpos
  go_enter Tryz.func116, Tryz.ntmps116
  go_wp2
  go_ret
  exact ⟨rfl, rfl⟩
end Go.Proofs.YtgkplmnhmobnnaaGreatDoor
