/-
  PROVED HERE: what the texts DBRules, DBEvery, DBNexts6, DBFilledW, DBReadK say (each has its own words below).
-/
import Derived.Test.YtbkpehfaofhmaaaGreatDoorCB23
import Derived.BigQuiet
import Derived.Test.YtbkpehfaofhmaaaGreatDoorCB22
import Derived.Test.YtbkpehfaofhmaaaGreatDoorCB1
import Derived.Laws.BitsAllLaws
import Derived.Test.YtbkpehfaofhmaaaGreatDoorCB19
import Derived.Test.YtbkpehfaofhmaaaGreatDoorCBDBParseC
import Derived.Test.YtbkpehfaofhmaaaGreatDoorCB12
import Derived.Test.YtbkpehfaofhmaaaGreatDoorCB13
/- DBRules: what schema's rules of a type answer: its marks, its numbers, that a leaf has no expression. -/
namespace Go.Proofs.YtbkpehfaofhmaaaGreatDoor
open Go.RowKit
def okM (s : SpecD) : Bool := decide (0 <= s.marks) && decide (s.marks <= 7)
def okN (s : SpecD) : Bool := decide (0 <= s.least) && decide (s.least <= s.most) && decide (s.most <= 15)
def okL (s : SpecD) : Bool := !s.leaf || s.expr.toList.isEmpty
set_option maxRecDepth 100000 in
set_option maxHeartbeats 400000 in
theorem hasmarks_calls (b o : Nat) (s : SpecD) (w : World) (h : SpecAt w b o s) : Calls Tryz.prog 35 #[.pointer (some ⟨b, o, none⟩)] w fun e w' => e = .returned (.bool (okM s)) /\ Below w.heap.size w w' := by
 obtain ⟨_, _, _, c3, _, _, _⟩ := h
 have HR : Hid (Below w.heap.size w w) := Below.refl _ _
 have HD : Hid (Below w.heap.size w w.drew) := (Below.refl _ _).drew
 unfold okM
 by_cases d1 : 0 <= s.marks
 ·by_cases d2 : s.marks <= 7
  ·have e1 : decide (0 <= s.marks) = true := by simpa using d1
   have e2 : decide (s.marks <= 7) = true := by simpa using d2
   go_enter Tryz.func35, Tryz.ntmps35
   go_wp2
   go_ret
   exact ⟨by simp [d1, d2], HR.out⟩
  ·have e1 : decide (0 <= s.marks) = true := by simpa using d1
   have e2 : decide (s.marks <= 7) = false := by simpa using d2
   go_enter Tryz.func35, Tryz.ntmps35
   go_wp2
   go_ret
   exact ⟨by simp, HR.out⟩
 ·have e1 : decide (0 <= s.marks) = false := by simpa using d1
  go_enter Tryz.func35, Tryz.ntmps35
  go_wp2
  go_ret
  exact ⟨by simp, HR.out⟩
set_option maxRecDepth 100000 in
set_option maxHeartbeats 400000 in
theorem hasnumbers_calls (b o : Nat) (s : SpecD) (w : World) (h : SpecAt w b o s) : Calls Tryz.prog 36 #[.pointer (some ⟨b, o, none⟩)] w fun e w' => e = .returned (.bool (okN s)) /\ Below w.heap.size w w' := by
 obtain ⟨_, _, _, _, c4, c5, _⟩ := h
 have HR : Hid (∀ X, Below w.heap.size w X -> Below w.heap.size w X) := fun _ h => h
 unfold okN
 by_cases d1 : 0 <= s.least
 ·have e1 : decide (0 <= s.least) = true := by simpa using d1
  by_cases d2 : s.least <= s.most
  ·have e2 : decide (s.least <= s.most) = true := by simpa using d2
   by_cases d3 : s.most <= 15
   ·have e3 : decide (s.most <= 15) = true := by simpa using d3
    go_enter Tryz.func36, Tryz.ntmps36
    go_wp2
    go_quiet (fail)
    go_wp2
    go_ret
    exact ⟨by simp [d1, d2, d3], ⟨rfl, rfl, rfl, Nat.le_refl _, fun _ _ => rfl⟩⟩
   ·have e3 : decide (s.most <= 15) = false := by simpa using d3
    go_enter Tryz.func36, Tryz.ntmps36
    go_wp2
    go_quiet (fail)
    go_wp2
    go_ret
    exact ⟨by simp [d1, d2, d3], ⟨rfl, rfl, rfl, Nat.le_refl _, fun _ _ => rfl⟩⟩
  ·have e2 : decide (s.least <= s.most) = false := by simpa using d2
   go_enter Tryz.func36, Tryz.ntmps36
   go_wp2
   go_quiet (fail)
   go_wp2
   go_ret
   exact ⟨by first | (rw [e1, e2]; rfl) | (simp; omega), ⟨rfl, rfl, rfl, Nat.le_refl _, fun _ _ => rfl⟩⟩
 ·have e1 : decide (0 <= s.least) = false := by simpa using d1
  go_enter Tryz.func36, Tryz.ntmps36
  go_wp2
  go_quiet (fail)
  go_wp2
  go_ret
  exact ⟨by first | (rw [e1]; rfl) | (simp; omega), ⟨rfl, rfl, rfl, Nat.le_refl _, fun _ _ => rfl⟩⟩
set_option maxRecDepth 100000 in
set_option maxHeartbeats 400000 in
theorem isemptyleaf_calls (b o : Nat) (s : SpecD) (w : World) (h : SpecAt w b o s) : Calls Tryz.prog 37 #[.pointer (some ⟨b, o, none⟩)] w fun e w' => e = .returned (.bool (okL s)) /\ Below w.heap.size w w' := by
 obtain ⟨_, c1, c2, _, _, _, _⟩ := h
 have HR : Hid (Below w.heap.size w w) := Below.refl _ _
 unfold okL
 generalize s.leaf = lf at *
 cases lf with
 | false =>
  go_enter Tryz.func37, Tryz.ntmps37
  go_wp2
  go_ret
  exact ⟨by simp, HR.out⟩
 | true =>
  by_cases d : s.expr.toList = []
  ·have e : s.expr.toList.isEmpty = true := by rw [d]; rfl
   rw [e]
   go_enter Tryz.func37, Tryz.ntmps37
   go_wp2
   go_ret
   exact ⟨by simp, HR.out⟩
  ·have e : s.expr.toList.isEmpty = false := List.isEmpty_eq_false_iff.2 d
   rw [e]
   go_enter Tryz.func37, Tryz.ntmps37
   go_wp2
   go_ret
   exact ⟨by simp, HR.out⟩
end Go.Proofs.YtbkpehfaofhmaaaGreatDoor

/- DBEvery: schema's everyType with New's three rules: whether all types keep them. -/
namespace Go.Proofs.YtbkpehfaofhmaaaGreatDoor
open Go.RowKit
def KindsAt (w : World) (g : Nat) (ks : List KindD) : Prop := g < w.heap.size /\ ∀ (i : Nat) (x : KindD), ks[i]? = some x -> SpecAt w g (i * 10) x.1
theorem KindsAt.below {w w' : World} {g : Nat} {ks : List KindD} (h : KindsAt w g ks) (hB : Below w.heap.size w w') : KindsAt w' g ks :=
 ⟨Nat.lt_of_lt_of_le h.1 hB.size, fun i x hx => (h.2 i x hx).same (hB.block g h.1)⟩
theorem kinds_at {w : World} {base g n c : Nat} {ks : List KindD} (h : w.ownsRow base 106 10 (.slice (some ⟨g, 0, none⟩) n c) ks.length (flatK ks)) : KindsAt w g ks := by
 refine ⟨(owns_lt h (g := g) rfl).1, fun i x hx => ?_⟩
 have h0 : 0 < ks.length := by have := (List.getElem?_eq_some_iff.1 hx).1; omega
 obtain ⟨g', cap', e, hc⟩ := owns_cell h h0
 injection e with e1
 injection e1 with e1
 injection e1 with e1
 subst e1
 exact ⟨hc _ _ (flatK_at (j := 0) hx rfl), hc _ _ (flatK_at (j := 1) hx rfl), hc _ _ (flatK_at (j := 2) hx rfl), hc _ _ (flatK_at (j := 3) hx rfl), hc _ _ (flatK_at (j := 4) hx rfl), hc _ _ (flatK_at (j := 5) hx rfl), hc _ _ (flatK_at (j := 6) hx rfl)⟩
def okS (s : SpecD) : Bool := okM s && (okN s && okL s)
set_option maxRecDepth 100000 in
set_option maxHeartbeats 800000 in
theorem everytype_calls (B g c nn : Nat) (nv : Value) (ks : List KindD) (w : World) (hs : w.heap[B]? = some (.cells #[.slice (some ⟨g, 0, none⟩) ks.length c, nv] 81 (0, 0))) (hk : KindsAt w g ks) (hf : w.heap[nn]? = some (.cells #[.func (.func 35) #[] #[], .func (.func 36) #[] #[], .func (.func 37) #[] #[]] 83 (0, 0))) (hlen : ks.length <= 100) :
  Calls Tryz.prog 34 #[.pointer (some ⟨B, 0, none⟩), .slice (some ⟨nn, 0, none⟩) 3 3] w fun e w' => e = .returned (.bool ((ks.drop 1).all fun x => okS x.1)) /\ Below w.heap.size w w' := by
 have hB0 : B < w.heap.size := (Array.getElem?_eq_some_iff.1 hs).1
 have hn0 : nn < w.heap.size := (Array.getElem?_eq_some_iff.1 hf).1
 have HC : Hid (∀ X, Below w.heap.size w X -> X.cell? ⟨B, 0, none⟩ = some (.slice (some ⟨g, 0, none⟩) ks.length c) /\ X.cell? ⟨nn, 0, none⟩ = some (.func (.func 35) #[] #[]) /\ X.cell? ⟨nn, 1, none⟩ = some (.func (.func 36) #[] #[]) /\ X.cell? ⟨nn, 2, none⟩ = some (.func (.func 37) #[] #[])) := fun X hX => by
  have h1 := fun j => cell_of_row X B j _ _ _ ((hX.block _ hB0).trans hs)
  have h2 := fun j => cell_of_row X nn j _ _ _ ((hX.block _ hn0).trans hf)
  exact ⟨h1 0, h2 0, h2 1, h2 2⟩
 have HK : Hid (∀ X, Below w.heap.size w X -> ∀ (i : Nat) (x : KindD), ks[i]? = some x -> SpecAt X g (i * 10) x.1) := fun X hX => (hk.below hX).2
 have hli : (ks.length : Int) <= 100 := by omega
 clear hs hk hf hB0 hn0
 go_enter Tryz.func34, Tryz.ntmps34
 go_wp2
 go_loopg [5] (ks.length + 2) (fun gk v wr => ∃ i : Nat, 1 <= i /\ ks.length + 1 < i + gk /\ (i <= ks.length \/ i = 1) /\ v = .int .i64 (i : Int) /\ (∀ (j : Nat) (x : KindD), 1 <= j -> j < i -> ks[j]? = some x -> okS x.1 = true) /\ Below w.heap.size w wr)
 case atStart => exact ⟨1, by omega, by omega, .inr rfl, rfl, fun j x h1 h2 => by omega, Below.refl _ _⟩
 case round =>
  obtain ⟨i, hi1, hgk, hi2, rfl, hT, hB⟩ := hrel
  obtain ⟨c0, f0, f1, f2⟩ := HC.out wr hB
  by_cases hlt : i < ks.length
  ·obtain ⟨x, hx⟩ : ∃ x, ks[i]? = some x := ⟨_, List.getElem?_eq_getElem hlt⟩
   have hii : (i : Int) < (ks.length : Int) := by omega
   have hi0 : (0 : Int) <= (i : Int) := by omega
   have hdi : decide ((i : Int) < (ks.length : Int)) = true := by simpa using hii
   have HSP : Hid (∀ X, Below w.heap.size w X -> SpecAt X g (i * 10) x.1) := fun X hX => HK.out X hX i x hx
   have HB : Hid (ks[i]? = some x /\ (∀ (j : Nat) (x : KindD), 1 <= j -> j < i -> ks[j]? = some x -> okS x.1 = true) /\ Below w.heap.size w wr) := ⟨hx, hT, hB⟩
   have HM1 := hasmarks_calls g (i * 10) x.1 wr (HSP.out wr hB)
   clear hT hB hx HK
   go_wp2
   clear HM1 c0 f0 f1 f2
   go_loopg [19] 4 (fun gk v wr => ∃ j : Nat, j <= 3 /\ 3 < j + gk /\ v = .int .i64 (j : Int) /\ (1 <= j -> okM x.1 = true) /\ (2 <= j -> okN x.1 = true) /\ (3 <= j -> okL x.1 = true) /\ Below w.heap.size w wr)
   case atStart => exact ⟨0, by omega, by omega, rfl, fun h => by omega, fun h => by omega, fun h => by omega, HB.out.2.2⟩
   case round =>
    obtain ⟨j, hj, hgk2, rfl, t1, t2, t3, hBr⟩ := hrel
    obtain rfl | rfl | rfl | rfl : j = 0 \/ j = 1 \/ j = 2 \/ j = 3 := by omega
    ·have HM := hasmarks_calls g (i * 10) x.1 wr (HSP.out wr hBr)
     obtain ⟨c0, f0, f1, f2⟩ := HC.out wr hBr
     have HBr : Hid (Below w.heap.size w wr /\ (1 <= 0 -> okM x.1 = true) /\ (2 <= 0 -> okN x.1 = true) /\ (3 <= 0 -> okL x.1 = true)) := ⟨hBr, t1, t2, t3⟩
     obtain ⟨r, hr⟩ : ∃ r, okM x.1 = r := ⟨_, rfl⟩
     rw [hr] at HM
     have HR : Hid (okM x.1 = r) := hr
     clear hBr t1 t2 t3 hr
     go_wp2_with fail
     refine HM.mono ?_
     rintro e W1 ⟨rfl, hB1⟩
     have HB1 : Hid (Below w.heap.size w W1) := HBr.out.1.trans (hB1.mono HBr.out.1.size)
     clear hB1 HM
     cases r with
     | true =>
      go_wp2
      go_roundg (3 - 0)
      case measure => omega
      case rel => exact ⟨0 + 1, by omega, by omega, by first | rfl | go_num, fun _ => HR.out, fun h => HBr.out.2.2.1 (by omega), fun h => HBr.out.2.2.2 (by omega), HB1.out⟩
     | false =>
      have HF : Hid (((ks.drop 1).all fun x => okS x.1) = false) := by
       refine List.all_eq_false.2 ⟨x, List.mem_of_getElem? (i := i - 1) (by rw [List.getElem?_drop, show 1 + (i - 1) = i by omega]; exact HB.out.1), ?_⟩
       have hr := HR.out
       unfold okS
       rw [hr]
       simp
      go_wp2
      go_ret
      exact ⟨by rw [HF.out]; rfl, HB1.out⟩
    ·have HM := hasnumbers_calls g (i * 10) x.1 wr (HSP.out wr hBr)
     obtain ⟨c0, f0, f1, f2⟩ := HC.out wr hBr
     have HBr : Hid (Below w.heap.size w wr /\ (1 <= 1 -> okM x.1 = true) /\ (2 <= 1 -> okN x.1 = true) /\ (3 <= 1 -> okL x.1 = true)) := ⟨hBr, t1, t2, t3⟩
     obtain ⟨r, hr⟩ : ∃ r, okN x.1 = r := ⟨_, rfl⟩
     rw [hr] at HM
     have HR : Hid (okN x.1 = r) := hr
     clear hBr t1 t2 t3 hr
     go_wp2_with fail
     refine HM.mono ?_
     rintro e W1 ⟨rfl, hB1⟩
     have HB1 : Hid (Below w.heap.size w W1) := HBr.out.1.trans (hB1.mono HBr.out.1.size)
     clear hB1 HM
     cases r with
     | true =>
      go_wp2
      go_roundg (3 - 1)
      case measure => omega
      case rel => exact ⟨1 + 1, by omega, by omega, by first | rfl | go_num, fun h => HBr.out.2.1 (by omega), fun _ => HR.out, fun h => HBr.out.2.2.2 (by omega), HB1.out⟩
     | false =>
      have HF : Hid (((ks.drop 1).all fun x => okS x.1) = false) := by
       refine List.all_eq_false.2 ⟨x, List.mem_of_getElem? (i := i - 1) (by rw [List.getElem?_drop, show 1 + (i - 1) = i by omega]; exact HB.out.1), ?_⟩
       have hr := HR.out
       unfold okS
       rw [hr]
       simp
      go_wp2
      go_ret
      exact ⟨by rw [HF.out]; rfl, HB1.out⟩
    ·have HM := isemptyleaf_calls g (i * 10) x.1 wr (HSP.out wr hBr)
     obtain ⟨c0, f0, f1, f2⟩ := HC.out wr hBr
     have HBr : Hid (Below w.heap.size w wr /\ (1 <= 2 -> okM x.1 = true) /\ (2 <= 2 -> okN x.1 = true) /\ (3 <= 2 -> okL x.1 = true)) := ⟨hBr, t1, t2, t3⟩
     obtain ⟨r, hr⟩ : ∃ r, okL x.1 = r := ⟨_, rfl⟩
     rw [hr] at HM
     have HR : Hid (okL x.1 = r) := hr
     clear hBr t1 t2 t3 hr
     go_wp2_with fail
     refine HM.mono ?_
     rintro e W1 ⟨rfl, hB1⟩
     have HB1 : Hid (Below w.heap.size w W1) := HBr.out.1.trans (hB1.mono HBr.out.1.size)
     clear hB1 HM
     cases r with
     | true =>
      go_wp2
      go_roundg (3 - 2)
      case measure => omega
      case rel => exact ⟨2 + 1, by omega, by omega, by first | rfl | go_num, fun h => HBr.out.2.1 (by omega), fun h => HBr.out.2.2.1 (by omega), fun _ => HR.out, HB1.out⟩
     | false =>
      have HF : Hid (((ks.drop 1).all fun x => okS x.1) = false) := by
       refine List.all_eq_false.2 ⟨x, List.mem_of_getElem? (i := i - 1) (by rw [List.getElem?_drop, show 1 + (i - 1) = i by omega]; exact HB.out.1), ?_⟩
       have hr := HR.out
       unfold okS
       rw [hr]
       simp
      go_wp2
      go_ret
      exact ⟨by rw [HF.out]; rfl, HB1.out⟩
    ·have HN : Hid ((∀ (j : Nat) (x : KindD), 1 <= j -> j < i + 1 -> ks[j]? = some x -> okS x.1 = true) /\ Below w.heap.size w wr) := by
      refine ⟨fun q y h1 h2 hy => ?_, hBr⟩
      by_cases e : q = i
      ·subst e
       rw [HB.out.1] at hy
       cases hy
       unfold okS
       rw [t1 (by omega), t2 (by omega), t3 (by omega)]
       rfl
      ·exact HB.out.2.1 q y h1 (by omega) hy
     clear hBr t1 t2 t3
     go_wp2
     go_roundg (ks.length + 1 - i)
     case measure => omega
     case rel => exact ⟨i + 1, by omega, by omega, .inl (by omega), by first | rfl | go_num, HN.out⟩
  ·have hdi : decide ((i : Int) < (ks.length : Int)) = false := by simp; omega
   have HE : Hid (((ks.drop 1).all fun x => okS x.1) = true /\ Below w.heap.size w wr) := ⟨by
    rw [List.all_eq_true]
    intro x hx
    obtain ⟨j, hj⟩ := List.getElem?_of_mem hx
    rw [List.getElem?_drop] at hj
    exact hT (1 + j) x (by omega) (by have := (List.getElem?_eq_some_iff.1 hj).1; omega) hj, hB⟩
   clear hT hB HK HC
   go_wp2
   go_ret
   exact ⟨by rw [HE.out.1]; rfl, HE.out.2⟩
end Go.Proofs.YtbkpehfaofhmaaaGreatDoor

/- DBNexts6: reg's Begins and Nexts at every right tree, all groups and every word; nothing that lay before is turned. -/
namespace Go.Proofs.YtbkpehfaofhmaaaGreatDoor
open Go.RowKit
def PreD (gs : List Grp) (n : Nat) (t : DataW Unit) (zs : List Int) : Prop := ∃ q, afterS (planF gs n t) (startS (planF gs n t) (firstF gs n t)) zs q
def LongD (gs : List Grp) (n : Nat) (t : DataW Unit) (zs : List Int) (i : Nat) : Prop := i <= zs.length /\ PreD gs n t (zs.take i) /\ (i < zs.length -> ¬ PreD gs n t (zs.take (i + 1)))
theorem pre_less {gs : List Grp} {n : Nat} {t : DataW Unit} {xs ys : List Int} (h : PreD gs n t (xs ++ ys)) : PreD gs n t xs := by
 unfold PreD at h ⊢
 obtain ⟨q, hq⟩ := h
 apply Classical.byContradiction
 intro hn
 have : ∀ p, ¬ afterS (planF gs n t) (startS (planF gs n t) (firstF gs n t)) xs p := fun p hp => hn ⟨p, hp⟩
 have h2 := afterS_empty (F := planF gs n t) this ys q
 unfold afterS at hq h2
 rw [List.foldl_append] at hq
 exact h2 hq
set_option maxRecDepth 100000 in
set_option maxHeartbeats 1000000 in
theorem begins_calls (n : Nat) (t : DataW Unit) (v : Value) (ga : Option Addr) (gl gc : Nat) (gs : List Grp) (za : Option Addr) (zl zc : Nat) (zs : List Int) (w : World) (h : Ex w n t v) (hN : named n t) (hG : Groups w ga gl gs) (hZ : Ints w za zl zs) (hc : chk n t gs = 0) :
  Calls Tryz.prog 165 #[v, .slice ga gl gc, .slice za zl zc] w fun e w' => ∃ i : Nat, e = .returned (.int .i64 (i : Int)) /\ LongD gs n t zs i /\ Below w.heap.size w w' := by
 have hb0 : ∀ o, Below w.heap.size w (w.alloc o) := fun o => (Below.refl _ w).alloc (Nat.le_refl _) _
 have HW : Hid (∀ o, Calls Tryz.prog 85 #[v, .slice ga gl gc, .slice za zl zc] (w.alloc o) fun e w' => ∃ (Bw : Nat) (i : Nat), e = .returned (.tuple #[.pointer (some ⟨Bw, 0, none⟩), .int .i64 (i : Int)]) /\ LongD gs n t zs i /\ Below w.heap.size w w') := fun o => by
  refine (walked_calls n t v ga gl gc gs za zl zc zs (w.alloc o) (Ex.below (hb0 o) _ _ _ h) hN (hG.below (hb0 o)) (hZ.below (hb0 o)) hc).mono ?_
  rintro e W ⟨Bw, S, i, rfl, _, ⟨r1, r2, r3⟩, hB⟩
  refine ⟨Bw, i, rfl, ⟨r1, r2, fun hi hp => ?_⟩, (hb0 o).trans (hB.mono (by simp))⟩
  rcases r3 with ⟨e, _⟩ | ⟨_, _, e⟩
  ·omega
  ·obtain ⟨q, hq⟩ := hp
   exact e q hq
 obtain ⟨k, s, a, len, cap, rfl⟩ : ∃ k s a len cap, v = .agg #[.int .i64 k, .string s, .slice a len cap] := by
  cases n with
  | zero => exact h.elim
  | succ n => obtain ⟨k, s, a, len, cap, ts, _, rfl, _⟩ := h; exact ⟨k, s, a, len, cap, rfl⟩
 clear h hN hG hZ hc hb0
 go_enter Tryz.func165, Tryz.ntmps165
 go_wp2_with fail
 refine (HW.out _).mono ?_
 rintro e W ⟨Bw, i, rfl, hL, hB⟩
 have HE : Hid (LongD gs n t zs i /\ Below w.heap.size w W) := ⟨hL, hB⟩
 clear hL hB HW
 go_wp2
 go_ret
 exact ⟨i, rfl, HE.out⟩
end Go.Proofs.YtbkpehfaofhmaaaGreatDoor

/- DBFilledW: the walk of RegFilled. -/
namespace Go.Proofs.YtbkpehfaofhmaaaGreatDoor
open Go.RowKit
theorem out_named (s : ByteArray) : named 200 (outTree s) := by
 unfold outTree
 cases h : outT s with
 | none => exact emptyT_named
 | some t =>
  show named 200 t
  unfold outT at h
  split at h
  ·cases h
  ·rename_i hs
   split at h
   ·cases h
   ·rename_i t' hr
    split at h
    ·cases h
     unfold readT at hr
     split at hr
     ·cases hr
      exact emptyT_named
     ·split at hr
      ·rename_i t2 ha
       cases hr
       exact (altN_named _ _ _ _ ha (by rw [bts_length]; omega)).1 200
      ·cases hr
    ·cases h
end Go.Proofs.YtbkpehfaofhmaaaGreatDoor

/- DBReadK: schema's read of a kind's tree: what it returns, and the row of kinds behind it. -/
namespace Go.Proofs.YtbkpehfaofhmaaaGreatDoor
open Go.RowKit
theorem row_setb {w : World} {base : Nat} {e : TypeId} {sz g n cap : Nat} {xs : List Value} (h : w.ownsRow base e sz (.slice (some ⟨g, 0, none⟩) n cap) n xs) (k : Nat) (u : Value) : (w.setCell ⟨g, k, none⟩ u).ownsRow base e sz (.slice (some ⟨g, 0, none⟩) n cap) n (xs.set k u) := by
 obtain ⟨h1, h2⟩ := h
 refine ⟨by rw [List.length_set]; exact h1, ?_⟩
 rcases h2 with ⟨e1, _⟩ | ⟨g', cap', cur, e1, hb, hg, h3, h4, h5, h6⟩
 ·cases e1
 ·cases e1
  refine .inr ⟨g, cap, cur.setIfInBounds k u, rfl, hb, heap_setCell_same w g k cur e u hg, h3, h4, by simpa using h5, ?_⟩
  rw [Array.toList_setIfInBounds, List.take_set, h6]
def readE (s : ByteArray) (gs : List Grp) : Int := if outE s ≠ 0 then outE s else chk 200 (outTree s) gs
theorem set_three (l r : List Value) (a b c : Value) (x y z u v w p : Value) (hl : l = [x, y, z, u, v, w, p]) : ∀ (d e f : Value), ((((l ++ [d, e, f]) ++ r).set 7 a).set 8 b).set 9 c = (l ++ [a, b, c]) ++ r := by
 intro d e f
 subst hl
 rfl
theorem flatK_tree : ∀ (ks : List KindD) (i : Nat) (x : KindD) (r : Raw), ks[i]? = some x -> (((flatK ks).set (i * 10 + 7) (.int .i64 r.1)).set (i * 10 + 7 + 1) (.string r.2.1)).set (i * 10 + 7 + 2) (.slice r.2.2.1 r.2.2.2.1 r.2.2.2.2) = flatK (ks.set i (x.1, r.1, r.2.1, r.2.2.1, r.2.2.2.1, r.2.2.2.2)) := by
 intro ks
 induction ks with
 | nil => intro i x r h; simp at h
 | cons y q ih =>
  intro i x r h
  cases i with
  | zero =>
   simp only [List.getElem?_cons_zero, Option.some.injEq] at h
   subst h
   rw [List.set_cons_zero, flatK, flatK]
   exact set_three (specC y.1) (flatK q) _ _ _ _ _ _ _ _ _ _ rfl _ _ _
  | succ i =>
   rw [List.getElem?_cons_succ] at h
   rw [List.set_cons_succ, flatK, flatK, <- ih i x r h]
   have e : ∀ (L : List Value) (k : Nat) (v : Value), (kindC y ++ L).set ((i + 1) * 10 + 7 + k) v = kindC y ++ L.set (i * 10 + 7 + k) v := fun L k v => by
    rw [List.set_append_right _ _ (by rw [kindC_length]; omega), kindC_length]
    congr 2
    omega
   have e0 := e (flatK q) 0 (.int .i64 r.1)
   rw [Nat.add_zero, Nat.add_zero] at e0
   rw [e0, e _ 1, e _ 2]
theorem Nms.grown {base : Nat} {W W' : World} {v : Value} {xs : List GrpD} {g : Nat} {c : Array Value} {f : Nat × Nat} (h : Nms base W v xs) (hg : W.grownBy W' (some g)) (hk : W.heap[g]? = some (.cells c 106 f)) : Nms base W' v xs := by
 have hne : ∀ (k : Nat) c' t f', W.heap[k]? = some (.cells c' t f') -> t ≠ 106 -> some k ≠ some g := fun k c' t f' hk' ht e => by
  injection e with e
  subst e
  rw [hk] at hk'
  injection hk' with hk'
  injection hk' with _ h2 _
  exact ht h2.symm
 refine ⟨owns_same h.row fun k hk' => ?_, fun x hx => ⟨owns_same (h.ok x hx).1 fun k hk' => ?_, (h.ok x hx).2⟩⟩
 ·obtain ⟨hl, cur, hcur⟩ := owns_lt h.row hk'
  exact hg.block k hl (hne k cur _ _ hcur (by decide))
 ·obtain ⟨hl, cur, hcur⟩ := owns_lt (h.ok x hx).1 hk'
  exact hg.block k hl (hne k cur _ _ hcur (by decide))
theorem grown_below {w w' : World} {g : Nat} (h : Below w.heap.size w w') : w.grownBy w' (some g) := ⟨h.os, h.tape, h.output, h.size, fun k hk _ => h.block k hk⟩
theorem grown_trans {w w' w'' : World} {g : Option Nat} (h : w.grownBy w' g) (h' : w'.grownBy w'' g) : w.grownBy w'' g := ⟨h'.os.trans h.os, h'.tape.trans h.tape, h'.output.trans h.output, Nat.le_trans h.size h'.size, fun k hk hne => (h'.block k (Nat.lt_of_lt_of_le hk h.size) hne).trans (h.block k hk hne)⟩
theorem grown_set (w : World) (g o : Nat) (u : Value) : w.grownBy (w.setCell ⟨g, o, none⟩ u) (some g) := ⟨rfl, rfl, rfl, Nat.le_of_eq (by simp), fun k _ hne => Below.heap_setCell w _ u k (fun e => hne (by rw [e]))⟩
set_option maxRecDepth 100000 in
set_option maxHeartbeats 600000 in
theorem kread_calls (base base' g c i : Nat) (ks : List KindD) (x : KindD) (s : ByteArray) (w : World) (ng nc : Nat) (xs : List GrpD) (hown : w.ownsRow base 106 10 (.slice (some ⟨g, 0, none⟩) ks.length c) ks.length (flatK ks)) (hx : ks[i]? = some x) (hN : Nms base' w (.slice (some ⟨ng, 0, none⟩) xs.length nc) xs) (hxl : xs.length <= 1000) (hs : s.size <= 9223372036854775807) (hE : ETy w) :
  Calls Tryz.prog 69 #[.pointer (some ⟨g, i * 10, none⟩), .string s, .slice (some ⟨ng, 0, none⟩) xs.length nc] w fun e w' => e = .returned (.int .i64 (readE s (xs.map plainG))) /\ w.grownBy w' (some g) /\ ∃ ks' : List KindD, ks'.map (·.1) = ks.map (·.1) /\ w'.ownsRow base 106 10 (.slice (some ⟨g, 0, none⟩) ks.length c) ks.length (flatK ks') /\ (readE s (xs.map plainG) = 0 -> ∃ r : Raw, ks' = ks.set i (x.1, r.1, r.2.1, r.2.2.1, r.2.2.2.1, r.2.2.2.2) /\ ExA (fun b => w.heap.size <= b) w' 200 (outTree s) (rawV r)) := by
 have hP := parsea_calls s hs w hE
 have hg := (owns_lt hown (g := g) rfl)
 obtain ⟨f, hf⟩ : ∃ f, f = outE s := ⟨_, rfl⟩
 by_cases h0 : f ≠ 0
 ·have HP : Hid (Calls Tryz.prog 98 #[.string s] w fun e w' => Below w.heap.size w w' /\ ∃ (k : Int) (nm : ByteArray) (a : Option Addr) (ln cp : Nat) (pn : Int), e = .returned (.tuple #[.agg #[.int .i64 k, .string nm, .slice a ln cp], .int .i64 pn, .int .i64 f])) := by
   refine hP.mono ?_
   rintro e w' ⟨h1, ⟨k, nm, a, ln, cp⟩, _, rfl⟩
   exact ⟨h1, k, nm, a, ln, cp, _, by rw [hf]; rfl⟩
  have e0 : (f == 0) = false := by simpa using h0
  have e1 : (f != 0) = true := by simp [bne, e0]
  have HR : Hid (readE s (xs.map plainG) = f) := by
   show readE s (xs.map plainG) = f
   unfold readE
   rw [<- hf, if_pos h0]
  have HOW : Hid (∀ X, Below w.heap.size w X -> X.ownsRow base 106 10 (.slice (some ⟨g, 0, none⟩) ks.length c) ks.length (flatK ks)) := fun X hX => owns_same hown fun k hk => hX.block k (owns_lt hown hk).1
  clear hP hg hown hN hx hs hE hf
  go_enter Tryz.func69, Tryz.ntmps69
  go_wp2_with fail
  refine HP.out.mono ?_
  rintro e W ⟨hB, k, nm, a, ln, cp, pn, rfl⟩
  have HB : Hid (w.grownBy (W.alloc (.cells #[.int .i64 k, .string nm, .slice a ln cp] 90)) (some g) /\ (W.alloc (.cells #[.int .i64 k, .string nm, .slice a ln cp] 90)).ownsRow base 106 10 (.slice (some ⟨g, 0, none⟩) ks.length c) ks.length (flatK ks)) := ⟨grown_below (hB.alloc hB.size _), HOW.out _ (hB.alloc hB.size _)⟩
  clear hB HP
  go_wp2
  go_ret
  exact ⟨by rw [HR.out]; rfl, HB.out.1, ks, rfl, HB.out.2, fun h => absurd (HR.out.symm.trans h) h0⟩
 ·have h0 : f = 0 := Classical.not_not.1 h0
  subst h0
  have HP : Hid (Calls Tryz.prog 98 #[.string s] w fun e w' => Below w.heap.size w w' /\ ∃ (k : Int) (nm : ByteArray) (a : Option Addr) (ln cp : Nat) (pn : Int), ExA (fun b => w.heap.size <= b) w' 200 (outTree s) (rawV (k, nm, a, ln, cp)) /\ e = .returned (.tuple #[.agg #[.int .i64 k, .string nm, .slice a ln cp], .int .i64 pn, .int .i64 0])) := by
   refine hP.mono ?_
   rintro e w' ⟨h1, ⟨k, nm, a, ln, cp⟩, h2, rfl⟩
   exact ⟨h1, k, nm, a, ln, cp, _, h2, by rw [<- hf]; rfl⟩
  have HR : Hid (readE s (xs.map plainG) = chk 200 (outTree s) (xs.map plainG)) := by
   show readE s (xs.map plainG) = chk 200 (outTree s) (xs.map plainG)
   unfold readE
   rw [<- hf, if_neg (by simp)]
  have HMAIN : Hid (∀ (W : World) (k : Int) (nm : ByteArray) (a : Option Addr) (ln cp : Nat), Below w.heap.size w W -> ExA (fun b => w.heap.size <= b) W 200 (outTree s) (rawV (k, nm, a, ln, cp)) -> ∀ V, V = W.alloc (.cells #[.int .i64 k, .string nm, .slice a ln cp] 90) -> (∃ v0, V.cell? ⟨g, i * 10 + 7, none⟩ = some v0) /\ (∃ v1, (V.setCell ⟨g, i * 10 + 7, none⟩ (.int .i64 k)).cell? ⟨g, i * 10 + 7 + 1, none⟩ = some v1) /\ (∃ v2, ((V.setCell ⟨g, i * 10 + 7, none⟩ (.int .i64 k)).setCell ⟨g, i * 10 + 7 + 1, none⟩ (.string nm)).cell? ⟨g, i * 10 + 7 + 2, none⟩ = some v2) /\ (V.frozen? ⟨g, i * 10 + 7, none⟩ = false /\ (V.setCell ⟨g, i * 10 + 7, none⟩ (.int .i64 k)).frozen? ⟨g, i * 10 + 7 + 1, none⟩ = false /\ ((V.setCell ⟨g, i * 10 + 7, none⟩ (.int .i64 k)).setCell ⟨g, i * 10 + 7 + 1, none⟩ (.string nm)).frozen? ⟨g, i * 10 + 7 + 2, none⟩ = false) ∧
    ∀ Z, Z = (((V.setCell ⟨g, i * 10 + 7, none⟩ (.int .i64 k)).setCell ⟨g, i * 10 + 7 + 1, none⟩ (.string nm)).setCell ⟨g, i * 10 + 7 + 2, none⟩ (.slice a ln cp)) -> Z.cell? ⟨W.heap.size, 0, none⟩ = some (.int .i64 k) /\ Z.cell? ⟨W.heap.size, 1, none⟩ = some (.string nm) /\ Z.cell? ⟨W.heap.size, 2, none⟩ = some (.slice a ln cp) /\ Calls Tryz.prog 99 #[.agg #[.int .i64 k, .string nm, .slice a ln cp], .slice (some ⟨ng, 0, none⟩) xs.length nc] Z fun e w' => e = .returned (.int .i64 (chk 200 (outTree s) (xs.map plainG))) /\ w.grownBy w' (some g) /\ ∃ r : Raw, w'.ownsRow base 106 10 (.slice (some ⟨g, 0, none⟩) ks.length c) ks.length (flatK (ks.set i (x.1, r.1, r.2.1, r.2.2.1, r.2.2.2.1, r.2.2.2.2))) /\ ExA (fun b => w.heap.size <= b) w' 200 (outTree s) (rawV r)) := by
   intro W k nm a ln cp hB hX V hV
   have hBV : Below w.heap.size w V := by rw [hV]; exact hB.alloc hB.size _
   have hOV : V.ownsRow base 106 10 (.slice (some ⟨g, 0, none⟩) ks.length c) ks.length (flatK ks) := owns_same hown fun k hk => hBV.block k (owns_lt hown hk).1
   have hil : i < ks.length := (List.getElem?_eq_some_iff.1 hx).1
   have cell : ∀ (Y : World) (L : List Value) (q : Nat), Y.ownsRow base 106 10 (.slice (some ⟨g, 0, none⟩) ks.length c) ks.length L -> q < ks.length * 10 -> ∃ v, Y.cell? ⟨g, q, none⟩ = some v := fun Y L q hY hq => by
    obtain ⟨g', cap', e, hc⟩ := owns_cell hY (by omega)
    injection e with e1
    injection e1 with e1
    injection e1 with e1
    subst e1
    have hl := hY.1
    exact ⟨_, hc q _ (List.getElem?_eq_getElem (by rw [hl]; exact hq))⟩
   have froz : ∀ (Y : World) (L : List Value) (q : Nat), Y.ownsRow base 106 10 (.slice (some ⟨g, 0, none⟩) ks.length c) ks.length L -> Y.frozen? ⟨g, q, none⟩ = false := fun Y L q hY => by
    obtain ⟨_, cur, hcur⟩ := owns_lt hY (g := g) rfl
    simp [World.frozen?, hcur]
   have o1 := row_setb hOV (i * 10 + 7) (.int .i64 k)
   have o2 := row_setb o1 (i * 10 + 7 + 1) (.string nm)
   have o3 := row_setb o2 (i * 10 + 7 + 2) (.slice a ln cp)
   rw [flatK_tree ks i x (k, nm, a, ln, cp) hx] at o3
   refine ⟨cell _ _ _ hOV (by omega), cell _ _ _ o1 (by omega), cell _ _ _ o2 (by omega), ⟨froz _ _ _ hOV, froz _ _ _ o1, froz _ _ _ o2⟩, fun Z hZ => ?_⟩
   rw [<- hZ] at o3
   have gVZ : V.grownBy Z (some g) := by
    rw [hZ]
    exact grown_trans (grown_trans (grown_set _ _ _ _) (grown_set _ _ _ _)) (grown_set _ _ _ _)
   have gwZ : w.grownBy Z (some g) := grown_trans (grown_below hBV) gVZ
   have mV : V.heap[W.heap.size]? = some (.cells #[.int .i64 k, .string nm, .slice a ln cp] 90 (0, 0)) := by rw [hV]; exact World.alloc_heap_new W _
   have hgW : g < W.heap.size := Nat.lt_of_lt_of_le hg.1 hB.size
   have mZ : Z.heap[W.heap.size]? = some (.cells #[.int .i64 k, .string nm, .slice a ln cp] 90 (0, 0)) := (gVZ.block _ (Array.getElem?_eq_some_iff.1 mV).1 (by intro e; injection e with e; omega)).trans mV
   have hc := fun j => cell_of_row Z W.heap.size j _ _ _ mZ
   have hXZ : ExA (fun b => w.heap.size <= b) Z 200 (outTree s) (rawV (k, nm, a, ln, cp)) := by
    have hXV : ExA (fun b => w.heap.size <= b) V 200 (outTree s) (rawV (k, nm, a, ln, cp)) := ExA.kept (by rw [hV]; simp) (fun b hb hA => ⟨hA, by rw [hV]; exact Below.heap_alloc W _ _ hb⟩) _ _ _ hX
    exact ExA.kept gVZ.size (fun b hb hA => ⟨hA, gVZ.block b hb (by intro e; injection e with e; omega)⟩) _ _ _ hXV
   obtain ⟨_, cur, hcur⟩ := owns_lt hOV (g := g) rfl
   have hNZ : Nms base' Z (.slice (some ⟨ng, 0, none⟩) xs.length nc) xs := by
    have hNV : Nms base' V (.slice (some ⟨ng, 0, none⟩) xs.length nc) xs := hN.below hBV
    exact hNV.grown gVZ hcur
   refine ⟨hc 0, hc 1, hc 2, ?_⟩
   refine (rcheck_calls 200 (outTree s) _ (some ⟨ng, 0, none⟩) xs.length nc (xs.map plainG) Z (ExA.ex _ _ _ hXZ) (out_named s) (hNZ.groups rfl (by omega))).mono ?_
   rintro e w' ⟨rfl, hB'⟩
   refine ⟨rfl, grown_trans gwZ (grown_below hB'), (k, nm, a, ln, cp), owns_same o3 fun q hq => hB'.block q (owns_lt o3 hq).1, ?_⟩
   exact ExA.kept hB'.size (fun b hb hA => ⟨hA, hB'.block b hb⟩) _ _ _ hXZ
  have HSET : Hid (∀ r : Raw, (ks.set i (x.1, r.1, r.2.1, r.2.2.1, r.2.2.2.1, r.2.2.2.2)).map (·.1) = ks.map (·.1)) := fun r => by
   rw [List.map_set]
   refine List.ext_getElem? fun q => ?_
   rw [List.getElem?_set]
   split
   ·rename_i e'
    subst e'
    rw [List.length_map, if_pos (List.getElem?_eq_some_iff.1 hx).1, List.getElem?_map, hx]
    rfl
   ·rfl
  clear hP hown hN hx hs hE hf hg
  have hf0 : ((0 : Int) != 0) = false := rfl
  go_enter Tryz.func69, Tryz.ntmps69
  go_wp2_with fail
  refine HP.out.mono ?_
  rintro e W ⟨hB, k, nm, a, ln, cp, pn, hX, rfl⟩
  obtain ⟨⟨v0, hv0⟩, ⟨v1, hv1⟩, ⟨v2, hv2⟩, ⟨f0, f1, f2⟩, hZ⟩ := HMAIN.out W k nm a ln cp hB hX _ rfl
  obtain ⟨z0, z1, z2, HC⟩ := hZ _ rfl
  clear hB hX HP HMAIN hZ
  go_wp2_with fail
  refine HC.mono ?_
  rintro e W3 ⟨rfl, h1, h2⟩
  have HE : Hid (w.grownBy W3 (some g) /\ ∃ r : Raw, W3.ownsRow base 106 10 (.slice (some ⟨g, 0, none⟩) ks.length c) ks.length (flatK (ks.set i (x.1, r.1, r.2.1, r.2.2.1, r.2.2.2.1, r.2.2.2.2))) /\ ExA (fun b => w.heap.size <= b) W3 200 (outTree s) (rawV r)) := ⟨h1, h2⟩
  clear h1 h2 HC
  go_wp2
  go_ret
  obtain ⟨q1, r, q2, q3⟩ := HE.out
  exact ⟨by rw [HR.out]; rfl, q1, _, HSET.out r, q2, fun _ => ⟨r, rfl, q3⟩⟩
end Go.Proofs.YtbkpehfaofhmaaaGreatDoor
