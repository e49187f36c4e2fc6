/-
  PROVED HERE: what the texts MayW, ArgsT, Rowl say (each has its own words below).
-/
import Derived.Test.YtgkplmnhmobnnaaGreatDoorSM47
import Derived.Test.YtgkplmnhmobnnaaGreatDoorSM34
import Derived.Deep.Slices
import Derived.ChangeSame
import Derived.ChangeArms
import Derived.Test.YtgkplmnhmobnnaaGreatDoorSM10
/- MayW: the walk of SchemaMay. -/
namespace Go.Proofs.YtgkplmnhmobnnaaGreatDoor
open Go.RowKit

set_option maxRecDepth 100000 in
theorem fcheck_big (a : Option Addr) (len cap : Nat) (w : World) (h1 : 2048 < len) (h2 : len ≤ 9223372036854775807) : Calls Tryz.prog 29 #[.slice a len cap] w fun e w' => e = .returned (.tuple #[.int .i64 0, .int .i64 2]) ∧ Below w.heap.size w w' := by
  have hd : decide ((2048 : Int) < (len : Int)) = true := by simp; omega
  have hi : (len : Int) ≤ 9223372036854775807 := by omega
  have HR : Hid (Below w.heap.size w w) := Below.refl _ _
  go_enter Tryz.func29, Tryz.ntmps29
  go_wp2
  go_ret2
  exact ⟨rfl, HR.out⟩
set_option maxRecDepth 100000 in
set_option maxHeartbeats 400000 in
/-- Check at any document of any length. -/
theorem scheck_all {B g c ng nc : Nat} {ks : List KindD} {gs : List Grp} {ts : List (DataW Unit)} (w : World) (h : SchAt w B g c ng nc ks gs ts) (h0 : 0 < ks.length) (a : Option Addr) (len cap : Nat) (l : List Tok) (hl : Toks w a len l) (hlie : Lies a len cap) :
    Calls Tryz.prog 11 #[.pointer (some ⟨B, 0, none⟩), .slice a len cap] w fun e w' => e = .returned (.tuple #[.int .i64 (checkS ks gs ts l).1, .int .i64 (checkS ks gs ts l).2]) ∧ Below w.heap.size w w' := by
  by_cases hs : len ≤ 4398046511104
  · exact scheck_any w h h0 a len cap l hl hlie hs
  · have hcap := hlie.1
    have hcap2 := hlie.2.1
    have hc : check l = (0, 2) := by unfold check; rw [if_pos (by rw [hl.1]; omega)]
    have hcs : checkS ks gs ts l = (0, 2) := by unfold checkS; rw [if_pos (by rw [hc]; decide), hc]
    rw [hcs]
    have HM := Hid.mk_ (ismade_calls w h h0)
    have HC := Hid.mk_ (fcheck_big a len cap w (by omega) (by omega))
    have hi : (len : Int) ≤ 9223372036854775807 := by omega
    have e1 : ((2 : Int) != 0) = true := rfl
    clear h hl hc hcs
    go_enter Tryz.func11, Tryz.ntmps11
    go_wp2_with fail
    refine HM.out.mono ?_
    rintro e W ⟨rfl, rfl⟩
    go_wp2_with fail
    refine HC.out.mono ?_
    rintro e W1 ⟨rfl, hB1⟩
    have HB1 := Hid.mk_ hB1
    clear hB1 HC HM
    go_wp2
    go_ret2
    exact ⟨rfl, HB1.out⟩
/-- Those less than one, of a rising row, are its first. -/
theorem count_split : ∀ (ps : List Int) (n : Int), ps.Pairwise (· < ·) → (∀ p ∈ ps.take (ps.countP (· < n)), p < n) ∧ (∀ p ∈ ps.drop (ps.countP (· < n)), n ≤ p) := by
  intro ps n
  induction ps with
  | nil => intro _; exact ⟨fun p hp => (by cases hp), fun p hp => (by cases hp)⟩
  | cons x r ih =>
    intro h
    obtain ⟨h1, h2⟩ := List.pairwise_cons.1 h
    obtain ⟨i1, i2⟩ := ih h2
    by_cases hx : x < n
    · have e : (x :: r).countP (· < n) = r.countP (· < n) + 1 := List.countP_cons_of_pos (by simpa using hx)
      rw [e, List.take_succ_cons, List.drop_succ_cons]
      refine ⟨fun p hp => ?_, i2⟩
      rcases List.mem_cons.1 hp with rfl | hp
      · exact hx
      · exact i1 p hp
    · have e : (x :: r).countP (· < n) = 0 := by
        rw [List.countP_eq_zero]
        intro p hp
        rcases List.mem_cons.1 hp with rfl | hp
        · simpa using hx
        · have := h1 p hp
          simp; omega
      rw [e, List.take_zero, List.drop_zero]
      refine ⟨fun p hp => (by cases hp), fun p hp => ?_⟩
      rcases List.mem_cons.1 hp with rfl | hp
      · omega
      · have := h1 p hp
        omega
def letX : Tok := ⟨0, 0, 120, 0⟩
theorem takes_letX (s : SpecD) : takesR s letX = true := by
  unfold takesR letX withM
  rw [if_pos (by decide)]
  simp [both]
/-- A letter may be put in just where its type may stand. -/
theorem may_put {ks : List KindD} {gs : List Grp} {ts : List (DataW Unit)} {l : List Tok} {n : Nat} (hn : n ≤ l.length) (hl : l.length ≤ 300) (h : (checkS ks gs ts l).2 = 0) : (checkS ks gs ts (putP l n letX)).2 = 0 ↔ LangD gs 200 (treeAt ts l (around l (n : Int))) (wordPut l (n : Int) 0) := by
  obtain ⟨ok, wl⟩ := checkS_iff.1 h
  obtain ⟨h48, hg⟩ := (check_ok l).1 ok
  obtain ⟨c1, c2⟩ := count_split (kids l (around l (n : Int))) n (kids_rise l _)
  rw [checkS_iff, wellD_put hn rfl wl _ c1 c2, check_ok, putP_length, goes_put (l := l) (n := n) (x := letX) rfl (by decide)]
  unfold wordPut
  constructor
  · exact fun q => q.2.2
  · refine fun q => ⟨⟨by omega, hg⟩, ?_, q⟩
    unfold fitsB
    rw [if_pos (show letX.k = 0 from rfl)]
    exact takes_letX _
theorem leafT : outTree ⟨#[]⟩ = emptyT := by kernel_rfl
theorem lang_emptyT (gs : List Grp) (w : List Int) : LangD gs 200 emptyT w ↔ w = [] := by
  unfold LangD
  rw [Lang]
  exact Iff.rfl
/-- Where text may stand in the house's the type is one of text. -/
theorem may_text {ks : List KindD} {l : List Tok} {n : Nat} (hn : n ≤ l.length) (h8 : ks.length = 8) (hs : ∀ i, specOf ks i = ((zeroS :: houseL)[i]?).getD zeroS) (h : (checkS ks gsH (treesOf houseW houseL) l).2 = 0) (hm : LangD gsH 200 (treeAt (treesOf houseW houseL) l (around l (n : Int))) (wordPut l (n : Int) 0)) :
    (1 ≤ holdsT ks gsH (treesOf houseW houseL) l n ∧ holdsT ks gsH (treesOf houseW houseL) l n < ks.length) ∧ (specR ks (holdsT ks gsH (treesOf houseW houseL) l n)).expr = textS := by
  obtain ⟨ok, wl⟩ := checkS_iff.1 h
  obtain ⟨h48, hg⟩ := (check_ok l).1 ok
  have hz : (0 : Int) ∈ wordPut l (n : Int) 0 := by unfold wordPut; exact List.mem_append_right _ (List.mem_cons_self ..)
  have noB : ¬ LangD gsH 200 (outTree houseW) (wordPut l (n : Int) 0) := fun q => by
    have := ((words_block _).1 q).2 0 hz
    revert this; decide
  have noI : ¬ LangD gsH 200 (outTree itemS) (wordPut l (n : Int) 0) := fun q => by
    have := ((words_item _).1 q).2 0 hz
    revert this; decide
  have noL : ¬ LangD gsH 200 (outTree ⟨#[]⟩) (wordPut l (n : Int) 0) := fun q => by
    rw [leafT, lang_emptyT] at q
    rw [q] at hz
    cases hz
  rcases around_place l n hn with e | ⟨m, e, hk⟩
  · rw [e] at hm
    unfold treeAt at hm
    rw [if_pos rfl] at hm
    exact absurd hm noB
  · obtain ⟨x, hx⟩ : ∃ x, l[m]? = some x := ⟨_, List.getElem?_eq_getElem (kind_lt hk)⟩
    obtain ⟨t1, t2⟩ := wellD_type (kinds_rightS hg) wl hx (by rw [← kindAt_some hx]; exact hk)
    have hty : typeAt l (m : Int) = x.t := by unfold typeAt; rw [Int.toNat_natCast, hx]; rfl
    have hh : holdsT ks gsH (treesOf houseW houseL) l n = x.t := by unfold holdsT; rw [if_pos ⟨h, by omega⟩, e, hty]
    rw [e] at hm
    unfold treeAt at hm
    rw [if_neg (by omega), hty] at hm
    rw [hh]
    refine ⟨⟨t1, t2⟩, ?_⟩
    unfold specR
    rw [if_pos ⟨t1, t2⟩, hs]
    obtain ⟨k, hk⟩ : ∃ k : Nat, x.t = (k : Int) := ⟨x.t.toNat, by omega⟩
    rw [hk, Int.toNat_natCast] at hm ⊢
    rw [hk] at t1 t2
    match k, hm with
    | 0, _ => omega
    | 1, _ => rfl
    | 2, _ => rfl
    | 3, hm => exact absurd hm noB
    | 4, _ => rfl
    | 5, hm => exact absurd hm noI
    | 6, hm => exact absurd hm noB
    | 7, hm => exact absurd hm noL
    | k + 8, _ => omega
set_option maxRecDepth 100000 in
set_option maxHeartbeats 1600000 in
theorem may_walk (a : Option Addr) (len cap : Nat) (l : List Tok) (p : Int) (w : World) (hl : Toks w a len l) (hlie : Lies a len cap) (hE : ETy w) :
    Calls Tryz.prog 6 #[.slice a len cap, .int .i64 p] w fun e w' => e = .returned (.bool true) ∧ Below w.heap.size w w' := by
  have hcap := hlie.1
  have hcap2 := hlie.2.1
  have hli : (len : Int) ≤ 9223372036854775807 := by omega
  have HAW : Hid (∀ X, Below w.heap.size w X → Calls Tryz.prog 8 #[] X fun e w' => e = .returned (.bool true) ∧ Below X.heap.size X w') := fun X hX => awakes_calls X (hE.below hX)
  have HH := Hid.mk_ (house_calls w hE)
  have HL := Hid.mk_ hl
  have HLI := Hid.mk_ hlie
  have hll := hl.1
  clear hl hlie hE
  go_enter Tryz.func6, Tryz.ntmps6
  go_wp2_with fail
  refine HH.out.mono ?_
  rintro e X1 ⟨B, rfl, hm, hB1⟩
  obtain ⟨g, c, ng, nc, ks, hS1, h8, hs⟩ := house_kinds hm
  have HB1 := Hid.mk_ hB1
  have HS1 := Hid.mk_ hS1
  have HC1 := scheck_all X1 hS1 (by omega) a len cap l (HL.out.below hB1) HLI.out
  obtain ⟨c1, hc1⟩ : ∃ c1, (checkS ks gsH (treesOf houseW houseL) l).1 = c1 := ⟨_, rfl⟩
  obtain ⟨c2, hc2⟩ : ∃ c2, (checkS ks gsH (treesOf houseW houseL) l).2 = c2 := ⟨_, rfl⟩
  rw [hc1, hc2] at HC1
  have HCC := Hid.mk_ hc2
  have HHS : Hid (ks.length = 8 ∧ ∀ i, specOf ks i = ((zeroS :: houseL)[i]?).getD zeroS) := ⟨h8, hs⟩
  clear hm hB1 hS1 hs HH hc1 hc2 h8
  go_wp2_with fail
  refine HC1.mono ?_
  rintro e X2 ⟨rfl, hB2⟩
  have HB12 := Hid.mk_ hB2
  have HB2 := Hid.mk_ (HB1.out.trans (hB2.mono HB1.out.size))
  have HA2 := HAW.out X2 HB2.out
  clear hB2 HC1
  by_cases h200 : 200 < len
  · have hd : decide ((200 : Int) < (len : Int)) = true := by simp; omega
    go_wp2_with fail
    refine HA2.mono ?_
    rintro e X3 ⟨rfl, hB3⟩
    have HE := Hid.mk_ (HB2.out.trans (hB3.mono HB2.out.size))
    clear hB3 HA2
    go_wp2
    go_ret
    first | exact HE.out | exact ⟨rfl, HE.out⟩
  have hd : decide ((200 : Int) < (len : Int)) = false := by simp; omega
  have HMAY : Hid (∀ (X : World), Below X1.heap.size X1 X → Calls Tryz.prog 15 #[.pointer (some ⟨B, 0, none⟩), .slice a len cap, .int .i64 p, .int .i64 0] X fun e w' => ∃ r : Bool, e = .returned (.bool r) ∧ (r = true ↔ (0 ≤ p ∧ p ≤ (len : Int) ∧ c2 = 0 ∧ LangD gsH 200 (treeAt (treesOf houseW houseL) l (around l p)) (wordPut l p 0))) ∧ Below X.heap.size X w') := fun X hX => by
    rw [← HCC.out]
    exact smay_calls X (HS1.out.below hX) (by have := HHS.out.1; omega) a len cap l (HL.out.below (HB1.out.trans (hX.mono HB1.out.size))) HLI.out (by omega) p 0
  by_cases hno : c2 ≠ 0 ∨ p < 0 ∨ (len : Int) < p
  · have HM2 : Hid (Calls Tryz.prog 15 #[.pointer (some ⟨B, 0, none⟩), .slice a len cap, .int .i64 p, .int .i64 0] X2 fun e w' => e = .returned (.bool false) ∧ Below X2.heap.size X2 w') := by
      refine (HMAY.out X2 HB12.out).mono ?_
      rintro e w' ⟨r, rfl, hr, hB⟩
      refine ⟨?_, hB⟩
      cases r with
      | false => rfl
      | true =>
        obtain ⟨q1, q2, q3, _⟩ := hr.1 rfl
        exfalso
        rcases hno with h | h | h
        · exact h q3
        · omega
        · omega
    have hcase : (c2 != 0) = true ∨ ((c2 != 0) = false ∧ decide (p < 0) = true) ∨ ((c2 != 0) = false ∧ decide (p < 0) = false ∧ decide ((len : Int) < p) = true) := by
      by_cases e1 : c2 = 0
      · by_cases e2 : p < 0
        · exact .inr (.inl ⟨by simp [e1], by simpa using e2⟩)
        · refine .inr (.inr ⟨by simp [e1], by simpa using e2, ?_⟩)
          rcases hno with h | h | h
          · exact absurd e1 h
          · exact absurd h e2
          · simpa using h
      · exact .inl (by simpa using e1)
    clear hno HMAY HCC HA2
    rcases hcase with q1 | ⟨q1, q2⟩ | ⟨q1, q2, q3⟩
    all_goals
      go_wp2_with fail
      refine HM2.out.mono ?_
      rintro e X3 ⟨rfl, hB3⟩
      have HB3 := Hid.mk_ (HB2.out.trans (hB3.mono HB2.out.size))
      have HA3 := HAW.out X3 HB3.out
      clear hB3 HM2
      go_wp2_with fail
      refine HA3.mono ?_
      rintro e X4 ⟨rfl, hB4⟩
      have HE := Hid.mk_ (HB3.out.trans (hB4.mono HB3.out.size))
      clear hB4 HA3
      go_wp2
      go_ret
      first | exact HE.out | exact ⟨rfl, HE.out⟩
  · obtain ⟨hz, hp0, hp1⟩ : c2 = 0 ∧ 0 ≤ p ∧ p ≤ (len : Int) := by
      refine ⟨Classical.byContradiction fun e => hno (.inl e), ?_, ?_⟩ <;> omega
    subst hz
    obtain ⟨n, rfl⟩ : ∃ n : Nat, p = (n : Int) := ⟨p.toNat, by omega⟩
    have q1 : ((0 : Int) != 0) = false := rfl
    have q2 : decide ((n : Int) < 0) = false := by simp
    have q3 : decide ((len : Int) < (n : Int)) = false := by simp; omega
    have HPUT := Hid.mk_ (may_put (ks := ks) (gs := gsH) (ts := treesOf houseW houseL) (l := l) (n := n) (by omega) (by omega) HCC.out)
    have HTXT : Hid (LangD gsH 200 (treeAt (treesOf houseW houseL) l (around l (n : Int))) (wordPut l (n : Int) 0) → (1 ≤ holdsT ks gsH (treesOf houseW houseL) l n ∧ holdsT ks gsH (treesOf houseW houseL) l n < ks.length) ∧ (specR ks (holdsT ks gsH (treesOf houseW houseL) l n)).expr = textS) := may_text (by omega) HHS.out.1 HHS.out.2 HCC.out
    obtain ⟨b, o, rfl⟩ : ∃ b o, a = some ⟨b, o, none⟩ := by
      rcases HL.out.2 with h | ⟨b, o, h, _⟩
      · exfalso
        have h1 := (wellD_house.1 (checkS_iff.1 HCC.out).2).1.2.2
        have h2 := kids_few l (-1)
        exact h1 (List.length_eq_zero_iff.1 (by omega))
      · exact ⟨b, o, h⟩
    have t1 : Toks X2 (some ⟨b, o, none⟩) n (l.take n) := by
      have := (HL.out.below HB2.out).sub 0 n (by omega)
      rw [Nat.zero_mul, Nat.add_zero, List.drop_zero] at this
      exact this
    obtain ⟨v1, X3, run1, o1, ne1, b3⟩ := tok_clone_own (some ⟨b, o, none⟩) n cap (l.take n) X2 t1 (by omega)
    obtain ⟨X4, hX4⟩ : ∃ X4, X4 = X3.alloc (.cells #[.int .i64 0, .int .i64 0, .int .i64 120, .int .i64 0] 51) := ⟨_, rfl⟩
    have b34 : Below X3.heap.size X3 X4 := by rw [hX4]; exact (Below.refl _ _).alloc (Nat.le_refl _) _
    have b4 : Below X2.heap.size X2 X4 := b3.trans (b34.mono b3.size)
    have o2 : X4.ownsRow X2.heap.size 51 4 v1 n (flat (l.take n)) := by rw [hX4]; exact World.ownsRow.alloc o1 _
    have t4 : Toks X4 (some ⟨X3.heap.size, 0, none⟩) 1 [letX] := by
      have m4 : X4.heap[X3.heap.size]? = some (.cells #[.int .i64 0, .int .i64 0, .int .i64 120, .int .i64 0] 51 (0, 0)) := by rw [hX4]; exact World.alloc_heap_new X3 _
      have hc := fun j => cell_of_row X4 X3.heap.size j _ _ _ m4
      refine ⟨rfl, .inr ⟨X3.heap.size, 0, rfl, (Array.getElem?_eq_some_iff.1 m4).1, fun i x hx => ?_⟩⟩
      match i, hx with
      | 0, hx => cases hx; exact ⟨hc 0, hc 1, hc 2, hc 3⟩
      | i + 1, hx => simp at hx
    obtain ⟨v2, X5, run2, o3, ne2, b5⟩ := tok_append_own X2.heap.size v1 n (l.take n) X4 o2 ne1 b4.size (some ⟨X3.heap.size, 0, none⟩) 1 1 [letX] t4 (by omega)
    have b25 := b4.trans b5
    have t5 := ((HL.out.below HB2.out).below b25).part n (len - n) cap (by omega) hcap
    rw [List.take_of_length_le (by rw [List.length_drop]; omega)] at t5
    obtain ⟨v3, X6, run3, o4, ne3, b6⟩ := tok_append_own X2.heap.size v2 (n + 1) (l.take n ++ [letX]) X5 o3 ne2 b25.size _ (len - n) (cap - n) (l.drop n) t5 (by omega)
    obtain ⟨gg, cp, rfl, _, hcp1, hcp2, tL⟩ := toks_of_owns o4 ne3
    have b26 := b25.trans b6
    have HB6 := Hid.mk_ (HB2.out.trans (b26.mono HB2.out.size))
    have HB16 := Hid.mk_ (HB12.out.trans (b26.mono HB12.out.size))
    unfold maxLen at hcp2
    have hput : l.take n ++ [letX] ++ l.drop n = putP l n letX := by unfold putP; rw [List.append_assoc]; rfl
    rw [hput] at tL
    have HC6 := scheck_all X6 (HS1.out.below HB16.out) (by have := HHS.out.1; omega) (some ⟨gg, 0, none⟩) (n + 1 + (len - n)) cp (putP l n letX) tL ⟨hcp1, hcp2, (fun h => by cases h), (fun x h _ => by cases h; rfl)⟩
    have HHO : Hid (∀ X, Below X6.heap.size X6 X → Calls Tryz.prog 13 #[.pointer (some ⟨B, 0, none⟩), .slice (some ⟨b, o, none⟩) len cap, .int .i64 (n : Int)] X fun e w' => e = .returned (.tuple #[specV (specR ks (holdsT ks gsH (treesOf houseW houseL) l n)), .bool (decide (1 ≤ holdsT ks gsH (treesOf houseW houseL) l n ∧ holdsT ks gsH (treesOf houseW houseL) l n < ks.length))]) ∧ Below X.heap.size X w') := fun X hX => by
      have hX1 := HB16.out.trans (hX.mono HB16.out.size)
      exact holds_calls X (HS1.out.below hX1) (by have := HHS.out.1; omega) (some ⟨b, o, none⟩) len cap l (HL.out.below (HB1.out.trans (hX1.mono HB1.out.size))) HLI.out (by omega) n
    obtain ⟨d1, hd1⟩ : ∃ d1, (checkS ks gsH (treesOf houseW houseL) (putP l n letX)).1 = d1 := ⟨_, rfl⟩
    obtain ⟨d2, hd2⟩ : ∃ d2, (checkS ks gsH (treesOf houseW houseL) (putP l n letX)).2 = d2 := ⟨_, rfl⟩
    rw [hd1, hd2] at HC6
    rw [hd2] at HPUT
    have HMY : Hid (∀ X, Below X6.heap.size X6 X → Calls Tryz.prog 15 #[.pointer (some ⟨B, 0, none⟩), .slice (some ⟨b, o, none⟩) len cap, .int .i64 (n : Int), .int .i64 0] X fun e w' => ∃ r : Bool, e = .returned (.bool r) ∧ (r = true ↔ (0 ≤ (n : Int) ∧ (n : Int) ≤ (len : Int) ∧ (0 : Int) = 0 ∧ LangD gsH 200 (treeAt (treesOf houseW houseL) l (around l (n : Int))) (wordPut l (n : Int) 0))) ∧ Below X.heap.size X w') := fun X hX => HMAY.out X (HB16.out.trans (hX.mono HB16.out.size))
    have HAW6 : Hid (∀ X, Below X6.heap.size X6 X → Calls Tryz.prog 8 #[] X fun e w' => e = .returned (.bool true) ∧ Below X.heap.size X w') := fun X hX => HAW.out X (HB6.out.trans (hX.mono HB6.out.size))
    have hnl : (n : Int) ≤ (len : Int) := by omega
    have hn0 : (0 : Int) ≤ (n : Int) := by omega
    have hlc : (len : Int) ≤ (cap : Int) := by omega
    have hlci : (cap : Int) ≤ 9223372036854775807 := by omega
    have hl2 : (len : Int) ≤ 200 := by omega
    have HIFF : Hid (∀ r : Bool, (r = true ↔ (0 ≤ (n : Int) ∧ (n : Int) ≤ (len : Int) ∧ (0 : Int) = 0 ∧ LangD gsH 200 (treeAt (treesOf houseW houseL) l (around l (n : Int))) (wordPut l (n : Int) 0))) → (r = true ∧ d2 = 0 ∧ decide (1 ≤ holdsT ks gsH (treesOf houseW houseL) l n ∧ holdsT ks gsH (treesOf houseW houseL) l n < ks.length) = true ∧ (specR ks (holdsT ks gsH (treesOf houseW houseL) l n)).expr = textS) ∨ (r = false ∧ d2 ≠ 0)) := fun r hr => by
      cases r with
      | true =>
        have hL := (hr.1 rfl).2.2.2
        obtain ⟨e1, e2⟩ := HTXT.out hL
        exact .inl ⟨rfl, HPUT.out.2 hL, decide_eq_true e1, e2⟩
      | false => exact .inr ⟨rfl, fun e => by cases hr.2 ⟨hn0, hnl, rfl, HPUT.out.1 e⟩⟩
    generalize decide (1 ≤ holdsT ks gsH (treesOf houseW houseL) l n ∧ holdsT ks gsH (treesOf houseW houseL) l n < (ks.length : Int)) = hdec at *
    generalize specR ks (holdsT ks gsH (treesOf houseW houseL) l n) = ss at *
    generalize LangD gsH 200 (treeAt (treesOf houseW houseL) l (around l (n : Int))) (wordPut l (n : Int) 0) = LL at *
    obtain ⟨sn, se, sf, sm, sl, sk, sb⟩ := ss
    unfold specV at HHO
    dsimp only at HHO HIFF
    subst hX4
    clear o1 o2 o3 o4 ne1 ne2 ne3 b3 b34 b4 b5 b25 b6 b26 t1 t4 t5 tL hput hd1 hd2 HCC HPUT HTXT HHS HMAY HAW HL HLI HS1 HA2 hno hp0 hp1
    rcases Decidable.em (cap = n) with hcn | hcn
    · rw [if_pos hcn] at run3
      subst hcn
      obtain rfl : len = cap := by omega
      simp only [Nat.sub_self, Nat.add_zero] at run3 HC6
      go_wp2_with (at_builtin; first | refine wpList_tok_run rfl _ _ 22 rfl _ _ _ _ rfl rfl run1 ?_ | refine wpList_tok_run rfl _ _ 22 rfl _ _ _ _ rfl rfl run2 ?_ | refine wpList_tok_run rfl _ _ 22 rfl _ _ _ _ rfl rfl run3 ?_)
      refine HC6.mono ?_
      rintro e X7 ⟨rfl, hB7⟩
      have HB7 := Hid.mk_ hB7
      have HH7 := HHO.out X7 hB7
      clear hB7 HC6 run1 run2 run3 HHO
      go_wp2_with fail
      refine HH7.mono ?_
      rintro e X8 ⟨rfl, hB8⟩
      have HB8 := Hid.mk_ (HB7.out.trans (hB8.mono HB7.out.size))
      obtain ⟨X9, hX9⟩ : ∃ X9, X9 = X8.alloc (.cells #[.string sn, .string se, .bool sf, .int .i64 sm, .int .i64 sl, .int .i64 sk, .bool sb] 34) := ⟨_, rfl⟩
      have HB9 : Hid (Below X6.heap.size X6 X9) := by rw [hX9]; exact HB8.out.alloc HB8.out.size _
      have HC9 : Hid (∀ X, Below X9.heap.size X9 X → X.cell? ⟨X8.heap.size, 1, none⟩ = some (.string se)) := fun X hX => by
        have m9 : X9.heap[X8.heap.size]? = some (.cells #[.string sn, .string se, .bool sf, .int .i64 sm, .int .i64 sl, .int .i64 sk, .bool sb] 34 (0, 0)) := by rw [hX9]; exact World.alloc_heap_new X8 _
        exact cell_of_row X X8.heap.size 1 _ _ _ ((hX.block _ (Array.getElem?_eq_some_iff.1 m9).1).trans m9)
      have HM9 := HMY.out X9 HB9.out
      clear hB8 HH7 HMY HB7 HB8
      go_wp2_with fail
      rw [← hX9]
      clear hX9
      refine HM9.mono ?_
      rintro e Y ⟨r, rfl, hr, hBY⟩
      have hcase := HIFF.out r hr
      have c9 := HC9.out Y hBY
      have HBY := Hid.mk_ (HB9.out.trans (hBY.mono HB9.out.size))
      have HAY := HAW6.out Y HBY.out
      clear hr hBY HM9 HIFF HC9 HAW6
      rcases hcase with ⟨rfl, rfl, rfl, rfl⟩ | ⟨rfl, hne⟩
      · unfold textS at c9
        have htt : (ByteArray.toList ⟨#[116, 101, 120, 116, 42]⟩ == [116, 101, 120, 116, 42]) = true := by kernel_rfl
        go_wp2_with fail
        refine HAY.mono ?_
        rintro e Z ⟨rfl, hBZ⟩
        have HE := Hid.mk_ (HB6.out.trans ((HBY.out.trans (hBZ.mono HBY.out.size)).mono HB6.out.size))
        clear hBZ HAY
        go_wp2
        go_ret
        first | exact HE.out | exact ⟨rfl, HE.out⟩
      · have hq0 : (d2 == 0) = false := by rw [beq_eq_false_iff_ne]; exact hne
        clear hne
        go_wp2_with fail
        refine HAY.mono ?_
        rintro e Z ⟨rfl, hBZ⟩
        have HE := Hid.mk_ (HB6.out.trans ((HBY.out.trans (hBZ.mono HBY.out.size)).mono HB6.out.size))
        clear hBZ HAY
        go_wp2
        go_ret
        first | exact HE.out | exact ⟨rfl, HE.out⟩
    · rw [if_neg hcn] at run3
      go_wp2_with (at_builtin; first | refine wpList_tok_run rfl _ _ 22 rfl _ _ _ _ rfl rfl run1 ?_ | refine wpList_tok_run rfl _ _ 22 rfl _ _ _ _ rfl rfl run2 ?_ | refine wpList_tok_run rfl _ _ 22 rfl _ _ _ _ rfl rfl run3 ?_)
      refine HC6.mono ?_
      rintro e X7 ⟨rfl, hB7⟩
      have HB7 := Hid.mk_ hB7
      have HH7 := HHO.out X7 hB7
      clear hB7 HC6 run1 run2 run3 HHO
      go_wp2_with fail
      refine HH7.mono ?_
      rintro e X8 ⟨rfl, hB8⟩
      have HB8 := Hid.mk_ (HB7.out.trans (hB8.mono HB7.out.size))
      obtain ⟨X9, hX9⟩ : ∃ X9, X9 = X8.alloc (.cells #[.string sn, .string se, .bool sf, .int .i64 sm, .int .i64 sl, .int .i64 sk, .bool sb] 34) := ⟨_, rfl⟩
      have HB9 : Hid (Below X6.heap.size X6 X9) := by rw [hX9]; exact HB8.out.alloc HB8.out.size _
      have HC9 : Hid (∀ X, Below X9.heap.size X9 X → X.cell? ⟨X8.heap.size, 1, none⟩ = some (.string se)) := fun X hX => by
        have m9 : X9.heap[X8.heap.size]? = some (.cells #[.string sn, .string se, .bool sf, .int .i64 sm, .int .i64 sl, .int .i64 sk, .bool sb] 34 (0, 0)) := by rw [hX9]; exact World.alloc_heap_new X8 _
        exact cell_of_row X X8.heap.size 1 _ _ _ ((hX.block _ (Array.getElem?_eq_some_iff.1 m9).1).trans m9)
      have HM9 := HMY.out X9 HB9.out
      clear hB8 HH7 HMY HB7 HB8
      go_wp2_with fail
      rw [← hX9]
      clear hX9
      refine HM9.mono ?_
      rintro e Y ⟨r, rfl, hr, hBY⟩
      have hcase := HIFF.out r hr
      have c9 := HC9.out Y hBY
      have HBY := Hid.mk_ (HB9.out.trans (hBY.mono HB9.out.size))
      have HAY := HAW6.out Y HBY.out
      clear hr hBY HM9 HIFF HC9 HAW6
      rcases hcase with ⟨rfl, rfl, rfl, rfl⟩ | ⟨rfl, hne⟩
      · unfold textS at c9
        have htt : (ByteArray.toList ⟨#[116, 101, 120, 116, 42]⟩ == [116, 101, 120, 116, 42]) = true := by kernel_rfl
        go_wp2_with fail
        refine HAY.mono ?_
        rintro e Z ⟨rfl, hBZ⟩
        have HE := Hid.mk_ (HB6.out.trans ((HBY.out.trans (hBZ.mono HBY.out.size)).mono HB6.out.size))
        clear hBZ HAY
        go_wp2
        go_ret
        first | exact HE.out | exact ⟨rfl, HE.out⟩
      · have hq0 : (d2 == 0) = false := by rw [beq_eq_false_iff_ne]; exact hne
        clear hne
        go_wp2_with fail
        refine HAY.mono ?_
        rintro e Z ⟨rfl, hBZ⟩
        have HE := Hid.mk_ (HB6.out.trans ((HBY.out.trans (hBZ.mono HBY.out.size)).mono HB6.out.size))
        clear hBZ HAY
        go_wp2
        go_ret
        first | exact HE.out | exact ⟨rfl, HE.out⟩
end Go.Proofs.YtgkplmnhmobnnaaGreatDoor

/- ArgsT: how a slice of tokens, and a token, that came in is read. -/
namespace Go.Proofs.YtgkplmnhmobnnaaGreatDoor
open Go.ChangeShapes Go.WideShapes Go.ChangeAt Go.RowKit

/-- Each number of a token fits. -/
def TokFits (x : Tok) : Prop := (Lit.int .i64 x.k).wf = true ∧ (Lit.int .i64 x.t).wf = true ∧ (Lit.int .i64 x.n).wf = true ∧ (Lit.int .i64 x.m).wf = true
set_option maxRecDepth 100000 in
theorem tok_of_cells {H : Type} {enc : TypeId × Value → H} {w : World} {base : Nat} {spare : Nat → Bool} {held : Bool} {fuel : Nat} {cs : List Value} {x : DataW H × List MemPlace} (h : DataW.trod enc Tryz.prog w base spare held fuel 51 cs = some x) :
    ∃ y : Tok, cs = [.int .i64 y.k, .int .i64 y.t, .int .i64 y.n, .int .i64 y.m] ∧ TokFits y ∧ x = (.agg [.lit (.int .i64 y.k), .lit (.int .i64 y.t), .lit (.int .i64 y.n), .lit (.int .i64 y.m)], []) := by
  obtain ⟨xs, k, _, hxy, hlen, hxl, hf⟩ := DataW.trod_struct Tryz.underlying51 h
  rw [show Tryz.prog.cellsOf 51 = 4 from by kernel_rfl] at hlen
  match xs, hxl, cs, hlen with
  | [y0, y1, y2, y3], _, [v0, v1, v2, v3], _ =>
    have c3 : Tryz.prog.cellsOf 3 = 1 := by kernel_rfl
    have g0 := hf 0 _ rfl
    have g1 := hf 1 _ rfl
    have g2 := hf 2 _ rfl
    have g3 := hf 3 _ rfl
    simp [c3] at g0 g1 g2 g3
    obtain ⟨n0, e0, d0, f0⟩ := DataW.trod_int Tryz.underlying3 g0
    obtain ⟨n1, e1, d1, f1⟩ := DataW.trod_int Tryz.underlying3 g1
    obtain ⟨n2, e2, d2, f2⟩ := DataW.trod_int Tryz.underlying3 g2
    obtain ⟨n3, e3, d3, f3⟩ := DataW.trod_int Tryz.underlying3 g3
    simp at e0 e1 e2 e3
    subst e0 e1 e2 e3 d0 d1 d2 d3
    exact ⟨⟨n0, n1, n2, n3⟩, rfl, ⟨f0, f1, f2, f3⟩, by rw [hxy]; rfl⟩

/-- A slice of tokens that came in. -/
theorem open_toks {H : Type} {enc : TypeId × Value → H} {W : World} {a : Option Addr} {len cap : Nat} {d : DataW H} {p : List MemPlace} (h : DataW.Trod enc Tryz.prog W 0 (fun _ => true) true 22 (.slice a len cap) d p) :
    ∃ l : List Tok, Toks W a len l ∧ (∀ x ∈ l, TokFits x) ∧ len ≤ cap ∧ cap ≤ maxLen ∧ (a = none → cap = 0) ∧ (∀ x, a = some x → 0 < cap → x.spot = none) ∧ (len = 0 ∨ ∃ elems spare, d = .slice elems spare ∧ len ≤ elems.length ∧ cap ≤ elems.length + spare.length) := by
  obtain ⟨fuel, hf⟩ := h
  have hc4 : Tryz.prog.cellsOf 51 = 4 := by kernel_rfl
  rcases Deep.open_slice Tryz.underlying22 hf with ⟨hcs, hx⟩ | ⟨x, l, c, m, n, D, Pl, hcs, _, hl, hm, hmm, hx, hD⟩
  · simp [Value.cells] at hcs
    obtain ⟨rfl, rfl, rfl⟩ := hcs
    exact ⟨[], ⟨rfl, .inl rfl⟩, by simp, Nat.le_refl _, Nat.zero_le _, fun _ => rfl, fun _ _ h => absurd h (by omega), .inl rfl⟩
  · simp [Value.cells] at hcs
    obtain ⟨rfl, rfl, rfl⟩ := hcs
    simp only [if_true] at hmm
    subst hmm
    rw [hc4] at hD
    have each : ∀ i, i < m → ∃ y : Tok, TokFits y ∧ W.cell? (x.add (i * 4)) = some (.int .i64 y.k) ∧ W.cell? ((x.add (i * 4)).add 1) = some (.int .i64 y.t) ∧ W.cell? ((x.add (i * 4)).add 2) = some (.int .i64 y.n) ∧ W.cell? ((x.add (i * 4)).add 3) = some (.int .i64 y.m) := by
      intro i hi
      obtain ⟨cs', h1, h2⟩ := hD i hi
      obtain ⟨_, _, hcell⟩ := World.cells?_some h1
      obtain ⟨y, rfl, hy, _⟩ := tok_of_cells h2
      refine ⟨y, hy, ?_, hcell 1 (by omega), hcell 2 (by omega), hcell 3 (by omega)⟩
      have := hcell 0 (by omega)
      rw [show (x.add (i * 4)).add 0 = x.add (i * 4) from by obtain ⟨b, o, s⟩ := x; cases s <;> simp [Addr.add]] at this
      exact this
    haveI : Inhabited Tok := ⟨⟨0, 0, 0, 0⟩⟩
    obtain ⟨Y, hY⟩ := Deep.choose_lt each
    have hspot : 0 < m → x.spot = none := by
      intro h0
      have := World.cell?_spot (hY 0 h0).2.1
      obtain ⟨b, o, s⟩ := x
      simpa [Addr.add] using this
    refine ⟨(List.range len).map Y, ⟨by simp, ?_⟩, ?_, hl, hm, (fun e => by cases e), (fun z e h0 => by cases e; exact hspot h0), .inr ⟨_, _, congrArg Prod.fst hx, by simp, by simp; omega⟩⟩
    · rcases Nat.eq_zero_or_pos len with h0 | h0
      · exact .inl h0
      · obtain ⟨b, o, s⟩ := x
        obtain rfl : s = none := hspot (by omega)
        refine .inr ⟨b, o, rfl, ?_, fun i y hy => ?_⟩
        · have := (hY 0 (by omega)).2.1
          rw [add_none4] at this
          rcases Nat.lt_or_ge b W.heap.size with hlt | hge
          · exact hlt
          · simp [World.cell?, Array.getElem?_eq_none hge] at this
        · have hi : i < len := by
            have := (List.getElem?_eq_some_iff.1 hy).1
            simpa using this
          obtain rfl : Y i = y := by simpa [List.getElem?_map, List.getElem?_range hi] using hy
          have := (hY i (by omega)).2
          simp only [add_none4] at this
          exact this
    · intro y hy
      obtain ⟨i, hi, rfl⟩ := List.mem_map.1 hy
      exact (hY i (by have := List.mem_range.1 hi; omega)).1
end Go.Proofs.YtgkplmnhmobnnaaGreatDoor

/- Rowl: a slice of integers that came in is no longer than it is wide. -/
namespace Go.Proofs.YtgkplmnhmobnnaaGreatDoor
open Go.ChangeShapes Go.WideShapes Go.ChangeAt Go.RowKit

theorem open_rowl {H : Type} {enc : TypeId × Value → H} {W : World} {a : Option Addr} {len cap : Nat} {d : DataW H} {p : List MemPlace} (h : DataW.Trod enc Tryz.prog W 0 (fun _ => true) true 57 (.slice a len cap) d p) : len ≤ cap ∧ cap ≤ 9223372036854775807 := by
  obtain ⟨fuel, hf⟩ := h
  rcases open_ints Tryz.underlying57 Tryz.underlying3 (by kernel_rfl) hf with ⟨hcs, _⟩ | ⟨y, l, c, zs, hcs, hq, hl, hm, _⟩
  · simp [Value.cells] at hcs
    omega
  · simp [Value.cells] at hcs
    obtain ⟨rfl, rfl, rfl⟩ := hcs
    unfold maxLen at hm
    omega
end Go.Proofs.YtgkplmnhmobnnaaGreatDoor
