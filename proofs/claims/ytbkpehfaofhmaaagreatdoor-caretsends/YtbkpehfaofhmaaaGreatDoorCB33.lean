/-
  PROVED HERE: what the texts DBFaultI, DBFirstF, DBFirstG, DBBfs say (each has its own words below).
-/
import Derived.Test.YtbkpehfaofhmaaaGreatDoorCBDBWordFt
import Derived.Test.YtbkpehfaofhmaaaGreatDoorCB30
import Derived.Test.YtbkpehfaofhmaaaGreatDoorCB1
/- DBFaultI: schema's faultIn: the first fault of what stands just in a TOpen. -/
namespace Go.Proofs.YtbkpehfaofhmaaaGreatDoor
open Go.RowKit
noncomputable def faultK (ks : List KindD) (gs : List Grp) (t : DataW Unit) (s : SpecD) (l : List Tok) (i : Int) (ps : List Int) : Nat -> Nat -> Int
 | _, 0 => wordF gs t l i ps
 | j, f + 1 => if fitsB ks s ((l[(ps.getD j 0).toNat]?).getD ⟨0, 0, 0, 0⟩) = true then faultK ks gs t s l i ps (j + 1) f else min (ps.getD j 0) (wordF gs t l i (ps.take (j + 1)))
noncomputable def faultD (ks : List KindD) (gs : List Grp) (t : DataW Unit) (s : SpecD) (l : List Tok) (i : Int) : Int := faultK ks gs t s l i (kids l i) 0 (kids l i).length
theorem row_ints {w : World} {a : Option Addr} {n : Nat} {zs : List Int} (h : Row .i64 w a n zs) (hn : n <= 9223372036854775807) : Ints w a n zs := by
 obtain ⟨h1, h2⟩ := h
 refine ⟨h1, hn, ?_⟩
 rcases h2 with h2 | ⟨b, o, h3, h4, h5⟩
 ·exact .inl h2
 ·exact .inr ⟨b, o, h3, h4, fun i x hx => by
   have := h5 i (by have := (List.getElem?_eq_some_iff.1 hx).1; omega)
   rw [List.getD_eq_getElem?_getD, hx] at this
   exact this⟩
set_option maxRecDepth 100000 in
set_option maxHeartbeats 600000 in
theorem faultin_calls {B g c ng nc : Nat} {ks : List KindD} {gs : List Grp} {ts : List (DataW Unit)} (w : World) (h : SchAt w B g c ng nc ks gs ts) (h0 : 0 < ks.length) (a : Option Addr) (len cap : Nat) (l : List Tok) (hl : Toks w a len l) (hlie : Lies a len cap) (hsz : len <= 2048) (i : Int) (kx : Nat) (t : DataW Unit) (ht : ts[kx]? = some t)
  (hka : ∀ X, Below w.heap.size w X -> Calls Tryz.prog 51 #[.pointer (some ⟨B, 0, none⟩), .slice a len cap, .int .i64 i] X fun e w' => e = .returned (.pointer (some ⟨g, kx * 10, none⟩)) /\ Below X.heap.size X w')
  (hkl : (kids l i).length <= 2048) (hps : ∀ p ∈ kids l i, 0 <= p /\ p < len) :
  Calls Tryz.prog 105 #[.pointer (some ⟨B, 0, none⟩), .slice a len cap, .int .i64 i] w fun e w' => e = .returned (.int .i64 (faultD ks gs t (specOf ks kx) l i)) /\ Below w.heap.size w w' := by
 obtain ⟨x, hx⟩ : ∃ x, ks[kx]? = some x := ⟨_, List.getElem?_eq_getElem (by have := (List.getElem?_eq_some_iff.1 ht).1; have := h.len; omega)⟩
 rw [specOf_some hx]
 unfold faultD
 generalize hps0 : kids l i = ps at *
 have HKA := Hid.mk_ hka
 have HKI : Hid (∀ X, Below w.heap.size w X -> Calls Tryz.prog 46 #[.slice a len cap, .int .i64 i] X fun e w' => ∃ a' cap', e = .returned (.slice a' ps.length cap') /\ Ints w' a' ps.length ps /\ ps.length <= cap' /\ cap' <= 9223372036854775807 /\ Below X.heap.size X w') := fun X hX => by
  refine (fkids_calls a len cap l i X (hl.below hX) (by omega)).mono ?_
  rintro e w' ⟨a', cap', rfl, h1, h2⟩
  rw [hps0] at h1 ⊢
  exact ⟨a', cap', rfl, row_ints h1.1 (by omega), h1.2.1, h1.2.2, h2⟩
 have HFI : Hid (∀ X (y : Tok), Below w.heap.size w X -> Calls Tryz.prog 138 #[.pointer (some ⟨B, 0, none⟩), tokV y, .pointer (some ⟨g, kx * 10, none⟩)] X fun e w' => e = .returned (.bool (fitsB ks x.1 y)) /\ Below X.heap.size X w') := fun X y hX => sfits_calls X (h.below hX) h0 y x.1 (kx * 10) ((h.below hX).kinds kx x hx).1
 have HWF : Hid (∀ X (ka : Option Addr) (kl kc : Nat) (qs : List Int), Below w.heap.size w X -> Ints X ka kl qs -> kl <= 2048 -> (∀ p ∈ qs, p ∈ ps) -> Calls Tryz.prog 139 #[.pointer (some ⟨B, 0, none⟩), .slice a len cap, .int .i64 i, .slice ka kl kc] X fun e w' => e = .returned (.int .i64 (wordF gs t l i qs)) /\ Below X.heap.size X w') := fun X ka kl kc qs hX hq hk hm => wordfault_calls X (h.below hX) a len cap l (hl.below hX) hlie hsz i kx t ht (fun Y hY => hka Y (hX.trans (hY.mono hX.size))) ka kl kc qs hq (by omega) (fun p hp => hps p (hm p hp))
 have HL : Hid (∀ (X : World) (p : Nat), Below w.heap.size w X -> p < len -> ∃ b o y, a = some ⟨b, o, none⟩ /\ l[p]? = some y /\ X.cell? ⟨b, o + p * 4, none⟩ = some (.int .i64 y.k) /\ X.cell? ⟨b, o + p * 4 + 1, none⟩ = some (.int .i64 y.t) /\ X.cell? ⟨b, o + p * 4 + 2, none⟩ = some (.int .i64 y.n) /\ X.cell? ⟨b, o + p * 4 + 3, none⟩ = some (.int .i64 y.m)) := fun X p hX hp => by
  obtain ⟨b, o, y, h1, _, h3, h4⟩ := hl.token hp
  obtain ⟨d1, d2, d3, d4⟩ := h4 X hX
  exact ⟨b, o, y, h1, h3, d1, d2, d3, d4⟩
 have HPS := Hid.mk_ hps
 have hli : (len : Int) <= 2048 := by omega
 have hpi : (ps.length : Int) <= 2048 := by omega
 clear h hl hlie hka hps ht hx hps0
 obtain ⟨xs, xr⟩ := x
 dsimp only at *
 go_enter Tryz.func105, Tryz.ntmps105
 go_wp2_with fail
 refine (HKA.out w (Below.refl _ _)).mono ?_
 rintro e W1 ⟨rfl, hB1⟩
 have HB1 := Hid.mk_ hB1
 have HC2 := HKI.out W1 hB1
 clear hB1 HKA HKI
 go_wp2_with fail
 refine HC2.mono ?_
 rintro e W2 ⟨ka, kc, rfl, hk, hkc1, hkc2, hB2⟩
 have HB2 := Hid.mk_ (HB1.out.trans (hB2.mono HB1.out.size))
 have HK : Hid (∀ (X : World), Below W2.heap.size W2 X -> Ints X ka ps.length ps) := fun X hX => hk.below hX
 have HKC : Hid (∀ (X : World) (j : Nat), Below W2.heap.size W2 X -> j < ps.length -> ∃ b o p, ka = some ⟨b, o, none⟩ /\ ps[j]? = some p /\ X.cell? ⟨b, o + j, none⟩ = some (.int .i64 p)) := fun X j hX hj => by
  obtain ⟨b, o, p, h1, h2, h3⟩ := hk.at hj
  exact ⟨b, o, p, h1, h2, h3 X hX⟩
 have hkc3 : (ps.length : Int) <= (kc : Int) := by omega
 have hkc4 : (kc : Int) <= 9223372036854775807 := by omega
 clear hk hB2 HC2 HB1
 go_wp2
 go_loopg [20] (ps.length + 1) (fun gk v wr => ∃ j : Nat, j <= ps.length /\ ps.length < j + gk /\ v = .int .i64 (j : Int) /\ faultK ks gs t xs l i ps j (ps.length - j) = faultK ks gs t xs l i ps 0 ps.length /\ Below W2.heap.size W2 wr)
 case atStart => exact ⟨0, Nat.zero_le _, by omega, rfl, by rw [Nat.sub_zero], Below.refl _ _⟩
 case round =>
  obtain ⟨j, hj, hgk, rfl, hF, hB⟩ := hrel
  by_cases hlt : j < ps.length
  ·obtain ⟨b, o, p, rfl, hp, c0⟩ := HKC.out wr j hB hlt
   obtain ⟨hp0, hp1⟩ := HPS.out p (List.mem_of_getElem? hp)
   obtain ⟨q, rfl⟩ : ∃ q : Nat, p = (q : Int) := ⟨p.toNat, by omega⟩
   have hBw := HB2.out.trans (hB.mono HB2.out.size)
   obtain ⟨b', o', y, rfl, hy, d1, d2, d3, d4⟩ := HL.out wr q hBw (by omega)
   have hii : (j : Int) < (ps.length : Int) := by omega
   have hj0 : (0 : Int) <= (j : Int) := by omega
   have hd : decide ((j : Int) < (ps.length : Int)) = true := by simpa using hii
   have hgp : ps.getD j 0 = (q : Int) := by rw [List.getD_eq_getElem?_getD, hp]; rfl
   have hgy : (l[(ps.getD j 0).toNat]?).getD ⟨0, 0, 0, 0⟩ = y := by rw [hgp, Int.toNat_natCast, hy]; rfl
   have hst : ps.length - j = (ps.length - (j + 1)) + 1 := by omega
   rw [hst, faultK, hgy, hgp] at hF
   have HFT := HFI.out wr y hBw
   obtain ⟨r, hr⟩ : ∃ r, fitsB ks xs y = r := ⟨_, rfl⟩
   rw [hr] at hF HFT
   have HBw := Hid.mk_ hBw
   have HBr := Hid.mk_ hB
   have HFF := Hid.mk_ hF
   unfold tokV at HFT
   clear hF hB hBw hp hy hr hgp hgy hst HKC HFI HL
   obtain ⟨yk, yt, yn, ym⟩ := y
   dsimp only at *
   go_wp2_with fail
   refine HFT.mono ?_
   rintro e W3 ⟨rfl, hB3⟩
   have HB3 := Hid.mk_ (HBr.out.trans (hB3.mono HBr.out.size))
   clear hB3 HFT
   cases r with
   | true =>
    have HN : Hid (faultK ks gs t xs l i ps (j + 1) (ps.length - (j + 1)) = faultK ks gs t xs l i ps 0 ps.length) := by
     have := HFF.out
     rw [if_pos rfl] at this
     exact this
    clear HFF
    go_wp2
    go_roundg (ps.length - j)
    case measure => omega
    case rel => exact ⟨j + 1, by omega, by omega, by first | rfl | go_num, HN.out, HB3.out⟩
   | false =>
    have HN : Hid (faultK ks gs t xs l i ps 0 ps.length = min (q : Int) (wordF gs t l i (ps.take (j + 1)))) := by
     have := HFF.out
     rw [if_neg (by simp)] at this
     exact this.symm
    have hB23 := HB2.out.trans (HB3.out.mono HB2.out.size)
    have hint : Ints W3 (some ⟨b, o, none⟩) (j + 1) (ps.take (j + 1)) := by
     have h1 := HK.out W3 HB3.out
     refine ⟨by rw [List.length_take]; omega, by omega, .inr ?_⟩
     rcases h1.2.2 with h2 | ⟨b2, o2, e2, h3, h4⟩
     ·omega
     ·refine ⟨b2, o2, e2, h3, fun k z hz => h4 k z ?_⟩
      rw [List.getElem?_take] at hz
      split at hz
      ·exact hz
      ·cases hz
    have HWX : Hid (∀ kc', Calls Tryz.prog 139 #[.pointer (some ⟨B, 0, none⟩), .slice (some ⟨b', o', none⟩) len cap, .int .i64 i, .slice (some ⟨b, o, none⟩) (j + 1) kc'] W3 fun e w' => e = .returned (.int .i64 (wordF gs t l i (ps.take (j + 1)))) /\ Below W3.heap.size W3 w') := fun kc' => HWF.out W3 (some ⟨b, o, none⟩) (j + 1) kc' (ps.take (j + 1)) hB23 hint (by omega) (fun p hp => List.mem_of_mem_take hp)
    have HB23 := Hid.mk_ hB23
    generalize wordF gs t l i (ps.take (j + 1)) = R at *
    clear hB23 hint HFF HK HWF
    have hjk : (j : Int) + 1 <= (kc : Int) := by omega
    have hjk2 : j + 1 <= kc := by omega
    go_wp2_with fail
    refine (HWX.out _).mono ?_
    rintro e W4 ⟨rfl, hB4⟩
    have HB4 := Hid.mk_ (HB23.out.trans (hB4.mono HB23.out.size))
    clear hB4 HWX
    go_wp2
    go_ret
    exact ⟨by rw [HN.out]; first | rfl | (congr 1; congr 1; omega), HB4.out⟩
  ·obtain rfl : j = ps.length := by omega
   have hd : decide ((ps.length : Int) < (ps.length : Int)) = false := by simp
   have hBw := HB2.out.trans (hB.mono HB2.out.size)
   have HWX := HWF.out wr ka ps.length kc ps hBw (HK.out wr hB) (by omega) (fun p hp => hp)
   have HBw := Hid.mk_ hBw
   have HN : Hid (faultK ks gs t xs l i ps 0 ps.length = wordF gs t l i ps) := by
    rw [Nat.sub_self, faultK] at hF
    exact hF.symm
   generalize wordF gs t l i ps = R at *
   clear hF hB hBw HK HKC HWF HFI HL
   go_wp2_with fail
   refine HWX.mono ?_
   rintro e W4 ⟨rfl, hB4⟩
   have HB4 := Hid.mk_ (HBw.out.trans (hB4.mono HBw.out.size))
   clear hB4 HWX
   go_wp2
   go_ret
   exact ⟨by rw [HN.out]; rfl, HB4.out⟩
end Go.Proofs.YtbkpehfaofhmaaaGreatDoor

/- DBFirstF: schema's firstFault and Check, at documents whose TOpens are of types that the schema has. -/
namespace Go.Proofs.YtbkpehfaofhmaaaGreatDoor
open Go.RowKit
theorem kidsL_length (l : List Tok) (i : Int) (k f : Nat) (out : List Int) : (kidsL l i k f out).length <= out.length + f := by
 induction f generalizing k out with
 | zero => rw [kidsL]; omega
 | succ f ih =>
  rw [kidsL]
  split
  ·omega
  ·split
   ·have := ih (k + 1) (out ++ [(k : Int)])
    rw [List.length_append, List.length_singleton] at this
    omega
   ·have := ih (k + 1) out
    omega
theorem kidsL_in (l : List Tok) (i : Int) (n : Nat) : ∀ (f k : Nat) (out : List Int), k + f <= n -> (∀ p ∈ out, 0 <= p /\ p < n) -> ∀ p ∈ kidsL l i k f out, 0 <= p /\ p < n := by
 intro f
 induction f with
 | zero => intro k out _ h; rw [kidsL]; exact h
 | succ f ih =>
  intro k out hk h
  rw [kidsL]
  split
  ·exact h
  ·refine ih (k + 1) _ (by omega) ?_
   split
   ·intro p hp
    rcases List.mem_append.1 hp with hp | hp
    ·exact h p hp
    ·rw [List.mem_singleton] at hp
     subst hp
     omega
   ·exact h
theorem kids_few (l : List Tok) (i : Int) : (kids l i).length <= l.length := by
 unfold kids
 split
 ·exact Nat.zero_le _
 ·have := kidsL_length l i (i + 1).toNat (l.length - (i + 1).toNat) []
  rw [List.length_nil] at this
  omega
theorem kids_in (l : List Tok) (i : Int) : ∀ p ∈ kids l i, 0 <= p /\ p < l.length := by
 unfold kids
 split
 ·intro p hp; cases hp
 ·rename_i h
  exact kidsL_in l i l.length _ _ _ (by omega) (fun p hp => by cases hp)
noncomputable def faultAt (ks : List KindD) (gs : List Grp) (ts : List (DataW Unit)) (l : List Tok) (i : Nat) : Int := faultD ks gs (ts.getD (typeAt l i).toNat emptyT) (specOf ks (typeAt l i).toNat) l i
noncomputable def foldF (ks : List KindD) (gs : List Grp) (ts : List (DataW Unit)) (l : List Tok) : Nat -> Nat -> Int -> Int
 | _, 0, f => f
 | i, n + 1, f => if f <= (i : Int) then f else if kindAt l i = 1 then foldF ks gs ts l (i + 1) n (min f (faultAt ks gs ts l i)) else foldF ks gs ts l (i + 1) n f
noncomputable def firstS (ks : List KindD) (gs : List Grp) (ts : List (DataW Unit)) (l : List Tok) : Int := foldF ks gs ts l 0 l.length (faultD ks gs (ts.getD 0 emptyT) (specOf ks 0) l (-1))
theorem getD_at {ts : List (DataW Unit)} {i : Nat} (h : i < ts.length) : ts[i]? = some (ts.getD i emptyT) := by
 rw [List.getD_eq_getElem?_getD, List.getElem?_eq_getElem h]
 rfl
noncomputable def checkS (ks : List KindD) (gs : List Grp) (ts : List (DataW Unit)) (l : List Tok) : Int × Int :=
 if (check l).2 ≠ 0 then check l else if firstS ks gs ts l ≠ 2049 then (firstS ks gs ts l, 9) else ((l.length : Int), 0)
end Go.Proofs.YtbkpehfaofhmaaaGreatDoor

/- DBFirstG: schema's firstFault and Check at any document. -/
namespace Go.Proofs.YtbkpehfaofhmaaaGreatDoor
open Go.RowKit
theorem opened_lt (l : List Tok) (p : Nat) (hp : p <= l.length) : ∀ x ∈ opened l (p : Int), 0 <= x /\ x < (p : Int) := by
 rw [opened_nat l p hp]
 exact openL_fits (l.take p) 0 [] (p : Int) (by rw [List.length_take]; omega) (fun x hx => by cases hx)
theorem opened_later (l : List Tok) (q : Nat) : ∀ (d : Nat), q + d <= l.length -> ∀ x ∈ opened l ((q + d : Nat) : Int), x ∈ opened l (q : Int) \/ (q : Int) <= x := by
 intro d
 induction d with
 | zero => intro _ x hx; exact .inl hx
 | succ d ih =>
  intro hd x hx
  obtain ⟨y, hy⟩ : ∃ y, l[q + d]? = some y := ⟨_, List.getElem?_eq_getElem (by omega)⟩
  have e := opened_succ l (q + d) y hy
  rw [show q + (d + 1) = q + d + 1 by omega, e] at hx
  unfold turn at hx
  split at hx
  ·rcases List.mem_append.1 hx with hx | hx
   ·exact ih (by omega) x hx
   ·rw [List.mem_singleton] at hx
    subst hx
    exact .inr (by omega)
  ·split at hx
   ·exact ih (by omega) x (List.dropLast_subset _ hx)
   ·exact ih (by omega) x hx
theorem opened_kind (l : List Tok) : ∀ (p : Nat), p <= l.length -> ∀ x ∈ opened l (p : Int), kindAt l x.toNat = 1 := by
 intro p
 induction p with
 | zero => intro _ x hx; rw [show ((0 : Nat) : Int) = 0 from rfl, opened_zero] at hx; cases hx
 | succ p ih =>
  intro hp x hx
  obtain ⟨y, hy⟩ : ∃ y, l[p]? = some y := ⟨_, List.getElem?_eq_getElem (by omega)⟩
  rw [opened_succ l p y hy] at hx
  unfold turn at hx
  split at hx
  ·rename_i hk
   rcases List.mem_append.1 hx with hx | hx
   ·exact ih (by omega) x hx
   ·rw [List.mem_singleton] at hx
    subst hx
    rw [Int.toNat_natCast, kindAt_some hy]
    exact hk
  ·split at hx
   ·exact ih (by omega) x (List.dropLast_subset _ hx)
   ·exact ih (by omega) x hx
theorem around_in (l : List Tok) (p : Nat) (h : around l (p : Int) ≠ -1) : around l (p : Int) ∈ opened l (p : Int) := by
 unfold around at h ⊢
 cases hg : (opened l (p : Int)).getLast? with
 | none => rw [hg] at h; exact absurd rfl h
 | some x => exact List.mem_of_getLast? hg
theorem kidsL_keep (l : List Tok) (i : Int) : ∀ (f k : Nat) (out : List Int), ∀ x ∈ out, x ∈ kidsL l i k f out := by
 intro f
 induction f with
 | zero => intro k out x hx; rw [kidsL]; exact hx
 | succ f ih =>
  intro k out x hx
  rw [kidsL]
  split
  ·exact hx
  ·refine ih (k + 1) _ x ?_
   split
   ·exact List.mem_append_left _ hx
   ·exact hx
theorem kidsL_has (l : List Tok) (i : Int) (m : Nat) (hm : kindAt l m ≠ 2 /\ 0 <= kindAt l m /\ kindAt l m <= 3 /\ around l m = i) : ∀ (f k : Nat) (out : List Int), (∀ j, k <= j -> j < m -> ¬ (kindAt l j = 2 /\ around l j = i /\ 0 <= i)) -> k <= m -> m < k + f -> (m : Int) ∈ kidsL l i k f out := by
 intro f
 induction f with
 | zero => intro k out _ h1 h2; omega
 | succ f ih =>
  intro k out hno h1 h2
  rw [kidsL]
  by_cases e : k = m
  ·subst e
   rw [if_neg (fun h => hm.1 h.1), if_pos hm]
   exact kidsL_keep l i f (k + 1) _ _ (List.mem_append_right _ (List.mem_singleton.2 rfl))
  ·rw [if_neg (hno k (Nat.le_refl _) (by omega))]
   exact ih (k + 1) _ (fun j hj => hno j (by omega)) (by omega) (by omega)
theorem kids_has (l : List Tok) (m : Nat) (hm : m < l.length) (hk : kindAt l m ≠ 2 /\ 0 <= kindAt l m /\ kindAt l m <= 3) : (m : Int) ∈ kids l (around l (m : Int)) := by
 by_cases hq : around l (m : Int) = -1
 ·rw [hq]
  unfold kids
  rw [if_neg (by omega)]
  exact kidsL_has l (-1) m ⟨hk.1, hk.2.1, hk.2.2, hq⟩ _ _ _ (fun j _ _ h => absurd h.2.2 (by decide)) (by omega) (by omega)
 ·have hin := around_in l m hq
  obtain ⟨h0, h1⟩ := opened_lt l m (by omega) _ hin
  have hkd := opened_kind l m (by omega) _ hin
  obtain ⟨n, hn⟩ : ∃ n : Nat, around l (m : Int) = (n : Int) := ⟨(around l (m : Int)).toNat, by omega⟩
  rw [hn] at h1 hkd hin ⊢
  rw [Int.toNat_natCast] at hkd
  unfold kids
  rw [if_neg (by rw [Int.toNat_natCast]; omega)]
  refine kidsL_has l (n : Int) m ⟨hk.1, hk.2.1, hk.2.2, hn⟩ _ _ _ (fun j hj hjm h => ?_) (by omega) (by omega)
  -- it was ended ahead of m
  obtain ⟨hj2, hja, _⟩ := h
  obtain ⟨y, hy⟩ : ∃ y, l[j]? = some y := ⟨_, List.getElem?_eq_getElem (by omega)⟩
  have e1 := around_last l j (by omega) n hja
  have e2 := opened_succ l j y hy
  rw [kindAt_some hy] at hj2
  unfold turn at e2
  rw [if_neg (by omega), if_pos hj2, e1, List.dropLast_concat] at e2
  have := opened_later l (j + 1) (m - (j + 1)) (by omega) (n : Int) (by rw [show j + 1 + (m - (j + 1)) = m by omega]; exact hin)
  rcases this with h3 | h3
  ·rw [e2] at h3
   have := (opened_lt l n (by omega) _ h3).2
   omega
  ·omega
theorem kidsL_rise (l : List Tok) (i : Int) : ∀ (f k : Nat) (out : List Int), out.Pairwise (· < ·) -> (∀ x ∈ out, x < (k : Int)) -> (kidsL l i k f out).Pairwise (· < ·) := by
 intro f
 induction f with
 | zero => intro k out h _; rw [kidsL]; exact h
 | succ f ih =>
  intro k out h hk
  rw [kidsL]
  split
  ·exact h
  ·split
   ·refine ih (k + 1) _ ?_ ?_
    ·rw [List.pairwise_append]
     exact ⟨h, List.pairwise_singleton _ _, fun x hx y hy => by rw [List.mem_singleton] at hy; subst hy; exact hk x hx⟩
    ·intro x hx
     rcases List.mem_append.1 hx with hx | hx
     ·have := hk x hx; omega
     ·rw [List.mem_singleton] at hx; subst hx; omega
   ·exact ih (k + 1) _ h (fun x hx => by have := hk x hx; omega)
theorem kids_rise (l : List Tok) (i : Int) : (kids l i).Pairwise (· < ·) := by
 unfold kids
 split
 ·exact List.Pairwise.nil
 ·exact kidsL_rise l i _ _ _ List.Pairwise.nil (fun x hx => by cases hx)
theorem fault_fits {ks : List KindD} {gs : List Grp} {t : DataW Unit} {s : SpecD} {l : List Tok} {i : Int} {p : Int} (hp : p ∈ kids l i) (hlt : p < faultD ks gs t s l i) : fitsB ks s ((l[p.toNat]?).getD ⟨0, 0, 0, 0⟩) = true := by
 have hr := kids_rise l i
 unfold faultD at hlt
 obtain ⟨m, hm⟩ := List.getElem?_of_mem hp
 have key : ∀ (f j : Nat), j + f = (kids l i).length -> j <= m -> p < faultK ks gs t s l i (kids l i) j f -> fitsB ks s ((l[p.toNat]?).getD ⟨0, 0, 0, 0⟩) = true := by
  intro f
  induction f with
  | zero => intro j hj hjm _; have := (List.getElem?_eq_some_iff.1 hm).1; omega
  | succ f ih =>
   intro j hj hjm hl
   rw [faultK] at hl
   split at hl
   ·rename_i hfit
    by_cases e : j = m
    ·subst e
     rw [List.getD_eq_getElem?_getD, hm] at hfit
     exact hfit
    ·exact ih (j + 1) (by omega) (by omega) hl
   ·exfalso
    have hjl : j < (kids l i).length := by omega
    have hge : (kids l i).getD j 0 <= p := by
     rw [List.getD_eq_getElem?_getD, List.getElem?_eq_getElem hjl]
     show (kids l i)[j] <= p
     obtain ⟨hml, hme⟩ := List.getElem?_eq_some_iff.1 hm
     by_cases e : j = m
     ·subst e; rw [hme]; exact Int.le_refl _
     ·have := List.pairwise_iff_getElem.1 hr j m hjl hml (by omega)
      rw [hme] at this
      omega
    omega
 exact key _ 0 (by omega) (Nat.zero_le _) hlt
theorem type_known {ks : List KindD} {gs : List Grp} {ts : List (DataW Unit)} {l : List Tok} (hg : ∀ (k : Nat), k < l.length -> 0 <= kindAt l k /\ kindAt l k <= 3) (i : Nat) (x : Tok) (f : Int) (hx : l[i]? = some x) (hk : x.k = 1) (hif : (i : Int) < f) (hw : f <= faultD ks gs (ts.getD 0 emptyT) (specOf ks 0) l (-1)) (hall : ∀ q, q < i -> kindAt l q = 1 -> f <= faultAt ks gs ts l q) : 0 <= x.t /\ x.t < ks.length := by
 have hil := (List.getElem?_eq_some_iff.1 hx).1
 have hki := kindAt_some hx
 have hmem := kids_has l i hil ⟨by rw [hki]; omega, hg i hil⟩
 have fin : ∀ (t : DataW Unit) (s : SpecD), (i : Int) < faultD ks gs t s l (around l (i : Int)) -> 0 <= x.t /\ x.t < ks.length := fun t s hlt => by
  have := fault_fits hmem hlt
  rw [Int.toNat_natCast, hx] at this
  unfold fitsB at this
  rw [if_neg (show ¬ ((some x).getD ⟨0, 0, 0, 0⟩).k = 0 by show ¬ x.k = 0; omega)] at this
  split at this
  ·rename_i h
   have h' : 1 <= x.t /\ x.t < ks.length := h
   omega
  ·cases this
 by_cases hq : around l (i : Int) = -1
 ·rw [hq] at fin
  exact fin _ _ (Int.lt_of_lt_of_le hif hw)
 ·have hin := around_in l i hq
  obtain ⟨h0, h1⟩ := opened_lt l i (by omega) _ hin
  have hkd := opened_kind l i (by omega) _ hin
  obtain ⟨n, hn⟩ : ∃ n : Nat, around l (i : Int) = (n : Int) := ⟨(around l (i : Int)).toNat, by omega⟩
  rw [hn] at fin h1 hkd
  rw [Int.toNat_natCast] at hkd
  have := hall n (by omega) hkd
  unfold faultAt at this
  exact fin _ _ (Int.lt_of_lt_of_le hif this)
theorem goes_right : ∀ (l : List Tok) (d e : Int), goes l d = some e -> ∀ x ∈ l, rightT x = true := by
 intro l
 induction l with
 | nil => intro d e _ x hx; cases hx
 | cons y r ih =>
  intro d e h x hx
  obtain ⟨h1, _, h3⟩ := goes_cons h
  rcases List.mem_cons.1 hx with rfl | hx
  ·unfold wrong at h1
   simp only [Bool.or_eq_false_iff, Bool.not_eq_false'] at h1
   exact h1.1
  ·exact ih _ _ h3 x hx
theorem kinds_rightS {l : List Tok} (h : goes l 0 = some 0) : ∀ (k : Nat), k < l.length -> 0 <= kindAt l k /\ kindAt l k <= 3 := by
 intro k hk
 obtain ⟨x, hx⟩ : ∃ x, l[k]? = some x := ⟨_, List.getElem?_eq_getElem hk⟩
 rw [kindAt_some hx]
 have := goes_right l 0 0 h x (List.mem_of_getElem? hx)
 unfold rightT at this
 split at this
 ·omega
 ·split at this
  ·omega
  ·split at this
   ·omega
   ·cases this
set_option maxRecDepth 100000 in
set_option maxHeartbeats 600000 in
theorem firstfault_any {B g c ng nc : Nat} {ks : List KindD} {gs : List Grp} {ts : List (DataW Unit)} (w : World) (h : SchAt w B g c ng nc ks gs ts) (h0 : 0 < ks.length) (a : Option Addr) (len cap : Nat) (l : List Tok) (hl : Toks w a len l) (hlie : Lies a len cap) (hsz : len <= 2048) (hty : ∀ (i : Nat) (x : Tok) (f : Int), l[i]? = some x -> x.k = 1 -> (i : Int) < f -> f <= faultD ks gs (ts.getD 0 emptyT) (specOf ks 0) l (-1) -> (∀ q, q < i -> kindAt l q = 1 -> f <= faultAt ks gs ts l q) -> 0 <= x.t /\ x.t < ks.length) :
  Calls Tryz.prog 75 #[.pointer (some ⟨B, 0, none⟩), .slice a len cap] w fun e w' => e = .returned (.int .i64 (firstS ks gs ts l)) /\ Below w.heap.size w w' := by
 have hll := hl.1
 have HF0 : Hid (Calls Tryz.prog 105 #[.pointer (some ⟨B, 0, none⟩), .slice a len cap, .int .i64 (-1)] w fun e w' => e = .returned (.int .i64 (faultD ks gs (ts.getD 0 emptyT) (specOf ks 0) l (-1))) /\ Below w.heap.size w w') :=
  faultin_calls w h h0 a len cap l hl hlie hsz (-1) 0 _ (getD_at (by have := h.len; omega)) (fun X hX => kindat_out X (h.below hX) h0 _) (by have := kids_few l (-1); omega) (fun p hp => by have := kids_in l (-1) p hp; omega)
 have HFI : Hid (∀ (X : World) (i : Nat) (x : Tok), Below w.heap.size w X -> l[i]? = some x -> x.k = 1 -> (0 <= x.t /\ x.t < ks.length) -> Calls Tryz.prog 105 #[.pointer (some ⟨B, 0, none⟩), .slice a len cap, .int .i64 (i : Int)] X fun e w' => e = .returned (.int .i64 (faultAt ks gs ts l i)) /\ Below X.heap.size X w') := fun X i x hX hx _ ⟨t0, t1⟩ => by
  have hta : typeAt l (i : Int) = x.t := by unfold typeAt; rw [Int.toNat_natCast, hx]; rfl
  unfold faultAt
  rw [hta]
  exact faultin_calls X (h.below hX) h0 a len cap l (hl.below hX) hlie hsz (i : Int) x.t.toNat _ (getD_at (by have := h.len; omega)) (fun Y hY => kindat_in Y (h.below (hX.trans (hY.mono hX.size))) a len cap l (hl.below (hX.trans (hY.mono hX.size))) hsz i x hx t0 t1) (by have := kids_few l i; omega) (fun p hp => by have := kids_in l i p hp; omega)
 have HL : Hid (∀ (X : World) (p : Nat), Below w.heap.size w X -> p < len -> ∃ b o y, a = some ⟨b, o, none⟩ /\ l[p]? = some y /\ X.cell? ⟨b, o + p * 4, none⟩ = some (.int .i64 y.k) /\ X.cell? ⟨b, o + p * 4 + 1, none⟩ = some (.int .i64 y.t) /\ X.cell? ⟨b, o + p * 4 + 2, none⟩ = some (.int .i64 y.n) /\ X.cell? ⟨b, o + p * 4 + 3, none⟩ = some (.int .i64 y.m)) := fun X p hX hp => by
  obtain ⟨b, o, y, h1, _, h3, h4⟩ := hl.token hp
  obtain ⟨d1, d2, d3, d4⟩ := h4 X hX
  exact ⟨b, o, y, h1, h3, d1, d2, d3, d4⟩
 have HTY := Hid.mk_ hty
 unfold firstS
 obtain ⟨f0, hf0⟩ : ∃ f0, faultD ks gs (ts.getD 0 emptyT) (specOf ks 0) l (-1) = f0 := ⟨_, rfl⟩
 rw [hf0] at HF0 HTY ⊢
 rw [hll]
 have hli : (len : Int) <= 2048 := by omega
 clear h hl hlie hty hf0
 go_enter Tryz.func75, Tryz.ntmps75
 go_wp2_with fail
 refine HF0.out.mono ?_
 rintro e W1 ⟨rfl, hB1⟩
 have HB1 := Hid.mk_ hB1
 clear hB1 HF0
 go_wp2
 go_loopg [5, 13] (len + 1) (fun gk u v wr => ∃ (i : Nat) (f : Int), i <= len /\ len < i + gk /\ u = .int .i64 f /\ v = .int .i64 (i : Int) /\ foldF ks gs ts l i (len - i) f = foldF ks gs ts l 0 len f0 /\ (f <= f0 /\ ∀ q, q < i -> kindAt l q = 1 -> f <= faultAt ks gs ts l q) /\ Below w.heap.size w wr)
 case atStart => exact ⟨0, f0, Nat.zero_le _, by omega, rfl, rfl, by rw [Nat.sub_zero], ⟨Int.le_refl _, fun q hq => by omega⟩, HB1.out⟩
 case round =>
  obtain ⟨i, f, hi, hgk, rfl, rfl, hF, ⟨hle, hall⟩, hB⟩ := hrel
  have HIN : Hid (f <= f0 /\ ∀ q, q < i -> kindAt l q = 1 -> f <= faultAt ks gs ts l q) := ⟨hle, hall⟩
  clear hle hall
  clear HB1
  by_cases hlt : i < len
  ·obtain ⟨b, o, y, rfl, hy, d1, d2, d3, d4⟩ := HL.out wr i hB hlt
   have hii : (i : Int) < (len : Int) := by omega
   have hi0 : (0 : Int) <= (i : Int) := by omega
   have hd : decide ((i : Int) < (len : Int)) = true := by simpa using hii
   have hst : len - i = (len - (i + 1)) + 1 := by omega
   rw [hst, foldF, kindAt_some hy] at hF
   obtain ⟨V, hV⟩ : ∃ V, V = wr.alloc (.cells #[.int .i64 y.k, .int .i64 y.t, .int .i64 y.n, .int .i64 y.m] 48) := ⟨_, rfl⟩
   have hBV : Below w.heap.size w V := by rw [hV]; exact hB.alloc hB.size _
   have m0 : V.heap[wr.heap.size]? = some (.cells #[.int .i64 y.k, .int .i64 y.t, .int .i64 y.n, .int .i64 y.m] 48 (0, 0)) := by rw [hV]; exact World.alloc_heap_new wr _
   have k0 : V.cell? ⟨wr.heap.size, 0, none⟩ = some (.int .i64 y.k) := cell_of_row V wr.heap.size 0 _ _ _ m0
   have HV : Hid (wr.alloc (.cells #[.int .i64 y.k, .int .i64 y.t, .int .i64 y.n, .int .i64 y.m] 48) = V) := hV.symm
   have HBV := Hid.mk_ hBV
   by_cases dg : f <= (i : Int)
   ·have hdg : decide (f <= (i : Int)) = true := by simpa using dg
    have HE : Hid (foldF ks gs ts l 0 len f0 = f) := by rw [if_pos dg] at hF; exact hF.symm
    have HBA : Hid (∀ o, Below w.heap.size w (wr.alloc o)) := fun o => hB.alloc hB.size o
    clear hF hB hBV m0 hV hst hy
    go_wp2
    go_ret
    exact ⟨by rw [HE.out]; rfl, HBA.out _⟩
   ·have hdg : decide (f <= (i : Int)) = false := by simpa using dg
    rw [if_neg dg] at hF
    by_cases dk : y.k = 1
    ·have hdk : (y.k == 1) = true := by simpa using dk
     rw [if_pos dk] at hF
     have HFX := HFI.out V i y hBV hy dk (HTY.out i y f hy dk (by omega) HIN.out.1 HIN.out.2)
     have HINN : Hid (min f (faultAt ks gs ts l i) <= f0 /\ ∀ q, q < i + 1 -> kindAt l q = 1 -> min f (faultAt ks gs ts l i) <= faultAt ks gs ts l q) := ⟨by have := HIN.out.1; omega, fun q hq hk => by
      by_cases e : q = i
      ·subst e; omega
      ·have := HIN.out.2 q (by omega) hk; omega⟩
     have HFF := Hid.mk_ hF
     obtain ⟨fa, hfa⟩ : ∃ fa, faultAt ks gs ts l i = fa := ⟨_, rfl⟩
     rw [hfa] at HFX HFF HINN
     clear hfa
     clear hF hB hBV m0 hV hst hy dk dg
     go_wp2_with fail
     rw [HV.out]
     refine HFX.mono ?_
     rintro e W3 ⟨rfl, hB3⟩
     have HB3 := Hid.mk_ (HBV.out.trans (hB3.mono HBV.out.size))
     clear hB3 HFX
     go_wp2
     go_roundg (len - i)
     case measure => omega
     case rel => exact ⟨i + 1, min f fa, by omega, by omega, by first | rfl | (congr 1; omega), by first | rfl | go_num, HFF.out, HINN.out, HB3.out⟩
    ·have hdk : (y.k == 1) = false := by simpa using dk
     rw [if_neg dk] at hF
     have HINN : Hid (f <= f0 /\ ∀ q, q < i + 1 -> kindAt l q = 1 -> f <= faultAt ks gs ts l q) := ⟨HIN.out.1, fun q hq hk => by
      by_cases e : q = i
      ·subst e; rw [kindAt_some hy] at hk; exact absurd hk dk
      ·exact HIN.out.2 q (by omega) hk⟩
     have HFF := Hid.mk_ hF
     have HBA : Hid (∀ o, Below w.heap.size w (wr.alloc o)) := fun o => hB.alloc hB.size o
     clear hF hB hBV m0 hV hst hy dk dg
     go_wp2
     go_roundg (len - i)
     case measure => omega
     case rel => exact ⟨i + 1, f, by omega, by omega, rfl, by first | rfl | go_num, HFF.out, HINN.out, HBA.out _⟩
  ·obtain rfl : i = len := by omega
   have hd : decide ((i : Int) < (i : Int)) = false := by simp
   have HE : Hid (foldF ks gs ts l 0 i f0 = f /\ Below w.heap.size w wr) := by
    rw [Nat.sub_self, foldF] at hF
    exact ⟨hF.symm, hB⟩
   clear hF hB
   go_wp2
   go_ret
   exact ⟨by rw [HE.out.1]; rfl, HE.out.2⟩
set_option maxRecDepth 100000 in
set_option maxHeartbeats 600000 in
theorem scheck_any {B g c ng nc : Nat} {ks : List KindD} {gs : List Grp} {ts : List (DataW Unit)} (w : World) (h : SchAt w B g c ng nc ks gs ts) (h0 : 0 < ks.length) (a : Option Addr) (len cap : Nat) (l : List Tok) (hl : Toks w a len l) (hlie : Lies a len cap) (hsz : len <= 4398046511104) :
  Calls Tryz.prog 42 #[.pointer (some ⟨B, 0, none⟩), .slice a len cap] w fun e w' => e = .returned (.tuple #[.int .i64 (checkS ks gs ts l).1, .int .i64 (checkS ks gs ts l).2]) /\ Below w.heap.size w w' := by
 have HM := Hid.mk_ (ismade_calls w h h0)
 have HC : Hid (Calls Tryz.prog 74 #[.slice a len cap] w fun e w' => e = .returned (.tuple #[.int .i64 (check l).1, .int .i64 (check l).2]) /\ Below w.heap.size w w') := fcheck_calls a len cap l w hl hsz
 have hll := hl.1
 obtain ⟨ca, cb, hc⟩ : ∃ ca cb, check l = (ca, cb) := ⟨_, _, rfl⟩
 have HFF : Hid (cb = 0 -> ∀ X, Below w.heap.size w X -> Calls Tryz.prog 75 #[.pointer (some ⟨B, 0, none⟩), .slice a len cap] X fun e w' => e = .returned (.int .i64 (firstS ks gs ts l)) /\ Below X.heap.size X w') := fun hz X hX => by
  have hc2 : (check l).2 = 0 := by rw [hc]; exact hz
  have h20 := ((check_ok l).1 hc2).1
  exact firstfault_any X (h.below hX) h0 a len cap l (hl.below hX) hlie (by omega) (type_known (kinds_rightS ((check_ok l).1 hc2).2))
 unfold checkS
 rw [hc] at HC ⊢
 dsimp only at HC ⊢
 generalize firstS ks gs ts l = ff at *
 rw [hll]
 have hli : (len : Int) <= 4398046511104 := by omega
 clear h hl hlie hc hll
 by_cases d0 : cb ≠ 0
 ·rw [if_pos d0]
  have e0 : (cb == 0) = false := by simpa using d0
  have e1 : (cb != 0) = true := by simp [bne, e0]
  clear HFF
  go_enter Tryz.func42, Tryz.ntmps42
  go_wp2_with fail
  refine HM.out.mono ?_
  rintro e W ⟨rfl, rfl⟩
  go_wp2_with fail
  refine HC.out.mono ?_
  rintro e W1 ⟨rfl, hB1⟩
  have HB1 := Hid.mk_ hB1
  clear hB1 HC HM
  go_wp2
  go_ret2
  exact ⟨rfl, HB1.out⟩
 ·rw [if_neg d0]
  have d0 : cb = 0 := Classical.not_not.1 d0
  subst d0
  have e1 : ((0 : Int) != 0) = false := rfl
  have HF := Hid.mk_ (HFF.out rfl)
  clear HFF
  by_cases d1 : ff ≠ 2049
  ·rw [if_pos d1]
   have e2 : (ff == 2049) = false := by simpa using d1
   have e3 : (ff != 2049) = true := by simp [bne, e2]
   go_enter Tryz.func42, Tryz.ntmps42
   go_wp2_with fail
   refine HM.out.mono ?_
   rintro e W ⟨rfl, rfl⟩
   go_wp2_with fail
   refine HC.out.mono ?_
   rintro e W1 ⟨rfl, hB1⟩
   have HB1 := Hid.mk_ hB1
   have HF1 := HF.out W1 hB1
   clear hB1 HC HM HF
   go_wp2_with fail
   refine HF1.mono ?_
   rintro e W2 ⟨rfl, hB2⟩
   have HB2 := Hid.mk_ (HB1.out.trans (hB2.mono HB1.out.size))
   clear hB2 HF1
   go_wp2
   go_ret2
   exact ⟨rfl, HB2.out⟩
  ·rw [if_neg d1]
   have d1 : ff = 2049 := Classical.not_not.1 d1
   subst d1
   have e3 : ((2049 : Int) != 2049) = false := rfl
   go_enter Tryz.func42, Tryz.ntmps42
   go_wp2_with fail
   refine HM.out.mono ?_
   rintro e W ⟨rfl, rfl⟩
   go_wp2_with fail
   refine HC.out.mono ?_
   rintro e W1 ⟨rfl, hB1⟩
   have HB1 := Hid.mk_ hB1
   have HF1 := HF.out W1 hB1
   clear hB1 HC HM HF
   go_wp2_with fail
   refine HF1.mono ?_
   rintro e W2 ⟨rfl, hB2⟩
   have HB2 := Hid.mk_ (HB1.out.trans (hB2.mono HB1.out.size))
   clear hB2 HF1
   go_wp2
   go_ret2
   exact ⟨rfl, HB2.out⟩
end Go.Proofs.YtbkpehfaofhmaaaGreatDoor

/- DBBfs: words by their length and then type by type; a search through words, the short ones first, finds the least. -/
namespace Go.Proofs.YtbkpehfaofhmaaaGreatDoor
noncomputable def code (P : Nat -> Prop) : List Nat -> Nat
 | [] => 0
 | q :: l => (open Classical in if P q then 1 else 0) + 2 * code P l
end Go.Proofs.YtbkpehfaofhmaaaGreatDoor
