/-
  PROVED HERE: what the texts DBHouseE, DBValidS, DBMayP, DBMayC, DBIns say (each has its own words below).
-/
import Derived.Test.YtbkpehfaofhmaaaGreatDoorCB33
import Derived.Test.YtbkpehfaofhmaaaGreatDoorCB19
import Derived.Test.YtbkpehfaofhmaaaGreatDoorCB22
import Derived.Test.YtbkpehfaofhmaaaGreatDoorCB24
import Derived.Test.YtbkpehfaofhmaaaGreatDoorCB23
import Derived.Shelf.Spec.SlicesInsertGrow
import Derived.Shelf.Slices.SearchI
/- DBHouseE: what the house's expressions say of words; what Check of the house's answers of the least documents. -/
namespace Go.Proofs.YtbkpehfaofhmaaaGreatDoor
open Go.RowKit
theorem pow_ones {P : Int -> Prop} : ∀ (m : Nat) (w : List Int), LPow (fun v => ∃ a, v = [a] /\ P a) m w ↔ (w.length = m /\ ∀ a ∈ w, P a) := by
 intro m
 induction m with
 | zero =>
  intro w
  rw [LPow]
  constructor
  ·rintro rfl
   exact ⟨rfl, fun a h => by cases h⟩
  ·exact fun h => List.length_eq_zero_iff.1 h.1
 | succ m ih =>
  intro w
  rw [LPow]
  constructor
  ·rintro ⟨u, v, rfl, ⟨a, rfl, ha⟩, hv⟩
   obtain ⟨h1, h2⟩ := (ih v).1 hv
   refine ⟨by rw [List.length_append, List.length_singleton]; omega, fun b hb => ?_⟩
   rcases List.mem_append.1 hb with hb | hb
   ·rw [List.mem_singleton] at hb; subst hb; exact ha
   ·exact h2 b hb
  ·rintro ⟨h1, h2⟩
   cases w with
   | nil => cases h1
   | cons a r =>
    exact ⟨[a], r, rfl, ⟨a, rfl, h2 a (List.mem_cons_self ..)⟩, (ih r).2 ⟨by rw [List.length_cons] at h1; omega, fun b hb => h2 b (List.mem_cons_of_mem _ hb)⟩⟩
theorem lang_inner (gs : List Grp) (nm : ByteArray) : (fun v => ∃ x ∈ [node 1 nm []], Lang kindT (fun t => maskG gs (nameT t)) subs 199 x v) = fun v => ∃ a, v = [a] /\ takes (maskG gs nm) a = true := by
 funext v
 refine propext ⟨?_, ?_⟩
 ·rintro ⟨x, hx, h⟩
  rw [List.mem_singleton] at hx
  subst hx
  rw [Lang, if_pos (show kindT (node 1 nm []) = 1 from rfl)] at h
  exact h
 ·intro h
  refine ⟨_, List.mem_singleton.2 rfl, ?_⟩
  rw [Lang, if_pos (show kindT (node 1 nm []) = 1 from rfl)]
  exact h
theorem lang_plusN (gs : List Grp) (s nm : ByteArray) (w : List Int) : LangD gs 200 (node 5 s [node 1 nm []]) w ↔ (w ≠ [] /\ ∀ a ∈ w, takes (maskG gs nm) a = true) := by
 have e : LangD gs 200 (node 5 s [node 1 nm []]) w ↔ ∃ m, LPow (fun v => ∃ x ∈ [node 1 nm []], Lang kindT (fun t => maskG gs (nameT t)) subs 199 x v) (m + 1) w := by
  unfold LangD
  rw [Lang, if_neg (show ¬ kindT (node 5 s [node 1 nm []]) = 1 by rw [kindT_node]; decide), if_neg (show ¬ kindT (node 5 s [node 1 nm []]) = 2 by rw [kindT_node]; decide), if_neg (show ¬ kindT (node 5 s [node 1 nm []]) = 3 by rw [kindT_node]; decide), if_neg (show ¬ kindT (node 5 s [node 1 nm []]) = 4 by rw [kindT_node]; decide), if_pos (show kindT (node 5 s [node 1 nm []]) = 5 from rfl)]
  exact Iff.rfl
 rw [e, lang_inner]
 constructor
 ·rintro ⟨m, h⟩
  obtain ⟨h1, h2⟩ := (pow_ones _ _).1 h
  exact ⟨fun e => (by rw [e] at h1; cases h1), h2⟩
 ·rintro ⟨h1, h2⟩
  refine ⟨w.length - 1, (pow_ones _ _).2 ⟨?_, h2⟩⟩
  have : w.length ≠ 0 := fun e => h1 (List.length_eq_zero_iff.1 e)
  omega
theorem lang_starN (gs : List Grp) (s nm : ByteArray) (w : List Int) : LangD gs 200 (node 4 s [node 1 nm []]) w ↔ ∀ a ∈ w, takes (maskG gs nm) a = true := by
 have e : LangD gs 200 (node 4 s [node 1 nm []]) w ↔ ∃ m, LPow (fun v => ∃ x ∈ [node 1 nm []], Lang kindT (fun t => maskG gs (nameT t)) subs 199 x v) m w := by
  unfold LangD
  rw [Lang, if_neg (show ¬ kindT (node 4 s [node 1 nm []]) = 1 by rw [kindT_node]; decide), if_neg (show ¬ kindT (node 4 s [node 1 nm []]) = 2 by rw [kindT_node]; decide), if_neg (show ¬ kindT (node 4 s [node 1 nm []]) = 3 by rw [kindT_node]; decide), if_pos (show kindT (node 4 s [node 1 nm []]) = 4 from rfl)]
  exact Iff.rfl
 rw [e, lang_inner]
 constructor
 ·rintro ⟨m, h⟩
  exact ((pow_ones _ _).1 h).2
 ·intro h
  exact ⟨w.length, (pow_ones _ _).2 ⟨rfl, h⟩⟩
def gsH : List Grp := namesD houseL houseG
def blockB : ByteArray := ⟨#[98, 108, 111, 99, 107]⟩
theorem tree_block : outTree houseW = node 5 ⟨#[]⟩ [node 1 blockB []] := by kernel_rfl
theorem tree_text : outTree textS = node 4 ⟨#[]⟩ [node 1 textB []] := by kernel_rfl
theorem mask_block : maskG gsH blockB = 190 := by kernel_rfl
theorem mask_text : maskG gsH textB = 1 := by kernel_rfl
theorem words_block (w : List Int) : LangD gsH 200 (outTree houseW) w ↔ (w ≠ [] /\ ∀ a ∈ w, takes 190 a = true) := by rw [tree_block, lang_plusN, mask_block]
theorem words_text (w : List Int) : LangD gsH 200 (outTree textS) w ↔ ∀ a ∈ w, takes 1 a = true := by rw [tree_text, lang_starN, mask_text]
theorem house_kinds {w : World} {B : Nat} (h : MadeS w B houseW houseL houseG) : ∃ g c ng nc ks, SchAt w B g c ng nc ks gsH (treesOf houseW houseL) /\ ks.length = 8 /\ ∀ i, specOf ks i = ((zeroS :: houseL)[i]?).getD zeroS := by
 obtain ⟨g, c, ng, nc, ks, h1, h2⟩ := h
 refine ⟨g, c, ng, nc, ks, h1, ?_, fun i => ?_⟩
 ·have := congrArg List.length h2
  rw [List.length_map] at this
  exact this
 ·unfold specOf
  rw [<- List.getElem?_map, h2]
def openP : Tok := ⟨1, 1, 0, 0⟩
def closeT : Tok := ⟨2, 0, 0, 0⟩
theorem wordF_lang {gs : List Grp} {t : DataW Unit} {l : List Tok} {i : Int} {ps : List Int} (h : LangD gs 200 t (wordD l ps)) : wordF gs t l i ps = 2049 := by
 unfold wordF
 rw [if_pos h]
theorem faultD_fit {ks : List KindD} {gs : List Grp} {t : DataW Unit} {s : SpecD} {l : List Tok} {i : Int} (hf : ∀ p ∈ kids l i, fitsB ks s ((l[p.toNat]?).getD ⟨0, 0, 0, 0⟩) = true) : faultD ks gs t s l i = wordF gs t l i (kids l i) := by
 unfold faultD
 have key : ∀ (f j : Nat), j + f = (kids l i).length -> faultK ks gs t s l i (kids l i) j f = wordF gs t l i (kids l i) := by
  intro f
  induction f with
  | zero => intro j _; rw [faultK]
  | succ f ih =>
   intro j hj
   have hm : (kids l i).getD j 0 ∈ kids l i := by
    rw [List.getD_eq_getElem?_getD, List.getElem?_eq_getElem (show j < (kids l i).length by omega)]
    exact List.getElem_mem _
   rw [faultK, if_pos (hf _ hm)]
   exact ih (j + 1) (by omega)
 exact key _ 0 (by omega)
theorem check_pp : check [openP, closeT] = (2, 0) := by decide
theorem check_para {ks : List KindD} (h8 : ks.length = 8) (hs : ∀ i, specOf ks i = ((zeroS :: houseL)[i]?).getD zeroS) : checkS ks gsH (treesOf houseW houseL) [openP, closeT] = (2, 0) := by
 have k1 : kids [openP, closeT] (-1) = [0] := by decide
 have k2 : kids [openP, closeT] 0 = [] := by decide
 have f1 : faultD ks gsH ((treesOf houseW houseL).getD 0 emptyT) (specOf ks 0) [openP, closeT] (-1) = 2049 := by
  rw [faultD_fit, k1]
  ·exact wordF_lang ((words_block _).2 ⟨by decide, by decide⟩)
  ·intro p hp
   rw [k1, List.mem_singleton] at hp
   subst hp
   show fitsB ks (specOf ks 0) openP = true
   unfold fitsB
   rw [if_neg (by decide), if_pos (by rw [h8]; decide), hs]
   decide
 have f2 : faultAt ks gsH (treesOf houseW houseL) [openP, closeT] 0 = 2049 := by
  unfold faultAt
  have ht : typeAt [openP, closeT] ((0 : Nat) : Int) = 1 := by decide
  rw [ht, faultD_fit]
  ·show wordF gsH (outTree textS) [openP, closeT] 0 (kids [openP, closeT] 0) = 2049
   rw [k2]
   exact wordF_lang ((words_text _).2 (fun a ha => by cases ha))
  ·intro p hp
   have : kids [openP, closeT] ((0 : Nat) : Int) = [] := k2
   rw [this] at hp
   cases hp
 have ff : firstS ks gsH (treesOf houseW houseL) [openP, closeT] = 2049 := by
  unfold firstS
  rw [f1]
  show foldF ks gsH (treesOf houseW houseL) [openP, closeT] 0 2 2049 = 2049
  rw [foldF, if_neg (by decide), if_pos (by decide), f2, foldF, if_neg (by decide), if_neg (by decide), foldF]
  decide
 unfold checkS
 rw [check_pp, if_neg (by decide), ff, if_neg (by decide)]
 rfl
end Go.Proofs.YtbkpehfaofhmaaaGreatDoor

/- DBValidS: Check of a schema finds no fault just if all that stands in each TOpen fits, and is a word. -/
namespace Go.Proofs.YtbkpehfaofhmaaaGreatDoor
open Go.RowKit
def WellIn (ks : List KindD) (gs : List Grp) (t : DataW Unit) (s : SpecD) (l : List Tok) (i : Int) : Prop := (∀ p ∈ kids l i, fitsB ks s ((l[p.toNat]?).getD ⟨0, 0, 0, 0⟩) = true) /\ LangD gs 200 t (wordD l (kids l i))
def WellAt (ks : List KindD) (gs : List Grp) (ts : List (DataW Unit)) (l : List Tok) (i : Nat) : Prop := WellIn ks gs (ts.getD (typeAt l i).toNat emptyT) (specOf ks (typeAt l i).toNat) l i
def WellD (ks : List KindD) (gs : List Grp) (ts : List (DataW Unit)) (l : List Tok) : Prop := WellIn ks gs (ts.getD 0 emptyT) (specOf ks 0) l (-1) /\ ∀ i, kindAt l i = 1 -> WellAt ks gs ts l i
theorem partner_lt (l : List Tok) (i : Int) : partner l i < l.length \/ partner l i = -1 := by
 unfold partner
 split
 ·exact .inr rfl
 ·rename_i h
  split
  ·by_cases hq : around l i = -1
   ·exact .inr hq
   ·obtain ⟨n, rfl⟩ : ∃ n : Nat, i = (n : Int) := ⟨i.toNat, by omega⟩
    have := (opened_lt l n (by omega) _ (around_in l n hq)).2
    exact .inl (by omega)
  ·split
   ·rcases partner_fits l i (i.toNat + 1) (l.length - (i.toNat + 1)) with h1 | ⟨j, h1, h2⟩
    ·exact .inr h1
    ·rw [h1]; exact .inl (by omega)
   ·exact .inr rfl
theorem wordF_le {gs : List Grp} {t : DataW Unit} {l : List Tok} {i : Int} {ps : List Int} (hl : l.length <= 2048) (hp : ∀ p ∈ ps, p < 2049) : wordF gs t l i ps <= 2049 /\ (wordF gs t l i ps = 2049 -> LangD gs 200 t (wordD l ps)) := by
 unfold wordF
 split
 ·rename_i h
  exact ⟨Int.le_refl _, fun _ => h⟩
 ·split
  ·rename_i hb
   have : ps.getD (begN gs t (wordD l ps)) 0 ∈ ps := by
    rw [List.getD_eq_getElem?_getD, List.getElem?_eq_getElem hb]
    exact List.getElem_mem _
   have := hp _ this
   exact ⟨by omega, fun e => by omega⟩
  ·split
   ·exact ⟨by omega, fun e => by omega⟩
   ·have := partner_lt l i
    exact ⟨by omega, fun e => by omega⟩
theorem faultK_le {ks : List KindD} {gs : List Grp} {t : DataW Unit} {s : SpecD} {l : List Tok} {i : Int} {ps : List Int} (hl : l.length <= 2048) (hp : ∀ p ∈ ps, p < 2049) : ∀ (f j : Nat), j + f = ps.length -> faultK ks gs t s l i ps j f <= 2049 /\ (faultK ks gs t s l i ps j f = 2049 -> (∀ m, j <= m -> m < ps.length -> fitsB ks s ((l[(ps.getD m 0).toNat]?).getD ⟨0, 0, 0, 0⟩) = true) /\ LangD gs 200 t (wordD l ps)) := by
 intro f
 induction f with
 | zero =>
  intro j hj
  rw [faultK]
  have := wordF_le (gs := gs) (t := t) (i := i) hl hp
  exact ⟨this.1, fun e => ⟨fun m h1 h2 => by omega, this.2 e⟩⟩
 | succ f ih =>
  intro j hj
  have hm : ps.getD j 0 ∈ ps := by
   rw [List.getD_eq_getElem?_getD, List.getElem?_eq_getElem (show j < ps.length by omega)]
   exact List.getElem_mem _
  have hm' := hp _ hm
  rw [faultK]
  split
  ·rename_i hfit
   obtain ⟨h1, h2⟩ := ih (j + 1) (by omega)
   refine ⟨h1, fun e => ?_⟩
   obtain ⟨h3, h4⟩ := h2 e
   refine ⟨fun m h5 h6 => ?_, h4⟩
   by_cases e' : m = j
   ·subst e'; exact hfit
   ·exact h3 m (by omega) h6
  ·exact ⟨by omega, fun e => by omega⟩
theorem faultD_iff {ks : List KindD} {gs : List Grp} {t : DataW Unit} {s : SpecD} {l : List Tok} {i : Int} (hl : l.length <= 2048) : faultD ks gs t s l i <= 2049 /\ (faultD ks gs t s l i = 2049 ↔ WellIn ks gs t s l i) := by
 have hp : ∀ p ∈ kids l i, p < 2049 := fun p hp => by have := (kids_in l i p hp).2; omega
 have h := faultK_le (ks := ks) (gs := gs) (t := t) (s := s) (i := i) hl hp (kids l i).length 0 (by omega)
 refine ⟨h.1, fun e => ?_, fun ⟨h1, h2⟩ => ?_⟩
 ·obtain ⟨h1, h2⟩ := h.2 e
  refine ⟨fun p hp => ?_, h2⟩
  obtain ⟨m, hm⟩ := List.getElem?_of_mem hp
  have := h1 m (Nat.zero_le _) (List.getElem?_eq_some_iff.1 hm).1
  rw [List.getD_eq_getElem?_getD, hm] at this
  exact this
 ·rw [faultD_fit h1]
  exact wordF_lang h2
theorem foldF_iff {ks : List KindD} {gs : List Grp} {ts : List (DataW Unit)} {l : List Tok} (hl : l.length <= 2048) : ∀ (n i : Nat) (f : Int), i + n = l.length -> f <= 2049 -> (foldF ks gs ts l i n f = 2049 ↔ (f = 2049 /\ ∀ q, i <= q -> q < l.length -> kindAt l q = 1 -> WellAt ks gs ts l q)) := by
 intro n
 induction n with
 | zero =>
  intro i f hi hf
  rw [foldF]
  exact ⟨fun e => ⟨e, fun q h1 h2 => by omega⟩, fun e => e.1⟩
 | succ n ih =>
  intro i f hi hf
  rw [foldF]
  split
  ·exact ⟨fun e => by omega, fun e => by omega⟩
  ·split
   ·rename_i hk
    obtain ⟨h1, h2⟩ := faultD_iff (ks := ks) (gs := gs) (t := ts.getD (typeAt l i).toNat emptyT) (s := specOf ks (typeAt l i).toNat) (i := (i : Int)) hl
    have hfa : faultAt ks gs ts l i <= 2049 /\ (faultAt ks gs ts l i = 2049 ↔ WellAt ks gs ts l i) := ⟨h1, h2⟩
    rw [ih (i + 1) _ (by omega) (by omega)]
    constructor
    ·rintro ⟨e1, e2⟩
     refine ⟨by omega, fun q q1 q2 q3 => ?_⟩
     by_cases e : q = i
     ·subst e; exact hfa.2.1 (by omega)
     ·exact e2 q (by omega) q2 q3
    ·rintro ⟨e1, e2⟩
     have := hfa.2.2 (e2 i (Nat.le_refl _) (by omega) hk)
     exact ⟨by omega, fun q q1 q2 q3 => e2 q (by omega) q2 q3⟩
   ·rename_i hk
    rw [ih (i + 1) f (by omega) hf]
    constructor
    ·rintro ⟨e1, e2⟩
     refine ⟨e1, fun q q1 q2 q3 => ?_⟩
     by_cases e : q = i
     ·subst e; exact absurd q3 hk
     ·exact e2 q (by omega) q2 q3
    ·rintro ⟨e1, e2⟩
     exact ⟨e1, fun q q1 q2 q3 => e2 q (by omega) q2 q3⟩
theorem firstS_iff {ks : List KindD} {gs : List Grp} {ts : List (DataW Unit)} {l : List Tok} (hl : l.length <= 2048) : firstS ks gs ts l = 2049 ↔ WellD ks gs ts l := by
 unfold firstS WellD
 have h := faultD_iff (ks := ks) (gs := gs) (t := ts.getD 0 emptyT) (s := specOf ks 0) (i := -1) hl
 rw [foldF_iff hl _ _ _ (by omega) h.1, h.2]
 constructor
 ·rintro ⟨h1, h2⟩
  refine ⟨h1, fun i hk => ?_⟩
  by_cases hi : i < l.length
  ·exact h2 i (Nat.zero_le _) hi hk
  ·unfold kindAt at hk
   rw [List.getElem?_eq_none (by omega)] at hk
   exact absurd hk (by decide)
 ·rintro ⟨h1, h2⟩
  exact ⟨h1, fun q _ _ hk => h2 q hk⟩
theorem checkS_iff {ks : List KindD} {gs : List Grp} {ts : List (DataW Unit)} {l : List Tok} : (checkS ks gs ts l).2 = 0 ↔ ((check l).2 = 0 /\ WellD ks gs ts l) := by
 unfold checkS
 by_cases h0 : (check l).2 ≠ 0
 ·rw [if_pos h0]
  exact ⟨fun e => absurd e h0, fun e => absurd e.1 h0⟩
 ·have h0' : (check l).2 = 0 := Classical.not_not.1 h0
  have hl := ((check_ok l).1 h0').1
  rw [if_neg h0, <- firstS_iff hl]
  split
  ·rename_i h1
   exact ⟨fun e => (by cases e), fun e => absurd e.2 h1⟩
  ·rename_i h1
   exact ⟨fun _ => ⟨h0', Classical.not_not.1 h1⟩, fun _ => rfl⟩
end Go.Proofs.YtbkpehfaofhmaaaGreatDoor

/- DBMayP: plain facts on a document with one rune put in: what is open, what stands in what; no program in it. -/
namespace Go.Proofs.YtbkpehfaofhmaaaGreatDoor
open Go.RowKit
def treeAt (ts : List (DataW Unit)) (l : List Tok) (i : Int) : DataW Unit := if i = -1 then ts.getD 0 emptyT else ts.getD (typeAt l i).toNat emptyT
def specAt (ks : List KindD) (l : List Tok) (i : Int) : SpecD := if i = -1 then specOf ks 0 else specOf ks (typeAt l i).toNat
def PlaceP (l : List Tok) (i : Int) : Prop := i = -1 \/ ∃ m : Nat, i = (m : Int) /\ kindAt l m = 1
theorem wellD_places {ks : List KindD} {gs : List Grp} {ts : List (DataW Unit)} {l : List Tok} : WellD ks gs ts l ↔ ∀ i, PlaceP l i -> WellIn ks gs (treeAt ts l i) (specAt ks l i) l i := by
 unfold WellD
 constructor
 ·rintro ⟨h1, h2⟩ i (rfl | ⟨m, rfl, hm⟩)
  ·exact h1
  ·unfold treeAt specAt
   rw [if_neg (by omega), if_neg (by omega)]
   exact h2 m hm
 ·intro h
  refine ⟨h (-1) (.inl rfl), fun m hm => ?_⟩
  have := h (m : Int) (.inr ⟨m, rfl, hm⟩)
  unfold treeAt specAt at this
  rw [if_neg (by omega), if_neg (by omega)] at this
  exact this
theorem around_place (l : List Tok) (n : Nat) (hn : n <= l.length) : PlaceP l (around l (n : Int)) := by
 by_cases h : around l (n : Int) = -1
 ·exact .inl h
 ·have h1 := around_in l n h
  have h2 := (opened_lt l n hn _ h1).1
  exact .inr ⟨(around l (n : Int)).toNat, by omega, opened_kind l n hn _ h1⟩
theorem kind_lt {l : List Tok} {m : Nat} (h : kindAt l m = 1) : m < l.length := Nat.lt_of_not_le fun e => by
 unfold kindAt at h
 rw [List.getElem?_eq_none e] at h
 exact absurd h (by decide)
end Go.Proofs.YtbkpehfaofhmaaaGreatDoor

/- DBMayC: schema's isValid. -/
namespace Go.Proofs.YtbkpehfaofhmaaaGreatDoor
open Go.RowKit
set_option maxRecDepth 100000 in
set_option maxHeartbeats 400000 in
theorem isvalid_calls {B g c ng nc : Nat} {ks : List KindD} {gs : List Grp} {ts : List (DataW Unit)} (w : World) (h : SchAt w B g c ng nc ks gs ts) (h0 : 0 < ks.length) (a : Option Addr) (len cap : Nat) (l : List Tok) (hl : Toks w a len l) (hlie : Lies a len cap) (hsz : len <= 4398046511104) :
  Calls Tryz.prog 44 #[.pointer (some ⟨B, 0, none⟩), .slice a len cap] w fun e w' => e = .returned (.bool ((checkS ks gs ts l).2 == 0)) /\ Below w.heap.size w w' := by
 have HC := Hid.mk_ (scheck_any w h h0 a len cap l hl hlie hsz)
 obtain ⟨c1, hc1⟩ : ∃ c1, (checkS ks gs ts l).1 = c1 := ⟨_, rfl⟩
 obtain ⟨c2, hc2⟩ : ∃ c2, (checkS ks gs ts l).2 = c2 := ⟨_, rfl⟩
 rw [hc1, hc2] at HC
 rw [hc2]
 clear h hl hlie hc1 hc2
 go_enter Tryz.func44, Tryz.ntmps44
 go_wp2_with fail
 refine HC.out.mono ?_
 rintro e W ⟨rfl, hB⟩
 have HE := Hid.mk_ hB
 clear hB HC
 go_wp2
 go_ret
 first | exact HE.out | exact ⟨rfl, HE.out⟩
end Go.Proofs.YtbkpehfaofhmaaaGreatDoor

/- DBIns: slices.BinarySearch and slices.Insert (of one) at integers: what they return; only the row itself is turned. -/
namespace Go.Proofs.YtbkpehfaofhmaaaGreatDoor
open Go.RowKit
def iren : Go.Shelf.Ren := ⟨fun | 21 => 48 | 27 => 83 | 28 => 84 | 35 => 109 | 39 => 140 | n => n, fun | 22 => 59 | 3 => 3 | 4 => 4 | 0 => 0 | n => n, fun | n => n⟩
theorem ilays : Go.Proofs.Lays2.n21 Tryz.prog iren := {
 mixed := by kernel_rfl
 f21 := Tryz.func48.trans (congrArg some (by kernel_rfl))
 f27 := Tryz.func83.trans (congrArg some (by kernel_rfl))
 f28 := Tryz.func84.trans (congrArg some (by kernel_rfl))
 f35 := Tryz.func109.trans (congrArg some (by kernel_rfl))
 f39 := Tryz.func140.trans (congrArg some (by kernel_rfl))
 t0 := Tryz.underlying0
 a0 := Tryz.isAgg0
 z0 := Tryz.sizeOf0
 v0 := Tryz.zeroValue0
 t3 := Tryz.underlying3
 a3 := Tryz.isAgg3
 z3 := Tryz.sizeOf3
 v3 := Tryz.zeroValue3
 t4 := Tryz.underlying4
 a4 := Tryz.isAgg4
 z4 := Tryz.sizeOf4
 v4 := Tryz.zeroValue4
 t22 := Tryz.underlying59
 a22 := Tryz.isAgg59
 z22 := Tryz.sizeOf59
 v22 := Tryz.zeroValue59
 i3 := by kernel_rfl }
def bren : Go.Shelf.Ren := ⟨fun | 25 => 47 | 31 => 81 | 32 => 82 | 37 => 108 | n => n, fun | 22 => 59 | 3 => 3 | 4 => 4 | 40 => 138 | 0 => 0 | n => n, fun | n => n⟩
theorem blays : Go.Proofs.Lays2.n25 Tryz.prog bren := {
 mixed := by kernel_rfl
 f25 := Tryz.func47.trans (congrArg some (by kernel_rfl))
 f31 := Tryz.func81.trans (congrArg some (by kernel_rfl))
 f32 := Tryz.func82.trans (congrArg some (by kernel_rfl))
 f37 := Tryz.func108.trans (congrArg some (by kernel_rfl))
 t0 := Tryz.underlying0
 a0 := Tryz.isAgg0
 z0 := Tryz.sizeOf0
 v0 := Tryz.zeroValue0
 t3 := Tryz.underlying3
 a3 := Tryz.isAgg3
 z3 := Tryz.sizeOf3
 v3 := Tryz.zeroValue3
 t4 := Tryz.underlying4
 a4 := Tryz.isAgg4
 z4 := Tryz.sizeOf4
 v4 := Tryz.zeroValue4
 t22 := Tryz.underlying59
 a22 := Tryz.isAgg59
 z22 := Tryz.sizeOf59
 v22 := Tryz.zeroValue59
 t40 := Tryz.underlying138
 a40 := Tryz.isAgg138
 z40 := Tryz.sizeOf138
 v40 := Tryz.zeroValue138 }
theorem below_drewN (w : World) (q : Nat) : Below w.heap.size w (w.drewN q) := ⟨rfl, rfl, rfl, Nat.le_refl _, fun _ _ => rfl⟩
theorem size_setCells' (b : Nat) : ∀ (vs : List Value) (o : Nat) (w : World), (w.setCells b o vs).heap.size = w.heap.size
 | [], _, _ => rfl
 | v :: r, o, w => by rw [World.setCells, size_setCells' b r]; simp
theorem block_setCells (b : Nat) : ∀ (vs : List Value) (o : Nat) (w : World) (k : Nat), k ≠ b -> (w.setCells b o vs).heap[k]? = w.heap[k]?
 | [], _, _, _, _ => rfl
 | v :: r, o, w, k, h => by rw [World.setCells, block_setCells b r _ _ k h]; exact Below.heap_setCell w _ v k (fun e => h e)
theorem below_setCells {B : Nat} {w w' : World} (h : Below B w w') {b : Nat} (hb : B <= b) (vs : List Value) (o : Nat) : Below B w (w'.setCells b o vs) := by
 have key : ∀ (vs : List Value) (o : Nat) (X : World), (X.setCells b o vs).os = X.os /\ (X.setCells b o vs).tape = X.tape /\ (X.setCells b o vs).output = X.output := by
  intro vs
  induction vs with
  | nil => intro o X; exact ⟨rfl, rfl, rfl⟩
  | cons v r ih =>
   intro o X
   rw [World.setCells]
   obtain ⟨h1, h2, h3⟩ := ih (o + 1) (X.setCell ⟨b, o, none⟩ v)
   exact ⟨h1.trans rfl, h2.trans rfl, h3.trans rfl⟩
 obtain ⟨k1, k2, k3⟩ := key vs o w'
 exact ⟨k1.trans h.os, k2.trans h.tape, k3.trans h.output, by rw [size_setCells']; exact h.size, fun k hk => (block_setCells b vs o w' k (by omega)).trans (h.block k hk)⟩
theorem search_calls (b o n c : Nat) (zs : List Int) (x : Int) (w : World) (h : Ints w (some ⟨b, o, none⟩) n zs) (hn : n <= 5000) (hs : zs.Pairwise (· < ·)) :
  Calls Tryz.prog 47 #[.slice (some ⟨b, o, none⟩) n c, .int .i64 x] w fun e w' => ∃ r : Bool, e = .returned (.tuple #[.int .i64 ((zs.countP (· < x) : Nat) : Int), .bool r]) /\ Below w.heap.size w w' := by
 have hl := h.1
 refine (Any.slices_BinarySearch_int blays b o n c zs x w (by omega) (by omega) (fun j hj => ?_) ?_).mono ?_
 ·obtain ⟨b', o', p, h1, h2, h3⟩ := h.at (i := j) (by omega)
  cases h1
  rw [List.getD_eq_getElem?_getD, h2]
  exact h3 w (Below.refl _ _)
 ·rw [List.take_of_length_le (by omega)]
  exact hs.imp fun h => by omega
 ·rintro e w' ⟨rfl, q, rfl⟩
  rw [List.take_of_length_le (by omega)]
  exact ⟨_, rfl, below_drewN w q⟩
theorem search_nil (c : Nat) (a : Option Addr) (x : Int) (w : World) : Calls Tryz.prog 47 #[.slice a 0 c, .int .i64 x] w fun e w' => ∃ r : Bool, e = .returned (.tuple #[.int .i64 0, .bool r]) /\ Below w.heap.size w w' := by
 go_enter Tryz.func47, Tryz.ntmps47
 go_wp2
 go_loopg [7, 8] 1 (fun _ u v wr => u = .int .i64 0 /\ v = .int .i64 0 /\ wr = w)
 case atStart => exact ⟨rfl, rfl, rfl⟩
 case round =>
  obtain ⟨rfl, rfl, rfl⟩ := hrel
  go_wp2
  go_ret2
  exact ⟨_, rfl, ⟨rfl, rfl, rfl, Nat.le_refl _, fun _ _ => rfl⟩⟩
theorem ints_one (zs : List Int) : ∀ v ∈ intsV zs, v.oneCell' = true := fun v hv => by
 unfold intsV at hv
 obtain ⟨z, _, rfl⟩ := List.mem_map.1 hv
 rfl
theorem ints_of_cells {w : World} {b n : Nat} {zs : List Int} (hl : zs.length = n) (hn : n <= 9223372036854775807) (hb : b < w.heap.size) (h : ∀ (j : Nat) (z : Int), zs[j]? = some z -> w.cell? ⟨b, j, none⟩ = some (.int .i64 z)) : Ints w (some ⟨b, 0, none⟩) n zs :=
 ⟨hl, hn, .inr ⟨b, 0, rfl, hb, fun i x hx => by rw [Nat.zero_add]; exact h i x hx⟩⟩
theorem cell_block {w : World} {b j : Nat} {cs : Array Value} {t : TypeId} {f : Nat × Nat} (h : w.heap[b]? = some (.cells cs t f)) : w.cell? ⟨b, j, none⟩ = cs[j]? := by
 simp [World.cell?, h]
theorem put_at {zs : List Int} {i : Nat} {x : Int} (hi : i <= zs.length) : ∀ (j : Nat) (z : Int), (zs.take i ++ x :: zs.drop i)[j]? = some z -> (j < i /\ zs[j]? = some z) \/ (j = i /\ z = x) \/ (i < j /\ (zs.drop i)[j - (i + 1)]? = some z) := fun j z hz => by
 by_cases h1 : j < i
 ·rw [List.getElem?_append_left (by rw [List.length_take]; omega), List.getElem?_take_of_lt h1] at hz
  exact .inl ⟨h1, hz⟩
 ·rw [List.getElem?_append_right (by rw [List.length_take]; omega), List.length_take, Nat.min_eq_left hi] at hz
  by_cases h2 : j = i
  ·subst h2
   rw [Nat.sub_self] at hz
   cases hz
   exact .inr (.inl ⟨rfl, rfl⟩)
  ·rw [show j - i = (j - (i + 1)) + 1 by omega, List.getElem?_cons_succ] at hz
   exact .inr (.inr ⟨by omega, hz⟩)
theorem insert_calls (base : Nat) (wa : Option Addr) (n c : Nat) (zs : List Int) (i : Nat) (x : Int) (vb : Nat) (w : World) (hO : w.ownsRow base 3 1 (.slice wa n c) n (intsV zs)) (hi : i <= n) (hn : n <= 5000) (hv : w.heap[vb]? = some (.cells #[.int .i64 x] 3 (0, 0))) (hne : ∀ b, wa = some b -> b.block ≠ vb) (hbase : base <= w.heap.size) :
  Calls Tryz.prog 48 #[.slice wa n c, .int .i64 (i : Int), .slice (some ⟨vb, 0, none⟩) 1 1] w fun e w' => ∃ a' c', e = .returned (.slice a' (n + 1) c') /\ Ints w' a' (n + 1) (zs.take i ++ x :: zs.drop i) /\ Below base w w' := by
 have hzl : zs.length = n := by
  have := hO.1
  unfold intsV at this
  rw [List.length_map] at this
  omega
 have hil : (intsV zs).length = n := by unfold intsV; rw [List.length_map]; exact hzl
 have hol : (zs.take i ++ x :: zs.drop i).length = n + 1 := by rw [List.length_append, List.length_cons, List.length_take, List.length_drop]; omega
 have hvs : ∀ (j : Nat) v, [Value.int .i64 x][j]? = some v -> w.cell? ⟨vb, 0 + j, none⟩ = some v := fun j v hj => by
  rw [Nat.zero_add, cell_block hv]
  rw [List.getElem?_toArray]
  exact hj
 have h1v : ∀ v ∈ [Value.int .i64 x], v.oneCell' = true := fun v hv => by rw [List.mem_singleton] at hv; subst hv; rfl
 have hdrop : ∀ j, ((intsV zs).drop i)[j]? = ((zs.drop i)[j]?).map (Value.int .i64) := fun j => by unfold intsV; rw [<- List.map_drop, List.getElem?_map]
 have htake : ∀ j, ((intsV zs).take i)[j]? = ((zs.take i)[j]?).map (Value.int .i64) := fun j => by unfold intsV; rw [<- List.map_take, List.getElem?_map]
 by_cases hend : i = n
 ·subst hend
  have e1 : zs.take i ++ x :: zs.drop i = zs ++ [x] := by rw [List.take_of_length_le (by omega), List.drop_eq_nil_of_le (by omega)]
  rw [e1] at hol ⊢
  by_cases hroom : i + 1 <= c
  ·rcases hO.2 with ⟨e, h0⟩ | ⟨g, cap, cur, e, hb, hg, hc1, hc2, hcs, hct⟩
   ·cases e; omega
   ·injection e with e1 e2 e3
    subst e1 e3
    rw [Nat.mul_one] at hcs hct
    refine (Any2.slices_Insert_int_end_room ilays g 0 i c vb 0 1 1 [.int .i64 x] w (by omega) hroom (by unfold maxLen at hc2; omega) rfl (fun j hj => ?_) (fun j hj => ?_) hvs h1v).mono ?_
    ·rw [cell_block hg, Array.getElem?_eq_getElem (by omega)]; rfl
    ·simp [World.frozen?, hg]
    ·rintro e w' ⟨rfl, rfl⟩
     have hgl : g < w.heap.size := (Array.getElem?_eq_some_iff.1 hg).1
     refine ⟨_, _, rfl, ints_of_cells hol (by omega) (by rw [size_setCells']; exact hgl) (fun j z hz => ?_), below_setCells (Below.refl _ _) hb _ _⟩
     by_cases hj : j < i
     ·rw [World.cell?_setCells_out g _ _ w ⟨g, j, none⟩ (fun _ _ => .inl (by show j < 0 + i; omega)), cell_block hg]
      rw [List.getElem?_append_left (by omega)] at hz
      have := congrArg (·[j]?) hct
      simp only [List.getElem?_take_of_lt hj, Array.getElem?_toList] at this
      rw [this]
      unfold intsV
      rw [List.getElem?_map, hz]
      rfl
     ·have hjl := (List.getElem?_eq_some_iff.1 hz).1
      obtain rfl : j = i := by omega
      rw [List.getElem?_append_right (by omega), hzl, Nat.sub_self] at hz
      cases hz
      have := World.cell?_setCells_in g [.int .i64 x] (0 + j) w (fun q hq => ?_) 0 (by simp)
      ·rw [Nat.add_zero, Nat.zero_add] at this
       rw [Nat.zero_add]
       exact this
      ·rw [cell_block hg, Array.getElem?_eq_getElem (by simp at hq; omega)]; rfl
  ·have hnc : i <= c := by
    rcases hO.2 with ⟨e, h0⟩ | ⟨g, cap, cur, e, hb, hg, hc1, _⟩
    ·cases e; omega
    ·injection e with _ _ e3; omega
   refine (Any2.slices_Insert_int_end_grow ilays wa i c vb 0 1 1 (intsV zs) [.int .i64 x] w (by omega) hnc (by omega) (by omega) hil rfl (fun e => ?_) (fun a ha j v hj => ?_) hvs h1v).mono ?_
   ·rcases hO.2 with ⟨_, h0⟩ | ⟨g, cap, cur, e', _⟩
    ·exact h0
    ·injection e' with e1; rw [e] at e1; cases e1
   ·obtain ⟨g, cap, e', hc⟩ := owns_cell hO (by have := (List.getElem?_eq_some_iff.1 hj).1; omega)
    injection e' with e1
    rw [ha] at e1
    cases e1
    rw [show (⟨g, 0, none⟩ : Addr).add j = ⟨g, j, none⟩ by unfold Addr.add; split <;> simp_all]
    exact hc j v hj
   ·rintro e w' ⟨rfl, rfl⟩
    have hal := World.alloc_heap_new w.drew (.cells ((intsV zs ++ [Value.int .i64 x]).toArray ++ Builtin.zeroCells (Value.int .i64 0).cells (grownCap w (i + 1) c (iren.t 3) - (i + 1))) (iren.t 3))
    refine ⟨_, _, rfl, ints_of_cells hol (by omega) (by rw [World.size_alloc]; show w.heap.size < w.heap.size + 1; omega) (fun j z hz => ?_), ?_⟩
    ·have hj := (List.getElem?_eq_some_iff.1 hz).1
     have e2 : intsV zs ++ [Value.int .i64 x] = intsV (zs ++ [x]) := by unfold intsV; rw [List.map_append]; rfl
     show World.cell? _ ⟨w.drew.heap.size, j, none⟩ = _
     rw [cell_block hal, Array.getElem?_append_left (by rw [e2]; unfold intsV; simp; omega), e2, List.getElem?_toArray]
     unfold intsV
     rw [List.getElem?_map, hz]
     rfl
    ·have : Below w.heap.size w w.drew := ⟨rfl, rfl, rfl, Nat.le_refl _, fun _ _ => rfl⟩
     exact (this.alloc (Nat.le_refl _) _).mono hbase
 ·have hlt : i < n := by omega
  obtain ⟨g, cap, e', hc⟩ := owns_cell hO (by omega)
  injection e' with e1 _ e3
  subst e1 e3
  have hcs : ∀ (j : Nat) v, (intsV zs)[j]? = some v -> w.cell? ⟨g, 0 + j, none⟩ = some v := fun j v hj => by rw [Nat.zero_add]; exact hc j v hj
  by_cases hroom : n + 1 <= c
  ·rcases hO.2 with ⟨e, h0⟩ | ⟨g', cap', cur, e, hb, hg, hc1, hc2, hcz, hct⟩
   ·cases e
   ·injection e with e1 _ e3
    injection e1 with e1
    injection e1 with e1
    subst e1 e3
    rw [Nat.mul_one] at hcz hct
    have hne' : vb ≠ g := fun e => hne _ rfl e.symm
    have hsome : ∀ j, j < c -> (w.cell? ⟨g, j, none⟩).isSome = true := fun j hj => by rw [cell_block hg, Array.getElem?_eq_getElem (by omega)]; rfl
    refine (Any2.slices_Insert_int_shift ilays g 0 n c i vb 0 1 1 (intsV zs) [.int .i64 x] w hlt (by omega) hroom (by unfold maxLen at hc2; omega) hne' hil rfl hcs (fun j hj => by rw [Nat.zero_add]; exact hsome j (by omega)) (fun j hj => by simp [World.frozen?, hg]) hvs (ints_one zs) h1v 3 3 1 cur.size (by simp [World.shape?, hv]) (by simp [World.shape?, hg]) (by omega) (by simp [World.frozen?, hv]) (by simp [World.frozen?, hv])).mono ?_
    rintro e w' ⟨rfl, rfl⟩
    have hgl : g < w.heap.size := (Array.getElem?_eq_some_iff.1 hg).1
    have hdl : ((intsV zs).drop i).length = n - i := by rw [List.length_drop, hil]
    have hd : Below w.heap.size w w.drew := ⟨rfl, rfl, rfl, Nat.le_refl _, fun _ _ => rfl⟩
    have hs2 : ∀ j, j < c -> ((w.drew.setCells g (0 + (i + 1)) ((intsV zs).drop i)).cell? ⟨g, j, none⟩).isSome = true := fun j hj => isSome_setCells g _ _ w.drew (fun q hq => by show (w.cell? _).isSome = true; exact hsome _ (by omega)) j (by show (w.cell? _).isSome = true; exact hsome j hj)
    refine ⟨_, _, rfl, ints_of_cells hol (by omega) (by rw [size_setCells', size_setCells']; exact hgl) (fun j z hz => ?_), below_setCells (below_setCells (hd.mono hbase) hb _ _) hb _ _⟩
    rcases put_at (by omega) j z hz with ⟨h1, h2⟩ | ⟨rfl, rfl⟩ | ⟨h1, h2⟩
    ·rw [World.cell?_setCells_out g _ _ _ ⟨g, j, none⟩ (fun _ _ => .inl (by show j < 0 + i; omega)), World.cell?_setCells_out g _ _ _ ⟨g, j, none⟩ (fun _ _ => .inl (by show j < 0 + (i + 1); omega))]
     show w.cell? _ = _
     refine hc j _ ?_
     unfold intsV
     rw [List.getElem?_map, h2]
     rfl
    ·have := World.cell?_setCells_in g [.int .i64 z] (0 + j) _ (fun q hq => by simp at hq; subst hq; rw [Nat.add_zero, Nat.zero_add]; exact hs2 j (by omega)) 0 (by simp)
     rw [show 0 + j + 0 = j by omega] at this
     exact this
    ·rw [World.cell?_setCells_out g _ _ _ ⟨g, j, none⟩ (fun _ _ => .inr (by show 0 + i + 1 <= j; omega))]
     have hq : j - (i + 1) < ((intsV zs).drop i).length := by
      have := (List.getElem?_eq_some_iff.1 h2).1
      rw [List.length_drop] at this
      omega
     have := World.cell?_setCells_in g ((intsV zs).drop i) (0 + (i + 1)) w.drew (fun q hq => by show (w.cell? _).isSome = true; exact hsome _ (by omega)) (j - (i + 1)) hq
     rw [show 0 + (i + 1) + (j - (i + 1)) = j by omega] at this
     rw [this, <- List.getElem?_eq_getElem hq, hdrop, h2]
     rfl
  ·have hnc : n <= c := by
    rcases hO.2 with ⟨e, h0⟩ | ⟨g', cap, cur, e, hb, hg, hc1, _⟩
    ·cases e
    ·injection e with _ _ e3; omega
   refine (Any2.slices_Insert_int_grow ilays g 0 n c i vb 0 1 1 (intsV zs) [.int .i64 x] w hlt (by omega) hnc (by omega) (by omega) hil rfl hcs hvs (ints_one zs) h1v).mono ?_
   rintro e w' ⟨rfl, rfl⟩
   obtain ⟨gc, hgc⟩ : ∃ gc, grownCap w (n + 1) c (iren.t 3) = gc := ⟨_, rfl⟩
   rw [hgc]
   obtain ⟨W1, hW1⟩ : ∃ W1, w.alloc (.cells (((intsV zs).take i).toArray ++ Builtin.zeroCells (Value.int .i64 0).cells (n + 1 - i) ++ Builtin.zeroCells (Value.int .i64 0).cells (gc - (n + 1))) (iren.t 3)) = W1 := ⟨_, rfl⟩
   have hal := World.alloc_heap_new w (.cells (((intsV zs).take i).toArray ++ Builtin.zeroCells (Value.int .i64 0).cells (n + 1 - i) ++ Builtin.zeroCells (Value.int .i64 0).cells (gc - (n + 1))) (iren.t 3))
   have hsz1 : W1.heap.size = w.heap.size + 1 := by rw [<- hW1, World.size_alloc]
   have hB1 : Below w.heap.size w W1 := by rw [<- hW1]; exact (Below.refl _ w).alloc (Nat.le_refl _) _
   rw [hW1] at hal ⊢
   have htl : ((intsV zs).take i).length = i := by rw [List.length_take, hil]; omega
   have hzc : ∀ m, (Builtin.zeroCells (Value.int .i64 0).cells m).size = m := fun m => by simp [Builtin.zeroCells, Value.cells]
   have hsome : ∀ j, j < n + 1 -> (W1.cell? ⟨w.heap.size, j, none⟩).isSome = true := fun j hj => by
    rw [cell_block hal, Array.getElem?_eq_getElem (by simp only [Array.size_append, hzc, List.size_toArray, htl]; omega)]; rfl
   have hsome2 : ∀ j, j < n + 1 -> ((W1.drew.setCells w.heap.size i [.int .i64 x]).cell? ⟨w.heap.size, j, none⟩).isSome = true := fun j hj => isSome_setCells _ _ _ W1.drew (fun q hq => by show (W1.cell? _).isSome = true; simp at hq; exact hsome _ (by omega)) j (by show (W1.cell? _).isSome = true; exact hsome j hj)
   have hB2 : Below w.heap.size w W1.drew := ⟨hB1.os, hB1.tape, hB1.output, hB1.size, hB1.block⟩
   have hB3 := below_setCells hB2 (Nat.le_refl _) [.int .i64 x] i
   have hB4 : Below w.heap.size w (W1.drew.setCells w.heap.size i [.int .i64 x]).drew := ⟨hB3.os, hB3.tape, hB3.output, hB3.size, hB3.block⟩
   refine ⟨_, _, rfl, ints_of_cells hol (by omega) (by rw [size_setCells']; show w.heap.size < (W1.drew.setCells _ _ _).heap.size; rw [size_setCells']; show w.heap.size < W1.heap.size; omega) (fun j z hz => ?_), (below_setCells hB4 (Nat.le_refl _) _ _).mono hbase⟩
   rcases put_at (by omega) j z hz with ⟨h1, h2⟩ | ⟨rfl, rfl⟩ | ⟨h1, h2⟩
   ·rw [World.cell?_setCells_out _ _ _ _ ⟨w.heap.size, j, none⟩ (fun _ _ => .inl (by show j < i + 1; omega))]
    show (W1.drew.setCells w.heap.size i [.int .i64 x]).cell? _ = _
    rw [World.cell?_setCells_out _ _ _ _ ⟨w.heap.size, j, none⟩ (fun _ _ => .inl (by show j < i; omega))]
    show W1.cell? _ = _
    rw [cell_block hal, Array.getElem?_append_left (by simp only [Array.size_append, hzc, List.size_toArray, htl]; omega), Array.getElem?_append_left (by simp only [List.size_toArray, htl]; omega), List.getElem?_toArray, htake, List.getElem?_take_of_lt h1, h2]
    rfl
   ·rw [World.cell?_setCells_out _ _ _ _ ⟨w.heap.size, j, none⟩ (fun _ _ => .inl (by show j < j + 1; omega))]
    show (W1.drew.setCells w.heap.size j [.int .i64 z]).cell? _ = _
    exact World.cell?_setCells_in w.heap.size [.int .i64 z] j W1.drew (fun q hq => by show (W1.cell? _).isSome = true; simp at hq; exact hsome _ (by omega)) 0 (by simp)
   ·have hdl : ((intsV zs).drop i).length = n - i := by rw [List.length_drop, hil]
    have hq : j - (i + 1) < ((intsV zs).drop i).length := by
     have := (List.getElem?_eq_some_iff.1 h2).1
     rw [List.length_drop] at this
     omega
    have := World.cell?_setCells_in w.heap.size ((intsV zs).drop i) (i + 1) (W1.drew.setCells w.heap.size i [.int .i64 x]).drew (fun q hq => by show ((W1.drew.setCells w.heap.size i [.int .i64 x]).cell? _).isSome = true; exact hsome2 _ (by omega)) (j - (i + 1)) hq
    rw [show i + 1 + (j - (i + 1)) = j by omega] at this
    rw [this, <- List.getElem?_eq_getElem hq, hdrop, h2]
    rfl
end Go.Proofs.YtbkpehfaofhmaaaGreatDoor
