/-
  PROVED HERE: what the texts FillH, WholeW say (each has its own words below).
-/
import Derived.Test.YtofkiaeocfpkeaaGreatDoorSW15
/- FillH: what the house's Fill answers of each of its types, and what Check says of it. -/
namespace Go.Proofs.YtofkiaeocfpkeaaGreatDoor
open Go.RowKit

set_option maxRecDepth 100000 in
theorem fill_of {B g c0 ng nc : Nat} {ks : List KindD} {gs : List Grp} {ts : List (DataW Unit)} (w : World) (h : SchAt w B g c0 ng nc ks gs ts) (h0 : 0 < ks.length) (hT : Tab w) (hw0 : 0 < w.heap.size) (sp : Nat → SpecD) (hsp : ∀ i, specOf ks i = sp i) (ask : Nat → Option (List Int)) (hask : Asks gs ts ask) (n : Nat) (hn : n = ks.length) (t : Int) :
    Calls Tryz.prog 28 #[.pointer (some ⟨B, 0, none⟩), .int .i64 t] w fun e w' => FilledT w.heap.size (.slice none 0 0) w w w' e (fillS sp n ask 33 [] t) := by
  have HF := fillbehind_calls w h h0 hT hw0 sp hsp ask hask n hn 32 (Nat.le_refl _) w none 0 [] t (Below.refl _ _) (World.ownsRow_nil ..) (by decide)
  obtain ⟨RR, hRR⟩ : ∃ RR, fillS sp n ask 33 [] t = RR := ⟨_, rfl⟩
  have hRR' : fillS sp n ask (32 + 1) [] t = RR := hRR
  rw [hRR'] at HF
  rw [hRR]
  have HF2 : Calls Tryz.prog 76 #[.pointer (some ⟨B, 0, none⟩), .slice none 0 0, .int .i64 t, .int .i64 0] w fun e w' => FilledT w.heap.size (.slice none 0 0) w w w' e RR := HF
  clear h hT hsp hask HF hRR hRR'
  go_enter Tryz.func28, Tryz.ntmps28
  go_wp2_with fail
  refine HF2.mono ?_
  intro e W9 hres
  cases RR with
  | none =>
    obtain ⟨hg8, hB8, rfl⟩ := hres
    have HN : Hid (w.grownBy W9 (Value.slice none 0 0).ownBlock ∧ Below w.heap.size w W9) := ⟨hg8, hB8⟩
    clear hg8 hB8 HF2
    go_wp2
    go_ret2
    exact ⟨HN.out.1, HN.out.2, rfl⟩
  | some l9 =>
    obtain ⟨hg8, hB8, a8, c8, rfl, hown8, hheir8⟩ := hres
    have HN : Hid (w.grownBy W9 (Value.slice none 0 0).ownBlock ∧ Below w.heap.size w W9 ∧ W9.ownsRow w.heap.size 62 4 (.slice a8 l9.length c8) l9.length (flat l9) ∧ Heir w (.slice none 0 0) (.slice a8 l9.length c8)) := ⟨hg8, hB8, hown8, hheir8⟩
    clear hg8 hB8 hown8 hheir8 HF2
    go_wp2
    go_ret2
    exact ⟨HN.out.1, HN.out.2.1, a8, c8, rfl, HN.out.2.2⟩
def spH (i : Nat) : SpecD := ((zeroS :: houseL)[i]?).getD zeroS
def askH : Nat → Option (List Int)
  | 0 => some [1]
  | 1 => some []
  | 2 => some []
  | 3 => some [1]
  | 4 => some []
  | 5 => some [6]
  | 6 => some [1]
  | 7 => some []
  | _ => none
theorem takes_least {m : Nat} {a b : Int} (h : takes m b = true) (hm : ∀ i : Nat, i < 16 → m.testBit i = true → a ≤ (i : Int)) : a ≤ b := by
  unfold takes at h
  simp only [Bool.and_eq_true, decide_eq_true_eq] at h
  have := hm b.toNat (by omega) h.2
  omega
theorem best_one_of {gs : List Grp} {t : DataW Unit} {m : Nat} {a : Int} (hL : ∀ w, LangD gs 200 t w ↔ (w ≠ [] ∧ ∀ x ∈ w, takes m x = true)) (ha : takes m a = true) (hm : ∀ i : Nat, i < 16 → m.testBit i = true → a ≤ (i : Int)) : BestD gs 200 t [] [a] := by
  refine ⟨(hL _).2 ⟨by simp, fun x hx => by rw [List.nil_append, List.mem_singleton] at hx; subst hx; exact ha⟩, fun ys hy => ?_⟩
  obtain ⟨h1, h2⟩ := (hL _).1 hy
  rw [List.nil_append] at h1 h2
  cases ys with
  | nil => exact absurd rfl h1
  | cons y r =>
    cases r with
    | nil =>
      have := takes_least (h2 y (List.mem_cons_self ..)) hm
      rcases Int.lt_or_eq_of_le this with h3 | h3
      · exact .inr (.inr ⟨rfl, .inl h3⟩)
      · subst h3; exact .inl rfl
    | cons z q => exact .inr (.inl (by simp))
theorem best_nil_of {gs : List Grp} {t : DataW Unit} (hL : LangD gs 200 t []) : BestD gs 200 t [] [] := ⟨hL, fun ys _ => shLe_prefix [] ys⟩
theorem lang_empty (gs : List Grp) : LangD gs 200 emptyT [] := by
  unfold LangD
  rw [Lang]
  rfl
theorem ck_block : chk 200 (outTree houseW) gsH = 0 := by kernel_rfl
theorem ck_text : chk 200 (outTree textS) gsH = 0 := by kernel_rfl
theorem ck_item : chk 200 (outTree itemS) gsH = 0 := by kernel_rfl
theorem ck_empty : chk 200 emptyT gsH = 0 := by kernel_rfl
theorem tree_leaf : outTree ⟨#[]⟩ = emptyT := by kernel_rfl
theorem b_block : PreD gsH 200 (outTree houseW) [] ∧ BestD gsH 200 (outTree houseW) [] [1] := ⟨pre_of (v := [1]) ck_block ((words_block _).2 ⟨by decide, by decide⟩), best_one_of words_block (by decide) (by decide)⟩
theorem b_item : PreD gsH 200 (outTree itemS) [] ∧ BestD gsH 200 (outTree itemS) [] [6] := ⟨pre_of (v := [6]) ck_item ((words_item _).2 ⟨by decide, by decide⟩), best_one_of words_item (by decide) (by decide)⟩
theorem b_text : PreD gsH 200 (outTree textS) [] ∧ BestD gsH 200 (outTree textS) [] [] := ⟨pre_of (v := []) ck_text ((words_text _).2 (fun a h => by cases h)), best_nil_of ((words_text _).2 (fun a h => by cases h))⟩
theorem b_leaf : PreD gsH 200 (outTree ⟨#[]⟩) [] ∧ BestD gsH 200 (outTree ⟨#[]⟩) [] [] := by rw [tree_leaf]; exact ⟨pre_of (v := []) ck_empty (lang_empty _), best_nil_of (lang_empty _)⟩
theorem asks_house : Asks gsH (treesOf houseW houseL) askH := by
  intro i t ht
  have key : ∀ (xs : List Int), askH i = some xs → (PreD gsH 200 t [] ∧ BestD gsH 200 t [] xs) → (askH i = none → ¬ PreD gsH 200 t []) ∧ ∀ ys, askH i = some ys → PreD gsH 200 t [] ∧ BestD gsH 200 t [] ys := fun xs h1 h2 => ⟨fun e => (by rw [h1] at e; cases e), fun ys e => (by rw [h1] at e; cases e; exact h2)⟩
  match i, ht with
  | 0, ht => cases ht; exact key [1] rfl b_block
  | 1, ht => cases ht; exact key [] rfl b_text
  | 2, ht => cases ht; exact key [] rfl b_text
  | 3, ht => cases ht; exact key [1] rfl b_block
  | 4, ht => cases ht; exact key [] rfl b_text
  | 5, ht => cases ht; exact key [6] rfl b_item
  | 6, ht => cases ht; exact key [1] rfl b_block
  | 7, ht => cases ht; exact key [] rfl b_leaf
  | n + 8, ht => simp [treesOf, houseL] at ht
/-- The least of each type. -/
def docH : Nat → List Tok
  | 1 => [⟨1, 1, 0, 0⟩, closeT]
  | 2 => [⟨1, 2, 1, 0⟩, closeT]
  | 3 => [⟨1, 3, 0, 0⟩, ⟨1, 1, 0, 0⟩, closeT, closeT]
  | 4 => [⟨1, 4, 0, 0⟩, closeT]
  | 5 => [⟨1, 5, 0, 0⟩, ⟨1, 6, 0, 0⟩, ⟨1, 1, 0, 0⟩, closeT, closeT, closeT]
  | 6 => [⟨1, 6, 0, 0⟩, ⟨1, 1, 0, 0⟩, closeT, closeT]
  | _ => [⟨3, 7, 0, 0⟩]
theorem fill_house : ∀ k : Nat, 1 ≤ k → k ≤ 7 → fillS spH 8 askH 33 [] (k : Int) = some (docH k) := by
  intro k h1 h7
  obtain rfl | rfl | rfl | rfl | rfl | rfl | rfl : k = 1 ∨ k = 2 ∨ k = 3 ∨ k = 4 ∨ k = 5 ∨ k = 6 ∨ k = 7 := by omega
  all_goals kernel_rfl
theorem doc_check : ∀ k : Nat, 1 ≤ k → k ≤ 7 → check (docH k) = (((docH k).length : Int), 0) ∧ 0 < (docH k).length ∧ (docH k).length ≤ 6 ∧ (∃ x, (docH k)[0]? = some x ∧ x.t = (k : Int)) := by
  intro k h1 h7
  obtain rfl | rfl | rfl | rfl | rfl | rfl | rfl : k = 1 ∨ k = 2 ∨ k = 3 ∨ k = 4 ∨ k = 5 ∨ k = 6 ∨ k = 7 := by omega
  all_goals exact ⟨by decide, by decide, by decide, _, rfl, rfl⟩
theorem doc_types : ∀ k : Nat, 1 ≤ k → k ≤ 7 → ∀ (i : Nat) (x : Tok), (docH k)[i]? = some x → x.k = 1 → 0 ≤ x.t ∧ x.t < (8 : Int) := by
  intro k h1 h7 i x hx hk
  have : ∀ y ∈ docH k, 0 ≤ y.t ∧ y.t < 8 := by
    obtain rfl | rfl | rfl | rfl | rfl | rfl | rfl : k = 1 ∨ k = 2 ∨ k = 3 ∨ k = 4 ∨ k = 5 ∨ k = 6 ∨ k = 7 := by omega
    all_goals decide
  exact this x (List.mem_of_getElem? hx)
theorem foldF_le {ks : List KindD} {gs : List Grp} {ts : List (DataW Unit)} {l : List Tok} : ∀ (n i : Nat) (f : Int), foldF ks gs ts l i n f ≤ f := by
  intro n
  induction n with
  | zero => intro i f; rw [foldF]; exact Int.le_refl _
  | succ n ih =>
    intro i f
    rw [foldF]
    split
    · exact Int.le_refl _
    · split
      · have := ih (i + 1) (min f (faultAt ks gs ts l i))
        omega
      · exact ih (i + 1) f
theorem foldF_ok {ks : List KindD} {gs : List Grp} {ts : List (DataW Unit)} {l : List Tok} (h : ∀ i, kindAt l i = 1 → faultAt ks gs ts l i = 2049) : ∀ (n i : Nat), foldF ks gs ts l i n 2049 = 2049 := by
  intro n
  induction n with
  | zero => intro i; rw [foldF]
  | succ n ih =>
    intro i
    rw [foldF]
    split
    · rfl
    · split
      · rename_i hk
        rw [h i hk]
        exact ih (i + 1)
      · exact ih (i + 1)
theorem kind_out {l : List Tok} {i : Nat} (h : l.length ≤ i) : kindAt l i = 0 := by
  unfold kindAt
  rw [List.getElem?_eq_none h]
  rfl
theorem faultD_ok {ks : List KindD} {gs : List Grp} {t : DataW Unit} {s : SpecD} {l : List Tok} {i : Int} {ps : List Int} {ws : List Int} (hk : kids l i = ps) (hw : wordD l ps = ws) (hf : ∀ p ∈ ps, fitsB ks s ((l[p.toNat]?).getD ⟨0, 0, 0, 0⟩) = true) (hl : LangD gs 200 t ws) : faultD ks gs t s l i = 2049 := by
  rw [faultD_fit (by rw [hk]; exact hf), hk]
  exact wordF_lang (by rw [hw]; exact hl)
theorem faultAt_ok {ks : List KindD} {l : List Tok} {i tt : Nat} {t : DataW Unit} {ps ws : List Int} (ht : (typeAt l (i : Int)).toNat = tt) (htr : (treesOf houseW houseL).getD tt emptyT = t) (hk : kids l (i : Int) = ps) (hw : wordD l ps = ws) (hf : ∀ p ∈ ps, fitsB ks (specOf ks tt) ((l[p.toNat]?).getD ⟨0, 0, 0, 0⟩) = true) (hl : LangD gsH 200 t ws) : faultAt ks gsH (treesOf houseW houseL) l i = 2049 := by
  unfold faultAt
  rw [ht, htr]
  exact faultD_ok hk hw hf hl
theorem fold_ok {ks : List KindD} {l : List Tok} {ps ws : List Int} (hk : kids l (-1) = ps) (hw : wordD l ps = ws) (hf : ∀ p ∈ ps, fitsB ks (specOf ks 0) ((l[p.toNat]?).getD ⟨0, 0, 0, 0⟩) = true) (hl : LangD gsH 200 (outTree houseW) ws) (h : ∀ i, kindAt l i = 1 → faultAt ks gsH (treesOf houseW houseL) l i = 2049) : firstS ks gsH (treesOf houseW houseL) l = 2049 := by
  unfold firstS
  have e : (treesOf houseW houseL).getD 0 emptyT = outTree houseW := rfl
  rw [e, faultD_ok hk hw hf hl]
  exact foldF_ok h _ _
/-- The same, by the house's types alone. -/
def fitsH (s : SpecD) (x : Tok) : Bool := if x.k = 0 then takesR s x else if 1 ≤ x.t ∧ x.t < 8 then mayBeB (spH x.t.toNat) x else false
theorem fits_house {ks : List KindD} (h8 : ks.length = 8) (hs : ∀ i, specOf ks i = spH i) (s : SpecD) (x : Tok) : fitsB ks s x = fitsH s x := by
  unfold fitsB fitsH
  rw [h8, hs]
  rfl
theorem check_house {ks : List KindD} (h8 : ks.length = 8) (hs : ∀ i, specOf ks i = spH i) : ∀ k : Nat, 1 ≤ k → k ≤ 7 → ((checkS ks gsH (treesOf houseW houseL) (docH k)).2 = 0 ↔ k ≠ 6) := by
  intro k h1 h7
  have hc := (doc_check k h1 h7).1
  have fit : ∀ (s : SpecD) (l : List Tok) (ps : List Int), (∀ p ∈ ps, fitsH s ((l[p.toNat]?).getD ⟨0, 0, 0, 0⟩) = true) → ∀ p ∈ ps, fitsB ks s ((l[p.toNat]?).getD ⟨0, 0, 0, 0⟩) = true := fun s l ps h p hp => by rw [fits_house h8 hs]; exact h p hp
  by_cases h6 : k = 6
  · subst h6
    have e : (checkS ks gsH (treesOf houseW houseL) (docH 6)).2 = 9 := by
      unfold checkS
      rw [hc, if_neg (by decide), if_pos ?_]
      have hk : kids (docH 6) (-1) = [0] := by decide
      have hle := foldF_le (ks := ks) (gs := gsH) (ts := treesOf houseW houseL) (l := docH 6) (docH 6).length 0 (faultD ks gsH ((treesOf houseW houseL).getD 0 emptyT) (specOf ks 0) (docH 6) (-1))
      have hf : faultD ks gsH ((treesOf houseW houseL).getD 0 emptyT) (specOf ks 0) (docH 6) (-1) ≤ 4 := by
        rw [faultD_fit (by rw [hk]; exact fit _ _ _ (by rw [hs]; decide)), hk]
        show wordF gsH (outTree houseW) (docH 6) (-1) [0] ≤ 4
        unfold wordF
        rw [if_neg (fun h => absurd (((words_block _).1 h).2 6 (by decide)) (by decide))]
        split
        · rename_i hb
          have : begN gsH (outTree houseW) (wordD (docH 6) [0]) = 0 := by rw [List.length_singleton] at hb; omega
          rw [this]
          decide
        · rw [if_pos rfl]
          decide
      unfold firstS
      omega
    rw [e]
    decide
  · have ff : firstS ks gsH (treesOf houseW houseL) (docH k) = 2049 := by
      obtain rfl | rfl | rfl | rfl | rfl | rfl : k = 1 ∨ k = 2 ∨ k = 3 ∨ k = 4 ∨ k = 5 ∨ k = 7 := by omega
      · refine fold_ok (ps := [0]) (ws := [1]) (by decide) (by decide) (fit _ _ _ (by rw [hs]; decide)) ((words_block _).2 ⟨by decide, by decide⟩) (fun i hi => ?_)
        match i, hi with
        | 0, _ => exact faultAt_ok (tt := 1) (t := outTree textS) (ps := []) (ws := []) (by decide) rfl (by decide) (by decide) (fun p hp => by cases hp) b_text.2.1
        | 1, hi => exact absurd hi (by decide)
        | n + 2, hi => rw [kind_out (show 2 ≤ n + 2 by omega)] at hi; exact absurd hi (by decide)
      · refine fold_ok (ps := [0]) (ws := [2]) (by decide) (by decide) (fit _ _ _ (by rw [hs]; decide)) ((words_block _).2 ⟨by decide, by decide⟩) (fun i hi => ?_)
        match i, hi with
        | 0, _ => exact faultAt_ok (tt := 2) (t := outTree textS) (ps := []) (ws := []) (by decide) rfl (by decide) (by decide) (fun p hp => by cases hp) b_text.2.1
        | 1, hi => exact absurd hi (by decide)
        | n + 2, hi => rw [kind_out (show 2 ≤ n + 2 by omega)] at hi; exact absurd hi (by decide)
      · refine fold_ok (ps := [0]) (ws := [3]) (by decide) (by decide) (fit _ _ _ (by rw [hs]; decide)) ((words_block _).2 ⟨by decide, by decide⟩) (fun i hi => ?_)
        match i, hi with
        | 0, _ => exact faultAt_ok (tt := 3) (t := outTree houseW) (ps := [1]) (ws := [1]) (by decide) rfl (by decide) (by decide) (fit _ _ _ (by rw [hs]; decide)) ((words_block _).2 ⟨by decide, by decide⟩)
        | 1, _ => exact faultAt_ok (tt := 1) (t := outTree textS) (ps := []) (ws := []) (by decide) rfl (by decide) (by decide) (fun p hp => by cases hp) b_text.2.1
        | 2, hi => exact absurd hi (by decide)
        | 3, hi => exact absurd hi (by decide)
        | n + 4, hi => rw [kind_out (show 4 ≤ n + 4 by omega)] at hi; exact absurd hi (by decide)
      · refine fold_ok (ps := [0]) (ws := [4]) (by decide) (by decide) (fit _ _ _ (by rw [hs]; decide)) ((words_block _).2 ⟨by decide, by decide⟩) (fun i hi => ?_)
        match i, hi with
        | 0, _ => exact faultAt_ok (tt := 4) (t := outTree textS) (ps := []) (ws := []) (by decide) rfl (by decide) (by decide) (fun p hp => by cases hp) b_text.2.1
        | 1, hi => exact absurd hi (by decide)
        | n + 2, hi => rw [kind_out (show 2 ≤ n + 2 by omega)] at hi; exact absurd hi (by decide)
      · refine fold_ok (ps := [0]) (ws := [5]) (by decide) (by decide) (fit _ _ _ (by rw [hs]; decide)) ((words_block _).2 ⟨by decide, by decide⟩) (fun i hi => ?_)
        match i, hi with
        | 0, _ => exact faultAt_ok (tt := 5) (t := outTree itemS) (ps := [1]) (ws := [6]) (by decide) rfl (by decide) (by decide) (fit _ _ _ (by rw [hs]; decide)) ((words_item _).2 ⟨by decide, by decide⟩)
        | 1, _ => exact faultAt_ok (tt := 6) (t := outTree houseW) (ps := [2]) (ws := [1]) (by decide) rfl (by decide) (by decide) (fit _ _ _ (by rw [hs]; decide)) ((words_block _).2 ⟨by decide, by decide⟩)
        | 2, _ => exact faultAt_ok (tt := 1) (t := outTree textS) (ps := []) (ws := []) (by decide) rfl (by decide) (by decide) (fun p hp => by cases hp) b_text.2.1
        | 3, hi => exact absurd hi (by decide)
        | 4, hi => exact absurd hi (by decide)
        | 5, hi => exact absurd hi (by decide)
        | n + 6, hi => rw [kind_out (show 6 ≤ n + 6 by omega)] at hi; exact absurd hi (by decide)
      · refine fold_ok (ps := [0]) (ws := [7]) (by decide) (by decide) (fit _ _ _ (by rw [hs]; decide)) ((words_block _).2 ⟨by decide, by decide⟩) (fun i hi => ?_)
        match i, hi with
        | 0, hi => exact absurd hi (by decide)
        | n + 1, hi => rw [kind_out (show 1 ≤ n + 1 by omega)] at hi; exact absurd hi (by decide)
    have e : (checkS ks gsH (treesOf houseW houseL) (docH k)).2 = 0 := by
      unfold checkS
      rw [hc, if_neg (by simp), ff, if_neg (by decide)]
    exact ⟨fun _ => h6, fun _ => e⟩
end Go.Proofs.YtofkiaeocfpkeaaGreatDoor
/- WholeW: the walk of SchemaWhole. -/
namespace Go.Proofs.YtofkiaeocfpkeaaGreatDoor
open Go.RowKit

set_option maxRecDepth 100000 in
set_option maxHeartbeats 600000 in
theorem whole_walk (a : Int) (ha0 : 0 ≤ a) (ha1 : a ≤ 255) (w : World) (hT : Tab w) (hw0 : 0 < w.heap.size) (hE : ETy w) :
    Calls Tryz.prog 7 #[.int .u8 a] w fun e w' => e = .returned (.bool true) ∧ Below w.heap.size w w' := by
  obtain ⟨k, hk1, hk7, hka⟩ : ∃ k : Nat, 1 ≤ k ∧ k ≤ 7 ∧ (k : Int) = 1 + a % 7 := ⟨(1 + a % 7).toNat, by omega, by omega, by omega⟩
  have HAW : Hid (∀ X, Below w.heap.size w X → Calls Tryz.prog 15 #[] X fun e w' => e = .returned (.bool true) ∧ Below X.heap.size X w') := fun X hX => awakes_calls X (hE.below hX)
  have HH : Hid (∀ X, Below w.heap.size w X → Calls Tryz.prog 16 #[] X fun e w' => ∃ B, e = .returned (.pointer (some ⟨B, 0, none⟩)) ∧ MadeS w' B houseW houseL houseG ∧ Below X.heap.size X w') := fun X hX => house_calls X (hE.below hX)
  obtain ⟨hc1, hc2, hc3, x0, hx0, hx1⟩ := doc_check k hk1 hk7
  have HF : Hid (∀ (X : World) (B : Nat), Below w.heap.size w X → MadeS X B houseW houseL houseG → Calls Tryz.prog 28 #[.pointer (some ⟨B, 0, none⟩), .int .i64 (k : Int)] X fun e w' => Below X.heap.size X w' ∧ ∃ g c, e = .returned (.tuple #[.slice (some ⟨g, 0, none⟩) (docH k).length c, .bool true]) ∧ Toks w' (some ⟨g, 0, none⟩) (docH k).length (docH k) ∧ Lies (some ⟨g, 0, none⟩) (docH k).length c) := fun X B hX hm => by
    obtain ⟨g, c, ng, nc, ks, h1, h8, hs⟩ := house_kinds hm
    refine (fill_of X h1 (by omega) (hT.below hX hw0) (Nat.lt_of_lt_of_le hw0 hX.size) spH hs askH asks_house 8 h8.symm (k : Int)).mono ?_
    intro e w' hres
    rw [fill_house k hk1 hk7] at hres
    obtain ⟨_, hB, a8, c8, rfl, hown, _⟩ := hres
    obtain ⟨g, cap, e1, _, h3, h4, h5⟩ := toks_of_owns hown (fun e => by injection e with _ e2 _; omega)
    injection e1 with e1 _ e3
    subst e1 e3
    exact ⟨hB, g, c8, rfl, h5, h3, by unfold maxLen at h4; omega, fun e => (by cases e), fun x e _ => (by injection e with e; subst e; rfl)⟩
  have HFC : Hid (∀ (X : World) (g c : Nat), Toks X (some ⟨g, 0, none⟩) (docH k).length (docH k) → Calls Tryz.prog 31 #[.slice (some ⟨g, 0, none⟩) (docH k).length c] X fun e w' => e = .returned (.tuple #[.int .i64 ((docH k).length : Int), .int .i64 0]) ∧ Below X.heap.size X w') := fun X g c ht => by
    have := fcheck_calls (some ⟨g, 0, none⟩) (docH k).length c (docH k) X ht (by omega)
    rw [hc1] at this
    exact this
  have HSC : Hid (∀ (X : World) (B g c : Nat), MadeS X B houseW houseL houseG → Toks X (some ⟨g, 0, none⟩) (docH k).length (docH k) → Lies (some ⟨g, 0, none⟩) (docH k).length c → Calls Tryz.prog 18 #[.pointer (some ⟨B, 0, none⟩), .slice (some ⟨g, 0, none⟩) (docH k).length c] X fun e w' => ∃ q1 q2 : Int, e = .returned (.tuple #[.int .i64 q1, .int .i64 q2]) ∧ (q2 = 0 ↔ k ≠ 6) ∧ Below X.heap.size X w') := fun X B g c hm ht hlie => by
    obtain ⟨g', c', ng, nc, ks, h1, h8, hs⟩ := house_kinds hm
    refine (scheck_calls X h1 (by omega) (some ⟨g, 0, none⟩) (docH k).length c (docH k) ht hlie (by omega) (fun _ i x hx hk => by rw [h8]; exact doc_types k hk1 hk7 i x hx hk)).mono ?_
    rintro e w' ⟨rfl, hB⟩
    exact ⟨_, _, rfl, check_house h8 hs k hk1 hk7, hB⟩
  have HX0 : Hid (∀ (X : World) (g : Nat), Toks X (some ⟨g, 0, none⟩) (docH k).length (docH k) → ∀ Y, Below X.heap.size X Y → Y.cell? ⟨g, 1, none⟩ = some (.int .i64 (k : Int)) ∧ Toks Y (some ⟨g, 0, none⟩) (docH k).length (docH k)) := fun X g ht Y hY => by
    obtain ⟨b, o, y, e, _, hy, hW⟩ := ht.token hc2
    injection e with e
    injection e with e1 e2
    subst e1 e2
    rw [hx0] at hy
    cases hy
    have := (hW Y hY).2.1
    rw [hx1] at this
    simp only [Nat.zero_mul, Nat.zero_add] at this
    exact ⟨this, ht.below hY⟩
  obtain ⟨n, hn⟩ : ∃ n, n = (docH k).length := ⟨_, rfl⟩
  rw [← hn] at HF HFC HSC HX0 hc2 hc3
  have hni : (n : Int) ≤ 6 := by omega
  have hn0 : (0 : Int) < (n : Int) := by omega
  have hdn : decide ((0 : Int) < (n : Int)) = true := by simpa using hn0
  have HK : Hid ((k : Int) = 1 + a % 7) := hka
  clear hT hw0 hE hc1 hx0 hx1 hn hka
  go_enter Tryz.func7, Tryz.ntmps7
  go_wp2_with fail
  rw [← HK.out]
  refine (HH.out w (Below.refl _ _)).mono ?_
  rintro e X1 ⟨B1, rfl, hm1, hB1⟩
  have HFX := HF.out X1 B1 hB1 hm1
  have HB1 := Hid.mk_ hB1
  clear hm1 hB1 HF HK
  go_wp2_with fail
  refine HFX.mono ?_
  rintro e X2 ⟨hB2, g, c, rfl, ht, hlie⟩
  have HCX := HFC.out X2 g c ht
  have HB2 := Hid.mk_ (HB1.out.trans (hB2.mono HB1.out.size))
  have HT : Hid (∀ Y, Below X2.heap.size X2 Y → Y.cell? ⟨g, 1, none⟩ = some (.int .i64 (k : Int)) ∧ Toks Y (some ⟨g, 0, none⟩) n (docH k)) := HX0.out X2 g ht
  have HLI := Hid.mk_ hlie
  clear hB2 ht hlie HFX HFC HX0 HB1
  go_wp2_with fail
  refine HCX.mono ?_
  rintro e X3 ⟨rfl, hB3⟩
  have HB3 := Hid.mk_ (HB2.out.trans (hB3.mono HB2.out.size))
  have HB23 := Hid.mk_ hB3
  have HH3 := HH.out X3 HB3.out
  clear hB3 HCX HH
  go_wp2_with fail
  refine HH3.mono ?_
  rintro e X4 ⟨B4, rfl, hm4, hB4⟩
  have HB4 := Hid.mk_ (HB3.out.trans (hB4.mono HB3.out.size))
  have HB24 := Hid.mk_ (HB23.out.trans (hB4.mono HB23.out.size))
  have HSX := HSC.out X4 B4 g c hm4 (HT.out X4 HB24.out).2 HLI.out
  clear hB4 hm4 HH3 HSC HB23 HB3
  go_wp2_with fail
  refine HSX.mono ?_
  rintro e X5 ⟨q1, q2, rfl, hq, hB5⟩
  have HB5 := Hid.mk_ (HB4.out.trans (hB5.mono HB4.out.size))
  have HB25 := Hid.mk_ (HB24.out.trans (hB5.mono HB24.out.size))
  have c1 := (HT.out X5 HB25.out).1
  have hkk : ((k : Int) == (k : Int)) = true := by simp
  have hnn : ((n : Int) == (n : Int)) = true := by simp
  have HAX := HAW.out X5 HB5.out
  clear hB5 HSX HB24 HB4 HT HLI HAW
  by_cases h6 : k = 6
  · have hq2 : (q2 == 0) = false := by rw [beq_eq_false_iff_ne]; exact fun e => (hq.1 e) h6
    have h6b : ((k : Int) != 6) = false := by rw [h6]; rfl
    have h6c : ((k : Int) == 6) = true := by rw [h6]; rfl
    clear hq h6
    go_wp2_with fail
    refine HAX.mono ?_
    rintro e X6 ⟨rfl, hB6⟩
    have HE := Hid.mk_ (HB5.out.trans (hB6.mono HB5.out.size))
    clear hB6 HAX
    go_wp2
    go_ret
    first | exact HE.out | exact ⟨rfl, HE.out⟩
  · have hq0 : q2 = 0 := hq.2 h6
    subst hq0
    have hq2 : ((0 : Int) == 0) = true := rfl
    have h6c : ((k : Int) == 6) = false := by rw [beq_eq_false_iff_ne]; omega
    have h6b : ((k : Int) != 6) = true := by simp [bne, h6c]
    clear hq h6
    go_wp2_with fail
    refine HAX.mono ?_
    rintro e X6 ⟨rfl, hB6⟩
    have HE := Hid.mk_ (HB5.out.trans (hB6.mono HB5.out.size))
    clear hB6 HAX
    go_wp2
    go_ret
    first | exact HE.out | exact ⟨rfl, HE.out⟩
end Go.Proofs.YtofkiaeocfpkeaaGreatDoor
