/-
  PROVED HERE: what the texts ValidS, JoinS, JoinT say (each has its own words below).
-/
import Derived.Test.YtgkplmnhmobnnaaGreatDoorSMFirstG
import Derived.Test.YtgkplmnhmobnnaaGreatDoorSM43
/- ValidS: Check of a schema finds no fault just if all that stands in each TOpen fits, and is a word. -/
namespace Go.Proofs.YtgkplmnhmobnnaaGreatDoor
open Go.RowKit

/-- All that stands just in a place fits, and is a word. -/
def WellIn (ks : List KindD) (gs : List Grp) (t : DataW Unit) (s : SpecD) (l : List Tok) (i : Int) : Prop := (∀ p ∈ kids l i, fitsB ks s ((l[p.toNat]?).getD ⟨0, 0, 0, 0⟩) = true) ∧ LangD gs 200 t (wordD l (kids l i))
def WellAt (ks : List KindD) (gs : List Grp) (ts : List (DataW Unit)) (l : List Tok) (i : Nat) : Prop := WellIn ks gs (ts.getD (typeAt l i).toNat emptyT) (specOf ks (typeAt l i).toNat) l i
/-- A document that may be. -/
def WellD (ks : List KindD) (gs : List Grp) (ts : List (DataW Unit)) (l : List Tok) : Prop := WellIn ks gs (ts.getD 0 emptyT) (specOf ks 0) l (-1) ∧ ∀ i, kindAt l i = 1 → WellAt ks gs ts l i
theorem partner_lt (l : List Tok) (i : Int) : partner l i < l.length ∨ partner l i = -1 := by
  unfold partner
  split
  · exact .inr rfl
  · rename_i h
    split
    · by_cases hq : around l i = -1
      · exact .inr hq
      · obtain ⟨n, rfl⟩ : ∃ n : Nat, i = (n : Int) := ⟨i.toNat, by omega⟩
        have := (opened_lt l n (by omega) _ (around_in l n hq)).2
        exact .inl (by omega)
    · split
      · rcases partner_fits l i (i.toNat + 1) (l.length - (i.toNat + 1)) with h1 | ⟨j, h1, h2⟩
        · exact .inr h1
        · rw [h1]; exact .inl (by omega)
      · exact .inr rfl
theorem wordF_le {gs : List Grp} {t : DataW Unit} {l : List Tok} {i : Int} {ps : List Int} (hl : l.length ≤ 2048) (hp : ∀ p ∈ ps, p < 2049) : wordF gs t l i ps ≤ 2049 ∧ (wordF gs t l i ps = 2049 → LangD gs 200 t (wordD l ps)) := by
  unfold wordF
  split
  · rename_i h
    exact ⟨Int.le_refl _, fun _ => h⟩
  · split
    · rename_i hb
      have : ps.getD (begN gs t (wordD l ps)) 0 ∈ ps := by
        rw [List.getD_eq_getElem?_getD, List.getElem?_eq_getElem hb]
        exact List.getElem_mem _
      have := hp _ this
      exact ⟨by omega, fun e => by omega⟩
    · split
      · exact ⟨by omega, fun e => by omega⟩
      · have := partner_lt l i
        exact ⟨by omega, fun e => by omega⟩
theorem faultK_le {ks : List KindD} {gs : List Grp} {t : DataW Unit} {s : SpecD} {l : List Tok} {i : Int} {ps : List Int} (hl : l.length ≤ 2048) (hp : ∀ p ∈ ps, p < 2049) : ∀ (f j : Nat), j + f = ps.length → faultK ks gs t s l i ps j f ≤ 2049 ∧ (faultK ks gs t s l i ps j f = 2049 → (∀ m, j ≤ m → m < ps.length → fitsB ks s ((l[(ps.getD m 0).toNat]?).getD ⟨0, 0, 0, 0⟩) = true) ∧ LangD gs 200 t (wordD l ps)) := by
  intro f
  induction f with
  | zero =>
    intro j hj
    rw [faultK]
    have := wordF_le (gs := gs) (t := t) (i := i) hl hp
    exact ⟨this.1, fun e => ⟨fun m h1 h2 => by omega, this.2 e⟩⟩
  | succ f ih =>
    intro j hj
    have hm : ps.getD j 0 ∈ ps := by
      rw [List.getD_eq_getElem?_getD, List.getElem?_eq_getElem (show j < ps.length by omega)]
      exact List.getElem_mem _
    have hm' := hp _ hm
    rw [faultK]
    split
    · rename_i hfit
      obtain ⟨h1, h2⟩ := ih (j + 1) (by omega)
      refine ⟨h1, fun e => ?_⟩
      obtain ⟨h3, h4⟩ := h2 e
      refine ⟨fun m h5 h6 => ?_, h4⟩
      by_cases e' : m = j
      · subst e'; exact hfit
      · exact h3 m (by omega) h6
    · exact ⟨by omega, fun e => by omega⟩
theorem faultD_iff {ks : List KindD} {gs : List Grp} {t : DataW Unit} {s : SpecD} {l : List Tok} {i : Int} (hl : l.length ≤ 2048) : faultD ks gs t s l i ≤ 2049 ∧ (faultD ks gs t s l i = 2049 ↔ WellIn ks gs t s l i) := by
  have hp : ∀ p ∈ kids l i, p < 2049 := fun p hp => by have := (kids_in l i p hp).2; omega
  have h := faultK_le (ks := ks) (gs := gs) (t := t) (s := s) (i := i) hl hp (kids l i).length 0 (by omega)
  refine ⟨h.1, fun e => ?_, fun ⟨h1, h2⟩ => ?_⟩
  · obtain ⟨h1, h2⟩ := h.2 e
    refine ⟨fun p hp => ?_, h2⟩
    obtain ⟨m, hm⟩ := List.getElem?_of_mem hp
    have := h1 m (Nat.zero_le _) (List.getElem?_eq_some_iff.1 hm).1
    rw [List.getD_eq_getElem?_getD, hm] at this
    exact this
  · rw [faultD_fit h1]
    exact wordF_lang h2
theorem foldF_iff {ks : List KindD} {gs : List Grp} {ts : List (DataW Unit)} {l : List Tok} (hl : l.length ≤ 2048) : ∀ (n i : Nat) (f : Int), i + n = l.length → f ≤ 2049 → (foldF ks gs ts l i n f = 2049 ↔ (f = 2049 ∧ ∀ q, i ≤ q → q < l.length → kindAt l q = 1 → WellAt ks gs ts l q)) := by
  intro n
  induction n with
  | zero =>
    intro i f hi hf
    rw [foldF]
    exact ⟨fun e => ⟨e, fun q h1 h2 => by omega⟩, fun e => e.1⟩
  | succ n ih =>
    intro i f hi hf
    rw [foldF]
    split
    · exact ⟨fun e => by omega, fun e => by omega⟩
    · split
      · rename_i hk
        obtain ⟨h1, h2⟩ := faultD_iff (ks := ks) (gs := gs) (t := ts.getD (typeAt l i).toNat emptyT) (s := specOf ks (typeAt l i).toNat) (i := (i : Int)) hl
        have hfa : faultAt ks gs ts l i ≤ 2049 ∧ (faultAt ks gs ts l i = 2049 ↔ WellAt ks gs ts l i) := ⟨h1, h2⟩
        rw [ih (i + 1) _ (by omega) (by omega)]
        constructor
        · rintro ⟨e1, e2⟩
          refine ⟨by omega, fun q q1 q2 q3 => ?_⟩
          by_cases e : q = i
          · subst e; exact hfa.2.1 (by omega)
          · exact e2 q (by omega) q2 q3
        · rintro ⟨e1, e2⟩
          have := hfa.2.2 (e2 i (Nat.le_refl _) (by omega) hk)
          exact ⟨by omega, fun q q1 q2 q3 => e2 q (by omega) q2 q3⟩
      · rename_i hk
        rw [ih (i + 1) f (by omega) hf]
        constructor
        · rintro ⟨e1, e2⟩
          refine ⟨e1, fun q q1 q2 q3 => ?_⟩
          by_cases e : q = i
          · subst e; exact absurd q3 hk
          · exact e2 q (by omega) q2 q3
        · rintro ⟨e1, e2⟩
          exact ⟨e1, fun q q1 q2 q3 => e2 q (by omega) q2 q3⟩
theorem firstS_iff {ks : List KindD} {gs : List Grp} {ts : List (DataW Unit)} {l : List Tok} (hl : l.length ≤ 2048) : firstS ks gs ts l = 2049 ↔ WellD ks gs ts l := by
  unfold firstS WellD
  have h := faultD_iff (ks := ks) (gs := gs) (t := ts.getD 0 emptyT) (s := specOf ks 0) (i := -1) hl
  rw [foldF_iff hl _ _ _ (by omega) h.1, h.2]
  constructor
  · rintro ⟨h1, h2⟩
    refine ⟨h1, fun i hk => ?_⟩
    by_cases hi : i < l.length
    · exact h2 i (Nat.zero_le _) hi hk
    · unfold kindAt at hk
      rw [List.getElem?_eq_none (by omega)] at hk
      exact absurd hk (by decide)
  · rintro ⟨h1, h2⟩
    exact ⟨h1, fun q _ _ hk => h2 q hk⟩
/-- Check finds nothing just if the tokens are a document and may be. -/
theorem checkS_iff {ks : List KindD} {gs : List Grp} {ts : List (DataW Unit)} {l : List Tok} : (checkS ks gs ts l).2 = 0 ↔ ((check l).2 = 0 ∧ WellD ks gs ts l) := by
  unfold checkS
  by_cases h0 : (check l).2 ≠ 0
  · rw [if_pos h0]
    exact ⟨fun e => absurd e h0, fun e => absurd e.1 h0⟩
  · have h0' : (check l).2 = 0 := Classical.not_not.1 h0
    have hl := ((check_ok l).1 h0').1
    rw [if_neg h0, ← firstS_iff hl]
    split
    · rename_i h1
      exact ⟨fun e => (by cases e), fun e => absurd e.2 h1⟩
    · rename_i h1
      exact ⟨fun _ => ⟨h0', Classical.not_not.1 h1⟩, fun _ => rfl⟩
end Go.Proofs.YtgkplmnhmobnnaaGreatDoor

/- JoinS: plain facts on what stands in what: two documents, one behind the other; no program in it. -/
namespace Go.Proofs.YtgkplmnhmobnnaaGreatDoor
open Go.RowKit

theorem opened_end {l : List Tok} (h : goes l 0 = some 0) : opened l (l.length : Int) = [] := by
  have := (mx_step l l.length (Nat.le_refl _) h).2
  rw [List.drop_length, goes] at this
  have e := Option.some.inj this
  exact List.length_eq_zero_iff.1 (by omega)
theorem openL_shift (n : Nat) : ∀ (l : List Tok) (i : Nat) (s : List Int), openL l (i + n) (s.map (· + (n : Int))) = (openL l i s).map (· + (n : Int)) := by
  intro l
  induction l with
  | nil => intro i s; rfl
  | cons x r ih =>
    intro i s
    rw [openL, openL, ← ih, show i + n + 1 = i + 1 + n by omega]
    congr 1
    split
    · rw [List.map_append]
      rfl
    · split
      · rw [List.map_dropLast]
      · rfl
theorem opened_low (a b : List Tok) (p : Nat) (hp : p ≤ a.length) : opened (a ++ b) (p : Int) = opened a (p : Int) := by
  rw [opened_nat _ p (by rw [List.length_append]; omega), opened_nat _ p hp, List.take_append_of_le_length hp]
theorem opened_high {a : List Tok} (b : List Tok) (ha : goes a 0 = some 0) (q : Nat) (hq : q ≤ b.length) : opened (a ++ b) ((a.length + q : Nat) : Int) = (opened b (q : Int)).map (· + (a.length : Int)) := by
  have h0 := opened_end ha
  rw [opened_nat _ _ (Nat.le_refl _), List.take_length] at h0
  rw [opened_nat _ _ (by rw [List.length_append]; omega), opened_nat _ q hq, List.take_length_add_append, openL_append, h0]
  exact openL_shift a.length (b.take q) 0 []
theorem around_low (a b : List Tok) (p : Nat) (hp : p ≤ a.length) : around (a ++ b) (p : Int) = around a (p : Int) := by
  unfold around
  rw [opened_low a b p hp]
theorem around_high {a : List Tok} (b : List Tok) (ha : goes a 0 = some 0) (q : Nat) (hq : q ≤ b.length) : around (a ++ b) ((a.length + q : Nat) : Int) = if around b (q : Int) = -1 then -1 else around b (q : Int) + a.length := by
  have hf := opened_fits b (q : Int)
  unfold around
  rw [opened_high b ha q hq, List.getLast?_map]
  cases h : (opened b (q : Int)).getLast? with
  | none => rfl
  | some x =>
    have := (hf x (List.mem_of_getLast? h)).1
    simp only [Option.map_some, Option.getD_some]
    rw [if_neg (by omega)]
theorem kindAt_low (a b : List Tok) (p : Nat) (hp : p < a.length) : kindAt (a ++ b) p = kindAt a p := by
  unfold kindAt
  rw [List.getElem?_append_left hp]
theorem kindAt_high (a b : List Tok) (q : Nat) : kindAt (a ++ b) (a.length + q) = kindAt b q := by
  unfold kindAt
  rw [List.getElem?_append_right (by omega), show a.length + q - a.length = q by omega]
theorem kidsL_mem (l : List Tok) (i : Int) : ∀ (f k : Nat) (out : List Int), ∀ x ∈ kidsL l i k f out, x ∈ out ∨ ∃ m : Nat, x = (m : Int) ∧ k ≤ m ∧ m < k + f ∧ kindAt l m ≠ 2 ∧ 0 ≤ kindAt l m ∧ kindAt l m ≤ 3 ∧ around l (m : Int) = i := by
  intro f
  induction f with
  | zero => intro k out x hx; rw [kidsL] at hx; exact .inl hx
  | succ f ih =>
    intro k out x hx
    rw [kidsL] at hx
    split at hx
    · exact .inl hx
    · rcases ih _ _ x hx with h | ⟨m, h1, h2, h3, h4⟩
      · split at h
        · rename_i hk
          rcases List.mem_append.1 h with h | h
          · exact .inl h
          · rw [List.mem_singleton] at h
            exact .inr ⟨k, h, Nat.le_refl _, by omega, hk⟩
        · exact .inl h
      · exact .inr ⟨m, h1, by omega, by omega, h4⟩
/-- What stands just in a place. -/
theorem kids_mem (l : List Tok) (i x : Int) : x ∈ kids l i ↔ ∃ m : Nat, x = (m : Int) ∧ m < l.length ∧ kindAt l m ≠ 2 ∧ 0 ≤ kindAt l m ∧ kindAt l m ≤ 3 ∧ around l (m : Int) = i := by
  constructor
  · intro h
    unfold kids at h
    split at h
    · cases h
    · rcases kidsL_mem l i _ _ _ x h with h | ⟨m, h1, h2, h3, h4⟩
      · cases h
      · exact ⟨m, h1, by omega, h4⟩
  · rintro ⟨m, rfl, h1, h2, h3, h4, rfl⟩
    exact kids_has l m h1 ⟨h2, h3, h4⟩
/-- Rising rows of the same numbers are the same. -/
theorem rise_eq : ∀ (u v : List Int), u.Pairwise (· < ·) → v.Pairwise (· < ·) → (∀ x, x ∈ u ↔ x ∈ v) → u = v := by
  intro u
  induction u with
  | nil =>
    intro v _ _ h
    cases v with
    | nil => rfl
    | cons y r => exact absurd ((h y).2 (List.mem_cons_self ..)) (by simp)
  | cons x u ih =>
    intro v hu hv h
    cases v with
    | nil => exact absurd ((h x).1 (List.mem_cons_self ..)) (by simp)
    | cons y r =>
      rw [List.pairwise_cons] at hu hv
      have e : x = y := by
        rcases List.mem_cons.1 ((h x).1 (List.mem_cons_self ..)) with e | e
        · exact e
        · rcases List.mem_cons.1 ((h y).2 (List.mem_cons_self ..)) with e' | e'
          · exact e'.symm
          · have := hv.1 x e
            have := hu.1 y e'
            omega
      subst e
      rw [ih r hu.2 hv.2 fun z => ?_]
      constructor
      · intro hz
        rcases List.mem_cons.1 ((h z).1 (List.mem_cons_of_mem _ hz)) with e | e
        · have := hu.1 z hz
          omega
        · exact e
      · intro hz
        rcases List.mem_cons.1 ((h z).2 (List.mem_cons_of_mem _ hz)) with e | e
        · have := hv.1 z hz
          omega
        · exact e
theorem around_ge (l : List Tok) (p : Nat) (hp : p ≤ l.length) : around l (p : Int) = -1 ∨ (0 ≤ around l (p : Int) ∧ around l (p : Int) < p) := by
  by_cases h : around l (p : Int) = -1
  · exact .inl h
  · exact .inr (opened_lt l p hp _ (around_in l p h))
/-- What stands just in a place of the first of two documents. -/
theorem kids_low {a : List Tok} (b : List Tok) (ha : goes a 0 = some 0) (i : Nat) (hi : i < a.length) : kids (a ++ b) (i : Int) = kids a (i : Int) := by
  refine rise_eq _ _ (kids_rise _ _) (kids_rise _ _) fun x => ?_
  rw [kids_mem, kids_mem]
  constructor
  · rintro ⟨m, rfl, h1, h2⟩
    by_cases hm : m < a.length
    · rw [kindAt_low a b m hm, around_low a b m (by omega)] at h2
      exact ⟨m, rfl, hm, h2⟩
    · rw [List.length_append] at h1
      obtain ⟨q, rfl⟩ : ∃ q, m = a.length + q := ⟨m - a.length, by omega⟩
      have h3 := h2.2.2.2
      rw [around_high b ha q (by omega)] at h3
      have := around_ge b q (by omega)
      split at h3 <;> omega
  · rintro ⟨m, rfl, h1, h2⟩
    refine ⟨m, rfl, by rw [List.length_append]; omega, ?_⟩
    rw [kindAt_low a b m h1, around_low a b m (by omega)]
    exact h2
theorem rise_map {u : List Int} (n : Int) (h : u.Pairwise (· < ·)) : (u.map (· + n)).Pairwise (· < ·) := by
  rw [List.pairwise_map]
  exact h.imp fun h => by omega
/-- Of the second. -/
theorem kids_high {a : List Tok} (b : List Tok) (ha : goes a 0 = some 0) (j : Nat) : kids (a ++ b) ((a.length + j : Nat) : Int) = (kids b (j : Int)).map (· + (a.length : Int)) := by
  refine rise_eq _ _ (kids_rise _ _) (rise_map _ (kids_rise _ _)) fun x => ?_
  rw [kids_mem, List.mem_map]
  constructor
  · rintro ⟨m, rfl, h1, h2⟩
    by_cases hm : m < a.length
    · have h3 := h2.2.2.2
      rw [around_low a b m (by omega)] at h3
      have := around_ge a m (by omega)
      omega
    · rw [List.length_append] at h1
      obtain ⟨q, rfl⟩ : ∃ q, m = a.length + q := ⟨m - a.length, by omega⟩
      rw [kindAt_high, around_high b ha q (by omega)] at h2
      refine ⟨(q : Int), (kids_mem b _ _).2 ⟨q, rfl, by omega, h2.1, h2.2.1, h2.2.2.1, ?_⟩, by omega⟩
      have h3 := h2.2.2.2
      split at h3 <;> omega
  · rintro ⟨y, hy, rfl⟩
    obtain ⟨q, rfl, h1, h2⟩ := (kids_mem b _ _).1 hy
    refine ⟨a.length + q, by omega, by rw [List.length_append]; omega, ?_⟩
    rw [kindAt_high, around_high b ha q (by omega), if_neg (by have := h2.2.2.2; omega)]
    exact ⟨h2.1, h2.2.1, h2.2.2.1, by have := h2.2.2.2; omega⟩
/-- Of both, outermost. -/
theorem kids_out2 {a : List Tok} (b : List Tok) (ha : goes a 0 = some 0) : kids (a ++ b) (-1) = kids a (-1) ++ (kids b (-1)).map (· + (a.length : Int)) := by
  refine rise_eq _ _ (kids_rise _ _) (List.pairwise_append.2 ⟨kids_rise _ _, rise_map _ (kids_rise _ _), fun x hx y hy => ?_⟩) fun x => ?_
  · obtain ⟨m, rfl, h1, _⟩ := (kids_mem a _ _).1 hx
    obtain ⟨z, hz, rfl⟩ := List.mem_map.1 hy
    obtain ⟨q, rfl, _⟩ := (kids_mem b _ _).1 hz
    omega
  · rw [kids_mem, List.mem_append, List.mem_map]
    constructor
    · rintro ⟨m, rfl, h1, h2⟩
      by_cases hm : m < a.length
      · rw [kindAt_low a b m hm, around_low a b m (by omega)] at h2
        exact .inl ((kids_mem a _ _).2 ⟨m, rfl, hm, h2⟩)
      · rw [List.length_append] at h1
        obtain ⟨q, rfl⟩ : ∃ q, m = a.length + q := ⟨m - a.length, by omega⟩
        rw [kindAt_high, around_high b ha q (by omega)] at h2
        refine .inr ⟨(q : Int), (kids_mem b _ _).2 ⟨q, rfl, by omega, h2.1, h2.2.1, h2.2.2.1, ?_⟩, by omega⟩
        have h3 := h2.2.2.2
        have := around_ge b q (by omega)
        split at h3 <;> omega
    · rintro (hx | ⟨y, hy, rfl⟩)
      · obtain ⟨m, rfl, h1, h2⟩ := (kids_mem a _ _).1 hx
        refine ⟨m, rfl, by rw [List.length_append]; omega, ?_⟩
        rw [kindAt_low a b m h1, around_low a b m (by omega)]
        exact h2
      · obtain ⟨q, rfl, h1, h2⟩ := (kids_mem b _ _).1 hy
        refine ⟨a.length + q, by omega, by rw [List.length_append]; omega, ?_⟩
        rw [kindAt_high, around_high b ha q (by omega), if_pos h2.2.2.2]
        exact ⟨h2.1, h2.2.1, h2.2.2.1, rfl⟩
end Go.Proofs.YtgkplmnhmobnnaaGreatDoor

/- JoinT: plain facts on documents that may be, in the house: two of them, one behind the other; each outermost part of one; no program in it. -/
namespace Go.Proofs.YtgkplmnhmobnnaaGreatDoor
open Go.RowKit

theorem tok_low (a b : List Tok) {p : Int} (h0 : 0 ≤ p) (hp : p < a.length) : (a ++ b)[p.toNat]? = a[p.toNat]? := List.getElem?_append_left (by omega)
theorem tok_high (a b : List Tok) {p : Int} (h0 : 0 ≤ p) : (a ++ b)[(p + (a.length : Int)).toNat]? = b[p.toNat]? := by
  rw [List.getElem?_append_right (by omega), show (p + (a.length : Int)).toNat - a.length = p.toNat by omega]
theorem word_low (a b : List Tok) (i : Int) : wordD (a ++ b) (kids a i) = wordD a (kids a i) := by
  unfold wordD
  refine List.map_congr_left fun p hp => ?_
  have := kids_in a i p hp
  unfold typeAt
  rw [tok_low a b this.1 this.2]
theorem word_high (a b : List Tok) (i : Int) : wordD (a ++ b) ((kids b i).map (· + (a.length : Int))) = wordD b (kids b i) := by
  unfold wordD
  rw [List.map_map]
  refine List.map_congr_left fun p hp => ?_
  have := kids_in b i p hp
  simp only [Function.comp_apply]
  unfold typeAt
  rw [tok_high a b this.1]
theorem wellIn_low {ks : List KindD} {gs : List Grp} {t : DataW Unit} {s : SpecD} {a : List Tok} (b : List Tok) (ha : goes a 0 = some 0) (i : Nat) (hi : i < a.length) : WellIn ks gs t s (a ++ b) i ↔ WellIn ks gs t s a i := by
  unfold WellIn
  rw [kids_low b ha i hi, word_low a b]
  refine and_congr_left fun _ => ⟨fun h p hp => ?_, fun h p hp => ?_⟩
  · have := kids_in a i p hp
    rw [← tok_low a b this.1 this.2]
    exact h p hp
  · have := kids_in a i p hp
    rw [tok_low a b this.1 this.2]
    exact h p hp
theorem wellIn_high {ks : List KindD} {gs : List Grp} {t : DataW Unit} {s : SpecD} {a : List Tok} (b : List Tok) (ha : goes a 0 = some 0) (j : Nat) : WellIn ks gs t s (a ++ b) ((a.length + j : Nat) : Int) ↔ WellIn ks gs t s b j := by
  unfold WellIn
  rw [kids_high b ha j, word_high a b]
  refine and_congr_left fun _ => ⟨fun h p hp => ?_, fun h p hp => ?_⟩
  · have := kids_in b j p hp
    rw [← tok_high a b this.1]
    exact h _ (List.mem_map_of_mem hp)
  · obtain ⟨q, hq, rfl⟩ := List.mem_map.1 hp
    have := kids_in b j q hq
    rw [tok_high a b this.1]
    exact h q hq
theorem typeAt_low (a b : List Tok) (i : Nat) (hi : i < a.length) : typeAt (a ++ b) (i : Int) = typeAt a (i : Int) := by
  unfold typeAt
  rw [tok_low a b (by omega) (by omega)]
theorem typeAt_high (a b : List Tok) (j : Nat) : typeAt (a ++ b) ((a.length + j : Nat) : Int) = typeAt b (j : Int) := by
  unfold typeAt
  rw [show ((a.length + j : Nat) : Int) = (j : Int) + (a.length : Int) by omega, tok_high a b (by omega)]
theorem wellAt_low {ks : List KindD} {gs : List Grp} {ts : List (DataW Unit)} {a : List Tok} (b : List Tok) (ha : goes a 0 = some 0) (i : Nat) (hi : i < a.length) : WellAt ks gs ts (a ++ b) i ↔ WellAt ks gs ts a i := by
  unfold WellAt
  rw [typeAt_low a b i hi]
  exact wellIn_low b ha i hi
theorem wellAt_high {ks : List KindD} {gs : List Grp} {ts : List (DataW Unit)} {a : List Tok} (b : List Tok) (ha : goes a 0 = some 0) (j : Nat) : WellAt ks gs ts (a ++ b) (a.length + j) ↔ WellAt ks gs ts b j := by
  unfold WellAt
  rw [typeAt_high a b j]
  exact wellIn_high b ha j
/-- The inner places of two documents, one behind the other. -/
theorem wells_app {ks : List KindD} {gs : List Grp} {ts : List (DataW Unit)} {a : List Tok} (b : List Tok) (ha : goes a 0 = some 0) : (∀ i, kindAt (a ++ b) i = 1 → WellAt ks gs ts (a ++ b) i) ↔ ((∀ i, kindAt a i = 1 → WellAt ks gs ts a i) ∧ ∀ i, kindAt b i = 1 → WellAt ks gs ts b i) := by
  have hin : ∀ (l : List Tok) (i : Nat), kindAt l i = 1 → i < l.length := fun l i h => Nat.lt_of_not_le fun e => by
    unfold kindAt at h
    rw [List.getElem?_eq_none e] at h
    exact absurd h (by decide)
  constructor
  · intro h
    refine ⟨fun i hi => ?_, fun i hi => ?_⟩
    · have hl := hin a i hi
      exact (wellAt_low b ha i hl).1 (h i (by rw [kindAt_low a b i hl]; exact hi))
    · exact (wellAt_high b ha i).1 (h _ (by rw [kindAt_high]; exact hi))
  · rintro ⟨h1, h2⟩ i hi
    by_cases hl : i < a.length
    · rw [kindAt_low a b i hl] at hi
      exact (wellAt_low b ha i hl).2 (h1 i hi)
    · obtain ⟨q, rfl⟩ : ∃ q, i = a.length + q := ⟨i - a.length, by omega⟩
      rw [kindAt_high] at hi
      exact (wellAt_high b ha q).2 (h2 q hi)
/-- What stands outermost fits. -/
def FitO (ks : List KindD) (s : SpecD) (l : List Tok) : Prop := ∀ p ∈ kids l (-1), fitsB ks s ((l[p.toNat]?).getD ⟨0, 0, 0, 0⟩) = true
def TakeO (m : Nat) (l : List Tok) : Prop := ∀ x ∈ wordD l (kids l (-1)), takes m x = true
theorem fitO_app {ks : List KindD} {s : SpecD} {a : List Tok} (b : List Tok) (ha : goes a 0 = some 0) : FitO ks s (a ++ b) ↔ (FitO ks s a ∧ FitO ks s b) := by
  unfold FitO
  rw [kids_out2 b ha]
  constructor
  · intro h
    refine ⟨fun p hp => ?_, fun p hp => ?_⟩
    · have := kids_in a _ p hp
      rw [← tok_low a b this.1 this.2]
      exact h p (List.mem_append_left _ hp)
    · have := kids_in b _ p hp
      rw [← tok_high a b this.1]
      exact h _ (List.mem_append_right _ (List.mem_map_of_mem hp))
  · rintro ⟨h1, h2⟩ p hp
    rcases List.mem_append.1 hp with hp | hp
    · have := kids_in a _ p hp
      rw [tok_low a b this.1 this.2]
      exact h1 p hp
    · obtain ⟨q, hq, rfl⟩ := List.mem_map.1 hp
      have := kids_in b _ q hq
      rw [tok_high a b this.1]
      exact h2 q hq
theorem word_app {a : List Tok} (b : List Tok) (ha : goes a 0 = some 0) : wordD (a ++ b) (kids (a ++ b) (-1)) = wordD a (kids a (-1)) ++ wordD b (kids b (-1)) := by
  rw [kids_out2 b ha, ← word_low a b, ← word_high a b]
  unfold wordD
  rw [List.map_append]
theorem takeO_app {m : Nat} {a : List Tok} (b : List Tok) (ha : goes a 0 = some 0) : TakeO m (a ++ b) ↔ (TakeO m a ∧ TakeO m b) := by
  unfold TakeO
  rw [word_app b ha]
  constructor
  · intro h
    exact ⟨fun x hx => h x (List.mem_append_left _ hx), fun x hx => h x (List.mem_append_right _ hx)⟩
  · rintro ⟨h1, h2⟩ x hx
    rcases List.mem_append.1 hx with hx | hx
    · exact h1 x hx
    · exact h2 x hx
/-- A document that may be, in the house. -/
theorem wellD_house {ks : List KindD} {l : List Tok} : WellD ks gsH (treesOf houseW houseL) l ↔ ((FitO ks (specOf ks 0) l ∧ TakeO 190 l ∧ kids l (-1) ≠ []) ∧ ∀ i, kindAt l i = 1 → WellAt ks gsH (treesOf houseW houseL) l i) := by
  unfold WellD WellIn
  rw [show (treesOf houseW houseL).getD 0 emptyT = outTree houseW from rfl, words_block]
  refine and_congr_left fun _ => and_congr_right fun _ => ?_
  rw [and_comm]
  refine and_congr_right fun _ => ?_
  unfold wordD
  rw [ne_eq, List.map_eq_nil_iff]
/-- Two documents, one behind the other. -/
theorem wellD_joins {ks : List KindD} {a b : List Tok} (ha : goes a 0 = some 0) (h1 : WellD ks gsH (treesOf houseW houseL) a) (h2 : WellD ks gsH (treesOf houseW houseL) b) : WellD ks gsH (treesOf houseW houseL) (a ++ b) := by
  rw [wellD_house] at h1 h2 ⊢
  obtain ⟨⟨p1, p2, p3⟩, p4⟩ := h1
  obtain ⟨⟨q1, q2, q3⟩, q4⟩ := h2
  refine ⟨⟨(fitO_app b ha).2 ⟨p1, q1⟩, (takeO_app b ha).2 ⟨p2, q2⟩, ?_⟩, (wells_app b ha).2 ⟨p4, q4⟩⟩
  rw [kids_out2 b ha]
  exact fun e => p3 (List.append_eq_nil_iff.1 e).1
theorem goes_len : ∀ (l : List Tok) (s : List Int) (i : Nat) (e : Int), goes l s.length = some e → ((openL l i s).length : Int) = e := by
  intro l
  induction l with
  | nil => intro s i e h; rw [goes] at h; rw [openL]; exact Option.some.inj h
  | cons x r ih =>
    intro s i e h
    obtain ⟨hw, _, hg⟩ := goes_cons h
    rw [← turn_length (i := i) hw] at hg
    exact ih _ (i + 1) e hg
/-- A document up to where nothing is open, and from there on. -/
theorem goes_split {l : List Tok} (h : goes l 0 = some 0) (k : Nat) (hk : k ≤ l.length) (ho : opened l (k : Int) = []) : goes (l.take k) 0 = some 0 ∧ goes (l.drop k) 0 = some 0 := by
  rw [← List.take_append_drop k l, goes_append] at h
  cases hd : goes (l.take k) 0 with
  | none => rw [hd] at h; cases h
  | some d =>
    have := goes_len (l.take k) [] 0 d hd
    rw [← opened_nat l k hk, ho] at this
    obtain rfl : d = 0 := by simpa using this.symm
    rw [hd] at h
    exact ⟨rfl, h⟩
theorem seek_none (l : List Tok) (i : Int) : ∀ (f k : Nat), (∃ j : Nat, seek l i k f = j ∧ k ≤ j ∧ j < k + f ∧ kindAt l j = 2 ∧ around l (j : Int) = i) ∨ ∀ m : Nat, k ≤ m → m < k + f → ¬ (kindAt l m = 2 ∧ around l (m : Int) = i) := by
  intro f
  induction f with
  | zero => intro k; exact .inr fun m h1 h2 => by omega
  | succ f ih =>
    intro k
    rw [seek]
    by_cases h : kindAt l k = 2 ∧ around l (k : Int) = i
    · rw [if_pos h]
      exact .inl ⟨k, rfl, Nat.le_refl _, by omega, h⟩
    · rw [if_neg h]
      rcases ih (k + 1) with ⟨j, h1, h2, h3⟩ | h1
      · exact .inl ⟨j, h1, by omega, by omega, h3.2⟩
      · refine .inr fun m h2 h3 => ?_
        by_cases e : m = k
        · subst e; exact h
        · exact h1 m (by omega) (by omega)
theorem still_open (l : List Tok) (i : Nat) (hk : kindAt l i = 1) (hi : i < l.length) (hn : ∀ m : Nat, i + 1 ≤ m → m < l.length → ¬ (kindAt l m = 2 ∧ around l (m : Int) = i)) : ∀ d, i + 1 + d ≤ l.length → (i : Int) ∈ opened l ((i + 1 + d : Nat) : Int) := by
  intro d
  induction d with
  | zero =>
    intro _
    obtain ⟨x, hx, hkx, hs⟩ := opened_cons l i hi
    rw [Nat.add_zero, hs]
    unfold turn
    rw [if_pos (by omega)]
    exact List.mem_append_right _ (List.mem_singleton.2 rfl)
  | succ d ih =>
    intro hd
    have h := ih (by omega)
    obtain ⟨x, hx, hkx, hs⟩ := opened_cons l (i + 1 + d) (by omega)
    rw [show i + 1 + (d + 1) = i + 1 + d + 1 by omega, hs]
    unfold turn
    split
    · exact List.mem_append_left _ h
    · split
      · rename_i h2
        cases hg : (opened l ((i + 1 + d : Nat) : Int)).getLast? with
        | none => rw [List.getLast?_eq_none_iff.1 hg] at h; cases h
        | some y =>
          obtain ⟨Q, hQ⟩ := List.getLast?_eq_some_iff.1 hg
          rw [hQ] at h ⊢
          rw [List.dropLast_concat]
          rcases List.mem_append.1 h with h | h
          · exact h
          · rw [List.mem_singleton] at h
            subst h
            exact absurd ⟨by omega, around_of l _ Q _ hQ⟩ (hn (i + 1 + d) (by omega) (by omega))
      · exact h
/-- Where an outermost part ends nothing is open. -/
theorem part_end {l : List Tok} (h : goes l 0 = some 0) (k : Nat) (hk : k < l.length) (h2 : kindAt l k ≠ 2) (ho : opened l (k : Int) = []) : ∃ e : Nat, max (partner l (k : Int)) (k : Int) = (e : Int) ∧ k ≤ e ∧ e < l.length ∧ opened l ((e + 1 : Nat) : Int) = [] := by
  obtain ⟨x, hx, hkx, hs⟩ := opened_cons l k hk
  by_cases h1 : kindAt l k = 1
  · rw [partner_open l k hk h1]
    rcases seek_none l k (l.length - (k + 1)) (k + 1) with ⟨j, e1, e2, e3, e4, e5⟩ | hn
    · refine ⟨j, by omega, by omega, by omega, ?_⟩
      obtain ⟨y, hy, hky, hs'⟩ := opened_cons l j (by omega)
      have := around_last l j (by omega) k e5
      rw [hs', this, ho]
      unfold turn
      rw [if_neg (by omega), if_pos (by omega)]
      rfl
    · have := still_open l k h1 hk (fun m m1 m2 => hn m m1 (by omega)) (l.length - (k + 1)) (by omega)
      rw [show k + 1 + (l.length - (k + 1)) = l.length by omega, opened_end h] at this
      cases this
  · rw [partner_else l k h1 h2]
    refine ⟨k, by omega, Nat.le_refl _, hk, ?_⟩
    rw [hs, ho]
    unfold turn
    rw [if_neg (by omega), if_neg (by omega)]
theorem around_none {l : List Tok} {p : Nat} (hp : p ≤ l.length) (h : around l (p : Int) = -1) : opened l (p : Int) = [] := by
  unfold around at h
  cases hg : (opened l (p : Int)).getLast? with
  | none => exact List.getLast?_eq_none_iff.1 hg
  | some x =>
    have := (opened_lt l p hp x (List.mem_of_getLast? hg)).1
    rw [hg] at h
    simp only [Option.getD_some] at h
    omega
/-- Each outermost part of a document that may be. -/
theorem wellD_part {ks : List KindD} {l : List Tok} (h : goes l 0 = some 0) (hl : l.length ≤ 2048) (hw : WellD ks gsH (treesOf houseW houseL) l) (x : Int) (hx : x ∈ kids l (-1)) : ∃ k e : Nat, x = (k : Int) ∧ max (partner l x) x = (e : Int) ∧ k ≤ e ∧ e < l.length ∧ (checkS ks gsH (treesOf houseW houseL) ((l.take (e + 1)).drop k)).2 = 0 := by
  obtain ⟨k, rfl, hk, k2, k3, k4, hq⟩ := (kids_mem l _ _).1 hx
  have ho := around_none (by omega) hq
  obtain ⟨e, e1, e2, e3, e4⟩ := part_end h k hk k2 ho
  refine ⟨k, e, rfl, e1, e2, e3, checkS_iff.2 ?_⟩
  obtain ⟨g1, g2⟩ := goes_split h (e + 1) (by omega) e4
  have ek : opened (l.take (e + 1)) (k : Int) = [] := by
    rw [← opened_low (l.take (e + 1)) (l.drop (e + 1)) k (by rw [List.length_take]; omega), List.take_append_drop]
    exact ho
  obtain ⟨g3, g4⟩ := goes_split g1 k (by rw [List.length_take]; omega) ek
  refine ⟨(check_ok _).2 ⟨by rw [List.length_drop, List.length_take]; omega, g4⟩, ?_⟩
  rw [wellD_house] at hw ⊢
  rw [← List.take_append_drop (e + 1) l, fitO_app _ g1, takeO_app _ g1, wells_app _ g1] at hw
  obtain ⟨⟨⟨f1, _⟩, ⟨t1, _⟩, _⟩, w1, _⟩ := hw
  have hm0 : kindAt ((l.take (e + 1)).drop k) 0 = kindAt l k := by
    unfold kindAt
    rw [List.getElem?_drop, List.getElem?_take_of_lt (by omega), Nat.add_zero]
  have hlen : 0 < ((l.take (e + 1)).drop k).length := by rw [List.length_drop, List.length_take]; omega
  generalize l.take (e + 1) = m at *
  rw [← List.take_append_drop k m, fitO_app _ g3] at f1
  rw [← List.take_append_drop k m, takeO_app _ g3] at t1
  rw [← List.take_append_drop k m, wells_app _ g3] at w1
  refine ⟨⟨f1.2, t1.2, fun e0 => ?_⟩, w1.2⟩
  have : (0 : Int) ∈ kids (m.drop k) (-1) := by
    refine (kids_mem _ _ _).2 ⟨0, rfl, hlen, by rw [hm0]; exact k2, by rw [hm0]; exact k3, by rw [hm0]; exact k4, ?_⟩
    unfold around
    rw [show ((0 : Nat) : Int) = 0 from rfl, opened_zero]
    rfl
  rw [e0] at this
  cases this
end Go.Proofs.YtgkplmnhmobnnaaGreatDoor
