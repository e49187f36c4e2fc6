/-
  PROVED HERE: what the texts MayP, MayC, SpecC say (each has its own words below).
-/
import Derived.Test.YtgkplmnhmobnnaaGreatDoorSM44
/- MayP: plain facts on a document with one rune put in: what is open, what stands in what; no program in it. -/
namespace Go.Proofs.YtgkplmnhmobnnaaGreatDoor
open Go.RowKit

/-- Where a place lies behind one is put in at n. -/
def shP (n : Nat) (j : Int) : Int := if j < n then j else j + 1
theorem shP_lt (n : Nat) {i j : Int} (h : i < j) : shP n i < shP n j := by unfold shP; split <;> split <;> omega
theorem shP_inj (n : Nat) {i j : Int} (h : shP n i = shP n j) : i = j := by unfold shP at h; split at h <;> split at h <;> omega
theorem openL_put (n : Nat) : ∀ (l : List Tok) (i : Nat) (s : List Int), n ≤ i → openL l (i + 1) (s.map (shP n)) = (openL l i s).map (shP n) := by
  intro l
  induction l with
  | nil => intro i s _; rfl
  | cons x r ih =>
    intro i s hi
    rw [openL, openL, ← ih (i + 1) _ (by omega)]
    congr 1
    split
    · rw [List.map_append, List.map_singleton, show shP n (i : Int) = ((i + 1 : Nat) : Int) by unfold shP; rw [if_neg (by omega)]; omega]
    · split
      · rw [List.map_dropLast]
      · rfl
/-- A document with one put in. -/
def putP (l : List Tok) (n : Nat) (x : Tok) : List Tok := l.take n ++ x :: l.drop n
theorem putP_length {l : List Tok} {n : Nat} {x : Tok} : (putP l n x).length = l.length + 1 := by
  unfold putP
  rw [List.length_append, List.length_cons, List.length_take, List.length_drop]
  omega
theorem putP_low {l : List Tok} {n : Nat} {x : Tok} (hn : n ≤ l.length) {j : Nat} (h : j < n) : (putP l n x)[j]? = l[j]? := by
  unfold putP
  rw [List.getElem?_append_left (by rw [List.length_take]; omega), List.getElem?_take_of_lt h]
theorem putP_at {l : List Tok} {n : Nat} {x : Tok} (hn : n ≤ l.length) : (putP l n x)[n]? = some x := by
  unfold putP
  rw [List.getElem?_append_right (by rw [List.length_take]; omega), List.length_take, Nat.min_eq_left hn, Nat.sub_self]
  rfl
theorem putP_high {l : List Tok} {n : Nat} {x : Tok} (hn : n ≤ l.length) {j : Nat} (h : n ≤ j) : (putP l n x)[j + 1]? = l[j]? := by
  unfold putP
  rw [List.getElem?_append_right (by rw [List.length_take]; omega), List.length_take, Nat.min_eq_left hn, show j + 1 - n = (j - n) + 1 by omega, List.getElem?_cons_succ, List.getElem?_drop, show n + (j - n) = j by omega]
theorem opened_put_low {l : List Tok} {n : Nat} {x : Tok} (hn : n ≤ l.length) {m : Nat} (h : m ≤ n) : opened (putP l n x) (m : Int) = opened l (m : Int) := by
  unfold putP
  rw [opened_low _ _ m (by rw [List.length_take]; omega)]
  have := opened_low (l.take n) (l.drop n) m (by rw [List.length_take]; omega)
  rw [List.take_append_drop] at this
  exact this.symm
theorem map_low {n : Nat} {s : List Int} (h : ∀ x ∈ s, x < (n : Int)) : s.map (shP n) = s := by
  have : s.map (shP n) = s.map id := List.map_congr_left fun x hx => by unfold shP; rw [if_pos (h x hx)]; rfl
  rw [this, List.map_id]
theorem opened_put_high {l : List Tok} {n : Nat} {x : Tok} (hn : n ≤ l.length) (h1 : x.k ≠ 1) (h2 : x.k ≠ 2) : ∀ {m : Nat}, n ≤ m → m ≤ l.length → opened (putP l n x) ((m + 1 : Nat) : Int) = (opened l (m : Int)).map (shP n) := by
  intro m hm hl
  obtain ⟨d, rfl⟩ : ∃ d, m = n + d := ⟨m - n, by omega⟩
  clear hm
  induction d with
  | zero =>
    show opened (putP l n x) ((n + 1 : Nat) : Int) = (opened l (n : Int)).map (shP n)
    rw [opened_succ _ n x (putP_at hn), turn_else h1 h2, opened_put_low hn (Nat.le_refl _), map_low fun y hy => (opened_lt l n hn y hy).2]
  | succ d ih =>
    obtain ⟨y, hy, _, hs⟩ := opened_cons l (n + d) (by omega)
    have hp : (putP l n x)[n + d + 1]? = some y := by rw [putP_high hn (by omega)]; exact hy
    rw [show n + (d + 1) = n + d + 1 by omega, opened_succ _ (n + d + 1) y hp, ih (by omega), hs]
    unfold turn
    split
    · rw [List.map_append, List.map_singleton, show shP n ((n + d : Nat) : Int) = ((n + d + 1 : Nat) : Int) by unfold shP; rw [if_neg (by omega)]; omega]
    · split
      · rw [List.map_dropLast]
      · rfl
/-- The innermost at a place: as before, moved. -/
def shA (n : Nat) (i : Int) : Int := if i = -1 then -1 else shP n i
theorem around_put_low {l : List Tok} {n : Nat} {x : Tok} (hn : n ≤ l.length) {m : Nat} (h : m ≤ n) : around (putP l n x) (m : Int) = shA n (around l (m : Int)) := by
  have hg := around_ge l m (by omega)
  have e : around (putP l n x) (m : Int) = around l (m : Int) := by unfold around; rw [opened_put_low hn h]
  rw [e]
  unfold shA shP
  split
  · assumption
  · rw [if_pos (by omega)]
theorem around_put_high {l : List Tok} {n : Nat} {x : Tok} (hn : n ≤ l.length) (h1 : x.k ≠ 1) (h2 : x.k ≠ 2) {m : Nat} (h : n ≤ m) (hl : m ≤ l.length) : around (putP l n x) ((m + 1 : Nat) : Int) = shA n (around l (m : Int)) := by
  have hf := opened_fits l (m : Int)
  unfold around
  rw [opened_put_high hn h1 h2 h hl, List.getLast?_map]
  cases hg : (opened l (m : Int)).getLast? with
  | none => rfl
  | some y =>
    have := (hf y (List.mem_of_getLast? hg)).1
    simp only [Option.map_some, Option.getD_some]
    unfold shA
    rw [if_neg (by omega)]
theorem shA_inj (n : Nat) {i j : Int} (hi : -1 ≤ i) (hj : -1 ≤ j) (h : shA n i = shA n j) : i = j := by
  unfold shA shP at h
  split at h <;> split at h <;> (try split at h) <;> (try split at h) <;> omega
theorem kindAt_put_low {l : List Tok} {n : Nat} {x : Tok} (hn : n ≤ l.length) {j : Nat} (h : j < n) : kindAt (putP l n x) j = kindAt l j := by unfold kindAt; rw [putP_low hn h]
theorem kindAt_put_high {l : List Tok} {n : Nat} {x : Tok} (hn : n ≤ l.length) {j : Nat} (h : n ≤ j) : kindAt (putP l n x) (j + 1) = kindAt l j := by unfold kindAt; rw [putP_high hn h]
theorem kindAt_put_at {l : List Tok} {n : Nat} {x : Tok} (hn : n ≤ l.length) : kindAt (putP l n x) n = x.k := kindAt_some (putP_at hn)
/-- What stands just in a place behind a rune is put in. -/
theorem kids_put {l : List Tok} {n : Nat} {x : Tok} (hn : n ≤ l.length) (h0 : x.k = 0) {i : Int} (hi : -1 ≤ i) (y : Int) : y ∈ kids (putP l n x) (shA n i) ↔ ((∃ z ∈ kids l i, y = shP n z) ∨ (y = n ∧ around l (n : Int) = i)) := by
  have h1 : x.k ≠ 1 := by omega
  have h2 : x.k ≠ 2 := by omega
  rw [kids_mem]
  have ar : ∀ m : Nat, m ≤ l.length → -1 ≤ around l (m : Int) := fun m hm => by have := around_ge l m hm; omega
  constructor
  · rintro ⟨m, rfl, hm, k1, k2, k3, ha⟩
    rw [putP_length] at hm
    by_cases e1 : m < n
    · rw [kindAt_put_low hn e1] at k1 k2 k3
      rw [around_put_low hn (by omega)] at ha
      have := shA_inj n (ar m (by omega)) hi ha
      exact .inl ⟨(m : Int), (kids_mem l _ _).2 ⟨m, rfl, by omega, k1, k2, k3, this⟩, by unfold shP; rw [if_pos (by omega)]⟩
    · by_cases e2 : m = n
      · subst e2
        rw [around_put_low hn (Nat.le_refl _)] at ha
        exact .inr ⟨rfl, shA_inj m (ar m hn) hi ha⟩
      · obtain ⟨q, rfl⟩ : ∃ q, m = q + 1 := ⟨m - 1, by omega⟩
        rw [kindAt_put_high hn (by omega)] at k1 k2 k3
        rw [around_put_high hn h1 h2 (by omega) (by omega)] at ha
        have := shA_inj n (ar q (by omega)) hi ha
        exact .inl ⟨(q : Int), (kids_mem l _ _).2 ⟨q, rfl, by omega, k1, k2, k3, this⟩, by unfold shP; rw [if_neg (by omega)]; omega⟩
  · rintro (⟨z, hz, rfl⟩ | ⟨rfl, ha⟩)
    · obtain ⟨q, rfl, hq, k1, k2, k3, ha⟩ := (kids_mem l _ _).1 hz
      by_cases e1 : q < n
      · refine ⟨q, by unfold shP; rw [if_pos (by omega)], by rw [putP_length]; omega, ?_⟩
        rw [kindAt_put_low hn e1, around_put_low hn (by omega), ha]
        exact ⟨k1, k2, k3, rfl⟩
      · refine ⟨q + 1, by unfold shP; rw [if_neg (by omega)]; omega, by rw [putP_length]; omega, ?_⟩
        rw [kindAt_put_high hn (by omega), around_put_high hn h1 h2 (by omega) (by omega), ha]
        exact ⟨k1, k2, k3, rfl⟩
    · refine ⟨n, rfl, by rw [putP_length]; omega, ?_⟩
      rw [kindAt_put_at hn, around_put_low hn (Nat.le_refl _), ha]
      exact ⟨h2, by omega, by omega, rfl⟩
theorem tok_put {l : List Tok} {n : Nat} {x : Tok} (hn : n ≤ l.length) {z : Int} (h0 : 0 ≤ z) : (putP l n x)[(shP n z).toNat]? = l[z.toNat]? := by
  obtain ⟨q, rfl⟩ := Int.eq_ofNat_of_zero_le h0
  unfold shP
  split
  · rw [putP_low hn (by omega)]
  · rw [show ((q : Int) + 1).toNat = q + 1 by omega, putP_high hn (by omega), Int.toNat_natCast]
theorem typeAt_put {l : List Tok} {n : Nat} {x : Tok} (hn : n ≤ l.length) {z : Int} (h0 : 0 ≤ z) : typeAt (putP l n x) (shP n z) = typeAt l z := by
  unfold typeAt
  rw [tok_put hn h0]
theorem word_put {l : List Tok} {n : Nat} {x : Tok} (hn : n ≤ l.length) {ps : List Int} (h : ∀ p ∈ ps, 0 ≤ p) : wordD (putP l n x) (ps.map (shP n)) = wordD l ps := by
  unfold wordD
  rw [List.map_map]
  exact List.map_congr_left fun p hp => typeAt_put hn (h p hp)
theorem rise_put {u : List Int} (n : Nat) (h : u.Pairwise (· < ·)) : (u.map (shP n)).Pairwise (· < ·) := by
  rw [List.pairwise_map]
  exact h.imp fun h => shP_lt n h
/-- Elsewhere. -/
theorem kids_else {l : List Tok} {n : Nat} {x : Tok} (hn : n ≤ l.length) (h0 : x.k = 0) {i : Int} (hi : -1 ≤ i) (ha : around l (n : Int) ≠ i) : kids (putP l n x) (shA n i) = (kids l i).map (shP n) := by
  refine rise_eq _ _ (kids_rise _ _) (rise_put n (kids_rise _ _)) fun y => ?_
  rw [kids_put hn h0 hi, List.mem_map]
  constructor
  · rintro (⟨z, h1, h2⟩ | ⟨_, h2⟩)
    · exact ⟨z, h1, h2.symm⟩
    · exact absurd h2 ha
  · rintro ⟨z, h1, h2⟩
    exact .inl ⟨z, h1, h2.symm⟩
/-- Where it is put. -/
theorem kids_here {l : List Tok} {n : Nat} {x : Tok} (hn : n ≤ l.length) (h0 : x.k = 0) (a : Nat) (h1 : ∀ p ∈ (kids l (around l (n : Int))).take a, p < (n : Int)) (h2 : ∀ p ∈ (kids l (around l (n : Int))).drop a, (n : Int) ≤ p) : kids (putP l n x) (shA n (around l (n : Int))) = ((kids l (around l (n : Int))).take a).map (shP n) ++ (n : Int) :: ((kids l (around l (n : Int))).drop a).map (shP n) := by
  have hi : -1 ≤ around l (n : Int) := by have := around_ge l n hn; omega
  have hK := kids_rise l (around l (n : Int))
  rw [← List.take_append_drop a (kids l (around l (n : Int))), List.pairwise_append] at hK
  obtain ⟨r1, r2, r3⟩ := hK
  refine rise_eq _ _ (kids_rise _ _) (List.pairwise_append.2 ⟨rise_put n r1, List.pairwise_cons.2 ⟨fun y hy => ?_, rise_put n r2⟩, fun y hy z hz => ?_⟩) fun y => ?_
  · obtain ⟨q, hq, rfl⟩ := List.mem_map.1 hy
    have := h2 q hq
    unfold shP
    split <;> omega
  · obtain ⟨q, hq, rfl⟩ := List.mem_map.1 hy
    have hq1 := h1 q hq
    rcases List.mem_cons.1 hz with rfl | hz
    · unfold shP
      rw [if_pos hq1]
      exact hq1
    · obtain ⟨q', hq', rfl⟩ := List.mem_map.1 hz
      exact shP_lt n (r3 q hq q' hq')
  · rw [kids_put hn h0 hi, List.mem_append, List.mem_cons, List.mem_map, List.mem_map]
    constructor
    · rintro (⟨z, hz, rfl⟩ | ⟨rfl, _⟩)
      · rw [← List.take_append_drop a (kids l (around l (n : Int))), List.mem_append] at hz
        rcases hz with hz | hz
        · exact .inl ⟨z, hz, rfl⟩
        · exact .inr (.inr ⟨z, hz, rfl⟩)
      · exact .inr (.inl rfl)
    · rintro (⟨z, hz, rfl⟩ | rfl | ⟨z, hz, rfl⟩)
      · exact .inl ⟨z, List.mem_of_mem_take hz, rfl⟩
      · exact .inr ⟨rfl, rfl⟩
      · exact .inl ⟨z, List.mem_of_mem_drop hz, rfl⟩
/-- All that stands elsewhere stays as it may be. -/
theorem wellIn_else {ks : List KindD} {gs : List Grp} {t : DataW Unit} {s : SpecD} {l : List Tok} {n : Nat} {x : Tok} (hn : n ≤ l.length) (h0 : x.k = 0) {i : Int} (hi : -1 ≤ i) (ha : around l (n : Int) ≠ i) : WellIn ks gs t s (putP l n x) (shA n i) ↔ WellIn ks gs t s l i := by
  have hin : ∀ p ∈ kids l i, 0 ≤ p := fun p hp => (kids_in l i p hp).1
  unfold WellIn
  rw [kids_else hn h0 hi ha, word_put hn hin]
  refine and_congr_left fun _ => ⟨fun h p hp => ?_, fun h p hp => ?_⟩
  · rw [← tok_put (x := x) hn (hin p hp)]
    exact h _ (List.mem_map_of_mem hp)
  · obtain ⟨q, hq, rfl⟩ := List.mem_map.1 hp
    rw [tok_put hn (hin q hq)]
    exact h q hq
/-- Where it is put, it fits, and the word with its type in it is one. -/
theorem wellIn_here {ks : List KindD} {gs : List Grp} {t : DataW Unit} {s : SpecD} {l : List Tok} {n : Nat} {x : Tok} (hn : n ≤ l.length) (h0 : x.k = 0) (a : Nat) (h1 : ∀ p ∈ (kids l (around l (n : Int))).take a, p < (n : Int)) (h2 : ∀ p ∈ (kids l (around l (n : Int))).drop a, (n : Int) ≤ p) (hw : ∀ p ∈ kids l (around l (n : Int)), fitsB ks s ((l[p.toNat]?).getD ⟨0, 0, 0, 0⟩) = true) :
    WellIn ks gs t s (putP l n x) (shA n (around l (n : Int))) ↔ (fitsB ks s x = true ∧ LangD gs 200 t ((wordD l (kids l (around l (n : Int)))).take a ++ x.t :: (wordD l (kids l (around l (n : Int)))).drop a)) := by
  have hin : ∀ p ∈ kids l (around l (n : Int)), 0 ≤ p := fun p hp => (kids_in l _ p hp).1
  have hwd : wordD (putP l n x) (kids (putP l n x) (shA n (around l (n : Int)))) = (wordD l (kids l (around l (n : Int)))).take a ++ x.t :: (wordD l (kids l (around l (n : Int)))).drop a := by
    rw [kids_here hn h0 a h1 h2]
    have e1 := word_put (x := x) hn (ps := (kids l (around l (n : Int))).take a) fun p hp => hin p (List.mem_of_mem_take hp)
    have e2 := word_put (x := x) hn (ps := (kids l (around l (n : Int))).drop a) fun p hp => hin p (List.mem_of_mem_drop hp)
    unfold wordD at e1 e2 ⊢
    rw [List.map_append, List.map_cons, e1, e2, List.map_take, List.map_drop]
    congr 2
    unfold typeAt
    rw [Int.toNat_natCast, putP_at hn]
    rfl
  have hx : (((putP l n x)[((n : Int)).toNat]?).getD ⟨0, 0, 0, 0⟩) = x := by rw [Int.toNat_natCast, putP_at hn]; rfl
  unfold WellIn
  rw [hwd]
  refine and_congr_left fun _ => ⟨fun h => ?_, fun h p hp => ?_⟩
  · have := h n (by rw [kids_here hn h0 a h1 h2]; exact List.mem_append_right _ (List.mem_cons_self ..))
    rw [hx] at this
    exact this
  · rcases (kids_put hn h0 (by have := around_ge l n hn; omega) p).1 hp with ⟨z, hz, rfl⟩ | ⟨rfl, _⟩
    · rw [tok_put hn (hin z hz)]
      exact hw z hz
    · rw [hx]
      exact h
theorem goes_le : ∀ (l : List Tok) (d e : Int), d ≤ 32 → goes l d = some e → e ≤ 32 := by
  intro l
  induction l with
  | nil => intro d e h h1; rw [goes] at h1; cases h1; exact h
  | cons x r ih =>
    intro d e _ h1
    obtain ⟨_, h2, h3⟩ := goes_cons h1
    exact ih _ e h2 h3
/-- A rune put in leaves a document a document. -/
theorem goes_put {l : List Tok} {n : Nat} {x : Tok} (h0 : x.k = 0) (hr : rightT x = true) : goes (putP l n x) 0 = goes l 0 := by
  have e : goes l 0 = (goes (l.take n) 0).bind (goes (l.drop n)) := by rw [← goes_append, List.take_append_drop]
  unfold putP
  rw [goes_append, e]
  cases hg : goes (l.take n) 0 with
  | none => rfl
  | some d =>
    have hd := goes_le _ _ _ (by omega) hg
    have h1 : wrong x d = false := by unfold wrong; rw [hr, h0]; rfl
    have h2 : deeper x d = d := by unfold deeper; rw [if_neg (by omega), if_neg (by omega)]
    show goes (x :: l.drop n) d = goes (l.drop n) d
    rw [goes, h1, h2, if_neg (by decide), if_neg (by omega)]
/-- The tree and the type at a place. -/
def treeAt (ts : List (DataW Unit)) (l : List Tok) (i : Int) : DataW Unit := if i = -1 then ts.getD 0 emptyT else ts.getD (typeAt l i).toNat emptyT
def specAt (ks : List KindD) (l : List Tok) (i : Int) : SpecD := if i = -1 then specOf ks 0 else specOf ks (typeAt l i).toNat
def PlaceP (l : List Tok) (i : Int) : Prop := i = -1 ∨ ∃ m : Nat, i = (m : Int) ∧ kindAt l m = 1
theorem wellD_places {ks : List KindD} {gs : List Grp} {ts : List (DataW Unit)} {l : List Tok} : WellD ks gs ts l ↔ ∀ i, PlaceP l i → WellIn ks gs (treeAt ts l i) (specAt ks l i) l i := by
  unfold WellD
  constructor
  · rintro ⟨h1, h2⟩ i (rfl | ⟨m, rfl, hm⟩)
    · exact h1
    · unfold treeAt specAt
      rw [if_neg (by omega), if_neg (by omega)]
      exact h2 m hm
  · intro h
    refine ⟨h (-1) (.inl rfl), fun m hm => ?_⟩
    have := h (m : Int) (.inr ⟨m, rfl, hm⟩)
    unfold treeAt specAt at this
    rw [if_neg (by omega), if_neg (by omega)] at this
    exact this
theorem around_place (l : List Tok) (n : Nat) (hn : n ≤ l.length) : PlaceP l (around l (n : Int)) := by
  by_cases h : around l (n : Int) = -1
  · exact .inl h
  · have h1 := around_in l n h
    have h2 := (opened_lt l n hn _ h1).1
    exact .inr ⟨(around l (n : Int)).toNat, by omega, opened_kind l n hn _ h1⟩
theorem kind_lt {l : List Tok} {m : Nat} (h : kindAt l m = 1) : m < l.length := Nat.lt_of_not_le fun e => by
  unfold kindAt at h
  rw [List.getElem?_eq_none e] at h
  exact absurd h (by decide)
theorem place_put {l : List Tok} {n : Nat} {x : Tok} (hn : n ≤ l.length) (h0 : x.k = 0) (j : Int) : PlaceP (putP l n x) j ↔ ∃ i, PlaceP l i ∧ j = shA n i := by
  constructor
  · rintro (rfl | ⟨m, rfl, hm⟩)
    · exact ⟨-1, .inl rfl, rfl⟩
    · by_cases e1 : m < n
      · rw [kindAt_put_low hn e1] at hm
        exact ⟨(m : Int), .inr ⟨m, rfl, hm⟩, by unfold shA shP; rw [if_neg (by omega), if_pos (by omega)]⟩
      · by_cases e2 : m = n
        · subst e2
          rw [kindAt_put_at hn] at hm
          omega
        · obtain ⟨q, rfl⟩ : ∃ q, m = q + 1 := ⟨m - 1, by omega⟩
          rw [kindAt_put_high hn (by omega)] at hm
          exact ⟨(q : Int), .inr ⟨q, rfl, hm⟩, by unfold shA shP; rw [if_neg (by omega), if_neg (by omega)]; omega⟩
  · rintro ⟨i, rfl | ⟨m, rfl, hm⟩, rfl⟩
    · exact .inl rfl
    · refine .inr ?_
      unfold shA shP
      rw [if_neg (by omega)]
      split
      · exact ⟨m, rfl, by rw [kindAt_put_low hn (by omega)]; exact hm⟩
      · exact ⟨m + 1, by omega, by rw [kindAt_put_high hn (by omega)]; exact hm⟩
theorem same_put {ks : List KindD} {ts : List (DataW Unit)} {l : List Tok} {n : Nat} {x : Tok} (hn : n ≤ l.length) {i : Int} (hp : PlaceP l i) : treeAt ts (putP l n x) (shA n i) = treeAt ts l i ∧ specAt ks (putP l n x) (shA n i) = specAt ks l i := by
  rcases hp with rfl | ⟨m, rfl, hm⟩
  · exact ⟨rfl, rfl⟩
  · have e : shA n (m : Int) = shP n (m : Int) := by unfold shA; rw [if_neg (by omega)]
    have e' : shP n (m : Int) ≠ -1 := by unfold shP; split <;> omega
    unfold treeAt specAt
    rw [e, if_neg e', if_neg e', if_neg (by omega), if_neg (by omega), typeAt_put hn (by omega)]
    exact ⟨rfl, rfl⟩
/-- A rune may be put in just if it fits there, and the word with it is one. -/
theorem wellD_put {ks : List KindD} {gs : List Grp} {ts : List (DataW Unit)} {l : List Tok} {n : Nat} {x : Tok} (hn : n ≤ l.length) (h0 : x.k = 0) (hw : WellD ks gs ts l) (a : Nat) (h1 : ∀ p ∈ (kids l (around l (n : Int))).take a, p < (n : Int)) (h2 : ∀ p ∈ (kids l (around l (n : Int))).drop a, (n : Int) ≤ p) :
    WellD ks gs ts (putP l n x) ↔ (fitsB ks (specAt ks l (around l (n : Int))) x = true ∧ LangD gs 200 (treeAt ts l (around l (n : Int))) ((wordD l (kids l (around l (n : Int)))).take a ++ x.t :: (wordD l (kids l (around l (n : Int)))).drop a)) := by
  rw [wellD_places] at hw ⊢
  have hpl := around_place l n hn
  have hme := hw _ hpl
  obtain ⟨s1, s2⟩ := same_put (ks := ks) (ts := ts) (x := x) hn hpl
  constructor
  · intro h
    have := h _ ((place_put hn h0 _).2 ⟨_, hpl, rfl⟩)
    rw [s1, s2] at this
    exact (wellIn_here hn h0 a h1 h2 hme.1).1 this
  · intro h j hj
    obtain ⟨i, hi, rfl⟩ := (place_put hn h0 j).1 hj
    obtain ⟨t1, t2⟩ := same_put (ks := ks) (ts := ts) (x := x) hn hi
    rw [t1, t2]
    by_cases e : around l (n : Int) = i
    · subst e
      exact (wellIn_here hn h0 a h1 h2 hme.1).2 h
    · exact (wellIn_else hn h0 (by rcases hi with rfl | ⟨m, rfl, _⟩ <;> omega) e).2 (hw i hi)
end Go.Proofs.YtgkplmnhmobnnaaGreatDoor

/- MayC: schema's isValid. -/
namespace Go.Proofs.YtgkplmnhmobnnaaGreatDoor
open Go.RowKit

set_option maxRecDepth 100000 in
set_option maxHeartbeats 400000 in
theorem isvalid_calls {B g c ng nc : Nat} {ks : List KindD} {gs : List Grp} {ts : List (DataW Unit)} (w : World) (h : SchAt w B g c ng nc ks gs ts) (h0 : 0 < ks.length) (a : Option Addr) (len cap : Nat) (l : List Tok) (hl : Toks w a len l) (hlie : Lies a len cap) (hsz : len ≤ 4398046511104) :
    Calls Tryz.prog 35 #[.pointer (some ⟨B, 0, none⟩), .slice a len cap] w fun e w' => e = .returned (.bool ((checkS ks gs ts l).2 == 0)) ∧ Below w.heap.size w w' := by
  have HC := Hid.mk_ (scheck_any w h h0 a len cap l hl hlie hsz)
  obtain ⟨c1, hc1⟩ : ∃ c1, (checkS ks gs ts l).1 = c1 := ⟨_, rfl⟩
  obtain ⟨c2, hc2⟩ : ∃ c2, (checkS ks gs ts l).2 = c2 := ⟨_, rfl⟩
  rw [hc1, hc2] at HC
  rw [hc2]
  clear h hl hlie hc1 hc2
  go_enter Tryz.func35, Tryz.ntmps35
  go_wp2_with fail
  refine HC.out.mono ?_
  rintro e W ⟨rfl, hB⟩
  have HE := Hid.mk_ hB
  clear hB HC
  go_wp2
  go_ret
  first | exact HE.out | exact ⟨rfl, HE.out⟩
end Go.Proofs.YtgkplmnhmobnnaaGreatDoor

/- SpecC: schema's Spec and Holds: what they return; nothing that lay before is turned. -/
namespace Go.Proofs.YtgkplmnhmobnnaaGreatDoor
open Go.RowKit

theorem sizeSpec : (Tryz.prog.info? 34).map (·.size) = some 7 := by kernel_rfl
theorem ones7 (n e : ByteArray) (f : Bool) (m l k : Int) (b : Bool) : (#[Value.string n, .string e, .bool f, .int .i64 m, .int .i64 l, .int .i64 k, .bool b] : Array Value).all (·.oneCell') = true := by
  rw [Array.all_eq_true_iff_forall_mem]
  intro v hv
  simp at hv
  rcases hv with rfl | rfl | rfl | rfl | rfl | rfl | rfl <;> rfl
/-- What Spec answers. -/
def specR (ks : List KindD) (t : Int) : SpecD := if 1 ≤ t ∧ t < ks.length then specOf ks t.toNat else zeroS
set_option maxRecDepth 100000 in
set_option maxHeartbeats 800000 in
theorem spec_calls {B g c ng nc : Nat} {ks : List KindD} {gs : List Grp} {ts : List (DataW Unit)} (w : World) (h : SchAt w B g c ng nc ks gs ts) (h0 : 0 < ks.length) (t : Int) :
    Calls Tryz.prog 19 #[.pointer (some ⟨B, 0, none⟩), .int .i64 t] w fun e w' => e = .returned (.tuple #[specV (specR ks t), .bool (decide (1 ≤ t ∧ t < ks.length))]) ∧ Below w.heap.size w w' := by
  obtain ⟨V, hV⟩ : ∃ V, V = w.alloc (.cells #[.string ⟨#[]⟩, .string ⟨#[]⟩, .bool false, .int .i64 0, .int .i64 0, .int .i64 0, .bool false] 34) := ⟨_, rfl⟩
  have hBV : Below w.heap.size w V := by rw [hV]; exact (Below.refl _ w).alloc (Nat.le_refl _) _
  have hS := h.below hBV
  have HT := typeof_calls V hS h0 t
  have HZ : Hid (V.heap[w.heap.size]? = some (.cells #[.string ⟨#[]⟩, .string ⟨#[]⟩, .bool false, .int .i64 0, .int .i64 0, .int .i64 0, .bool false] 34 (0, 0))) := by rw [hV]; exact World.alloc_heap_new w _
  have HF : Hid (∀ cs, Below w.heap.size w (V.setRow w.heap.size cs)) := fun cs => below_setRow hBV (Nat.le_refl _) cs
  unfold specR
  by_cases hc : 1 ≤ t ∧ t < ks.length
  · rw [if_pos hc] at HT ⊢
    obtain ⟨n, rfl⟩ : ∃ n : Nat, t = (n : Int) := ⟨t.toNat, by omega⟩
    rw [Int.toNat_natCast] at HT ⊢
    obtain ⟨x, hx⟩ : ∃ x, ks[n]? = some x := ⟨_, List.getElem?_eq_getElem (by omega)⟩
    rw [specOf_some hx]
    obtain ⟨s0, s1, s2, s3, s4, s5, s6⟩ := (hS.kinds n x hx).1
    have hd : decide (1 ≤ (n : Int) ∧ (n : Int) < ks.length) = true := by simpa using hc
    rw [hd]
    obtain ⟨⟨xn, xe, xf, xm, xl, xk, xb⟩, y⟩ := x
    unfold specV
    dsimp only at *
    clear h hS hx hBV hc hd
    go_enter Tryz.func19, Tryz.ntmps19
    go_wp2_with fail
    rw [← hV]
    clear hV
    refine HT.mono ?_
    rintro e w' ⟨rfl, rfl⟩
    clear HT
    go_wp2_with (refine wpList_store_row rfl 34 _ _ rfl w.heap.size #[.string xn, .string xe, .bool xf, .int .i64 xm, .int .i64 xl, .int .i64 xk, .bool xb] rfl rfl 34 _ HZ.out sizeSpec rfl (ones7 _ _ _ _ _ _ _) ?_)
    refine bodyPost_ret (results_row_tmp rfl _ _ w.heap.size 34 #[.string xn, .string xe, .bool xf, .int .i64 xm, .int .i64 xl, .int .i64 xk, .bool xb] (0, 0) _ rfl (setRow_heap _ _ _ _ _ _ HZ.out) Tryz.underlying34 rfl sizeSpec) rfl ?_
    exact ⟨rfl, HF.out _⟩
  · rw [if_neg hc] at HT ⊢
    have hd : decide (1 ≤ t ∧ t < (ks.length : Int)) = false := by simpa using hc
    rw [hd]
    unfold specV zeroS
    dsimp only at *
    clear h hS hBV hc hd
    go_enter Tryz.func19, Tryz.ntmps19
    go_wp2_with fail
    rw [← hV]
    clear hV
    refine HT.mono ?_
    rintro e w' ⟨rfl, rfl⟩
    clear HT
    go_wp2_with (refine wpList_store_row rfl 34 _ _ rfl w.heap.size #[.string ⟨#[]⟩, .string ⟨#[]⟩, .bool false, .int .i64 0, .int .i64 0, .int .i64 0, .bool false] rfl rfl 34 _ HZ.out sizeSpec rfl (ones7 _ _ _ _ _ _ _) ?_)
    refine bodyPost_ret (results_row_tmp rfl _ _ w.heap.size 34 #[.string ⟨#[]⟩, .string ⟨#[]⟩, .bool false, .int .i64 0, .int .i64 0, .int .i64 0, .bool false] (0, 0) _ rfl (setRow_heap _ _ _ _ _ _ HZ.out) Tryz.underlying34 rfl sizeSpec) rfl ?_
    exact ⟨rfl, HF.out _⟩
/-- What Holds answers of a document that may be: the place's type. -/
noncomputable def holdsT (ks : List KindD) (gs : List Grp) (ts : List (DataW Unit)) (l : List Tok) (p : Int) : Int := if (checkS ks gs ts l).2 = 0 ∧ around l p ≠ -1 then typeAt l (around l p) else 0
set_option maxRecDepth 100000 in
set_option maxHeartbeats 1600000 in
theorem holds_calls {B g c ng nc : Nat} {ks : List KindD} {gs : List Grp} {ts : List (DataW Unit)} (w : World) (h : SchAt w B g c ng nc ks gs ts) (h0 : 0 < ks.length) (a : Option Addr) (len cap : Nat) (l : List Tok) (hl : Toks w a len l) (hlie : Lies a len cap) (hsz : len ≤ 4398046511104) (p : Int) :
    Calls Tryz.prog 13 #[.pointer (some ⟨B, 0, none⟩), .slice a len cap, .int .i64 p] w fun e w' => e = .returned (.tuple #[specV (specR ks (holdsT ks gs ts l p)), .bool (decide (1 ≤ holdsT ks gs ts l p ∧ holdsT ks gs ts l p < ks.length))]) ∧ Below w.heap.size w w' := by
  obtain ⟨V, hV⟩ : ∃ V, V = w.alloc (.cells #[.string ⟨#[]⟩, .string ⟨#[]⟩, .bool false, .int .i64 0, .int .i64 0, .int .i64 0, .bool false] 34) := ⟨_, rfl⟩
  have hBV : Below w.heap.size w V := by rw [hV]; exact (Below.refl _ w).alloc (Nat.le_refl _) _
  have HZ : Hid (∀ X, Below V.heap.size V X → X.heap[w.heap.size]? = some (.cells #[.string ⟨#[]⟩, .string ⟨#[]⟩, .bool false, .int .i64 0, .int .i64 0, .int .i64 0, .bool false] 34 (0, 0))) := fun X hX => by
    have m : V.heap[w.heap.size]? = some (.cells #[.string ⟨#[]⟩, .string ⟨#[]⟩, .bool false, .int .i64 0, .int .i64 0, .int .i64 0, .bool false] 34 (0, 0)) := by rw [hV]; exact World.alloc_heap_new w _
    exact (hX.block _ (Array.getElem?_eq_some_iff.1 m).1).trans m
  have HF : Hid (∀ X, Below V.heap.size V X → ∀ cs, Below w.heap.size w (X.setRow w.heap.size cs)) := fun X hX cs => below_setRow (hBV.trans (hX.mono hBV.size)) (Nat.le_refl _) cs
  have HV := isvalid_calls V (h.below hBV) h0 a len cap l (hl.below hBV) hlie hsz
  have HAR : Hid (∀ X, Below V.heap.size V X → Calls Tryz.prog 36 #[.slice a len cap, .int .i64 p] X fun e w' => e = .returned (.int .i64 (around l p)) ∧ Below X.heap.size X w') := fun X hX => faround_calls a len cap l p X (hl.below (hBV.trans (hX.mono hBV.size))) (by omega) hlie
  have HSP : Hid (∀ X t, Below V.heap.size V X → Calls Tryz.prog 19 #[.pointer (some ⟨B, 0, none⟩), .int .i64 t] X fun e w' => e = .returned (.tuple #[specV (specR ks t), .bool (decide (1 ≤ t ∧ t < ks.length))]) ∧ Below X.heap.size X w') := fun X t hX => spec_calls X (h.below (hBV.trans (hX.mono hBV.size))) h0 t
  have HTK : Hid (∀ X (i : Nat), Below V.heap.size V X → i < len → ∃ b o, a = some ⟨b, o, none⟩ ∧ X.cell? ⟨b, o + i * 4 + 1, none⟩ = some (.int .i64 (typeAt l (i : Int)))) := fun X i hX hi => by
    obtain ⟨b, o, x, h1, _, h3, h4⟩ := hl.token hi
    refine ⟨b, o, h1, ?_⟩
    rw [(h4 X (hBV.trans (hX.mono hBV.size))).2.1]
    unfold typeAt
    rw [Int.toNat_natCast, h3]
    rfl
  have HAL : Hid (around l p = -1 ∨ (0 ≤ around l p ∧ around l p < (len : Int))) := by
    show around l p = -1 ∨ (0 ≤ around l p ∧ around l p < (len : Int))
    have hf := opened_fits l p
    have := hl.1
    unfold around
    cases hg : (opened l p).getLast? with
    | none => exact .inl rfl
    | some y =>
      have := hf y (List.mem_of_getLast? hg)
      exact .inr (by simp only [Option.getD_some]; omega)
  obtain ⟨q, hq⟩ : ∃ q, (checkS ks gs ts l).2 = q := ⟨_, rfl⟩
  unfold holdsT
  rw [hq] at HV ⊢
  have hzero : specR ks 0 = zeroS := by unfold specR; rw [if_neg (by omega)]
  have hd0 : decide (1 ≤ (0 : Int) ∧ (0 : Int) < (ks.length : Int)) = false := by simp
  have hlen : (len : Int) ≤ 4398046511104 := by omega
  obtain ⟨r, hr⟩ : ∃ r, around l p = r := ⟨_, rfl⟩
  rw [hr] at HAR HAL ⊢
  clear h hl hlie hr hq
  by_cases hz : q = 0
  · subst hz
    rw [show ((0 : Int) == 0) = true from rfl] at HV
    by_cases hm : r = -1
    · subst hm
      rw [if_neg (by simp), hzero, hd0]
      unfold specV zeroS
      dsimp only
      clear HTK HSP HAL
      go_enter Tryz.func13, Tryz.ntmps13
      go_wp2_with fail
      rw [← hV]
      clear hV
      refine HV.mono ?_
      rintro e X1 ⟨rfl, hB1⟩
      have HA := HAR.out X1 hB1
      have HB1 := Hid.mk_ hB1
      clear hB1 HV HAR
      go_wp2_with fail
      refine HA.mono ?_
      rintro e X2 ⟨rfl, hB2⟩
      have hB12 := HB1.out.trans (hB2.mono HB1.out.size)
      have HZ2 := Hid.mk_ (HZ.out X2 hB12)
      have HF2 := Hid.mk_ (HF.out X2 hB12)
      clear hB2 hB12 HA HB1 HZ HF
      go_wp2_with (refine wpList_store_row rfl 34 _ _ rfl w.heap.size #[.string ⟨#[]⟩, .string ⟨#[]⟩, .bool false, .int .i64 0, .int .i64 0, .int .i64 0, .bool false] rfl rfl 34 _ HZ2.out sizeSpec rfl (ones7 _ _ _ _ _ _ _) ?_)
      refine bodyPost_ret (results_row_tmp rfl _ _ w.heap.size 34 #[.string ⟨#[]⟩, .string ⟨#[]⟩, .bool false, .int .i64 0, .int .i64 0, .int .i64 0, .bool false] (0, 0) _ rfl (setRow_heap _ _ _ _ _ _ HZ2.out) Tryz.underlying34 rfl sizeSpec) rfl ?_
      exact ⟨rfl, HF2.out _⟩
    · rw [if_pos ⟨rfl, hm⟩]
      obtain ⟨n, rfl⟩ : ∃ n : Nat, r = (n : Int) := ⟨r.toNat, by rcases HAL.out with h | h <;> omega⟩
      have hnl : (n : Int) < (len : Int) := by rcases HAL.out with h | h <;> omega
      have hn0 : (0 : Int) ≤ (n : Int) := by omega
      have hne : ((n : Int) == -1) = false := by rw [beq_eq_false_iff_ne]; omega
      obtain ⟨b, o, rfl, _⟩ := HTK.out V n (Below.refl _ _) (by omega)
      have HTC : Hid (∀ X, Below V.heap.size V X → X.cell? ⟨b, o + n * 4 + 1, none⟩ = some (.int .i64 (typeAt l (n : Int)))) := fun X hX => by
        obtain ⟨b', o', e, h2⟩ := HTK.out X n hX (by omega)
        cases e
        exact h2
      obtain ⟨tt, htt⟩ : ∃ tt, typeAt l (n : Int) = tt := ⟨_, rfl⟩
      rw [htt] at HTC ⊢
      have HSP2 : Hid (∀ X, Below V.heap.size V X → Calls Tryz.prog 19 #[.pointer (some ⟨B, 0, none⟩), .int .i64 tt] X fun e w' => e = .returned (.tuple #[specV (specR ks tt), .bool (decide (1 ≤ tt ∧ tt < ks.length))]) ∧ Below X.heap.size X w') := fun X hX => HSP.out X tt hX
      generalize decide (1 ≤ tt ∧ tt < (ks.length : Int)) = rr at *
      generalize specR ks tt = ss at *
      obtain ⟨sn, se, sf, sm, sl, sk, sb⟩ := ss
      unfold specV at HSP2 ⊢
      dsimp only at *
      clear HTK HSP HAL htt hm hzero hd0
      go_enter Tryz.func13, Tryz.ntmps13
      go_wp2_with fail
      rw [← hV]
      clear hV
      refine HV.mono ?_
      rintro e X1 ⟨rfl, hB1⟩
      have HA := HAR.out X1 hB1
      have HB1 := Hid.mk_ hB1
      clear hB1 HV HAR
      go_wp2_with fail
      refine HA.mono ?_
      rintro e X2 ⟨rfl, hB2⟩
      have hB12 := HB1.out.trans (hB2.mono HB1.out.size)
      have c1 := HTC.out X2 hB12
      have HS2 := HSP2.out X2 hB12
      have HB12 := Hid.mk_ hB12
      clear hB2 hB12 HA HB1 HTC HSP2
      go_wp2_with fail
      refine HS2.mono ?_
      rintro e X3 ⟨rfl, hB3⟩
      have hB13 := HB12.out.trans (hB3.mono HB12.out.size)
      have HZ2 := Hid.mk_ (HZ.out X3 hB13)
      have HF2 := Hid.mk_ (HF.out X3 hB13)
      clear hB3 hB13 HS2 HB12 HZ HF c1
      go_wp2_with (refine wpList_store_row rfl 34 _ _ rfl w.heap.size #[.string sn, .string se, .bool sf, .int .i64 sm, .int .i64 sl, .int .i64 sk, .bool sb] rfl rfl 34 _ HZ2.out sizeSpec rfl (ones7 _ _ _ _ _ _ _) ?_)
      refine bodyPost_ret (results_row_tmp rfl _ _ w.heap.size 34 #[.string sn, .string se, .bool sf, .int .i64 sm, .int .i64 sl, .int .i64 sk, .bool sb] (0, 0) _ rfl (setRow_heap _ _ _ _ _ _ HZ2.out) Tryz.underlying34 rfl sizeSpec) rfl ?_
      exact ⟨rfl, HF2.out _⟩
  · rw [if_neg (fun h => hz h.1), hzero, hd0]
    have hqz : (q == 0) = false := by rw [beq_eq_false_iff_ne]; exact hz
    rw [hqz] at HV
    unfold specV zeroS
    dsimp only
    clear HTK HSP HAL HAR
    go_enter Tryz.func13, Tryz.ntmps13
    go_wp2_with fail
    rw [← hV]
    clear hV
    refine HV.mono ?_
    rintro e X1 ⟨rfl, hB1⟩
    have HZ2 := Hid.mk_ (HZ.out X1 hB1)
    have HF2 := Hid.mk_ (HF.out X1 hB1)
    clear hB1 HV HZ HF
    go_wp2_with (refine wpList_store_row rfl 34 _ _ rfl w.heap.size #[.string ⟨#[]⟩, .string ⟨#[]⟩, .bool false, .int .i64 0, .int .i64 0, .int .i64 0, .bool false] rfl rfl 34 _ HZ2.out sizeSpec rfl (ones7 _ _ _ _ _ _ _) ?_)
    refine bodyPost_ret (results_row_tmp rfl _ _ w.heap.size 34 #[.string ⟨#[]⟩, .string ⟨#[]⟩, .bool false, .int .i64 0, .int .i64 0, .int .i64 0, .bool false] (0, 0) _ rfl (setRow_heap _ _ _ _ _ _ HZ2.out) Tryz.underlying34 rfl sizeSpec) rfl ?_
    exact ⟨rfl, HF2.out _⟩
end Go.Proofs.YtgkplmnhmobnnaaGreatDoor
