/-
  PROVED HERE: plain facts on tokens: what is open, step by step; the text of parts; two documents, one behind the other, and one within a TOpen and a TClose; no program in it.
-/
import Derived.Test.YtgpopploimeeaaaRow
import Derived.Test.YtgpopploimeeaaaOwn
import Derived.Test.YtgpopploimeeaaaTxt
namespace Go.Proofs.Ytgpopploimeeaaa


theorem openL_append (l m : List Tok) (i : Nat) (s : List Int) : openL (l ++ m) i s = openL m (i + l.length) (openL l i s) := by
  induction l generalizing i s with
  | nil => simp [openL]
  | cons x r ih =>
    rw [List.cons_append, openL, openL, ih, List.length_cons, show i + 1 + r.length = i + (r.length + 1) from by omega]
theorem opened_nat (l : List Tok) (k : Nat) (h : k ≤ l.length) : opened l k = openL (l.take k) 0 [] := by
  unfold opened
  rw [if_pos (by omega), Int.toNat_natCast]
theorem opened_zero (l : List Tok) : opened l 0 = [] := by
  have := opened_nat l 0 (Nat.zero_le _)
  simpa [openL] using this
theorem opened_succ (l : List Tok) (k : Nat) (x : Tok) (h : l[k]? = some x) : opened l ((k + 1 : Nat) : Int) = turn x k (opened l k) := by
  have hk : k < l.length := (List.getElem?_eq_some_iff.1 h).1
  rw [opened_nat l (k + 1) hk, opened_nat l k (by omega), List.take_add_one, h, openL_append]
  rw [List.length_take, show 0 + min k l.length = k from by omega]
  rfl
theorem around_neg (l : List Tok) (p : Int) : decide (around l p < 0) = decide ((opened l p).length = 0) := by
  unfold around
  cases h : (opened l p).getLast? with
  | none => simp [List.getLast?_eq_none_iff.1 h]
  | some x =>
    have h1 := opened_fits l p x (List.mem_of_getLast? h)
    have h2 : opened l p ≠ [] := by intro e; rw [e] at h; cases h
    simp only [Option.getD_some, List.length_eq_zero_iff, h2, decide_false, decide_eq_false_iff_not]
    omega

theorem text_append (a b : List Tok) : text (a ++ b) = text a ++ text b := by simp [text, List.flatMap_append]
theorem cut_low (l : List Tok) (k : Nat) (h : k ≤ l.length) : cut l 0 k = l.take k ∧ cutE l 0 k = 0 := by
  unfold cut cutE
  rw [if_neg (by omega), if_neg (by omega)]
  simp
theorem cut_high (l : List Tok) (k : Nat) (h : k ≤ l.length) : cut l k l.length = l.drop k ∧ cutE l k l.length = 0 := by
  unfold cut cutE
  rw [if_neg (by omega), if_neg (by omega)]
  refine ⟨?_, rfl⟩
  rw [Int.toNat_natCast, List.take_of_length_le]
  rw [List.length_drop]
  omega

/-- How deep it is behind the tokens, d open ahead of them; none, where Check tells an error. -/
def deeper (x : Tok) (d : Int) : Int := if x.k = 1 then d + 1 else if x.k = 2 then d - 1 else d
def wrong (x : Tok) (d : Int) : Bool := !rightT x || (x.k == 2 && d == 0)
def goes : List Tok → Int → Option Int
  | [], d => some d
  | x :: r, d => if wrong x d = true then none else if 32 < deeper x d then none else goes r (deeper x d)
theorem checkL_cons (x : Tok) (r : List Tok) (i : Nat) (d : Int) : checkL (x :: r) i d = if wrong x d = true then ((i : Int), 4) else if 32 < deeper x d then ((i : Int), 8) else checkL r (i + 1) (deeper x d) := rfl
theorem deeper_nonneg {x : Tok} {d : Int} (h : 0 ≤ d) (hw : wrong x d = false) : 0 ≤ deeper x d := by
  unfold deeper
  unfold wrong at hw
  split
  · omega
  · split
    · rename_i h2
      simp [h2] at hw
      omega
    · exact h
theorem goes_append (a b : List Tok) (d : Int) : goes (a ++ b) d = (goes a d).bind (goes b) := by
  induction a generalizing d with
  | nil => rfl
  | cons x r ih =>
    rw [List.cons_append, goes, goes]
    split
    · rfl
    · split
      · rfl
      · exact ih _
theorem checkL_goes (l : List Tok) (i : Nat) (d : Int) (h : 0 ≤ d) : ((checkL l i d).2 = 0 ↔ goes l d = some 0) ∧ (goes l d = some 0 → checkL l i d = (((i + l.length : Nat) : Int), 0)) := by
  induction l generalizing i d with
  | nil =>
    rw [checkL, goes]
    split
    · exact ⟨⟨fun h => by simp at h, fun h => by simp at h; omega⟩, fun h => by simp at h; omega⟩
    · exact ⟨⟨fun _ => by simp; omega, fun _ => rfl⟩, fun _ => by simp⟩
  | cons x r ih =>
    rw [checkL_cons, goes]
    cases hw : wrong x d with
    | true => simp
    | false =>
      simp only [Bool.false_eq_true, if_false]
      split
      · simp
      · have := ih (i + 1) (deeper x d) (deeper_nonneg h hw)
        refine ⟨this.1, fun e => ?_⟩
        rw [this.2 e, List.length_cons, show i + 1 + r.length = i + (r.length + 1) from by omega]
theorem check_ok (l : List Tok) : (check l).2 = 0 ↔ l.length ≤ 2048 ∧ goes l 0 = some 0 := by
  unfold check
  split
  · constructor
    · intro h; exact absurd h (by decide)
    · intro h; omega
  · rw [(checkL_goes l 0 0 (by omega)).1]
    constructor
    · intro h; exact ⟨by omega, h⟩
    · intro h; exact h.2
theorem check_done (l : List Tok) (h : (check l).2 = 0) : check l = ((l.length : Int), 0) := by
  obtain ⟨h1, h2⟩ := (check_ok l).1 h
  unfold check
  rw [if_neg (by omega), (checkL_goes l 0 0 (by omega)).2 h2]
  simp
/-- Two documents, one behind the other. -/
theorem check_joins (a b : List Tok) (ha : (check a).2 = 0) (hb : (check b).2 = 0) (hl : (a ++ b).length ≤ 2048) : (check (a ++ b)).2 = 0 := by
  rw [check_ok] at *
  refine ⟨hl, ?_⟩
  rw [goes_append, ha.2]
  exact hb.2

/-- The greatest depth at any place, d open at the first. -/
def deepest : List Tok → Int → Int
  | [], d => d
  | x :: r, d => max d (deepest r (deeper x d))
theorem deepest_ge (l : List Tok) (d : Int) : d ≤ deepest l d := by
  cases l with
  | nil => exact Int.le_refl _
  | cons x r => rw [deepest]; omega
theorem deeper_succ (x : Tok) (d : Int) : deeper x (d + 1) = deeper x d + 1 := by unfold deeper; split <;> (try split) <;> omega
theorem goes_cons {x : Tok} {r : List Tok} {d e : Int} (h : goes (x :: r) d = some e) : wrong x d = false ∧ deeper x d ≤ 32 ∧ goes r (deeper x d) = some e := by
  rw [goes] at h
  cases hw : wrong x d with
  | true => rw [hw] at h; simp at h
  | false =>
    rw [hw] at h
    simp only [Bool.false_eq_true, if_false] at h
    split at h
    · cases h
    · exact ⟨rfl, by omega, h⟩
theorem wrong_succ {x : Tok} {d : Int} (h : 0 ≤ d) (hw : wrong x d = false) : wrong x (d + 1) = false := by
  unfold wrong at *
  have : (d + 1 == 0) = false := by
    simp only [beq_eq_false_iff_ne]
    omega
  simp only [this, Bool.and_false, Bool.or_false]
  cases hr : rightT x with
  | true => rfl
  | false => rw [hr] at hw; simp at hw
/-- One deeper: as well, or too deep. -/
theorem goes_within (l : List Tok) (d e : Int) (h0 : 0 ≤ d) (h1 : d < 32) (h : goes l d = some e) : (deepest l d < 32 → goes l (d + 1) = some (e + 1)) ∧ (32 ≤ deepest l d → ∀ (t : List Tok) (i : Nat), (checkL (l ++ t) i (d + 1)).2 = 8) := by
  induction l generalizing d with
  | nil =>
    rw [goes] at h
    obtain rfl := Option.some.inj h
    exact ⟨fun _ => rfl, fun h => by rw [deepest] at h; omega⟩
  | cons x r ih =>
    obtain ⟨hw, hd, hg⟩ := goes_cons h
    have hn := deeper_nonneg h0 hw
    have hw' := wrong_succ h0 hw
    rw [deepest]
    by_cases h32 : deeper x d = 32
    · have := deepest_ge r (deeper x d)
      refine ⟨fun h => by omega, fun _ t i => ?_⟩
      rw [List.cons_append, checkL_cons, hw', deeper_succ]
      simp only [Bool.false_eq_true, if_false]
      rw [if_pos (by omega)]
    · obtain ⟨i1, i2⟩ := ih (deeper x d) hn (by omega) hg
      refine ⟨fun h => ?_, fun h t i => ?_⟩
      · rw [goes, hw', deeper_succ]
        simp only [Bool.false_eq_true, if_false]
        rw [if_neg (by omega)]
        exact i1 (by omega)
      · rw [List.cons_append, checkL_cons, hw', deeper_succ]
        simp only [Bool.false_eq_true, if_false]
        rw [if_neg (by omega)]
        exact i2 (by omega) t (i + 1)

/-- The greatest depth at the first k places. -/
def mx (l : List Tok) : Nat → Int
  | 0 => 0
  | k + 1 => max (mx l k) ((opened l k).length : Int)
theorem mx_nonneg (l : List Tok) (k : Nat) : 0 ≤ mx l k := by
  induction k with
  | zero => exact Int.le_refl _
  | succ k ih => rw [mx]; omega
theorem turn_length {x : Tok} {i : Nat} {s : List Int} (hw : wrong x s.length = false) : ((turn x i s).length : Int) = deeper x s.length := by
  unfold turn deeper
  split
  · simp
  · split
    · rename_i h2
      unfold wrong at hw
      simp [h2] at hw
      have : s.length ≠ 0 := by
        intro e
        exact hw.2 (List.length_eq_zero_iff.1 e)
      rw [List.length_dropLast]
      omega
    · rfl
theorem mx_step (l : List Tok) (k : Nat) (hk : k ≤ l.length) (h : goes l 0 = some 0) : max (mx l k) (deepest (l.drop k) (opened l k).length) = deepest l 0 ∧ goes (l.drop k) (opened l k).length = some 0 := by
  induction k with
  | zero =>
    have h0 := opened_zero l
    rw [show ((0 : Nat) : Int) = 0 from rfl, h0, mx]
    have := deepest_ge l 0
    simp only [List.drop_zero, List.length_nil]
    exact ⟨by rw [show ((0 : Nat) : Int) = 0 from rfl]; omega, h⟩
  | succ k ih =>
    obtain ⟨i1, i2⟩ := ih (by omega)
    obtain ⟨x, hx, hd⟩ := drop_getD (l := l) (k := k) (by omega)
    rw [hd] at i1 i2
    obtain ⟨hw, _, hg⟩ := goes_cons i2
    rw [opened_succ l k x hx, turn_length hw, mx]
    rw [deepest] at i1
    exact ⟨by omega, hg⟩
theorem mx_all (l : List Tok) (h : goes l 0 = some 0) : mx l l.length = deepest l 0 := by
  obtain ⟨i1, i2⟩ := mx_step l l.length (Nat.le_refl _) h
  rw [List.drop_length] at i1 i2
  rw [goes] at i2
  rw [deepest, Option.some.inj i2] at i1
  have := mx_nonneg l l.length
  omega
/-- A document within a TOpen and a TClose. -/
theorem check_within (l : List Tok) (t : Int) (ht : 1 ≤ t ∧ t ≤ 15) (h : (check l).2 = 0) (hl : l.length ≤ 2046) :
    (check ((⟨1, t, 0, 0⟩ :: l) ++ [⟨2, 0, 0, 0⟩])).2 = if mx l l.length < 32 then 0 else 8 := by
  obtain ⟨_, hg⟩ := (check_ok l).1 h
  rw [mx_all l hg]
  have hr : rightT ⟨1, t, 0, 0⟩ = true := by
    unfold rightT
    simp
    omega
  have hw : wrong ⟨1, t, 0, 0⟩ 0 = false := by unfold wrong; rw [hr]; rfl
  have hd : deeper ⟨1, t, 0, 0⟩ 0 = 1 := rfl
  obtain ⟨g1, g2⟩ := goes_within l 0 0 (by omega) (by omega) hg
  split
  · rename_i h32
    rw [check_ok]
    refine ⟨by simp; omega, ?_⟩
    rw [goes_append, goes, hw, hd]
    simp only [Bool.false_eq_true, if_false]
    rw [if_neg (by omega), show (1 : Int) = 0 + 1 from rfl, g1 h32]
    decide
  · rename_i h32
    have := g2 (by omega) [⟨2, 0, 0, 0⟩] 1
    unfold check
    rw [if_neg (by simp; omega), List.cons_append, checkL_cons, hw, hd]
    simp only [Bool.false_eq_true, if_false]
    rw [if_neg (by omega)]
    exact this
end Go.Proofs.Ytgpopploimeeaaa
