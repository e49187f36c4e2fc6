/-
  PROVED HERE: plain mathematics of the two running rests of a sum: how they go on behind one another, how two sums join, that one byte is told.
-/
import Derived.Test.YtgbpfbpfoobhhaaQStr
namespace Go.Proofs.Ytgbpfbpfoobhhaa

/-- One byte more. -/
def step (p : Int × Int) (c : Int) : Int × Int := ((p.1 + c) % 65521, (p.2 + (p.1 + c) % 65521) % 65521)
/-- Bytes behind one another. -/
def goes (p : Int × Int) (l : List Int) : Int × Int := l.foldl step p
/-- All bytes together. -/
def tot : List Int → Int
  | [] => 0
  | c :: r => c + tot r
/-- All sums of the first bytes together. -/
def tri : List Int → Int
  | [] => 0
  | c :: r => c * ((r.length : Int) + 1) + tri r

/-- Both parts are rests. -/
def Rests (p : Int × Int) : Prop := 0 ≤ p.1 ∧ p.1 < 65521 ∧ 0 ≤ p.2 ∧ p.2 < 65521

theorem rests_step (p : Int × Int) (c : Int) : Rests (step p c) := by
  unfold Rests step
  simp only
  omega

theorem goes_append (p : Int × Int) (a b : List Int) : goes p (a ++ b) = goes (goes p a) b := List.foldl_append
theorem goes_snoc (p : Int × Int) (a : List Int) (c : Int) : goes p (a ++ [c]) = step (goes p a) c := by rw [goes_append]; rfl

theorem rests_goes (p : Int × Int) (h : Rests p) : ∀ l : List Int, Rests (goes p l) := fun l => by
  induction l generalizing p with
  | nil => exact h
  | cons c r ih => exact ih (step p c) (rests_step p c)

theorem mul_rest (k x : Int) : ∃ t, k * (x % 65521) = k * x - 65521 * t :=
  ⟨k * (x / 65521), by rw [Int.emod_def, Int.mul_sub, Int.mul_left_comm]⟩

theorem goes_eq (l : List Int) : ∀ p : Int × Int, Rests p → goes p l = ((p.1 + tot l) % 65521, (p.2 + (l.length : Int) * p.1 + tri l) % 65521) := by
  induction l with
  | nil =>
    intro p h
    obtain ⟨h1, h2, h3, h4⟩ := h
    obtain ⟨a, b⟩ := p
    simp only [goes, List.foldl_nil, tot, tri, List.length_nil] at *
    rw [Prod.mk.injEq]
    omega
  | cons c r ih =>
    intro p h
    obtain ⟨a, b⟩ := p
    show goes (step (a, b) c) r = _
    rw [ih _ (rests_step _ _)]
    simp only [step, tot, tri, List.length_cons]
    obtain ⟨t, ht⟩ := mul_rest (r.length : Int) (a + c)
    rw [ht]
    have e1 : ((r.length + 1 : Nat) : Int) * a = (r.length : Int) * a + a := by push_cast; rw [Int.add_mul]; omega
    have e2 : c * ((r.length : Int) + 1) = (r.length : Int) * c + c := by rw [Int.mul_add, Int.mul_one, Int.mul_comm]
    rw [e1, e2, Int.mul_add]
    generalize (r.length : Int) * a = x
    generalize (r.length : Int) * c = y
    rw [Prod.mk.injEq]
    omega

theorem tot_append (a b : List Int) : tot (a ++ b) = tot a + tot b := by
  induction a with
  | nil => simp [tot]
  | cons c r ih => simp only [List.cons_append, tot, ih]; omega

/-- What a sum holds. -/
def parts (s : Int) : Int × Int := (s % 65536 % 65521, s / 65536 % 65521)
/-- Two rests as one number. -/
def whole (p : Int × Int) : Int := p.2 * 65536 + p.1
/-- The sum when bytes come behind the sum s. -/
def more (s : Int) (l : List Int) : Int := whole (goes (parts s) l)
/-- The sum of two sums. -/
def join (s t n : Int) : Int := whole (((parts s).1 + (parts t).1 + 65520) % 65521, ((parts s).2 + (parts t).2 + n % 65521 * ((parts s).1 + 65520)) % 65521)

theorem rests_parts (s : Int) : Rests (parts s) := by
  unfold Rests parts
  simp only
  omega
theorem parts_whole (p : Int × Int) (h : Rests p) : parts (whole p) = p := by
  obtain ⟨a, b⟩ := p
  obtain ⟨h1, h2, h3, h4⟩ := h
  unfold parts whole
  simp only at *
  rw [Prod.mk.injEq]
  omega
theorem whole_inj {p q : Int × Int} (hp : Rests p) (hq : Rests q) (h : whole p = whole q) : p = q := by
  rw [← parts_whole p hp, ← parts_whole q hq, h]
theorem whole_fits (p : Int × Int) (h : Rests p) : 0 ≤ whole p ∧ whole p ≤ 4294967295 := by
  obtain ⟨h1, h2, h3, h4⟩ := h
  unfold whole
  omega
theorem more_fits (s : Int) (l : List Int) : 0 ≤ more s l ∧ more s l ≤ 4294967295 := whole_fits _ (rests_goes _ (rests_parts s) l)
theorem parts_more (s : Int) (l : List Int) : parts (more s l) = goes (parts s) l := parts_whole _ (rests_goes _ (rests_parts s) l)
theorem parts_one : parts 1 = (1, 0) := rfl
theorem more_nil : more 1 [] = 1 := rfl

/-- A sum goes on. -/
theorem more_more (s : Int) (a b : List Int) : more (more s a) b = more s (a ++ b) := by
  unfold more
  rw [parts_whole _ (rests_goes _ (rests_parts s) a), goes_append]

theorem more_none (s : Int) (l : List Int) : more (more s l) [] = more s l := by rw [more_more, List.append_nil]

/-- The sums of two, joined. -/
theorem join_more (a b : List Int) : join (more 1 a) (more 1 b) b.length = more 1 (a ++ b) := by
  rw [← more_more]
  unfold join more
  rw [parts_whole _ (rests_goes _ (rests_parts 1) a), parts_whole _ (rests_goes _ (rests_parts 1) b)]
  have hA := rests_goes _ (rests_parts 1) a
  generalize goes (parts 1) a = p at *
  rw [goes_eq b p hA, goes_eq b (parts 1) (rests_parts 1), parts_one]
  obtain ⟨x, y⟩ := p
  simp only
  congr 1
  obtain ⟨t, ht⟩ := mul_rest (x + 65520) (b.length : Int)
  rw [Int.mul_comm (_ % 65521) (x + 65520), ht, Int.add_mul, Int.mul_comm x, Int.mul_one]
  generalize (b.length : Int) * x = z
  rw [Prod.mk.injEq]
  omega

theorem join_one (l : List Int) : join (more 1 l) 1 0 = more 1 l := by
  have := join_more l []
  rw [List.append_nil] at this
  exact this
theorem one_join (l : List Int) : join 1 (more 1 l) l.length = more 1 l := join_more [] l

theorem tot_set (l : List Int) : ∀ (i : Nat) (c : Int), i < l.length → tot (l.set i c) = tot l + c - l.getD i 0 := by
  induction l with
  | nil => intro i c h; simp at h
  | cons x r ih =>
    intro i c h
    cases i with
    | zero => simp only [List.set_cons_zero, tot, List.getD_cons_zero]; omega
    | succ i =>
      simp only [List.set_cons_succ, tot, List.getD_cons_succ]
      rw [ih i c (by simpa using h)]
      omega

/-- One byte is told. -/
theorem more_tells (l : List Int) (i : Nat) (c : Int) (hi : i < l.length) (h0 : 0 ≤ c) (h1 : c ≤ 255) (g0 : 0 ≤ l.getD i 0) (g1 : l.getD i 0 ≤ 255) : more 1 (l.set i c) = more 1 l ↔ c = l.getD i 0 := by
  constructor
  · intro h
    have h2 := whole_inj (rests_goes _ (rests_parts 1) _) (rests_goes _ (rests_parts 1) _) h
    rw [goes_eq _ _ (rests_parts 1), goes_eq _ _ (rests_parts 1), tot_set l i c hi, parts_one] at h2
    have h3 := congrArg Prod.fst h2
    simp only at h3
    omega
  · intro h
    subst h
    congr 1
    apply List.ext_getElem?
    intro j
    rw [List.getElem?_set]
    by_cases e : i = j
    · subst e
      rw [if_pos rfl, if_pos hi, List.getD_eq_getElem?_getD, List.getElem?_eq_getElem hi]
      rfl
    · rw [if_neg e]
end Go.Proofs.Ytgbpfbpfoobhhaa
