/-
  PROVED HERE: the text of a right tree, by the document's own text and Print: what they return; nothing that lay before is turned.
-/
import Derived.Test.YtafidabopcgkhaaDoorCheckE
import Derived.Laws.Concat
namespace Go.Proofs.YtafidabopcgkhaaDoor
open Go.RowKit

/-- A byte. -/
def sign (n : UInt8) : ByteArray := ⟨#[n]⟩
/-- A part of a tree of kind k. -/
def piece (f : DataW Unit → ByteArray) (k : Int) (x : DataW Unit) : ByteArray := if k = 2 ∧ kindT x = 3 then sign 40 ++ f x ++ sign 41 else f x
/-- What stands ahead of the i-th part. -/
def ahead (k : Int) (i : Nat) (acc : ByteArray) : ByteArray := if 0 < i then (if k = 2 then acc ++ sign 32 else if k = 3 then acc ++ sign 124 else acc) else acc
def joinE (f : DataW Unit → ByteArray) (k : Int) : ByteArray → Nat → List (DataW Unit) → ByteArray
  | acc, _, [] => acc
  | acc, i, x :: r => joinE f k (ahead k i acc ++ piece f k x) (i + 1) r
def within (f : DataW Unit → ByteArray) (x : DataW Unit) : ByteArray := if kindT x = 2 ∨ kindT x = 3 then sign 40 ++ f x ++ sign 41 else f x
def headT : List (DataW Unit) → DataW Unit
  | [] => .nil
  | x :: _ => x
def textE : Nat → DataW Unit → ByteArray
  | 0, _ => ⟨#[]⟩
  | n + 1, t =>
    if kindT t = 1 then nameT t
    else if kindT t = 4 then within (textE n) (headT (subs t)) ++ sign 42
    else if kindT t = 5 then within (textE n) (headT (subs t)) ++ sign 43
    else if kindT t = 6 then within (textE n) (headT (subs t)) ++ sign 63
    else joinE (textE n) (kindT t) ⟨#[]⟩ 0 (subs t)
/-- How long it may be. -/
def wt : Nat → DataW Unit → Int
  | 0, _ => 0
  | n + 1, t => 5 + (nameT t).size + total (wt n) (subs t)
theorem wt_nonneg (n : Nat) : ∀ t, 0 ≤ wt n t := by
  induction n with
  | zero => intro t; exact Int.le_refl _
  | succ n ih => intro t; have := total_nonneg ih (subs t); rw [wt]; omega
theorem sign_size (n : UInt8) : (sign n).size = 1 := rfl
theorem piece_size {f : DataW Unit → ByteArray} {g : DataW Unit → Int} (k : Int) (x : DataW Unit) (h : ((f x).size : Int) + 4 ≤ g x) : ((piece f k x).size : Int) + 2 ≤ g x := by
  unfold piece
  split
  · rw [ByteArray.size_append, ByteArray.size_append, sign_size, sign_size]
    omega
  · omega
theorem ahead_size (k : Int) (i : Nat) (acc : ByteArray) : (ahead k i acc).size ≤ acc.size + 1 := by
  unfold ahead
  split
  · split
    · rw [ByteArray.size_append, sign_size]
      omega
    · split
      · rw [ByteArray.size_append, sign_size]
        omega
      · omega
  · omega
theorem joinE_size {f : DataW Unit → ByteArray} {g : DataW Unit → Int} (k : Int) (l : List (DataW Unit)) : ∀ (acc : ByteArray) (i : Nat), (∀ x ∈ l, ((f x).size : Int) + 4 ≤ g x) → ((joinE f k acc i l).size : Int) ≤ acc.size + total g l := by
  induction l with
  | nil => intro acc i _; rw [joinE, total]; omega
  | cons x r ih =>
    intro acc i h
    have h1 := ih (ahead k i acc ++ piece f k x) (i + 1) (fun y hy => h y (List.mem_cons_of_mem _ hy))
    have h2 := ahead_size k i acc
    have h3 := piece_size k x (h x (List.mem_cons_self ..))
    rw [ByteArray.size_append] at h1
    rw [joinE, total]
    omega
/-- Fuel enough. -/
def fits : Nat → DataW Unit → Prop
  | 0, _ => False
  | n + 1, t => ∀ x ∈ subs t, fits n x
theorem Ex.fits {w : World} : ∀ (n : Nat) (t : DataW Unit) (v : Value), Ex w n t v → fits n t := by
  intro n
  induction n with
  | zero => intro t v h; exact h.elim
  | succ n ih =>
    rintro t v ⟨k, s, a, len, cap, ts, rfl, _, hl, _, hk⟩ x hx
    rw [subs_node] at hx
    rcases hk with h0 | ⟨b, o, _, _, hc⟩
    · obtain rfl : ts = [] := List.length_eq_zero_iff.1 (by omega)
      cases hx
    · obtain ⟨i, hi⟩ := List.getElem?_of_mem hx
      obtain ⟨_, _, _, _, _, _, _, _, h⟩ := hc i x hi
      exact ih _ _ h
theorem within_size (f : DataW Unit → ByteArray) (x : DataW Unit) : (within f x).size ≤ (f x).size + 2 := by
  unfold within
  split
  · rw [ByteArray.size_append, ByteArray.size_append, sign_size, sign_size]
    omega
  · omega
theorem textE_nil (n : Nat) : (within (textE n) .nil).size = 0 := by
  have h : (textE n .nil).size = 0 := by
    cases n with
    | zero => rfl
    | succ n => rfl
  unfold within
  rw [if_neg (by decide)]
  exact h
theorem textE_size : ∀ (n : Nat) (t : DataW Unit), fits n t → ((textE n t).size : Int) + 4 ≤ wt n t := by
  intro n
  induction n with
  | zero => intro t h; exact h.elim
  | succ n ih =>
    intro t h
    have hw := wt_nonneg n
    have hT := total_nonneg hw (subs t)
    have hh : ((within (textE n) (headT (subs t))).size : Int) + 2 ≤ total (wt n) (subs t) ∨ (within (textE n) (headT (subs t))).size = 0 := by
      cases hs : subs t with
      | nil => exact .inr (textE_nil n)
      | cons x r =>
        have h1 := ih x (h x (by rw [hs]; exact List.mem_cons_self ..))
        have h2 := within_size (textE n) x
        have h3 := total_nonneg hw r
        exact .inl (by show ((within (textE n) x).size : Int) + 2 ≤ total (wt n) (x :: r); rw [total]; omega)
    have hj := joinE_size (f := textE n) (g := wt n) (kindT t) (subs t) ⟨#[]⟩ 0 (fun x hx => ih x (h x hx))
    have he : (⟨#[]⟩ : ByteArray).size = 0 := rfl
    rw [textE, wt]
    split
    · omega
    · split
      · rw [ByteArray.size_append, sign_size]
        omega
      · split
        · rw [ByteArray.size_append, sign_size]
          omega
        · split
          · rw [ByteArray.size_append, sign_size]
            omega
          · omega
theorem cnt_wt (n : Nat) : ∀ t, cnt n t ≤ wt n t := by
  have key : ∀ (f g : DataW Unit → Int), (∀ x, f x ≤ g x) → ∀ l, total f l ≤ total g l := by
    intro f g h l
    induction l with
    | nil => exact Int.le_refl _
    | cons x r ih => have := h x; rw [total, total]; omega
  induction n with
  | zero => intro t; exact Int.le_refl _
  | succ n ih => intro t; have := key _ _ ih (subs t); rw [cnt, wt]; omega
theorem named_wt (n : Nat) : ∀ t, wt n t ≤ 1152921504606846976 → named n t := by
  induction n with
  | zero => intro t _; trivial
  | succ n ih =>
    intro t h
    rw [wt] at h
    have hT := total_nonneg (wt_nonneg n) (subs t)
    refine ⟨by omega, fun x hx => ih x ?_⟩
    have := total_mem (wt_nonneg n) hx
    omega
/-- The parts, one by one. -/
theorem joinE_take (f : DataW Unit → ByteArray) (k : Int) : ∀ (l : List (DataW Unit)) (acc : ByteArray) (i j : Nat) (x : DataW Unit), l[j]? = some x → joinE f k acc i (l.take (j + 1)) = ahead k (i + j) (joinE f k acc i (l.take j)) ++ piece f k x := by
  intro l
  induction l with
  | nil => intro acc i j x h; simp at h
  | cons y r ih =>
    intro acc i j x h
    cases j with
    | zero =>
      obtain rfl : y = x := by simpa using h
      simp [joinE]
    | succ j =>
      have := ih (ahead k i acc ++ piece f k y) (i + 1) j x (by simpa using h)
      rw [List.take_succ_cons, List.take_succ_cons, joinE, joinE, this, show i + 1 + j = i + (j + 1) from by omega]
end Go.Proofs.YtafidabopcgkhaaDoor
