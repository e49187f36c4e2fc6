/-
  PROVED HERE: rows of integers that a call owns; what is open at a place, as plain data.
-/
import Derived.Test.YtgpopploimeeaaaTok
import Derived.OwnWalkIn
import Derived.Maps.AppendAt
import Derived.ProofKit
namespace Go.Proofs.Ytgpopploimeeaaa
open Go.RowKit

theorem info3 : (Try.prog.info? 3).map (fun i => (i.zero, i.size, i.bytes)) = some (some (.int .i64 0), 1, 8) := by kernel_rfl

/-- A slice's elements are the integers zs. -/
def Row (k : IntKind) (w : World) (a : Option Addr) (len : Nat) (zs : List Int) : Prop :=
  zs.length = len ∧ (len = 0 ∨ ∃ b o, a = some ⟨b, o, none⟩ ∧ b < w.heap.size ∧ ∀ i, i < len → w.cell? ⟨b, o + i, none⟩ = some (.int k (zs.getD i 0)))

theorem Row.below {k : IntKind} {w w' : World} {a : Option Addr} {len : Nat} {zs : List Int} (h : Row k w a len zs) (hb : Below w.heap.size w w') : Row k w' a len zs := by
  obtain ⟨h1, h2⟩ := h
  refine ⟨h1, ?_⟩
  rcases h2 with h2 | ⟨b, o, rfl, hlt, hc⟩
  · exact .inl h2
  · exact .inr ⟨b, o, rfl, Nat.lt_of_lt_of_le hlt hb.size, fun i hi => (hb.cell (p := ⟨b, o + i, none⟩) hlt).trans (hc i hi)⟩

/-- What a slice owns, read. -/
theorem row_of_owns {W : World} {base : Nat} {e : TypeId} {k : IntKind} {v : Value} {n : Nat} {bs : List Int} (h : W.ownsRow base e 1 v n (bs.map (Value.int k))) : ∃ a cap, v = .slice a n cap ∧ Row k W a n bs := by
  obtain ⟨hl, ⟨h1, h2⟩ | ⟨g, cap, cur, rfl, hb, hg, hc1, hc2, hc3, hc4⟩⟩ := h
  · subst h2
    exact ⟨none, 0, h1, by simpa using hl, .inl rfl⟩
  · have hl' : bs.length = n := by simpa using hl
    refine ⟨_, cap, rfl, hl', ?_⟩
    rcases Nat.eq_zero_or_pos n with h0 | h0
    · exact .inl h0
    · refine .inr ⟨g, 0, rfl, (Array.getElem?_eq_some_iff.1 hg).1, fun i hi => ?_⟩
      have : cur.toList[i]? = some (.int k (bs.getD i 0)) := by
        have h2 := congrArg (·[i]?) hc4
        simp only [Nat.mul_one] at h2
        rw [List.getElem?_take, if_pos hi] at h2
        rw [h2, List.getElem?_map, List.getElem?_eq_getElem (by omega), List.getD_eq_getElem?_getD, List.getElem?_eq_getElem (by omega)]
        rfl
      rw [Array.getElem?_toList] at this
      simp [World.cell?, hg, this]

/-- What lies below stays, where a slice of the call's own is appended to. -/
theorem below_append {base : Nat} {e : TypeId} {W w1 w2 : World} {u : Value} {k : Nat} {ys : List Value} {tmp : Obj} (hB : Below base W w1) (hrow : w1.ownsRow base e 1 u k ys) (hbase : base ≤ w1.heap.size) (hgrow : (w1.alloc tmp).grownBy w2 u.ownBlock) : Below base W w2 := by
  refine (hB.alloc hbase tmp).grown hgrow (by simp; omega) fun j ej => ?_
  rcases hrow.2 with ⟨rfl, _⟩ | ⟨g, cap, cur, rfl, hb, _, _⟩
  · simp [Value.ownBlock] at ej
  · obtain rfl : g = j := by simpa [Value.ownBlock] using ej
    exact hb

theorem owns_shrink {W : World} {base : Nat} {e : TypeId} {v : Value} {n : Nat} {xs : List Int} (h : W.ownsRow base e 1 v (n + 1) (xs.map (Value.int .i64))) :
    ∃ g cap, v = .slice (some ⟨g, 0, none⟩) (n + 1) cap ∧ n + 1 ≤ cap ∧ cap ≤ maxLen ∧ W.ownsRow base e 1 (.slice (some ⟨g, 0, none⟩) n cap) n (xs.dropLast.map (Value.int .i64)) := by
  obtain ⟨hl, ⟨_, h2⟩ | ⟨g, cap, cur, rfl, hb, hg, hc1, hc2, hc3, hc4⟩⟩ := h
  · omega
  · refine ⟨g, cap, rfl, hc1, hc2, ?_, .inr ⟨g, cap, cur, rfl, hb, hg, by omega, hc2, hc3, ?_⟩⟩
    · simp only [List.length_map, List.length_dropLast] at hl ⊢
      omega
    · have h3 := congrArg (List.take n) hc4
      rw [List.take_take] at h3
      simp only [Nat.mul_one] at h3 ⊢
      rw [show min n (n + 1) = n from by omega] at h3
      simp only [List.length_map, Nat.mul_one] at hl
      rw [h3, ← List.map_take, List.dropLast_eq_take, hl]
      rfl

/-- The places that are open behind the tokens, s ahead of them, the first of them number i. -/
def openL : List Tok → Nat → List Int → List Int
  | [], _, s => s
  | x :: r, i, s => openL r (i + 1) (if x.k = 1 then s ++ [(i : Int)] else if x.k = 2 then s.dropLast else s)
/-- What is open at the place at. -/
def opened (l : List Tok) (at' : Int) : List Int := if at' ≤ l.length then openL (l.take at'.toNat) 0 [] else []

/-- How far it is looked. -/
def upTo (len : Nat) (at' : Int) : Nat := if at' ≤ len then at'.toNat else 0
theorem opened_upTo (l : List Tok) (at' : Int) : opened l at' = openL ((l.take (upTo l.length at')).drop 0) 0 [] := by
  unfold opened upTo
  split <;> simp [openL]
theorem openL_step {l : List Tok} {k N : Nat} (hk : k < N) (hN : N ≤ l.length) (s : List Int) : ∃ x, l[k]? = some x ∧ openL ((l.take N).drop k) k s = openL ((l.take N).drop (k + 1)) (k + 1) (if x.k = 1 then s ++ [(k : Int)] else if x.k = 2 then s.dropLast else s) := by
  refine ⟨l[k], List.getElem?_eq_getElem (by omega), ?_⟩
  rw [List.drop_eq_getElem_cons (l := l.take N) (i := k) (by rw [List.length_take]; omega), openL]
  simp
theorem upTo_le (len : Nat) (at' : Int) : upTo len at' ≤ len := by unfold upTo; split <;> omega
theorem dropLast_none {s : List Int} (h : s.length = 0) : s.dropLast = s := by rw [List.length_eq_zero_iff.1 h]; rfl

/-- The k-th token's kind lies where it lay, in every later world. -/
theorem Toks.kind {w : World} {a : Option Addr} {len : Nat} {l : List Tok} (h : Toks w a len l) {k : Nat} {x : Tok} (hx : l[k]? = some x) : ∃ b o, a = some ⟨b, o, none⟩ ∧ b < w.heap.size ∧ ∀ W : World, Below w.heap.size w W → W.cell? ⟨b, o + k * 4, none⟩ = some (.int .i64 x.k) := by
  have hk : k < l.length := (List.getElem?_eq_some_iff.1 hx).1
  obtain ⟨h1, h2 | ⟨b, o, rfl, hlt, hc⟩⟩ := h
  · omega
  · exact ⟨b, o, rfl, hlt, fun W hW => (hW.cell (p := ⟨b, _, none⟩) hlt).trans (hc k x hx).1⟩

/-- What a token does to what is open. -/
def turn (x : Tok) (i : Nat) (s : List Int) : List Int := if x.k = 1 then s ++ [(i : Int)] else if x.k = 2 then s.dropLast else s
/-- The innermost that is open at a place. -/
def around (l : List Tok) (p : Int) : Int := (opened l p).getLast?.getD (-1)
/-- The kind of the k-th token. -/
def kindAt (l : List Tok) (k : Nat) : Int := (l[k]?.map (·.k)).getD 0
/-- From the place k on the first TClose that ends i. -/
def seek (l : List Tok) (i : Int) : Nat → Nat → Int
  | _, 0 => -1
  | k, f + 1 => if kindAt l k = 2 ∧ around l k = i then k else seek l i (k + 1) f
def partner (l : List Tok) (i : Int) : Int :=
  if i < 0 ∨ (l.length : Int) ≤ i then -1
  else if kindAt l i.toNat = 2 then around l i
  else if kindAt l i.toNat = 1 then seek l i (i.toNat + 1) (l.length - (i.toNat + 1))
  else -1
def kidsL (l : List Tok) (i : Int) : Nat → Nat → List Int → List Int
  | _, 0, out => out
  | k, f + 1, out => if kindAt l k = 2 ∧ around l k = i ∧ 0 ≤ i then out
    else kidsL l i (k + 1) f (if kindAt l k ≠ 2 ∧ 0 ≤ kindAt l k ∧ kindAt l k ≤ 3 ∧ around l k = i then out ++ [(k : Int)] else out)
def kids (l : List Tok) (i : Int) : List Int :=
  if i < -1 ∨ (l.length : Int) ≤ i ∨ (0 ≤ i ∧ kindAt l i.toNat ≠ 1) then [] else kidsL l i (i + 1).toNat (l.length - (i + 1).toNat) []

theorem kindAt_some {l : List Tok} {k : Nat} {x : Tok} (h : l[k]? = some x) : kindAt l k = x.k := by unfold kindAt; rw [h]; rfl
theorem Toks.kindAt {w : World} {a : Option Addr} {len : Nat} {l : List Tok} (h : Toks w a len l) {k : Nat} (hk : k < len) : ∃ b o, a = some ⟨b, o, none⟩ ∧ b < w.heap.size ∧ ∀ W : World, Below w.heap.size w W → W.cell? ⟨b, o + k * 4, none⟩ = some (.int .i64 (Ytgpopploimeeaaa.kindAt l k)) := by
  obtain ⟨x, hx⟩ : ∃ x, l[k]? = some x := ⟨_, List.getElem?_eq_getElem (by rw [h.1]; exact hk)⟩
  rw [kindAt_some hx]
  exact h.kind hx
theorem openL_fits (l : List Tok) (i : Nat) (s : List Int) (B : Int) (hB : (i : Int) + l.length ≤ B) (hs : ∀ x ∈ s, 0 ≤ x ∧ x < B) : ∀ x ∈ openL l i s, 0 ≤ x ∧ x < B := by
  induction l generalizing i s with
  | nil => exact hs
  | cons t r ih =>
    rw [openL]
    simp only [List.length_cons] at hB
    refine ih (i + 1) _ (by omega) ?_
    split
    · intro x hx
      rcases List.mem_append.1 hx with hx | hx
      · exact hs x hx
      · obtain rfl : x = (i : Int) := by simpa using hx
        omega
    · split
      · intro x hx
        exact hs x (List.dropLast_subset _ hx)
      · exact hs
theorem openL_length (l : List Tok) (i : Nat) (s : List Int) : (openL l i s).length ≤ s.length + l.length := by
  induction l generalizing i s with
  | nil => exact Nat.le_refl _
  | cons t r ih =>
    rw [openL]
    refine Nat.le_trans (ih _ _) ?_
    split
    · simp; omega
    · split <;> simp <;> omega
theorem opened_length (l : List Tok) (p : Int) : (opened l p).length ≤ l.length := by
  unfold opened
  split
  · have h := openL_length (l.take p.toNat) 0 []
    rw [List.length_take, List.length_nil] at h
    omega
  · simp
theorem opened_fits (l : List Tok) (p : Int) : ∀ x ∈ opened l p, 0 ≤ x ∧ x < l.length := by
  unfold opened
  split
  · exact openL_fits _ 0 [] _ (by simp; omega) (by intro x hx; cases hx)
  · intro x hx; cases hx
theorem around_fits (l : List Tok) (p : Int) : -1 ≤ around l p ∧ around l p ≤ l.length := by
  unfold around
  cases h : (opened l p).getLast? with
  | none => simp
  | some x =>
    have := opened_fits l p x (List.mem_of_getLast? h)
    simp
    omega

theorem last_row {R : List Int} {n : Nat} (h : R.length = n + 1) : R.getLast?.getD (-1) = R.getD n 0 := by
  rw [List.getLast?_eq_getElem?, h, List.getD_eq_getElem?_getD, show n + 1 - 1 = n from rfl, List.getElem?_eq_getElem (by omega)]
  rfl

theorem partner_fits (l : List Tok) (i : Int) (k f : Nat) : seek l i k f = -1 ∨ (∃ j : Nat, seek l i k f = j ∧ j < k + f) := by
  induction f generalizing k with
  | zero => exact .inl rfl
  | succ f ih =>
    rw [seek]
    split
    · exact .inr ⟨k, rfl, by omega⟩
    · rcases ih (k + 1) with h | ⟨j, h, hj⟩
      · exact .inl h
      · exact .inr ⟨j, h, by omega⟩

/-- What a call owns, in a later world that holds what lay. -/
theorem own_below {W W' : World} {base : Nat} {e : TypeId} {v : Value} {n : Nat} {xs : List Value} (h : W.ownsRow base e 1 v n xs) (hB : Below W.heap.size W W') (_hb : base ≤ W.heap.size) : W'.ownsRow base e 1 v n xs := by
  obtain ⟨hl, h1 | ⟨g, cap, cur, rfl, hb, hg, hc1, hc2, hc3, hc4⟩⟩ := h
  · exact ⟨hl, .inl h1⟩
  · refine ⟨hl, .inr ⟨g, cap, cur, rfl, hb, ?_, hc1, hc2, hc3, hc4⟩⟩
    rw [hB.block g (Array.getElem?_eq_some_iff.1 hg).1, hg]
end Go.Proofs.Ytgpopploimeeaaa
