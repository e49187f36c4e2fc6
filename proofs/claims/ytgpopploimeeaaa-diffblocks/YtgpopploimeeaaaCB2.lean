/-
  PROVED HERE: what the texts Row, Txt, Doc say (each has its own words below).
-/
import Derived.Test.YtgpopploimeeaaaCB1
import Derived.OwnWalkIn
import Derived.Maps.AppendAt
import Derived.ProofKit
/- Row: rows of integers that a call owns; what is open at a place, as plain data. -/
namespace Go.Proofs.Ytgpopploimeeaaa
open Go.RowKit

theorem info3 : (Try.prog.info? 3).map (fun i => (i.zero, i.size, i.bytes)) = some (some (.int .i64 0), 1, 8) := by kernel_rfl

/-- A slice's elements are the integers zs. -/
def Row (k : IntKind) (w : World) (a : Option Addr) (len : Nat) (zs : List Int) : Prop :=
  zs.length = len ∧ (len = 0 ∨ ∃ b o, a = some ⟨b, o, none⟩ ∧ b < w.heap.size ∧ ∀ i, i < len → w.cell? ⟨b, o + i, none⟩ = some (.int k (zs.getD i 0)))

theorem Row.below {k : IntKind} {w w' : World} {a : Option Addr} {len : Nat} {zs : List Int} (h : Row k w a len zs) (hb : Below w.heap.size w w') : Row k w' a len zs := by
  obtain ⟨h1, h2⟩ := h
  refine ⟨h1, ?_⟩
  rcases h2 with h2 | ⟨b, o, rfl, hlt, hc⟩
  · exact .inl h2
  · exact .inr ⟨b, o, rfl, Nat.lt_of_lt_of_le hlt hb.size, fun i hi => (hb.cell (p := ⟨b, o + i, none⟩) hlt).trans (hc i hi)⟩

/-- What a slice owns, read. -/
theorem row_of_owns {W : World} {base : Nat} {e : TypeId} {k : IntKind} {v : Value} {n : Nat} {bs : List Int} (h : W.ownsRow base e 1 v n (bs.map (Value.int k))) : ∃ a cap, v = .slice a n cap ∧ Row k W a n bs := by
  obtain ⟨hl, ⟨h1, h2⟩ | ⟨g, cap, cur, rfl, hb, hg, hc1, hc2, hc3, hc4⟩⟩ := h
  · subst h2
    exact ⟨none, 0, h1, by simpa using hl, .inl rfl⟩
  · have hl' : bs.length = n := by simpa using hl
    refine ⟨_, cap, rfl, hl', ?_⟩
    rcases Nat.eq_zero_or_pos n with h0 | h0
    · exact .inl h0
    · refine .inr ⟨g, 0, rfl, (Array.getElem?_eq_some_iff.1 hg).1, fun i hi => ?_⟩
      have : cur.toList[i]? = some (.int k (bs.getD i 0)) := by
        have h2 := congrArg (·[i]?) hc4
        simp only [Nat.mul_one] at h2
        rw [List.getElem?_take, if_pos hi] at h2
        rw [h2, List.getElem?_map, List.getElem?_eq_getElem (by omega), List.getD_eq_getElem?_getD, List.getElem?_eq_getElem (by omega)]
        rfl
      rw [Array.getElem?_toList] at this
      simp [World.cell?, hg, this]

/-- What lies below stays, where a slice of the call's own is appended to. -/
theorem below_append {base : Nat} {e : TypeId} {W w1 w2 : World} {u : Value} {k : Nat} {ys : List Value} {tmp : Obj} (hB : Below base W w1) (hrow : w1.ownsRow base e 1 u k ys) (hbase : base ≤ w1.heap.size) (hgrow : (w1.alloc tmp).grownBy w2 u.ownBlock) : Below base W w2 := by
  refine (hB.alloc hbase tmp).grown hgrow (by simp; omega) fun j ej => ?_
  rcases hrow.2 with ⟨rfl, _⟩ | ⟨g, cap, cur, rfl, hb, _, _⟩
  · simp [Value.ownBlock] at ej
  · obtain rfl : g = j := by simpa [Value.ownBlock] using ej
    exact hb

theorem owns_shrink {W : World} {base : Nat} {e : TypeId} {v : Value} {n : Nat} {xs : List Int} (h : W.ownsRow base e 1 v (n + 1) (xs.map (Value.int .i64))) :
    ∃ g cap, v = .slice (some ⟨g, 0, none⟩) (n + 1) cap ∧ n + 1 ≤ cap ∧ cap ≤ maxLen ∧ W.ownsRow base e 1 (.slice (some ⟨g, 0, none⟩) n cap) n (xs.dropLast.map (Value.int .i64)) := by
  obtain ⟨hl, ⟨_, h2⟩ | ⟨g, cap, cur, rfl, hb, hg, hc1, hc2, hc3, hc4⟩⟩ := h
  · omega
  · refine ⟨g, cap, rfl, hc1, hc2, ?_, .inr ⟨g, cap, cur, rfl, hb, hg, by omega, hc2, hc3, ?_⟩⟩
    · simp only [List.length_map, List.length_dropLast] at hl ⊢
      omega
    · have h3 := congrArg (List.take n) hc4
      rw [List.take_take] at h3
      simp only [Nat.mul_one] at h3 ⊢
      rw [show min n (n + 1) = n from by omega] at h3
      simp only [List.length_map, Nat.mul_one] at hl
      rw [h3, ← List.map_take, List.dropLast_eq_take, hl]
      rfl

/-- The places that are open behind the tokens, s ahead of them, the first of them number i. -/
def openL : List Tok → Nat → List Int → List Int
  | [], _, s => s
  | x :: r, i, s => openL r (i + 1) (if x.k = 1 then s ++ [(i : Int)] else if x.k = 2 then s.dropLast else s)
/-- What is open at the place at. -/
def opened (l : List Tok) (at' : Int) : List Int := if at' ≤ l.length then openL (l.take at'.toNat) 0 [] else []

/-- How far it is looked. -/
def upTo (len : Nat) (at' : Int) : Nat := if at' ≤ len then at'.toNat else 0
theorem opened_upTo (l : List Tok) (at' : Int) : opened l at' = openL ((l.take (upTo l.length at')).drop 0) 0 [] := by
  unfold opened upTo
  split <;> simp [openL]
theorem openL_step {l : List Tok} {k N : Nat} (hk : k < N) (hN : N ≤ l.length) (s : List Int) : ∃ x, l[k]? = some x ∧ openL ((l.take N).drop k) k s = openL ((l.take N).drop (k + 1)) (k + 1) (if x.k = 1 then s ++ [(k : Int)] else if x.k = 2 then s.dropLast else s) := by
  refine ⟨l[k], List.getElem?_eq_getElem (by omega), ?_⟩
  rw [List.drop_eq_getElem_cons (l := l.take N) (i := k) (by rw [List.length_take]; omega), openL]
  simp
theorem upTo_le (len : Nat) (at' : Int) : upTo len at' ≤ len := by unfold upTo; split <;> omega
theorem dropLast_none {s : List Int} (h : s.length = 0) : s.dropLast = s := by rw [List.length_eq_zero_iff.1 h]; rfl

/-- The k-th token's kind lies where it lay, in every later world. -/
theorem Toks.kind {w : World} {a : Option Addr} {len : Nat} {l : List Tok} (h : Toks w a len l) {k : Nat} {x : Tok} (hx : l[k]? = some x) : ∃ b o, a = some ⟨b, o, none⟩ ∧ b < w.heap.size ∧ ∀ W : World, Below w.heap.size w W → W.cell? ⟨b, o + k * 4, none⟩ = some (.int .i64 x.k) := by
  have hk : k < l.length := (List.getElem?_eq_some_iff.1 hx).1
  obtain ⟨h1, h2 | ⟨b, o, rfl, hlt, hc⟩⟩ := h
  · omega
  · exact ⟨b, o, rfl, hlt, fun W hW => (hW.cell (p := ⟨b, _, none⟩) hlt).trans (hc k x hx).1⟩

/-- What a token does to what is open. -/
def turn (x : Tok) (i : Nat) (s : List Int) : List Int := if x.k = 1 then s ++ [(i : Int)] else if x.k = 2 then s.dropLast else s
/-- The innermost that is open at a place. -/
def around (l : List Tok) (p : Int) : Int := (opened l p).getLast?.getD (-1)
/-- The kind of the k-th token. -/
def kindAt (l : List Tok) (k : Nat) : Int := (l[k]?.map (·.k)).getD 0
/-- From the place k on the first TClose that ends i. -/
def seek (l : List Tok) (i : Int) : Nat → Nat → Int
  | _, 0 => -1
  | k, f + 1 => if kindAt l k = 2 ∧ around l k = i then k else seek l i (k + 1) f
def partner (l : List Tok) (i : Int) : Int :=
  if i < 0 ∨ (l.length : Int) ≤ i then -1
  else if kindAt l i.toNat = 2 then around l i
  else if kindAt l i.toNat = 1 then seek l i (i.toNat + 1) (l.length - (i.toNat + 1))
  else -1
def kidsL (l : List Tok) (i : Int) : Nat → Nat → List Int → List Int
  | _, 0, out => out
  | k, f + 1, out => if kindAt l k = 2 ∧ around l k = i ∧ 0 ≤ i then out
    else kidsL l i (k + 1) f (if kindAt l k ≠ 2 ∧ 0 ≤ kindAt l k ∧ kindAt l k ≤ 3 ∧ around l k = i then out ++ [(k : Int)] else out)
def kids (l : List Tok) (i : Int) : List Int :=
  if i < -1 ∨ (l.length : Int) ≤ i ∨ (0 ≤ i ∧ kindAt l i.toNat ≠ 1) then [] else kidsL l i (i + 1).toNat (l.length - (i + 1).toNat) []

theorem kindAt_some {l : List Tok} {k : Nat} {x : Tok} (h : l[k]? = some x) : kindAt l k = x.k := by unfold kindAt; rw [h]; rfl
theorem Toks.kindAt {w : World} {a : Option Addr} {len : Nat} {l : List Tok} (h : Toks w a len l) {k : Nat} (hk : k < len) : ∃ b o, a = some ⟨b, o, none⟩ ∧ b < w.heap.size ∧ ∀ W : World, Below w.heap.size w W → W.cell? ⟨b, o + k * 4, none⟩ = some (.int .i64 (Ytgpopploimeeaaa.kindAt l k)) := by
  obtain ⟨x, hx⟩ : ∃ x, l[k]? = some x := ⟨_, List.getElem?_eq_getElem (by rw [h.1]; exact hk)⟩
  rw [kindAt_some hx]
  exact h.kind hx
theorem openL_fits (l : List Tok) (i : Nat) (s : List Int) (B : Int) (hB : (i : Int) + l.length ≤ B) (hs : ∀ x ∈ s, 0 ≤ x ∧ x < B) : ∀ x ∈ openL l i s, 0 ≤ x ∧ x < B := by
  induction l generalizing i s with
  | nil => exact hs
  | cons t r ih =>
    rw [openL]
    simp only [List.length_cons] at hB
    refine ih (i + 1) _ (by omega) ?_
    split
    · intro x hx
      rcases List.mem_append.1 hx with hx | hx
      · exact hs x hx
      · obtain rfl : x = (i : Int) := by simpa using hx
        omega
    · split
      · intro x hx
        exact hs x (List.dropLast_subset _ hx)
      · exact hs
theorem openL_length (l : List Tok) (i : Nat) (s : List Int) : (openL l i s).length ≤ s.length + l.length := by
  induction l generalizing i s with
  | nil => exact Nat.le_refl _
  | cons t r ih =>
    rw [openL]
    refine Nat.le_trans (ih _ _) ?_
    split
    · simp; omega
    · split <;> simp <;> omega
theorem opened_length (l : List Tok) (p : Int) : (opened l p).length ≤ l.length := by
  unfold opened
  split
  · have h := openL_length (l.take p.toNat) 0 []
    rw [List.length_take, List.length_nil] at h
    omega
  · simp
theorem opened_fits (l : List Tok) (p : Int) : ∀ x ∈ opened l p, 0 ≤ x ∧ x < l.length := by
  unfold opened
  split
  · exact openL_fits _ 0 [] _ (by simp; omega) (by intro x hx; cases hx)
  · intro x hx; cases hx
theorem around_fits (l : List Tok) (p : Int) : -1 ≤ around l p ∧ around l p ≤ l.length := by
  unfold around
  cases h : (opened l p).getLast? with
  | none => simp
  | some x =>
    have := opened_fits l p x (List.mem_of_getLast? h)
    simp
    omega

theorem last_row {R : List Int} {n : Nat} (h : R.length = n + 1) : R.getLast?.getD (-1) = R.getD n 0 := by
  rw [List.getLast?_eq_getElem?, h, List.getD_eq_getElem?_getD, show n + 1 - 1 = n from rfl, List.getElem?_eq_getElem (by omega)]
  rfl

theorem partner_fits (l : List Tok) (i : Int) (k f : Nat) : seek l i k f = -1 ∨ (∃ j : Nat, seek l i k f = j ∧ j < k + f) := by
  induction f generalizing k with
  | zero => exact .inl rfl
  | succ f ih =>
    rw [seek]
    split
    · exact .inr ⟨k, rfl, by omega⟩
    · rcases ih (k + 1) with h | ⟨j, h, hj⟩
      · exact .inl h
      · exact .inr ⟨j, h, by omega⟩

/-- What a call owns, in a later world that holds what lay. -/
theorem own_below {W W' : World} {base : Nat} {e : TypeId} {v : Value} {n : Nat} {xs : List Value} (h : W.ownsRow base e 1 v n xs) (hB : Below W.heap.size W W') (_hb : base ≤ W.heap.size) : W'.ownsRow base e 1 v n xs := by
  obtain ⟨hl, h1 | ⟨g, cap, cur, rfl, hb, hg, hc1, hc2, hc3, hc4⟩⟩ := h
  · exact ⟨hl, .inl h1⟩
  · refine ⟨hl, .inr ⟨g, cap, cur, rfl, hb, ?_, hc1, hc2, hc3, hc4⟩⟩
    rw [hB.block g (Array.getElem?_eq_some_iff.1 hg).1, hg]
end Go.Proofs.Ytgpopploimeeaaa

/- Txt: the bytes of code points and of tokens, as plain data. -/
namespace Go.Proofs.Ytgpopploimeeaaa
open Go.RowKit

/-- The bytes of a code point. -/
def enc (n : Int) : List Int :=
  if n < 128 then [n]
  else if n < 2048 then [192 + n / 64, 128 + n % 64]
  else if n < 65536 then [224 + n / 4096, 128 + n / 64 % 64, 128 + n % 64]
  else [240 + n / 262144, 128 + n / 4096 % 64, 128 + n / 64 % 64, 128 + n % 64]
/-- The bytes of all right TRunes. -/
def text (l : List Tok) : List Int := l.flatMap fun x => if (x.k == 0 && rightT x) = true then enc x.n else []

theorem enc_length (n : Int) : 1 ≤ (enc n).length ∧ (enc n).length ≤ 4 := by unfold enc; split <;> (try split) <;> (try split) <;> simp
theorem text_take (l : List Tok) (k : Nat) (x : Tok) (h : l[k]? = some x) : text (l.take (k + 1)) = text (l.take k) ++ (if (x.k == 0 && rightT x) = true then enc x.n else []) := by
  rw [List.take_add_one, h]
  simp [text, List.flatMap_append]
theorem rightT_point {x : Tok} (h : rightT x = true) (h0 : x.k = 0) : 0 ≤ x.n ∧ x.n ≤ 1114111 := by
  unfold rightT at h
  rw [if_pos h0] at h
  simp only [Bool.and_eq_true, point, decide_eq_true_eq] at h
  omega
end Go.Proofs.Ytgpopploimeeaaa

/- Doc: plain facts on tokens: what is open, step by step; the text of parts; two documents, one behind the other, and one within a TOpen and a TClose; no program in it. -/
namespace Go.Proofs.Ytgpopploimeeaaa


theorem openL_append (l m : List Tok) (i : Nat) (s : List Int) : openL (l ++ m) i s = openL m (i + l.length) (openL l i s) := by
  induction l generalizing i s with
  | nil => simp [openL]
  | cons x r ih =>
    rw [List.cons_append, openL, openL, ih, List.length_cons, show i + 1 + r.length = i + (r.length + 1) from by omega]
theorem opened_nat (l : List Tok) (k : Nat) (h : k ≤ l.length) : opened l k = openL (l.take k) 0 [] := by
  unfold opened
  rw [if_pos (by omega), Int.toNat_natCast]
theorem opened_zero (l : List Tok) : opened l 0 = [] := by
  have := opened_nat l 0 (Nat.zero_le _)
  simpa [openL] using this
theorem opened_succ (l : List Tok) (k : Nat) (x : Tok) (h : l[k]? = some x) : opened l ((k + 1 : Nat) : Int) = turn x k (opened l k) := by
  have hk : k < l.length := (List.getElem?_eq_some_iff.1 h).1
  rw [opened_nat l (k + 1) hk, opened_nat l k (by omega), List.take_add_one, h, openL_append]
  rw [List.length_take, show 0 + min k l.length = k from by omega]
  rfl
theorem around_neg (l : List Tok) (p : Int) : decide (around l p < 0) = decide ((opened l p).length = 0) := by
  unfold around
  cases h : (opened l p).getLast? with
  | none => simp [List.getLast?_eq_none_iff.1 h]
  | some x =>
    have h1 := opened_fits l p x (List.mem_of_getLast? h)
    have h2 : opened l p ≠ [] := by intro e; rw [e] at h; cases h
    simp only [Option.getD_some, List.length_eq_zero_iff, h2, decide_false, decide_eq_false_iff_not]
    omega

theorem text_append (a b : List Tok) : text (a ++ b) = text a ++ text b := by simp [text, List.flatMap_append]
theorem cut_low (l : List Tok) (k : Nat) (h : k ≤ l.length) : cut l 0 k = l.take k ∧ cutE l 0 k = 0 := by
  unfold cut cutE
  rw [if_neg (by omega), if_neg (by omega)]
  simp
theorem cut_high (l : List Tok) (k : Nat) (h : k ≤ l.length) : cut l k l.length = l.drop k ∧ cutE l k l.length = 0 := by
  unfold cut cutE
  rw [if_neg (by omega), if_neg (by omega)]
  refine ⟨?_, rfl⟩
  rw [Int.toNat_natCast, List.take_of_length_le]
  rw [List.length_drop]
  omega

/-- How deep it is behind the tokens, d open ahead of them; none, where Check tells an error. -/
def deeper (x : Tok) (d : Int) : Int := if x.k = 1 then d + 1 else if x.k = 2 then d - 1 else d
def wrong (x : Tok) (d : Int) : Bool := !rightT x || (x.k == 2 && d == 0)
def goes : List Tok → Int → Option Int
  | [], d => some d
  | x :: r, d => if wrong x d = true then none else if 32 < deeper x d then none else goes r (deeper x d)
theorem checkL_cons (x : Tok) (r : List Tok) (i : Nat) (d : Int) : checkL (x :: r) i d = if wrong x d = true then ((i : Int), 4) else if 32 < deeper x d then ((i : Int), 8) else checkL r (i + 1) (deeper x d) := rfl
theorem deeper_nonneg {x : Tok} {d : Int} (h : 0 ≤ d) (hw : wrong x d = false) : 0 ≤ deeper x d := by
  unfold deeper
  unfold wrong at hw
  split
  · omega
  · split
    · rename_i h2
      simp [h2] at hw
      omega
    · exact h
theorem goes_append (a b : List Tok) (d : Int) : goes (a ++ b) d = (goes a d).bind (goes b) := by
  induction a generalizing d with
  | nil => rfl
  | cons x r ih =>
    rw [List.cons_append, goes, goes]
    split
    · rfl
    · split
      · rfl
      · exact ih _
theorem checkL_goes (l : List Tok) (i : Nat) (d : Int) (h : 0 ≤ d) : ((checkL l i d).2 = 0 ↔ goes l d = some 0) ∧ (goes l d = some 0 → checkL l i d = (((i + l.length : Nat) : Int), 0)) := by
  induction l generalizing i d with
  | nil =>
    rw [checkL, goes]
    split
    · exact ⟨⟨fun h => by simp at h, fun h => by simp at h; omega⟩, fun h => by simp at h; omega⟩
    · exact ⟨⟨fun _ => by simp; omega, fun _ => rfl⟩, fun _ => by simp⟩
  | cons x r ih =>
    rw [checkL_cons, goes]
    cases hw : wrong x d with
    | true => simp
    | false =>
      simp only [Bool.false_eq_true, if_false]
      split
      · simp
      · have := ih (i + 1) (deeper x d) (deeper_nonneg h hw)
        refine ⟨this.1, fun e => ?_⟩
        rw [this.2 e, List.length_cons, show i + 1 + r.length = i + (r.length + 1) from by omega]
theorem check_ok (l : List Tok) : (check l).2 = 0 ↔ l.length ≤ 2048 ∧ goes l 0 = some 0 := by
  unfold check
  split
  · constructor
    · intro h; exact absurd h (by decide)
    · intro h; omega
  · rw [(checkL_goes l 0 0 (by omega)).1]
    constructor
    · intro h; exact ⟨by omega, h⟩
    · intro h; exact h.2
theorem check_done (l : List Tok) (h : (check l).2 = 0) : check l = ((l.length : Int), 0) := by
  obtain ⟨h1, h2⟩ := (check_ok l).1 h
  unfold check
  rw [if_neg (by omega), (checkL_goes l 0 0 (by omega)).2 h2]
  simp
/-- Two documents, one behind the other. -/
theorem check_joins (a b : List Tok) (ha : (check a).2 = 0) (hb : (check b).2 = 0) (hl : (a ++ b).length ≤ 2048) : (check (a ++ b)).2 = 0 := by
  rw [check_ok] at *
  refine ⟨hl, ?_⟩
  rw [goes_append, ha.2]
  exact hb.2

/-- The greatest depth at any place, d open at the first. -/
def deepest : List Tok → Int → Int
  | [], d => d
  | x :: r, d => max d (deepest r (deeper x d))
theorem deepest_ge (l : List Tok) (d : Int) : d ≤ deepest l d := by
  cases l with
  | nil => exact Int.le_refl _
  | cons x r => rw [deepest]; omega
theorem deeper_succ (x : Tok) (d : Int) : deeper x (d + 1) = deeper x d + 1 := by unfold deeper; split <;> (try split) <;> omega
theorem goes_cons {x : Tok} {r : List Tok} {d e : Int} (h : goes (x :: r) d = some e) : wrong x d = false ∧ deeper x d ≤ 32 ∧ goes r (deeper x d) = some e := by
  rw [goes] at h
  cases hw : wrong x d with
  | true => rw [hw] at h; simp at h
  | false =>
    rw [hw] at h
    simp only [Bool.false_eq_true, if_false] at h
    split at h
    · cases h
    · exact ⟨rfl, by omega, h⟩
theorem wrong_succ {x : Tok} {d : Int} (h : 0 ≤ d) (hw : wrong x d = false) : wrong x (d + 1) = false := by
  unfold wrong at *
  have : (d + 1 == 0) = false := by
    simp only [beq_eq_false_iff_ne]
    omega
  simp only [this, Bool.and_false, Bool.or_false]
  cases hr : rightT x with
  | true => rfl
  | false => rw [hr] at hw; simp at hw
/-- One deeper: as well, or too deep. -/
theorem goes_within (l : List Tok) (d e : Int) (h0 : 0 ≤ d) (h1 : d < 32) (h : goes l d = some e) : (deepest l d < 32 → goes l (d + 1) = some (e + 1)) ∧ (32 ≤ deepest l d → ∀ (t : List Tok) (i : Nat), (checkL (l ++ t) i (d + 1)).2 = 8) := by
  induction l generalizing d with
  | nil =>
    rw [goes] at h
    obtain rfl := Option.some.inj h
    exact ⟨fun _ => rfl, fun h => by rw [deepest] at h; omega⟩
  | cons x r ih =>
    obtain ⟨hw, hd, hg⟩ := goes_cons h
    have hn := deeper_nonneg h0 hw
    have hw' := wrong_succ h0 hw
    rw [deepest]
    by_cases h32 : deeper x d = 32
    · have := deepest_ge r (deeper x d)
      refine ⟨fun h => by omega, fun _ t i => ?_⟩
      rw [List.cons_append, checkL_cons, hw', deeper_succ]
      simp only [Bool.false_eq_true, if_false]
      rw [if_pos (by omega)]
    · obtain ⟨i1, i2⟩ := ih (deeper x d) hn (by omega) hg
      refine ⟨fun h => ?_, fun h t i => ?_⟩
      · rw [goes, hw', deeper_succ]
        simp only [Bool.false_eq_true, if_false]
        rw [if_neg (by omega)]
        exact i1 (by omega)
      · rw [List.cons_append, checkL_cons, hw', deeper_succ]
        simp only [Bool.false_eq_true, if_false]
        rw [if_neg (by omega)]
        exact i2 (by omega) t (i + 1)

/-- The greatest depth at the first k places. -/
def mx (l : List Tok) : Nat → Int
  | 0 => 0
  | k + 1 => max (mx l k) ((opened l k).length : Int)
theorem mx_nonneg (l : List Tok) (k : Nat) : 0 ≤ mx l k := by
  induction k with
  | zero => exact Int.le_refl _
  | succ k ih => rw [mx]; omega
theorem turn_length {x : Tok} {i : Nat} {s : List Int} (hw : wrong x s.length = false) : ((turn x i s).length : Int) = deeper x s.length := by
  unfold turn deeper
  split
  · simp
  · split
    · rename_i h2
      unfold wrong at hw
      simp [h2] at hw
      have : s.length ≠ 0 := by
        intro e
        exact hw.2 (List.length_eq_zero_iff.1 e)
      rw [List.length_dropLast]
      omega
    · rfl
theorem mx_step (l : List Tok) (k : Nat) (hk : k ≤ l.length) (h : goes l 0 = some 0) : max (mx l k) (deepest (l.drop k) (opened l k).length) = deepest l 0 ∧ goes (l.drop k) (opened l k).length = some 0 := by
  induction k with
  | zero =>
    have h0 := opened_zero l
    rw [show ((0 : Nat) : Int) = 0 from rfl, h0, mx]
    have := deepest_ge l 0
    simp only [List.drop_zero, List.length_nil]
    exact ⟨by rw [show ((0 : Nat) : Int) = 0 from rfl]; omega, h⟩
  | succ k ih =>
    obtain ⟨i1, i2⟩ := ih (by omega)
    obtain ⟨x, hx, hd⟩ := drop_getD (l := l) (k := k) (by omega)
    rw [hd] at i1 i2
    obtain ⟨hw, _, hg⟩ := goes_cons i2
    rw [opened_succ l k x hx, turn_length hw, mx]
    rw [deepest] at i1
    exact ⟨by omega, hg⟩
theorem mx_all (l : List Tok) (h : goes l 0 = some 0) : mx l l.length = deepest l 0 := by
  obtain ⟨i1, i2⟩ := mx_step l l.length (Nat.le_refl _) h
  rw [List.drop_length] at i1 i2
  rw [goes] at i2
  rw [deepest, Option.some.inj i2] at i1
  have := mx_nonneg l l.length
  omega
/-- A document within a TOpen and a TClose. -/
theorem check_within (l : List Tok) (t : Int) (ht : 1 ≤ t ∧ t ≤ 15) (h : (check l).2 = 0) (hl : l.length ≤ 2046) :
    (check ((⟨1, t, 0, 0⟩ :: l) ++ [⟨2, 0, 0, 0⟩])).2 = if mx l l.length < 32 then 0 else 8 := by
  obtain ⟨_, hg⟩ := (check_ok l).1 h
  rw [mx_all l hg]
  have hr : rightT ⟨1, t, 0, 0⟩ = true := by
    unfold rightT
    simp
    omega
  have hw : wrong ⟨1, t, 0, 0⟩ 0 = false := by unfold wrong; rw [hr]; rfl
  have hd : deeper ⟨1, t, 0, 0⟩ 0 = 1 := rfl
  obtain ⟨g1, g2⟩ := goes_within l 0 0 (by omega) (by omega) hg
  split
  · rename_i h32
    rw [check_ok]
    refine ⟨by simp; omega, ?_⟩
    rw [goes_append, goes, hw, hd]
    simp only [Bool.false_eq_true, if_false]
    rw [if_neg (by omega), show (1 : Int) = 0 + 1 from rfl, g1 h32]
    decide
  · rename_i h32
    have := g2 (by omega) [⟨2, 0, 0, 0⟩] 1
    unfold check
    rw [if_neg (by simp; omega), List.cons_append, checkL_cons, hw, hd]
    simp only [Bool.false_eq_true, if_false]
    rw [if_neg (by omega)]
    exact this
end Go.Proofs.Ytgpopploimeeaaa
