/-
  PROVED HERE: the plain parser reads the text of a right tree as the tree.
-/
import Derived.Test.YtafidabopcgkhaaDoorPlain
namespace Go.Proofs.YtafidabopcgkhaaDoor
open Go.RowKit

/-- What stands between. -/
def sep (k : Int) : List UInt8 := if k = 2 then [32] else if k = 3 then [124] else []
/-- The parts behind the first. -/
def tailL (f : DataW Unit → ByteArray) (k : Int) : List (DataW Unit) → List UInt8
  | [] => []
  | x :: l => sep k ++ bts (piece f k x) ++ tailL f k l
theorem join_tail (f : DataW Unit → ByteArray) (k : Int) : ∀ (l : List (DataW Unit)) (acc : ByteArray) (i : Nat), bts (joinE f k acc (i + 1) l) = bts acc ++ tailL f k l := by
  intro l
  induction l with
  | nil => intro acc i; rw [joinE, tailL, List.append_nil]
  | cons x l ih =>
    intro acc i
    rw [joinE, ih, bts_append, tailL, ahead, if_pos (by omega), sep]
    split
    · rw [bts_append, bts_sign]; simp only [List.append_assoc]
    · split
      · rw [bts_append, bts_sign]; simp only [List.append_assoc]
      · simp only [List.append_assoc, List.nil_append]
theorem join_all (f : DataW Unit → ByteArray) (k : Int) (x : DataW Unit) (l : List (DataW Unit)) : bts (joinE f k ⟨#[]⟩ 0 (x :: l)) = bts (piece f k x) ++ tailL f k l := by
  rw [joinE, join_tail, bts_append, ahead, if_neg (by omega)]
  rfl
theorem piece_seq (f : DataW Unit → ByteArray) (x : DataW Unit) (h : kindT x ≠ 2) : piece f 2 x = within f x := by
  unfold piece within
  by_cases h3 : kindT x = 3
  · rw [if_pos ⟨rfl, h3⟩, if_pos (.inr h3)]
  · rw [if_neg (fun e => h3 e.2), if_neg (fun e => e.elim h h3)]
theorem piece_alt (f : DataW Unit → ByteArray) (x : DataW Unit) : piece f 3 x = f x := by
  unfold piece
  rw [if_neg (by rintro ⟨h, _⟩; cases h)]
/-- What a right tree is. -/
theorem right_cases {n : Nat} {t : DataW Unit} (h : rightE (n + 1) t = true) (h0 : kindT t ≠ 0) :
    (∀ x ∈ subs t, kindT x ≠ 0 ∧ rightE n x = true) ∧
    ((kindT t = 1 ∧ letters (nameT t) = true ∧ subs t = []) ∨
     ((kindT t = 4 ∨ kindT t = 5 ∨ kindT t = 6) ∧ nameT t = ⟨#[]⟩ ∧ ∃ x, subs t = [x]) ∨
     ((kindT t = 2 ∨ kindT t = 3) ∧ nameT t = ⟨#[]⟩ ∧ (∀ x ∈ subs t, kindT x ≠ kindT t) ∧ ∃ x y l, subs t = x :: y :: l)) := by
  have hE : ∀ s : ByteArray, s.toList.isEmpty = true → s = ⟨#[]⟩ := fun s hs => str_inj (by rw [List.isEmpty_iff.1 hs, ByteArray.toList_eq])
  rw [rightE, Bool.and_eq_true] at h
  obtain ⟨h1, h2⟩ := h
  refine ⟨fun x hx => ?_, ?_⟩
  · have := List.all_eq_true.1 h1 x hx
    simpa using this
  · unfold shapely at h2
    rw [if_neg h0] at h2
    split at h2
    · rename_i hk
      rw [Bool.and_eq_true] at h2
      exact .inl ⟨hk, h2.1, by simpa using h2.2⟩
    · split at h2
      · rename_i hk
        rw [Bool.and_eq_true] at h2
        exact .inr (.inl ⟨hk, hE _ h2.1, List.length_eq_one_iff.1 (by simpa using h2.2)⟩)
      · split at h2
        · rename_i hk
          rw [Bool.and_eq_true, Bool.and_eq_true] at h2
          obtain ⟨ha, hb, hc⟩ := h2
          refine .inr (.inr ⟨hk, hE _ hb, fun x hx => by have := List.all_eq_true.1 ha x hx; simpa using this, ?_⟩)
          have hc := of_decide_eq_true hc
          match hs : subs t with
          | [] => rw [hs] at hc; simp at hc
          | [_] => rw [hs] at hc; simp at hc
          | x :: y :: l => exact ⟨x, y, l, rfl⟩
        · cases h2
theorem text_sign {n : Nat} {t x : DataW Unit} (hk : kindT t = 4 ∨ kindT t = 5 ∨ kindT t = 6) (hs : subs t = [x]) : ∃ c, bts (textE (n + 1) t) = bts (within (textE n) x) ++ [c] ∧ signKind c = kindT t ∧ c ≠ 32 ∧ letter c = false := by
  rcases hk with hk | hk | hk
  · exact ⟨42, by rw [textE, hk, hs]; simp only [show ¬ (4 : Int) = 1 from by decide, if_false, if_true]; rw [bts_append, bts_sign]; rfl, hk ▸ rfl, by decide, by decide⟩
  · exact ⟨43, by rw [textE, hk, hs]; simp only [show ¬ (5 : Int) = 1 from by decide, show ¬ (5 : Int) = 4 from by decide, if_false, if_true]; rw [bts_append, bts_sign]; rfl, hk ▸ rfl, by decide, by decide⟩
  · exact ⟨63, by rw [textE, hk, hs]; simp only [show ¬ (6 : Int) = 1 from by decide, show ¬ (6 : Int) = 4 from by decide, show ¬ (6 : Int) = 5 from by decide, if_false, if_true]; rw [bts_append, bts_sign]; rfl, hk ▸ rfl, by decide, by decide⟩
theorem text_name {n : Nat} {t : DataW Unit} (hk : kindT t = 1) : textE (n + 1) t = nameT t := by
  rw [textE, if_pos hk]
theorem text_join {n : Nat} {t x : DataW Unit} {l : List (DataW Unit)} (hk : kindT t = 2 ∨ kindT t = 3) (hs : subs t = x :: l) : bts (textE (n + 1) t) = bts (piece (textE n) (kindT t) x) ++ tailL (textE n) (kindT t) l := by
  rw [textE, if_neg (by omega), if_neg (by omega), if_neg (by omega), if_neg (by omega), hs, join_all]
theorem within_plain {f : DataW Unit → ByteArray} {x : DataW Unit} (h : ¬ (kindT x = 2 ∨ kindT x = 3)) : within f x = f x := by
  unfold within
  rw [if_neg h]
theorem within_brackets {f : DataW Unit → ByteArray} {x : DataW Unit} (h : kindT x = 2 ∨ kindT x = 3) (r : List UInt8) : bts (within f x) ++ r = 40 :: (bts (f x) ++ 41 :: r) := by
  unfold within
  rw [if_pos h, bts_append, bts_append, bts_sign, bts_sign]
  simp
/-- A part starts with a letter or a bracket. -/
theorem within_head : ∀ (n : Nat) (x : DataW Unit), rightE n x = true → kindT x ≠ 0 → ∃ c q, bts (within (textE n) x) = c :: q ∧ (letter c = true ∨ c = 40) := by
  intro n
  induction n with
  | zero => intro x h; cases h
  | succ n ih =>
    intro x h h0
    obtain ⟨hs, hc⟩ := right_cases h h0
    rcases hc with ⟨hk, hl, _⟩ | ⟨hk, _, y, hy⟩ | ⟨hk, _⟩
    · rw [within_plain (by omega), text_name hk]
      unfold letters at hl
      rw [Bool.and_eq_true, bts_toList] at hl
      generalize bts (nameT x) = l at hl
      cases l with
      | nil => cases hl.2
      | cons c q => rw [List.all_cons, Bool.and_eq_true] at hl; exact ⟨c, q, rfl, .inl hl.1.1⟩
    · obtain ⟨c, hc, _⟩ := text_sign (n := n) hk hy
      rw [within_plain (by omega), hc]
      obtain ⟨h1, h2⟩ := hs y (by rw [hy]; exact List.mem_cons_self ..)
      obtain ⟨d, q, hq, hd⟩ := ih y h2 h1
      exact ⟨d, q ++ [c], by rw [hq]; rfl, hd⟩
    · have := within_brackets (f := textE (n + 1)) hk []
      rw [List.append_nil] at this
      exact ⟨40, _, this, .inr rfl⟩
/-- Parts are read, one by one. -/
theorem seq_loop_back {f : DataW Unit → ByteArray} {part : List UInt8 → Option (DataW Unit) × List UInt8} {r : List UInt8} (hr : stops r) (hn : noLet r) : ∀ (l : List (DataW Unit)) (F : Nat) (a : List (DataW Unit)) (x : DataW Unit),
    (∀ y ∈ l, kindT y ≠ 2 ∧ (∃ c q, bts (within f y) = c :: q ∧ (letter c = true ∨ c = 40)) ∧ ∀ r, noLet r → part (bts (within f y) ++ r) = (some (signsL y r).1, (signsL y r).2)) → (signsL x (tailL f 2 l ++ r)).2.length < F →
    (signsL x (tailL f 2 l ++ r)).1 = x ∧ seqLoop part F a (signsL x (tailL f 2 l ++ r)).2 = (some (a ++ l), skipL r) := by
  intro l
  induction l with
  | nil =>
    intro F a x _ hF
    obtain ⟨F, rfl⟩ : ∃ F', F = F' + 1 := ⟨F - 1, by omega⟩
    rw [tailL, List.nil_append, signs_stop x r hr]
    refine ⟨rfl, ?_⟩
    show seqLoop part (F + 1) a (skipL r) = _
    rw [List.append_nil]
    match hs : skipL r with
    | [] => rfl
    | c :: q => rw [seqLoop, if_pos (hr c q hs)]
  | cons y l ih =>
    intro F a x h hF
    obtain ⟨h2, ⟨c, q, hq, hc⟩, hp⟩ := h y (List.mem_cons_self ..)
    have hN : noLet (tailL f 2 l ++ r) := by
      cases l with
      | nil => exact hn
      | cons z l => intro c q e; rw [tailL, sep, if_pos rfl] at e; cases e; decide
    have hp := hp _ hN
    have e1 : tailL f 2 (y :: l) ++ r = 32 :: (c :: (q ++ (tailL f 2 l ++ r))) := by
      rw [tailL, sep, if_pos rfl, piece_seq f y h2, hq]
      simp
    obtain ⟨g1, _, g2, g3⟩ := signs_stay x c (q ++ (tailL f 2 l ++ r)) hc
    have e2 : signsL x (tailL f 2 (y :: l) ++ r) = (x, c :: (q ++ (tailL f 2 l ++ r))) := by rw [e1, signsL, if_pos rfl, g1]
    rw [e2] at hF ⊢
    refine ⟨rfl, ?_⟩
    obtain ⟨F, rfl⟩ : ∃ F', F = F' + 1 := ⟨F - 1, by omega⟩
    show seqLoop part (F + 1) a (c :: (q ++ (tailL f 2 l ++ r))) = _
    rw [seqLoop, if_neg (fun e => e.elim g2 g3)]
    rw [hq, List.cons_append] at hp
    rw [hp]
    have hlen : ∀ (l : List UInt8) (t : DataW Unit), (signsL t l).2.length ≤ l.length := by
      intro l
      induction l with
      | nil => intro t; exact Nat.le_refl _
      | cons d l ih =>
        intro t
        rw [signsL]
        split
        · exact Nat.le_succ_of_le (ih _)
        · split
          · exact Nat.le_refl _
          · exact Nat.le_succ_of_le (ih _)
    have hl := hlen (tailL f 2 l ++ r) y
    have hF' : (signsL y (tailL f 2 l ++ r)).2.length < F := by
      have : (c :: (q ++ (tailL f 2 l ++ r))).length < F + 1 := hF
      rw [List.length_cons, List.length_append] at this
      omega
    obtain ⟨i1, i2⟩ := ih F (a ++ [y]) y (fun z hz => h z (List.mem_cons_of_mem _ hz)) hF'
    rw [i1]
    show seqLoop part F (a ++ [y]) _ = _
    rw [i2, List.append_assoc]
    rfl
/-- Choices are read, one by one. -/
theorem alt_loop_back {f : DataW Unit → ByteArray} {seq : List UInt8 → Option (DataW Unit) × List UInt8} {r : List UInt8} (hr : shuts r) (hn : noLet r) : ∀ (l : List (DataW Unit)) (F : Nat) (a : List (DataW Unit)),
    (∀ y ∈ l, ∀ r, stops r → noLet r → seq (bts (f y) ++ r) = (some y, skipL r)) → (skipL (tailL f 3 l ++ r)).length < F →
    altLoop seq F a (skipL (tailL f 3 l ++ r)) = (some (a ++ l), skipL r) := by
  intro l
  induction l with
  | nil =>
    intro F a _ hF
    obtain ⟨F, rfl⟩ : ∃ F', F = F' + 1 := ⟨F - 1, by omega⟩
    rw [tailL, List.nil_append, List.append_nil]
    match hs : skipL r with
    | [] => rfl
    | c :: q => rw [altLoop, if_neg (by rw [hr c q hs]; decide)]
  | cons y l ih =>
    intro F a h hF
    have hlen : ∀ (l : List UInt8), (skipL l).length ≤ l.length := by
      intro l
      induction l with
      | nil => exact Nat.le_refl _
      | cons d l ih =>
        rw [skipL]
        split
        · exact Nat.le_succ_of_le ih
        · exact Nat.le_refl _
    have e1 : skipL (tailL f 3 (y :: l) ++ r) = 124 :: (bts (f y) ++ (tailL f 3 l ++ r)) := by
      rw [tailL, sep, if_neg (by decide), if_pos rfl, piece_alt]
      simp [skipL]
    have hSN : stops (tailL f 3 l ++ r) ∧ noLet (tailL f 3 l ++ r) := by
      cases l with
      | nil => exact ⟨hr.stops, hn⟩
      | cons z l =>
        have e : tailL f 3 (z :: l) ++ r = 124 :: (bts (f z) ++ (tailL f 3 l ++ r)) := by
          rw [tailL, sep, if_neg (by decide), if_pos rfl, piece_alt]
          simp
        rw [e]
        constructor
        · intro c q e; rw [skipL, if_neg (by decide)] at e; cases e; exact .inl rfl
        · intro c q e; cases e; decide
    rw [e1] at hF ⊢
    obtain ⟨F, rfl⟩ : ∃ F', F = F' + 1 := ⟨F - 1, by omega⟩
    rw [altLoop, if_pos rfl, h y (List.mem_cons_self ..) _ hSN.1 hSN.2]
    have hl := hlen (tailL f 3 l ++ r)
    show altLoop seq F (a ++ [y]) _ = _
    rw [ih F (a ++ [y]) (fun z hz => h z (List.mem_cons_of_mem _ hz)) (by rw [List.length_cons, List.length_append] at hF; omega), List.append_assoc]
    rfl
/-- One thing is read as choices of one. -/
theorem alt_one {seq : List UInt8 → Option (DataW Unit) × List UInt8} {x : DataW Unit} {l r : List UInt8} (hr : shuts r) (h : seq l = (some x, skipL r)) : altL seq l = (some x, skipL r) := by
  unfold altL
  rw [h]
  match hs : skipL r with
  | [] => rfl
  | c :: q =>
    have := hr c q hs
    subst this
    rfl
/-- One part is read as parts of one. -/
theorem seq_one {part : List UInt8 → Option (DataW Unit) × List UInt8} {x : DataW Unit} {l r : List UInt8} (hr : stops r) (h : part l = (some x, skipL r)) : seqL part l = (some x, skipL r) := by
  unfold seqL
  rw [h]
  match hs : skipL r with
  | [] => rfl
  | c :: q =>
    rcases hr c q hs with rfl | rfl
    · rfl
    · rfl
theorem noLet_sign (c : UInt8) (r : List UInt8) (h : letter c = false) : noLet (c :: r) := by
  intro d q e
  cases e
  exact h
/-- THERE AND BACK. -/
theorem back : ∀ (n : Nat),
    (∀ x, rightE n x = true → good n x → kindT x ≠ 0 → ∀ m, n ≤ m → ∀ r, noLet r → partL (altN m) (bts (within (textE n) x) ++ r) = (some (signsL x r).1, (signsL x r).2)) ∧
    (∀ x, rightE n x = true → good n x → kindT x ≠ 0 → kindT x ≠ 3 → ∀ m, n ≤ m + 1 → ∀ r, stops r → noLet r → seqL (partL (altN m)) (bts (textE n x) ++ r) = (some x, skipL r)) ∧
    (∀ x, rightE n x = true → good n x → kindT x ≠ 0 → ∀ m, n ≤ m → ∀ r, shuts r → noLet r → altN m (bts (textE n x) ++ r) = (some x, skipL r)) := by
  intro n
  induction n with
  | zero => exact ⟨fun x h => (by cases h), fun x h => (by cases h), fun x h => (by cases h)⟩
  | succ n ih =>
    obtain ⟨P, S, -⟩ := ih
    have Q : ∀ x, rightE (n + 1) x = true → good (n + 1) x → kindT x ≠ 0 → ¬ (kindT x = 2 ∨ kindT x = 3) → ∀ m, n ≤ m → ∀ r, noLet r → partL (altN m) (bts (textE (n + 1) x) ++ r) = (some (signsL x r).1, (signsL x r).2) := by
      intro x h hg h0 hk m hm r hr
      obtain ⟨hs, hc⟩ := right_cases h h0
      obtain ⟨hx, hgs⟩ := hg
      rcases hc with ⟨hk, hl, he⟩ | ⟨hk, he, y, hy⟩ | ⟨hk', _⟩
      · rw [text_name hk, part_name _ _ _ hl hr]
        rw [hk, he] at hx
        rw [← hx]
      · obtain ⟨c, hc, hc1, hc2, hc3⟩ := text_sign (n := n) hk hy
        have hm' : y ∈ subs x := by rw [hy]; exact List.mem_cons_self ..
        rw [hc, List.append_assoc, List.singleton_append, P y (hs y hm').2 (hgs y hm') (hs y hm').1 m hm _ (noLet_sign c r hc3)]
        have e : signsL y (c :: r) = signsL x r := by
          rw [signsL, if_neg hc2, if_neg (by omega), hc1]
          rw [he, hy] at hx
          rw [← hx]
        rw [e]
      · exact absurd hk' hk
    have S' : ∀ x, rightE (n + 1) x = true → good (n + 1) x → kindT x ≠ 0 → kindT x ≠ 3 → ∀ m, n + 1 ≤ m + 1 → ∀ r, stops r → noLet r → seqL (partL (altN m)) (bts (textE (n + 1) x) ++ r) = (some x, skipL r) := by
      intro x h hg h0 h3 m hm r hr hn
      by_cases h2 : kindT x = 2
      · obtain ⟨hs, hc⟩ := right_cases h h0
        obtain ⟨hx, hgs⟩ := hg
        rcases hc with ⟨hk, _⟩ | ⟨hk, _⟩ | ⟨hk, he, hd, y, z, l, hl⟩
        · omega
        · omega
        · have hy : y ∈ subs x := by rw [hl]; exact List.mem_cons_self ..
          have hz : ∀ u ∈ z :: l, u ∈ subs x := fun u hu => by rw [hl]; exact List.mem_cons_of_mem _ hu
          have hN : noLet (tailL (textE n) 2 (z :: l) ++ r) := by
            intro c q e
            rw [tailL, sep, if_pos rfl] at e
            cases e
            decide
          have hL := seq_loop_back (f := textE n) (part := partL (altN m)) hr hn (z :: l) _ [y] y (fun u hu => ⟨by have := hd u (hz u hu); omega, within_head n u (hs u (hz u hu)).2 (hs u (hz u hu)).1, P u (hs u (hz u hu)).2 (hgs u (hz u hu)) (hs u (hz u hu)).1 m (by omega)⟩) (Nat.lt_succ_self _)
          rw [text_join hk hl, h2, piece_seq _ _ (by have := hd y hy; omega), List.append_assoc]
          unfold seqL
          rw [P y (hs y hy).2 (hgs y hy) (hs y hy).1 m (by omega) _ hN]
          obtain ⟨g1, g2⟩ := hL
          rw [g1]
          simp only [g2]
          rw [h2, he, hl] at hx
          have hflat : flatT 2 (y :: z :: l) = y :: z :: l := flat_none 2 _ fun u hu => by have := hd u (by rw [hl]; exact hu); omega
          show (some (node 2 ⟨#[]⟩ (flatT 2 (y :: z :: l))), skipL r) = _
          rw [hflat, ← hx]
      · have := Q x h hg h0 (by omega) m (by omega) r hn
        rw [signs_stop x r hr] at this
        exact seq_one hr this
    have A : ∀ x, rightE (n + 1) x = true → good (n + 1) x → kindT x ≠ 0 → ∀ m, n + 1 ≤ m → ∀ r, shuts r → noLet r → altN m (bts (textE (n + 1) x) ++ r) = (some x, skipL r) := by
      intro x h hg h0 m hm r hr hn
      obtain ⟨m, rfl⟩ : ∃ m', m = m' + 1 := ⟨m - 1, by omega⟩
      rw [altN]
      by_cases h3 : kindT x = 3
      · obtain ⟨hs, hc⟩ := right_cases h h0
        obtain ⟨hx, hgs⟩ := hg
        rcases hc with ⟨hk, _⟩ | ⟨hk, _⟩ | ⟨hk, he, hd, y, z, l, hl⟩
        · omega
        · omega
        · have hy : y ∈ subs x := by rw [hl]; exact List.mem_cons_self ..
          have hz : ∀ u ∈ z :: l, u ∈ subs x := fun u hu => by rw [hl]; exact List.mem_cons_of_mem _ hu
          have e : tailL (textE n) 3 (z :: l) ++ r = 124 :: (bts (textE n z) ++ (tailL (textE n) 3 l ++ r)) := by
            rw [tailL, sep, if_neg (by decide), if_pos rfl, piece_alt]
            simp
          have hS : stops (tailL (textE n) 3 (z :: l) ++ r) := by
            rw [e]
            intro c q e
            rw [skipL, if_neg (by decide)] at e
            cases e
            exact .inl rfl
          have hN : noLet (tailL (textE n) 3 (z :: l) ++ r) := by
            rw [e]
            exact noLet_sign _ _ (by decide)
          have hS3 : ∀ u ∈ subs x, ∀ r, stops r → noLet r → seqL (partL (altN m)) (bts (textE n u) ++ r) = (some u, skipL r) := fun u hu r h1 h2 => S u (hs u hu).2 (hgs u hu) (hs u hu).1 (by have := hd u hu; omega) m (by omega) r h1 h2
          have hL := alt_loop_back (f := textE n) (seq := seqL (partL (altN m))) hr hn (z :: l) _ [y] (fun u hu => hS3 u (hz u hu)) (Nat.lt_succ_self _)
          rw [text_join hk hl, h3, piece_alt, List.append_assoc]
          unfold altL
          rw [hS3 y hy _ hS hN]
          simp only [hL]
          rw [h3, he, hl] at hx
          have hflat : flatT 3 (y :: z :: l) = y :: z :: l := flat_none 3 _ fun u hu => by have := hd u (by rw [hl]; exact hu); omega
          show (some (node 3 ⟨#[]⟩ (flatT 3 (y :: z :: l))), skipL r) = _
          rw [hflat, ← hx]
      · exact alt_one hr (S' x h hg h0 h3 m hm r hr.stops hn)
    refine ⟨?_, S', A⟩
    intro x h hg h0 m hm r hr
    by_cases hk : kindT x = 2 ∨ kindT x = 3
    · rw [within_brackets hk r]
      have hA := A x h hg h0 m hm (41 :: r) (by intro c q e; rw [skipL, if_neg (by decide)] at e; cases e; rfl) (noLet_sign _ _ (by decide))
      rw [skipL, if_neg (by decide)] at hA
      exact part_brackets _ _ _ _ hA
    · rw [within_plain hk]
      exact Q x h hg h0 hk m (by omega) r hr
end Go.Proofs.YtafidabopcgkhaaDoor
