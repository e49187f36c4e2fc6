/-
  PROVED HERE, plain: a line's words and the line; what an act's line is read as; what a read act is written as.
-/
import Derived.Test.YtmkcdkfjomaidaaDoorSPrint
namespace Go.Proofs.YtmkcdkfjomaidaaDoor
open Go.RowKit

theorem ib_no : ∀ (w : List UInt8), (32 : UInt8) ∉ w → Lib.indexByte w 32 = -1
  | [], _ => rfl
  | b :: w, h => by
    have h1 : ¬ (b == 32) = true := fun e => h (by rw [beq_iff_eq.1 e]; simp)
    have ih := ib_no w (fun e => h (List.mem_cons_of_mem _ e))
    unfold Lib.indexByte
    rw [if_neg h1, ih]
    rfl
theorem ib_at : ∀ (w t : List UInt8), (32 : UInt8) ∉ w → Lib.indexByte (w ++ 32 :: t) 32 = w.length
  | [], t, _ => by
    show Lib.indexByte (32 :: t) 32 = 0
    unfold Lib.indexByte
    rw [if_pos (by decide)]
  | b :: w, t, h => by
    have h1 : ¬ (b == 32) = true := fun e => h (by rw [beq_iff_eq.1 e]; simp)
    have ih := ib_at w t (fun e => h (List.mem_cons_of_mem _ e))
    show Lib.indexByte (b :: (w ++ 32 :: t)) 32 = _
    unfold Lib.indexByte
    rw [if_neg h1, ih, if_neg (by first | (simp; done) | (simp; omega)), List.length_cons]
    omega
theorem ib_get : ∀ (l : List UInt8) (i : Nat), Lib.indexByte l 32 = i → l = l.take i ++ 32 :: l.drop (i + 1)
  | [], i, h => by
    have h : (-1 : Int) = (i : Int) := h
    omega
  | b :: l, i, h => by
    unfold Lib.indexByte at h
    by_cases h1 : (b == 32) = true
    · rw [if_pos h1] at h
      obtain rfl : i = 0 := by omega
      rw [beq_iff_eq.1 h1]
      rfl
    · rw [if_neg h1] at h
      by_cases h2 : (Lib.indexByte l 32 == -1) = true
      · rw [if_pos h2] at h
        omega
      · rw [if_neg h2] at h
        obtain ⟨j, rfl⟩ : ∃ j, i = j + 1 := ⟨i - 1, by have := Lib.index_ge l [32]; rw [index_blank] at this; have h3 : Lib.indexByte l 32 ≠ -1 := fun e => h2 (by rw [e]; rfl); omega⟩
        have := ib_get l j (by omega)
        rw [List.take_succ_cons, List.drop_succ_cons, List.cons_append, ← this]

/-- Words with a blank ahead of each. -/
def blanks (r : List (List UInt8)) : List UInt8 := r.flatMap fun x => 32 :: x

theorem split_join : ∀ (k : Nat) (l : List UInt8), ∃ x r, Lib.splitK [32] 0 k l = x :: r ∧ l = x ++ blanks r
  | 0, l => ⟨l, [], rfl, by simp [blanks]⟩
  | k + 1, l => by
    unfold Lib.splitK
    by_cases h : (Lib.index l [32] == -1) = true
    · rw [if_pos h]
      exact ⟨l, [], rfl, by simp [blanks]⟩
    · rw [if_neg h]
      have h1 := Lib.index_ge l [32]
      have h2 : Lib.index l [32] ≠ -1 := fun e => h (by rw [e]; rfl)
      obtain ⟨i, hi⟩ : ∃ i : Nat, Lib.index l [32] = i := ⟨(Lib.index l [32]).toNat, by omega⟩
      rw [hi]
      rw [index_blank] at hi
      obtain ⟨x, r, e, he⟩ := split_join k (l.drop (i + 1))
      refine ⟨l.take i, x :: r, ?_, ?_⟩
      · rw [← e]
        simp
      · have := ib_get l i hi
        rw [he] at this
        show l = l.take i ++ (32 :: x ++ blanks r)
        exact this
theorem split_head (k : Nat) (w t : List UInt8) (hw : (32 : UInt8) ∉ w) (ht : t = [] ∨ ∃ t', t = 32 :: t') : ∃ r, Lib.splitK [32] 0 (k + 1) (w ++ t) = w :: r := by
  unfold Lib.splitK
  rcases ht with rfl | ⟨t', rfl⟩
  · rw [List.append_nil, index_blank, ib_no w hw]
    exact ⟨[], rfl⟩
  · rw [index_blank, ib_at w t' hw, if_neg (by first | (simp; done) | (simp; omega))]
    exact ⟨Lib.splitK [32] 0 k t', by simp⟩

theorem five_data (s : ByteArray) : (five s).map (·.data.toList) = Lib.splitK [32] 0 (room s - 1) s.data.toList := Lib.splitB_data _ _ _ _

theorem five_join (s x : ByteArray) (r : List ByteArray) (h : five s = x :: r) : s.data.toList = x.data.toList ++ blanks (r.map (·.data.toList)) := by
  obtain ⟨y, q, e, he⟩ := split_join (room s - 1) s.data.toList
  rw [← five_data, h, List.map_cons] at e
  obtain ⟨rfl, rfl⟩ := List.cons.inj e
  exact he

theorem tab_blank {t : Shp} (h : t ∈ tab) : (32 : UInt8) ∉ t.word.data.toList ∧ 1 ≤ t.word.size := by
  have h1 : tab.all (fun t => (!t.word.data.toList.contains 32) && decide (1 ≤ t.word.size)) = true := by decide
  have := List.all_eq_true.1 h1 t h
  simp only [Bool.and_eq_true, decide_eq_true_eq] at this
  refine ⟨fun e => ?_, this.2⟩
  have h2 := this.1
  rw [List.contains_iff_mem.2 e] at h2
  cases h2

theorem tail_blank (a c d n : Int) (fs : List UInt8) : tail a c d n fs = [] ∨ ∃ t, tail a c d n fs = 32 :: t := by
  cases fs with
  | nil => exact .inl rfl
  | cons l fs => exact .inr ⟨_, rfl⟩

theorem five_line {t : Shp} (h : t ∈ tab) (a c d n : Int) : ∃ x r, five (lineS t a c d n) = x :: r ∧ x.data.toList = t.word.data.toList := by
  obtain ⟨h1, h2⟩ := tab_blank h
  obtain ⟨x, r, e⟩ := five_cons (lineS t a c d n)
  refine ⟨x, r, e, ?_⟩
  have hd := five_data (lineS t a c d n)
  have hr : ∃ k, room (lineS t a c d n) - 1 = k + 1 := by
    have e1 : (lineS t a c d n).size = (lineP t a c d n).length := by unfold lineS; exact List.size_toArray
    have e2 : t.word.data.toList.length = t.word.size := rfl
    refine ⟨room (lineS t a c d n) - 2, ?_⟩
    unfold room
    rw [e1]
    unfold lineP
    rw [List.length_append]
    omega
  obtain ⟨k, hk⟩ := hr
  rw [hk] at hd
  have hl : (lineS t a c d n).data.toList = t.word.data.toList ++ tail a c d n t.fs.data.toList := rfl
  rw [hl] at hd
  obtain ⟨q, hq⟩ := split_head k t.word.data.toList (tail a c d n t.fs.data.toList) h1 (tail_blank _ _ _ _ _)
  rw [hq, e, List.map_cons] at hd
  exact (List.cons.inj hd).1

theorem ba_ext {x y : ByteArray} (h : x.data.toList = y.data.toList) : x = y := by
  apply ByteArray.ext
  exact Array.ext' h
theorem ba_beq (x y : ByteArray) : (x.toList == y.toList) = true ↔ x = y := by
  rw [ByteArray.toList_eq, ByteArray.toList_eq]
  constructor
  · intro h
    exact ba_ext (by simpa using h)
  · rintro rfl
    simp

/-- The act that a shape and the words behind give. -/
theorem seek_some (x : ByteArray) (r : List ByteArray) : ∀ (l : List Shp) (cs : Array Value), seek x r l = some cs → ∃ t ∈ l, t.word = x ∧ fillP (actC t.k 0 t.b 0 0 0) t.fs.data.toList r = some cs
  | [], cs, h => by cases h
  | t :: l, cs, h => by
    unfold seek at h
    split at h
    · rename_i hw
      split at h
      · rename_i cs' e
        cases h
        exact ⟨t, List.mem_cons_self .., (ba_beq _ _).1 hw, e⟩
      · obtain ⟨t', h1, h2⟩ := seek_some x r l cs h
        exact ⟨t', List.mem_cons_of_mem _ h1, h2⟩
    · obtain ⟨t', h1, h2⟩ := seek_some x r l cs h
      exact ⟨t', List.mem_cons_of_mem _ h1, h2⟩

theorem tab_words : (tab.map (·.word.data.toList)).Nodup := by decide
theorem tab_pairs : (tab.map fun t => (t.k, t.b)).Nodup := by decide
theorem nodup_eq {α β : Type} {f : α → β} : ∀ {l : List α}, (l.map f).Nodup → ∀ {x y : α}, x ∈ l → y ∈ l → f x = f y → x = y
  | [], _, _, _, h, _, _ => by cases h
  | a :: l, hn, x, y, hx, hy, e => by
    rw [List.map_cons, List.nodup_cons] at hn
    rcases List.mem_cons.1 hx with rfl | hx2
    · rcases List.mem_cons.1 hy with rfl | hy
      · rfl
      · exact absurd (show f x ∈ l.map f by rw [e]; exact List.mem_map_of_mem hy) hn.1
    · rcases List.mem_cons.1 hy with rfl | hy
      · exact absurd (show f y ∈ l.map f by rw [← e]; exact List.mem_map_of_mem hx2) hn.1
      · exact nodup_eq hn.2 hx2 hy e

theorem numAt_set (a c d n v : Int) (l : UInt8) : ∃ a1 c1 d1 n1, (∀ k b, (actC k a b c d n).setIfInBounds (off (l.toNat : Int)) (.int .i64 v) = actC k a1 b c1 d1 n1) ∧ numAt a1 c1 d1 n1 l = v ∧ ∀ m : UInt8, off (m.toNat : Int) ≠ off (l.toNat : Int) → numAt a1 c1 d1 n1 m = numAt a c d n m := by
  by_cases h1 : (l.toNat : Int) = 97
  · refine ⟨v, c, d, n, fun k b => by simp only [off, if_pos h1]; rfl, by simp only [numAt, if_pos h1], fun m hm => ?_⟩
    unfold off at hm
    rw [if_pos h1] at hm
    unfold numAt
    by_cases g1 : (m.toNat : Int) = 97
    · rw [if_pos g1] at hm
      exact absurd rfl hm
    · rw [if_neg g1, if_neg g1]
  · by_cases h2 : (l.toNat : Int) = 99
    · refine ⟨a, v, d, n, fun k b => by simp only [off, if_neg h1, if_pos h2]; rfl, by simp only [numAt, if_neg h1, if_pos h2], fun m hm => ?_⟩
      unfold off at hm
      rw [if_neg h1, if_pos h2] at hm
      unfold numAt
      by_cases g1 : (m.toNat : Int) = 97
      · rw [if_pos g1, if_pos g1]
      · rw [if_neg g1, if_neg g1]
        by_cases g2 : (m.toNat : Int) = 99
        · rw [if_neg g1, if_pos g2] at hm
          exact absurd rfl hm
        · rw [if_neg g2, if_neg g2]
    · by_cases h3 : (l.toNat : Int) = 100
      · refine ⟨a, c, v, n, fun k b => by simp only [off, if_neg h1, if_neg h2, if_pos h3]; rfl, by simp only [numAt, if_neg h1, if_neg h2, if_pos h3], fun m hm => ?_⟩
        unfold off at hm
        rw [if_neg h1, if_neg h2, if_pos h3] at hm
        unfold numAt
        by_cases g1 : (m.toNat : Int) = 97
        · rw [if_pos g1, if_pos g1]
        · rw [if_neg g1, if_neg g1]
          by_cases g2 : (m.toNat : Int) = 99
          · rw [if_pos g2, if_pos g2]
          · rw [if_neg g2, if_neg g2]
            by_cases g3 : (m.toNat : Int) = 100
            · rw [if_neg g1, if_neg g2, if_pos g3] at hm
              exact absurd rfl hm
            · rw [if_neg g3, if_neg g3]
      · refine ⟨a, c, d, v, fun k b => by simp only [off, if_neg h1, if_neg h2, if_neg h3]; rfl, by simp only [numAt, if_neg h1, if_neg h2, if_neg h3], fun m hm => ?_⟩
        unfold off at hm
        rw [if_neg h1, if_neg h2, if_neg h3] at hm
        unfold numAt
        by_cases g1 : (m.toNat : Int) = 97
        · rw [if_pos g1, if_pos g1]
        · rw [if_neg g1, if_neg g1]
          by_cases g2 : (m.toNat : Int) = 99
          · rw [if_pos g2, if_pos g2]
          · rw [if_neg g2, if_neg g2]
            by_cases g3 : (m.toNat : Int) = 100
            · rw [if_pos g3, if_pos g3]
            · rw [if_neg g1, if_neg g2, if_neg g3] at hm
              exact absurd rfl hm

/-- What the cells hold behind the words: each word is its number's own text. -/
theorem fillP_spec : ∀ (L : List UInt8) (r : List ByteArray) (k a b c d n k' a' b' c' d' n' : Int), fillP (actC k a b c d n) L r = some (actC k' a' b' c' d' n') → L.Pairwise (fun l m => off (l.toNat : Int) ≠ off (m.toNat : Int)) →
    k' = k ∧ b' = b ∧ (∀ l : UInt8, (∀ m ∈ L, off (l.toNat : Int) ≠ off (m.toNat : Int)) → numAt a' c' d' n' l = numAt a c d n l) ∧ tail a' c' d' n' L = blanks (r.map (·.data.toList))
  | [], [], k, a, b, c, d, n, k', a', b', c', d', n', h, _ => by
    unfold fillP at h
    obtain ⟨h1, h2, h3, h4, h5, h6⟩ := actC_inj (Option.some.inj h)
    subst h1 h2 h3 h4 h5 h6
    exact ⟨rfl, rfl, fun _ _ => rfl, rfl⟩
  | [], _ :: _, _, _, _, _, _, _, _, _, _, _, _, _, h, _ => by cases h
  | _ :: _, [], _, _, _, _, _, _, _, _, _, _, _, _, h, _ => by cases h
  | l :: L, x :: r, k, a, b, c, d, n, k', a', b', c', d', n', h, hp => by
    rw [List.pairwise_cons] at hp
    unfold fillP at h
    split at h
    · rename_i v hv
      obtain ⟨a1, c1, d1, n1, e1, e2, e3⟩ := numAt_set a c d n v l
      rw [e1 k b] at h
      obtain ⟨q1, q2, q3, q4⟩ := fillP_spec L r k a1 b c1 d1 n1 k' a' b' c' d' n' h hp.2
      refine ⟨q1, q2, fun m hm => ?_, ?_⟩
      · rw [q3 m (fun j hj => hm j (List.mem_cons_of_mem _ hj)), e3 m (hm l (List.mem_cons_self ..))]
      · have e4 : numAt a' c' d' n' l = v := by rw [q3 l (fun j hj => hp.1 j hj), e2]
        have e5 := (pnum_iff.1 hv).1
        show (32 :: Lib.itoa (numAt a' c' d' n' l)) ++ tail a' c' d' n' L = _
        rw [e4, ← e5, q4]
        rfl
    · cases h

theorem tab_apart {t : Shp} (h : t ∈ tab) : t.fs.data.toList.Pairwise (fun l m => off (l.toNat : Int) ≠ off (m.toNat : Int)) := by
  have h1 : ∀ t ∈ tab, t.fs.data.toList.Pairwise (fun l m => off (l.toNat : Int) ≠ off (m.toNat : Int)) := by decide
  exact h1 t h

/-- What an act's line is read as. -/
theorem back_read {k a b c d n : Int} {bl : Nat} {s : ByteArray} (h : seekP k a b c d n bl tab = some s) : actW (five s) = some (actC k a b c d n) ∧ bl = 0 := by
  have key : ∀ l : List Shp, (∀ t ∈ l, t ∈ tab) → seekP k a b c d n bl l = some s → ∃ t ∈ tab, (t.k = k ∧ t.b = b) ∧ Backs t a c d n ∧ bl = 0 ∧ s = lineS t a c d n := by
    intro l
    induction l with
    | nil => intro _ h; cases h
    | cons t l ih =>
      intro hl h
      by_cases hc : (t.k = k ∧ t.b = b) ∧ Backs t a c d n ∧ bl = 0
      · rw [seekP_hit hc] at h
        exact ⟨t, hl t (List.mem_cons_self ..), hc.1, hc.2.1, hc.2.2, (Option.some.inj h).symm⟩
      · rw [seekP_skip hc] at h
        exact ih (fun t ht => hl t (List.mem_cons_of_mem _ ht)) h
  obtain ⟨t, ht, ⟨rfl, rfl⟩, ⟨k', b', hb⟩, h0, rfl⟩ := key tab (fun _ h => h) h
  refine ⟨?_, h0⟩
  obtain ⟨x, r, e, hx⟩ := five_line ht a c d n
  rw [e] at hb ⊢
  obtain ⟨t', ht', hw, hf⟩ := seek_some x r tab _ hb
  have : t' = t := nodup_eq tab_words ht' ht (by rw [hw]; exact hx)
  subst this
  obtain ⟨e1, e2, _⟩ := fillP_spec _ _ _ _ _ _ _ _ _ _ _ _ _ _ hf (tab_apart ht')
  subst e1 e2
  exact hb

/-- What a read act is written as. -/
theorem read_back {s : ByteArray} {k a b c d n : Int} (h : actW (five s) = some (actC k a b c d n)) : seekP k a b c d n 0 tab = some s := by
  obtain ⟨x, r, e⟩ := five_cons s
  have hj := five_join s x r e
  have h' := h
  rw [e] at h'
  obtain ⟨t, ht, hw, hf⟩ := seek_some x r tab _ h'
  obtain ⟨e1, e2, _, e4⟩ := fillP_spec _ _ _ _ _ _ _ _ _ _ _ _ _ _ hf (tab_apart ht)
  have hs : lineS t a c d n = s := by
    apply ba_ext
    show t.word.data.toList ++ tail a c d n t.fs.data.toList = _
    rw [e4, hw, hj]
  have hB : Backs t a c d n := ⟨k, b, by rw [hs]; exact h⟩
  subst e1 e2
  have key : ∀ l : List Shp, (∀ u ∈ l, u ∈ tab) → t ∈ l → seekP t.k a t.b c d n 0 l = some s := by
    intro l
    induction l with
    | nil => intro _ h; cases h
    | cons u l ih =>
      intro hl hm
      by_cases hc : u.k = t.k ∧ u.b = t.b
      · have : u = t := nodup_eq tab_pairs (hl u (List.mem_cons_self ..)) ht (by rw [hc.1, hc.2])
        subst this
        rw [seekP_hit ⟨⟨rfl, rfl⟩, hB, rfl⟩, hs]
      · rw [seekP_skip (fun e => hc e.1)]
        rcases List.mem_cons.1 hm with e | hm
        · exact absurd ⟨by rw [e], by rw [e]⟩ hc
        · exact ih (fun u hu => hl u (List.mem_cons_of_mem _ hu)) hm
  exact key tab (fun _ h => h) ht
end Go.Proofs.YtmkcdkfjomaidaaDoor
