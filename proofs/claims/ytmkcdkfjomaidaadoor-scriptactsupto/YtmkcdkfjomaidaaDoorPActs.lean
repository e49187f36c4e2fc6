/-
  PROVED HERE, plain: the program and the document read the same act of a line, and write the same line of an act.
-/
import Derived.Test.YtmkcdkfjomaidaaDoorPPrint
import Derived.Test.YtmkcdkfjomaidaaDoorRAct
namespace Go.Proofs.YtmkcdkfjomaidaaDoor
open Go.RowKit

theorem okR_iff {t : Shp} (ht : t ∈ tab) {k a b c d n : Int} {bl : Nat} : OkR t k a b c d n bl ↔ (t.k = k ∧ t.b = b) ∧ Backs t a c d n ∧ bl = 0 := by
  have hw : ∀ F, fillP (actC t.k 0 t.b 0 0 0) t.fs.data.toList (t.fs.data.toList.map fun l => itoaB (numAt a c d n l)) = F → actW (five (lineS t a c d n)) = F := fun F h => by
    rw [five_lineS ht]
    show seek t.word _ tab = F
    rw [seek_only t.word _ t rfl ht, h]
  constructor
  · rintro ⟨h1, h2, h3⟩
    have hf := hw _ (fillP_nums a c d n t.fs.data.toList _ h1)
    obtain ⟨a', c', d', n', e⟩ := setP_act a c d n t.fs.data.toList t.k 0 t.b 0 0 0
    have h2' := h2
    rw [e] at h2'
    obtain ⟨e1, _, e2, _⟩ := actC_inj h2'
    exact ⟨⟨e1, e2⟩, ⟨k, b, by rw [hf, h2]⟩, h3⟩
  · rintro ⟨⟨h1, h2⟩, ⟨k', b', hB⟩, h3⟩
    have hin : ∀ l ∈ t.fs.data.toList, InR (numAt a c d n l) := fun l hl => by
      by_cases h : InR (numAt a c d n l)
      · exact h
      · rw [hw _ (fillP_out a c d n _ _ ⟨l, hl, h⟩)] at hB
        cases hB
    rw [hw _ (fillP_nums a c d n t.fs.data.toList _ hin)] at hB
    have hS := Option.some.inj hB
    obtain ⟨a', c', d', n', e⟩ := setP_act a c d n t.fs.data.toList t.k 0 t.b 0 0 0
    have hS' := hS
    rw [e] at hS'
    obtain ⟨e1, _, e2, _⟩ := actC_inj hS'
    refine ⟨hin, ?_, h3⟩
    rw [hS, ← e1, ← e2, h1, h2]

theorem seekP_none {k a b c d n : Int} {bl : Nat} : ∀ l : List Shp, (∀ t ∈ l, ¬ ((t.k = k ∧ t.b = b) ∧ Backs t a c d n ∧ bl = 0)) → seekP k a b c d n bl l = none
  | [], _ => rfl
  | t :: l, h => by
    rw [seekP_skip (h t (List.mem_cons_self ..))]
    exact seekP_none l (fun t ht => h t (List.mem_cons_of_mem _ ht))
theorem seekP_some {k a b c d n : Int} {bl : Nat} {t : Shp} (ht : t ∈ tab) (hc : (t.k = k ∧ t.b = b) ∧ Backs t a c d n ∧ bl = 0) : ∀ l : List Shp, (∀ u ∈ l, u ∈ tab) → t ∈ l → seekP k a b c d n bl l = some (lineS t a c d n)
  | [], _, h => by cases h
  | u :: l, hl, hm => by
    by_cases hu : u.k = k ∧ u.b = b
    · have : u = t := nodup_eq tab_pairs (hl u (List.mem_cons_self ..)) ht (by rw [hu.1, hu.2, hc.1.1, hc.1.2])
      subst this
      exact seekP_hit hc
    · rw [seekP_skip (fun e => hu e.1)]
      rcases List.mem_cons.1 hm with e | hm
      · exact absurd (by rw [← e]; exact hc.1) hu
      · exact seekP_some ht hc l (fun u hu => hl u (List.mem_cons_of_mem _ hu)) hm

/-- The program writes just what the document writes. -/
theorem print_hit {t : Shp} (ht : t ∈ tab) {k a b c d n : Int} {bl : Nat} (hk : t.k = k) (hb : k = 0 → t.b = b) : (OkR t k a b c d n bl → seekP k a b c d n bl tab = some (lineS t a c d n)) ∧ (¬ OkR t k a b c d n bl → seekP k a b c d n bl tab = none) := by
  refine ⟨fun h => seekP_some ht ((okR_iff ht).1 h) tab (fun _ h => h) ht, fun h => seekP_none tab (fun u hu hc => ?_)⟩
  have : u = t := by
    refine nodup_eq tab_pairs hu ht ?_
    by_cases h0 : k = 0
    · rw [hc.1.1, hc.1.2, hk, hb h0]
    · rw [hc.1.1, hk, (tab_k hu).2.2.2.2 (by rw [hc.1.1]; exact h0), (tab_k ht).2.2.2.2 (by rw [hk]; exact h0)]
  subst this
  exact h ((okR_iff hu).2 hc)
theorem print_miss {k a b c d n : Int} {bl : Nat} (h : NoWord k b) : seekP k a b c d n bl tab = none :=
  seekP_none tab (fun u hu hc => h u hu ⟨hc.1.1, fun _ => hc.1.2⟩)

theorem mem32 {w : List UInt8} (h : (32 : UInt8) ∉ w) : ∀ c ∈ w, c.toNat ≠ 32 := fun c hc e => by
  have : c = 32 := UInt8.toNat_inj.1 (by rw [e]; rfl)
  rw [this] at hc
  exact h hc
theorem ib_before : ∀ (l : List UInt8) (i : Nat), Lib.indexByte l 32 = i → (32 : UInt8) ∉ l.take i
  | [], i, _ => by simp
  | b :: l, i, h => by
    unfold Lib.indexByte at h
    by_cases h1 : (b == 32) = true
    · rw [if_pos h1] at h
      obtain rfl : i = 0 := by omega
      simp
    · rw [if_neg h1] at h
      by_cases h2 : (Lib.indexByte l 32 == -1) = true
      · rw [if_pos h2] at h
        omega
      · rw [if_neg h2] at h
        obtain ⟨j, rfl⟩ : ∃ j, i = j + 1 := ⟨i - 1, by have := Lib.index_ge l [32]; rw [index_blank] at this; have h3 : Lib.indexByte l 32 ≠ -1 := fun e => h2 (by rw [e]; rfl); omega⟩
        have := ib_before l j (by omega)
        rw [List.take_succ_cons, List.mem_cons]
        rintro (e | e)
        · exact h1 (by rw [← e]; rfl)
        · exact this e
theorem ib_none : ∀ (l : List UInt8), Lib.indexByte l 32 = -1 → (32 : UInt8) ∉ l
  | [], _ => by simp
  | b :: l, h => by
    unfold Lib.indexByte at h
    by_cases h1 : (b == 32) = true
    · rw [if_pos h1] at h
      omega
    · rw [if_neg h1] at h
      by_cases h2 : (Lib.indexByte l 32 == -1) = true
      · rw [List.mem_cons]
        rintro (e | e)
        · exact h1 (by rw [← e]; rfl)
        · exact ib_none l (beq_iff_eq.1 h2) e
      · rw [if_neg h2] at h
        have := Lib.index_ge l [32]
        rw [index_blank] at this
        have h3 : Lib.indexByte l 32 ≠ -1 := fun e => h2 (by rw [e]; rfl)
        omega

/-- At most so many words, or all. -/
theorem split_all : ∀ (k : Nat) (l : List UInt8), (Lib.splitK [32] 0 k l = cutAll l ∧ (cutAll l).length ≤ k + 1) ∨ (∃ pre last, Lib.splitK [32] 0 k l = pre ++ [last] ∧ pre.length = k ∧ (32 : UInt8) ∈ last ∧ k + 1 < (cutAll l).length)
  | 0, l => by
    by_cases h : (32 : UInt8) ∈ l
    · refine .inr ⟨[], l, rfl, rfl, h, ?_⟩
      have hi : ∃ i : Nat, Lib.indexByte l 32 = i := by
        have h1 := Lib.index_ge l [32]
        rw [index_blank] at h1
        have h2 : Lib.indexByte l 32 ≠ -1 := fun e => ib_none l e h
        exact ⟨(Lib.indexByte l 32).toNat, by omega⟩
      obtain ⟨i, hi⟩ := hi
      have e := cutAll_step (l.take i) (l.drop (i + 1)) 32 (mem32 (ib_before l i hi)) rfl
      rw [← ib_get l i hi] at e
      rw [e, List.length_cons]
      have := cutAll_ne (l.drop (i + 1))
      have : 0 < (cutAll (l.drop (i + 1))).length := by
        rcases Nat.eq_zero_or_pos (cutAll (l.drop (i + 1))).length with h0 | h0
        · exact absurd (List.length_eq_zero_iff.1 h0) this
        · exact h0
      omega
    · refine .inl ?_
      rw [cutAll_word l (mem32 h)]
      exact ⟨rfl, Nat.le_refl _⟩
  | k + 1, l => by
    by_cases h : (32 : UInt8) ∈ l
    · have hi : ∃ i : Nat, Lib.indexByte l 32 = i := by
        have h1 := Lib.index_ge l [32]
        rw [index_blank] at h1
        have h2 : Lib.indexByte l 32 ≠ -1 := fun e => ib_none l e h
        exact ⟨(Lib.indexByte l 32).toNat, by omega⟩
      obtain ⟨i, hi⟩ := hi
      have e := cutAll_step (l.take i) (l.drop (i + 1)) 32 (mem32 (ib_before l i hi)) rfl
      rw [← ib_get l i hi] at e
      have hs : Lib.splitK [32] 0 (k + 1) l = l.take i :: Lib.splitK [32] 0 k (l.drop (i + 1)) := by
        rw [Lib.splitK, index_blank, hi, if_neg (by first | (simp; done) | (simp; omega))]
        simp
      rw [hs, e]
      rcases split_all k (l.drop (i + 1)) with ⟨h1, h2⟩ | ⟨pre, last, h1, h2, h3, h4⟩
      · exact .inl ⟨by rw [h1], by rw [List.length_cons]; omega⟩
      · exact .inr ⟨l.take i :: pre, last, by rw [h1]; rfl, by rw [List.length_cons, h2], h3, by rw [List.length_cons]; omega⟩
    · refine .inl ?_
      rw [cutAll_word l (mem32 h), Lib.splitK, index_blank, ib_no l h]
      exact ⟨rfl, by simp⟩

theorem fillP_bad : ∀ (L : List UInt8) (r : List ByteArray) (cs : Array Value), (∃ y ∈ r, (32 : UInt8) ∈ y.data.toList) → fillP cs L r = none
  | [], [], _, h => by obtain ⟨y, hy, _⟩ := h; cases hy
  | [], _ :: _, _, _ => rfl
  | _ :: _, [], _, _ => rfl
  | l :: L, x :: r, cs, h => by
    unfold fillP
    split
    · rename_i v hv
      refine fillP_bad L r _ ?_
      obtain ⟨y, hy, hb⟩ := h
      rcases List.mem_cons.1 hy with rfl | hy
      · rw [(pnum_iff.1 hv).1] at hb
        exact absurd hb (itoa_blank v)
      · exact ⟨y, hy, hb⟩
    · rfl
theorem seek_bad (x : ByteArray) (r : List ByteArray) : ∀ l : List Shp, (∀ t ∈ l, fillP (actC t.k 0 t.b 0 0 0) t.fs.data.toList r = none) → seek x r l = none
  | [], _ => rfl
  | t :: l, h => by
    unfold seek
    rw [h t (List.mem_cons_self ..)]
    have := seek_bad x r l (fun t ht => h t (List.mem_cons_of_mem _ ht))
    split
    · exact this
    · exact this

/-- The program reads just what the document reads. -/
theorem act_same (s : ByteArray) : actW (five s) = actW (allW s) := by
  have hd := five_data s
  have hsz : s.data.toList.length = s.size := rfl
  have hlen := cutAll_len s.data.toList
  rcases split_all (room s - 1) s.data.toList with ⟨h1, h2⟩ | ⟨pre, last, h1, h2, h3, h4⟩
  · rw [h1] at hd
    rw [allW_eq hd]
  · have hroom : room s = 5 := by unfold room at *; omega
    rw [hroom] at h2 h4
    rw [h1] at hd
    have hA : actW (five s) = none := by
      cases hf : five s with
      | nil => rfl
      | cons x r =>
        rw [hf, List.map_cons] at hd
        refine seek_bad x r tab (fun t ht => fillP_bad _ _ _ ?_)
        cases pre with
        | nil => simp at h2
        | cons p pre =>
          have hr := (List.cons.inj hd).2
          have hm : last ∈ r.map (·.data.toList) := by rw [hr]; simp
          obtain ⟨y, hy, e⟩ := List.mem_map.1 hm
          exact ⟨y, hy, by rw [e]; exact h3⟩
    have hB : actW (allW s) = none := by
      have hl : (allW s).length = (cutAll s.data.toList).length := by unfold allW; rw [List.length_map]
      cases hf : allW s with
      | nil => rfl
      | cons x r =>
        rw [hf, List.length_cons] at hl
        refine seek_bad x r tab (fun t ht => fillP_len _ _ _ ?_)
        have := (tab_asc ht).2
        have e : t.fs.data.toList.length = t.fs.size := rfl
        omega
    rw [hA, hB]
end Go.Proofs.YtmkcdkfjomaidaaDoor
