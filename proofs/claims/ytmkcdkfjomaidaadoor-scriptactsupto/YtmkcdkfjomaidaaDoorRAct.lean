/-
  PROVED HERE: the document's own Act at every line: its act, or none.
-/
import Derived.Test.YtmkcdkfjomaidaaDoorRFill
import Derived.Test.YtmkcdkfjomaidaaDoorRWord
import Derived.Test.YtmkcdkfjomaidaaDoorSBackW
namespace Go.Proofs.YtmkcdkfjomaidaaDoor
open Go.RowKit

theorem owns_strs {W : World} {base n : Nat} {v : Value} {l : List ByteArray} (h : W.ownsRow base 9 1 v n (strV l)) (hn : 1 ≤ n) : ∃ g cap, v = .slice (some ⟨g, 0, none⟩) n cap ∧ base ≤ g ∧ Strs W g (some ⟨g, 0, none⟩) l := by
  rcases h.2 with ⟨_, rfl⟩ | ⟨g, cap, cur, rfl, hb, hg, hc1, hc2, hc3, hc4⟩
  · omega
  · refine ⟨g, cap, rfl, hb, 0, cur, _, rfl, hg, fun i x hi => ?_⟩
    have h1 : (strV l)[i]? = some (.string x) := by
      unfold strV
      rw [List.getElem?_map, hi]
      rfl
    rw [← hc4, List.getElem?_take] at h1
    split at h1
    · rw [Array.getElem?_toList] at h1
      rw [Nat.zero_add]
      exact h1
    · cases h1

/-- No shape's word is that one. -/
theorem seek_none (x : ByteArray) (r : List ByteArray) : ∀ l : List Shp, (∀ t ∈ l, t.word ≠ x) → seek x r l = none
  | [], _ => rfl
  | t :: l, h => by
    have h1 : ¬ (t.word.toList == x.toList) = true := fun e => h t (List.mem_cons_self ..) ((ba_beq _ _).1 e)
    unfold seek
    rw [if_neg h1]
    exact seek_none x r l (fun t ht => h t (List.mem_cons_of_mem _ ht))
/-- The shape with that word. -/
theorem seek_only (x : ByteArray) (r : List ByteArray) (t : Shp) (hx : t.word = x) (ht : t ∈ tab) : seek x r tab = fillP (actC t.k 0 t.b 0 0 0) t.fs.data.toList r := by
  cases hf : fillP (actC t.k 0 t.b 0 0 0) t.fs.data.toList r with
  | some cs => exact seek_mem x r t hx cs hf tab (fun _ h => h) ht ht
  | none =>
    cases hs : seek x r tab with
    | none => rfl
    | some cs =>
      obtain ⟨t', ht', hw, hf'⟩ := seek_some x r tab cs hs
      have : t' = t := nodup_eq tab_words ht' ht (by rw [hw, hx])
      subst this
      rw [hf] at hf'
      cases hf'

theorem tab_k {t : Shp} (h : t ∈ tab) : 0 ≤ t.k ∧ t.k ≤ 8 ∧ 0 ≤ t.b ∧ t.b ≤ 7 ∧ (t.k ≠ 0 → t.b = 0) := by
  have h1 : ∀ t ∈ tab, 0 ≤ t.k ∧ t.k ≤ 8 ∧ 0 ≤ t.b ∧ t.b ≤ 7 ∧ (t.k ≠ 0 → t.b = 0) := by decide
  exact h1 t h

theorem cutAll_ne : ∀ l : List UInt8, cutAll l ≠ []
  | [] => by simp [cutAll]
  | c :: r => by
    unfold cutAll
    split
    · simp
    · split <;> simp

/-- All words of a line. -/
def allW (s : ByteArray) : List ByteArray := (cutAll s.data.toList).map fun l => ⟨l.toArray⟩
theorem allW_eq {s : ByteArray} {ws : List ByteArray} (h : ws.map (·.data.toList) = cutAll s.data.toList) : ws = allW s := by
  unfold allW
  rw [← h, List.map_map]
  have : ((fun l : List UInt8 => (⟨l.toArray⟩ : ByteArray)) ∘ fun x : ByteArray => x.data.toList) = id := by
    funext x
    rfl
  rw [this, List.map_id]
theorem cutAll_len : ∀ l : List UInt8, (cutAll l).length ≤ l.length + 1
  | [] => Nat.le_refl _
  | c :: r => by
    have ih := cutAll_len r
    unfold cutAll
    split
    · simp; omega
    · split
      · rename_i x xs h
        rw [h] at ih
        simp at *
        omega
      · simp

set_option maxRecDepth 100000 in
set_option maxHeartbeats 4000000 in
theorem ract_calls (s : ByteArray) (hs : s.size ≤ 1048576) (w : World) :
    Calls Tryd.prog 6 #[.string s] w fun e w' => (∀ k a b c d n, actW (allW s) = some (actC k a b c d n) → e = .returned (.tuple #[.agg (actC k a b c d n), .int .i64 0])) ∧ (actW (allW s) = none → e = .returned (.tuple #[.agg (actC 0 0 0 0 0 0), .int .i64 4])) ∧ Below w.heap.size w w' := by
  have HW := hide_ (fun W => words_calls s hs W)
  obtain ⟨F, hF⟩ : ∃ F, F = actW (allW s) := ⟨_, rfl⟩
  rw [← hF]
  have HF := hide_ hF
  have HS := hide_ hs
  clear hF hs
  go_enter Tryd.func6, Tryd.ntmps6
  go_wp2_with fail
  refine (HW.out _).mono ?_
  rintro e W1 ⟨ws, v, rfl, hws, hsz, hown, hB1⟩
  have hl := cutAll_len s.data.toList
  rw [← hws, List.length_map] at hl
  have hsl : s.data.toList.length = s.size := rfl
  have hne := cutAll_ne s.data.toList
  rw [← hws] at hne
  have hw := allW_eq hws
  cases ws with
  | nil => exact absurd rfl hne
  | cons x r =>
    rw [List.length_cons] at hown hl
    obtain ⟨g, cap, rfl, hg, hS⟩ := owns_strs hown (by omega)
    have HFS : Hid (F = seek x r tab) := by
      have := HF.out
      rw [← hw] at this
      exact this
    have HR : Hid (r.length ≤ 2000000 ∧ ∀ y ∈ r, y.size ≤ 281474976710656) := ⟨by have := HS.out; omega, fun y hy => Nat.le_trans (hsz y (List.mem_cons_of_mem _ hy)) (by have := HS.out; omega)⟩
    have HK : Hid (Below w.heap.size w W1 ∧ w.heap.size < W1.heap.size ∧ W1.heap[w.heap.size]? = some (.cells (actC 0 0 0 0 0 0) 24 (0, 0)) ∧ Strs W1 g (some ⟨g, 0, none⟩) (x :: r)) := by
      have h0 : Below w.heap.size w (w.alloc (.cells (actC 0 0 0 0 0 0) 24)) := (Below.refl _ w).alloc (Nat.le_refl _) _
      have h1 : (w.alloc (.cells (actC 0 0 0 0 0 0) 24)).heap.size = w.heap.size + 1 := World.size_alloc _ _
      have h2 := World.alloc_heap_new w (.cells (actC 0 0 0 0 0 0) 24)
      have h3 : Below (w.alloc (.cells (actC 0 0 0 0 0 0) 24)).heap.size (w.alloc (.cells (actC 0 0 0 0 0 0) 24)) W1 := hB1
      refine ⟨h0.trans (h3.mono h0.size), by have := h3.size; omega, (h3.block _ (by omega)).trans h2, hS⟩
    have hc0 : W1.cell? ⟨g, 0, none⟩ = some (.string x) := by
      obtain ⟨o, C, T, eo, h1, h2⟩ := hS
      cases eo
      rw [cell_of_row W1 g 0 _ _ _ h1]
      simpa using h2 0 x rfl
    have hrl : (0 : Int) < (r.length : Int) + 1 := by omega
    clear hws hsz hown hB1 hl hsl hne hw hS hg HW HF
    go_wp2_with fail
    go_loopg [5] 10 (fun gk u wr => ∃ k : Nat, u = .int .i64 (k : Int) ∧ k ≤ 9 ∧ 9 < k + gk ∧ wr = W1 ∧ Hid (∀ t ∈ tab, t.k < (k : Int) → t.word ≠ x))
    case atStart => exact ⟨0, rfl, Nat.zero_le _, by omega, rfl, fun t ht h => by have := tab_k ht; omega⟩
    case round =>
      obtain ⟨k, rfl, hk, hgk, rfl, HN⟩ := hrel
      have hk0 : (0 : Int) ≤ (k : Int) := by omega
      by_cases hlk : k ≤ 8
      · have hlkz : (k : Int) ≤ 8 := by omega
        go_wp2_with fail
        go_loopg [6] 9 (fun gk2 u2 wr2 => ∃ b : Nat, u2 = .int .i64 (b : Int) ∧ b ≤ 8 ∧ 8 < b + gk2 ∧ wr = wr2 ∧ Hid (∀ t ∈ tab, t.k = (k : Int) → ((k : Int) = 0 → t.b < (b : Int)) → ((k : Int) ≠ 0 → 0 < b) → t.word ≠ x))
        case atStart => exact ⟨0, rfl, Nat.zero_le _, by omega, rfl, fun t ht h1 h2 h3 => by have := tab_k ht; by_cases h : (k : Int) = 0; have := h2 h; omega; have := h3 h; omega⟩
        case round =>
          obtain ⟨b, rfl, hb, hgk2, rfl, HN2⟩ := hrel
          have hb0 : (0 : Int) ≤ (b : Int) := by omega
          by_cases hlb : b ≤ 7
          · have hlbz : (b : Int) ≤ 7 := by omega
            by_cases hit : ∃ t ∈ tab, t.k = (k : Int) ∧ ((k : Int) = 0 → t.b = (b : Int))
            · obtain ⟨t, htm, htk, htb0⟩ := hit
              have HWD := hide_ (word_hit t htm (k : Int) (b : Int) htk htb0 wr)
              have hte : t.word.toList.isEmpty = false := by
                have := (tab_blank htm).2
                have e : t.word.data.toList.length = t.word.size := rfl
                rw [ByteArray.toList_eq]
                cases h : t.word.data.toList with
                | nil => rw [h] at e; simp at e; omega
                | cons _ _ => rfl
              by_cases hx : t.word = x
              · have hcmp : (t.word.toList == x.toList) = true := (ba_beq _ _).2 hx
                by_cases hkz : k = 0
                · subst hkz
                  have htb : t.b = (b : Int) := htb0 rfl
                  clear htb0
                  go_wp2_with fail
                  refine HWD.out.mono ?_
                  rintro e W ⟨rfl, hWW⟩
                  obtain rfl := hWW.symm
                  clear HWD
                  have HFF : Hid (F = fillP (actC ((0 : Nat) : Int) 0 (b : Int) 0 0 0) t.fs.data.toList r) := by
                    have h1 := seek_only x r t hx htm
                    have h2 := HFS.out
                    rw [h1, htk, htb] at h2
                    exact h2
                  have HFA := hide_ (fillP_act t.fs.data.toList r ((0 : Nat) : Int) 0 (b : Int) 0 0 0)
                  have HFL := hide_ (fun W hSW => rfill_calls ((0 : Nat) : Int) 0 (b : Int) 0 0 0 t.fs (tab_asc htm).2 g cap x r HR.out.2 HR.out.1 W hSW)
                  have HB1 : Hid (Below w.heap.size w (wr.alloc (.cells #[.int .i64 ((0 : Nat) : Int), .int .i64 0, .int .i64 (b : Int), .int .i64 0, .int .i64 0, .int .i64 0, .slice none 0 0] 24)) ∧ Strs (wr.alloc (.cells #[.int .i64 ((0 : Nat) : Int), .int .i64 0, .int .i64 (b : Int), .int .i64 0, .int .i64 0, .int .i64 0, .slice none 0 0] 24)) g (some ⟨g, 0, none⟩) (x :: r) ∧ (wr.alloc (.cells #[.int .i64 ((0 : Nat) : Int), .int .i64 0, .int .i64 (b : Int), .int .i64 0, .int .i64 0, .int .i64 0, .slice none 0 0] 24)).heap[w.heap.size]? = some (.cells (actC 0 0 0 0 0 0) 24 (0, 0)) ∧ w.heap.size < (wr.alloc (.cells #[.int .i64 ((0 : Nat) : Int), .int .i64 0, .int .i64 (b : Int), .int .i64 0, .int .i64 0, .int .i64 0, .slice none 0 0] 24)).heap.size) :=
                    ⟨HK.out.1.alloc HK.out.1.size _, HK.out.2.2.2.later (Below.heap_alloc wr _ _ HK.out.2.2.2.lt), (Below.heap_alloc wr _ _ HK.out.2.1).trans HK.out.2.2.1, by rw [World.size_alloc]; have := HK.out.2.1; omega⟩
                  clear htk htb htm hx HN HN2
                  generalize fillP (actC ((0 : Nat) : Int) 0 (b : Int) 0 0 0) t.fs.data.toList r = fp at *
                  go_wp2_with fail
                  refine (HFL.out _ HB1.out.2.1).mono ?_
                  rintro e W5 ⟨hyes, hno, hB5⟩
                  have HB5 : Hid (Below w.heap.size w W5 ∧ W5.heap[w.heap.size]? = some (.cells (actC 0 0 0 0 0 0) 24 (0, 0)) ∧ w.heap.size < W5.heap.size) :=
                    ⟨HB1.out.1.trans (hB5.mono HB1.out.1.size), (hB5.block _ HB1.out.2.2.2).trans HB1.out.2.2.1, Nat.lt_of_lt_of_le HB1.out.2.2.2 hB5.size⟩
                  clear hB5
                  have HZ6 : Hid (∀ o, (W5.alloc o).heap[w.heap.size]? = some (.cells (actC 0 0 0 0 0 0) 24 (0, 0))) := fun o => (Below.heap_alloc W5 _ _ HB5.out.2.2).trans HB5.out.2.1
                  have HP6 : Hid (∀ o cs, Below w.heap.size w ((W5.alloc o).setRow w.heap.size cs)) := fun o cs => below_setRow (HB5.out.1.alloc HB5.out.1.size o) (Nat.le_refl _) cs
                  cases fp with
                  | none =>
                    obtain rfl := hno rfl
                    clear hyes hno HFL HB1 HFA
                    go_wp2_with (refine wpList_store_row rfl 24 _ _ rfl w.heap.size #[.int .i64 0, .int .i64 0, .int .i64 0, .int .i64 0, .int .i64 0, .int .i64 0, .slice none 0 0] rfl rfl 24 _ (HZ6.out _) sizeAct rfl (ones7 _ _ _ _ _ _ _ _ _) ?_)
                    refine bodyPost_ret (results_row_tmp rfl _ _ w.heap.size 24 #[.int .i64 0, .int .i64 0, .int .i64 0, .int .i64 0, .int .i64 0, .int .i64 0, .slice none 0 0] (0, 0) _ rfl (setRow_heap _ _ _ _ _ _ (HZ6.out _)) Tryd.underlying24 rfl sizeAct) rfl ?_
                    have h0 : F = none := HFF.out
                    subst h0
                    exact ⟨fun _ _ _ _ _ _ e => (by cases e), fun _ => rfl, HP6.out _ _⟩
                  | some cs =>
                    obtain ⟨a', c', d', n', rfl⟩ := HFA.out cs rfl
                    obtain rfl := hyes a' c' d' n' rfl
                    clear hyes hno HFL HB1 HFA
                    go_wp2_with (refine wpList_store_row rfl 24 _ _ rfl w.heap.size #[.int .i64 ((0 : Nat) : Int), .int .i64 a', .int .i64 (b : Int), .int .i64 c', .int .i64 d', .int .i64 n', .slice none 0 0] rfl rfl 24 _ (HZ6.out _) sizeAct rfl (ones7 _ _ _ _ _ _ _ _ _) ?_)
                    refine bodyPost_ret (results_row_tmp rfl _ _ w.heap.size 24 #[.int .i64 ((0 : Nat) : Int), .int .i64 a', .int .i64 (b : Int), .int .i64 c', .int .i64 d', .int .i64 n', .slice none 0 0] (0, 0) _ rfl (setRow_heap _ _ _ _ _ _ (HZ6.out _)) Tryd.underlying24 rfl sizeAct) rfl ?_
                    have h0 : F = some (actC ((0 : Nat) : Int) a' (b : Int) c' d' n') := HFF.out
                    subst h0
                    refine ⟨fun _ _ _ _ _ _ e => ?_, fun e => (by cases e), HP6.out _ _⟩
                    have := Option.some.inj e
                    rw [← this]
                    rfl
                · have hkzz : ¬ ((k : Int) = 0) := by omega
                  have htb : t.b = 0 := (tab_k htm).2.2.2.2 (by rw [htk]; exact hkzz)
                  clear htb0
                  go_wp2_with fail
                  refine HWD.out.mono ?_
                  rintro e W ⟨rfl, hWW⟩
                  obtain rfl := hWW.symm
                  clear HWD
                  have HFF : Hid (F = fillP (actC (k : Int) 0 0 0 0 0) t.fs.data.toList r) := by
                    have h1 := seek_only x r t hx htm
                    have h2 := HFS.out
                    rw [h1, htk, htb] at h2
                    exact h2
                  have HFA := hide_ (fillP_act t.fs.data.toList r (k : Int) 0 0 0 0 0)
                  have HFL := hide_ (fun W hSW => rfill_calls (k : Int) 0 0 0 0 0 t.fs (tab_asc htm).2 g cap x r HR.out.2 HR.out.1 W hSW)
                  have HB1 : Hid (Below w.heap.size w (wr.alloc (.cells #[.int .i64 (k : Int), .int .i64 0, .int .i64 0, .int .i64 0, .int .i64 0, .int .i64 0, .slice none 0 0] 24)) ∧ Strs (wr.alloc (.cells #[.int .i64 (k : Int), .int .i64 0, .int .i64 0, .int .i64 0, .int .i64 0, .int .i64 0, .slice none 0 0] 24)) g (some ⟨g, 0, none⟩) (x :: r) ∧ (wr.alloc (.cells #[.int .i64 (k : Int), .int .i64 0, .int .i64 0, .int .i64 0, .int .i64 0, .int .i64 0, .slice none 0 0] 24)).heap[w.heap.size]? = some (.cells (actC 0 0 0 0 0 0) 24 (0, 0)) ∧ w.heap.size < (wr.alloc (.cells #[.int .i64 (k : Int), .int .i64 0, .int .i64 0, .int .i64 0, .int .i64 0, .int .i64 0, .slice none 0 0] 24)).heap.size) :=
                    ⟨HK.out.1.alloc HK.out.1.size _, HK.out.2.2.2.later (Below.heap_alloc wr _ _ HK.out.2.2.2.lt), (Below.heap_alloc wr _ _ HK.out.2.1).trans HK.out.2.2.1, by rw [World.size_alloc]; have := HK.out.2.1; omega⟩
                  clear htk htb htm hx HN HN2
                  generalize fillP (actC (k : Int) 0 0 0 0 0) t.fs.data.toList r = fp at *
                  go_wp2_with fail
                  refine (HFL.out _ HB1.out.2.1).mono ?_
                  rintro e W5 ⟨hyes, hno, hB5⟩
                  have HB5 : Hid (Below w.heap.size w W5 ∧ W5.heap[w.heap.size]? = some (.cells (actC 0 0 0 0 0 0) 24 (0, 0)) ∧ w.heap.size < W5.heap.size) :=
                    ⟨HB1.out.1.trans (hB5.mono HB1.out.1.size), (hB5.block _ HB1.out.2.2.2).trans HB1.out.2.2.1, Nat.lt_of_lt_of_le HB1.out.2.2.2 hB5.size⟩
                  clear hB5
                  have HZ6 : Hid (∀ o, (W5.alloc o).heap[w.heap.size]? = some (.cells (actC 0 0 0 0 0 0) 24 (0, 0))) := fun o => (Below.heap_alloc W5 _ _ HB5.out.2.2).trans HB5.out.2.1
                  have HP6 : Hid (∀ o cs, Below w.heap.size w ((W5.alloc o).setRow w.heap.size cs)) := fun o cs => below_setRow (HB5.out.1.alloc HB5.out.1.size o) (Nat.le_refl _) cs
                  cases fp with
                  | none =>
                    obtain rfl := hno rfl
                    clear hyes hno HFL HB1 HFA
                    go_wp2_with (refine wpList_store_row rfl 24 _ _ rfl w.heap.size #[.int .i64 0, .int .i64 0, .int .i64 0, .int .i64 0, .int .i64 0, .int .i64 0, .slice none 0 0] rfl rfl 24 _ (HZ6.out _) sizeAct rfl (ones7 _ _ _ _ _ _ _ _ _) ?_)
                    refine bodyPost_ret (results_row_tmp rfl _ _ w.heap.size 24 #[.int .i64 0, .int .i64 0, .int .i64 0, .int .i64 0, .int .i64 0, .int .i64 0, .slice none 0 0] (0, 0) _ rfl (setRow_heap _ _ _ _ _ _ (HZ6.out _)) Tryd.underlying24 rfl sizeAct) rfl ?_
                    have h0 : F = none := HFF.out
                    subst h0
                    exact ⟨fun _ _ _ _ _ _ e => (by cases e), fun _ => rfl, HP6.out _ _⟩
                  | some cs =>
                    obtain ⟨a', c', d', n', rfl⟩ := HFA.out cs rfl
                    obtain rfl := hyes a' c' d' n' rfl
                    clear hyes hno HFL HB1 HFA
                    go_wp2_with (refine wpList_store_row rfl 24 _ _ rfl w.heap.size #[.int .i64 (k : Int), .int .i64 a', .int .i64 0, .int .i64 c', .int .i64 d', .int .i64 n', .slice none 0 0] rfl rfl 24 _ (HZ6.out _) sizeAct rfl (ones7 _ _ _ _ _ _ _ _ _) ?_)
                    refine bodyPost_ret (results_row_tmp rfl _ _ w.heap.size 24 #[.int .i64 (k : Int), .int .i64 a', .int .i64 0, .int .i64 c', .int .i64 d', .int .i64 n', .slice none 0 0] (0, 0) _ rfl (setRow_heap _ _ _ _ _ _ (HZ6.out _)) Tryd.underlying24 rfl sizeAct) rfl ?_
                    have h0 : F = some (actC (k : Int) a' 0 c' d' n') := HFF.out
                    subst h0
                    refine ⟨fun _ _ _ _ _ _ e => ?_, fun e => (by cases e), HP6.out _ _⟩
                    have := Option.some.inj e
                    rw [← this]
                    rfl
              · have hcmp : (t.word.toList == x.toList) = false := by
                  cases h : (t.word.toList == x.toList) with
                  | false => rfl
                  | true => exact absurd ((ba_beq _ _).1 h) hx
                have HN3 : Hid (∀ t ∈ tab, t.k = (k : Int) → ((k : Int) = 0 → t.b < ((b + 1 : Nat) : Int)) → ((k : Int) ≠ 0 → 0 < b + 1) → t.word ≠ x) := fun u hu h1 h2 _ => by
                  by_cases hut : u = t
                  · rw [hut]; exact hx
                  · refine HN2.out u hu h1 (fun h => ?_) (fun h => ?_)
                    · have hub := h2 h
                      have htb := htb0 h
                      have : ¬ (u.b = t.b) := fun e => hut (nodup_eq tab_pairs hu htm (by rw [h1, e, htk]))
                      omega
                    · exfalso
                      have e1 := (tab_k hu).2.2.2.2 (by rw [h1]; exact h)
                      have e2 := (tab_k htm).2.2.2.2 (by rw [htk]; exact h)
                      exact hut (nodup_eq tab_pairs hu htm (by rw [h1, htk, e1, e2]))
                clear htb0 htk htm
                go_wp2_with fail
                refine HWD.out.mono ?_
                rintro e W ⟨rfl, hWW⟩
                obtain rfl := hWW.symm
                clear HWD
                go_wp2_with fail
                go_roundg (8 - b)
                case measure => omega
                case rel => exact ⟨b + 1, by first | rfl | go_num, by omega, by omega, rfl, HN3.out⟩
            · have hno : NoWord (k : Int) (b : Int) := fun t ht e => hit ⟨t, ht, e⟩
              have HWD := hide_ (word_miss (k : Int) (b : Int) hno wr)
              have HN3 : Hid (∀ t ∈ tab, t.k = (k : Int) → ((k : Int) = 0 → t.b < ((b + 1 : Nat) : Int)) → ((k : Int) ≠ 0 → 0 < b + 1) → t.word ≠ x) := fun u hu h1 h2 _ => by
                refine HN2.out u hu h1 (fun h => ?_) (fun h => ?_)
                · have hub := h2 h
                  have : ¬ (u.b = (b : Int)) := fun e => hno u hu ⟨h1, fun _ => e⟩
                  omega
                · exact absurd ⟨h1, fun e => absurd e h⟩ (hno u hu)
              clear hno hit
              go_wp2_with fail
              refine HWD.out.mono ?_
              rintro e W ⟨rfl, hWW⟩
              obtain rfl := hWW.symm
              clear HWD
              go_wp2_with fail
              go_roundg (8 - b)
              case measure => omega
              case rel => exact ⟨b + 1, by first | rfl | go_num, by omega, by omega, rfl, HN3.out⟩
          · have hlbz : ¬ ((b : Int) ≤ 7) := by omega
            have HN3 : Hid (∀ t ∈ tab, t.k < ((k + 1 : Nat) : Int) → t.word ≠ x) := fun u hu h => by
              by_cases hlt : u.k < (k : Int)
              · exact HN.out u hu hlt
              · exact HN2.out u hu (by omega) (fun _ => by have := tab_k hu; omega) (fun _ => by omega)
            clear HN HN2
            go_wp2_with fail
            go_roundg (9 - k)
            case measure => omega
            case rel => exact ⟨k + 1, by first | rfl | go_num, by omega, by omega, rfl, HN3.out⟩
      · have hlkz : ¬ ((k : Int) ≤ 8) := by omega
        have HZ : Hid (F = none) := by
          rw [HFS.out]
          exact seek_none x r tab (fun t ht => HN.out t ht (by have := tab_k ht; omega))
        have HB : Hid (∀ cs, Below w.heap.size w (wr.setRow w.heap.size cs)) := fun cs => below_setRow HK.out.1 (Nat.le_refl _) cs
        go_wp2_with (refine wpList_store_row rfl 24 _ _ rfl w.heap.size #[.int .i64 0, .int .i64 0, .int .i64 0, .int .i64 0, .int .i64 0, .int .i64 0, .slice none 0 0] rfl rfl 24 _ HK.out.2.2.1 sizeAct rfl (ones7 _ _ _ _ _ _ _ _ _) ?_)
        refine bodyPost_ret (results_row_tmp rfl _ _ w.heap.size 24 #[.int .i64 0, .int .i64 0, .int .i64 0, .int .i64 0, .int .i64 0, .int .i64 0, .slice none 0 0] (0, 0) _ rfl (setRow_heap _ _ _ _ _ _ HK.out.2.2.1) Tryd.underlying24 rfl sizeAct) rfl ?_
        have h0 := HZ.out
        subst h0
        exact ⟨fun _ _ _ _ _ _ e => (by cases e), fun _ => rfl, HB.out _⟩
end Go.Proofs.YtmkcdkfjomaidaaDoor
