/-
  PROVED HERE: the document's own words of a line: all of them, one blank between.
-/
import Derived.Test.YtmkcdkfjomaidaaDoorSSplit
import Derived.Test.YtmkcdkfjomaidaaDoorSStart
namespace Go.Proofs.YtmkcdkfjomaidaaDoor
open Go.RowKit

/-- All words of a text. -/
def cutAll : List UInt8 → List (List UInt8)
  | [] => [[]]
  | c :: r => if c.toNat = 32 then [] :: cutAll r else match cutAll r with
    | x :: xs => (c :: x) :: xs
    | [] => [[c]]

theorem cutAll_word : ∀ (w : List UInt8), (∀ c ∈ w, c.toNat ≠ 32) → cutAll w = [w]
  | [], _ => rfl
  | c :: w, h => by
    have ih := cutAll_word w (fun x hx => h x (List.mem_cons_of_mem _ hx))
    rw [cutAll, if_neg (h c (List.mem_cons_self ..)), ih]
theorem cutAll_step : ∀ (w t : List UInt8) (b : UInt8), (∀ c ∈ w, c.toNat ≠ 32) → b.toNat = 32 → cutAll (w ++ b :: t) = w :: cutAll t
  | [], t, b, _, hb => by
    show cutAll (b :: t) = _
    rw [cutAll, if_pos hb]
  | c :: w, t, b, h, hb => by
    have ih := cutAll_step w t b (fun x hx => h x (List.mem_cons_of_mem _ hx)) hb
    show cutAll (c :: (w ++ b :: t)) = _
    rw [cutAll, if_neg (h c (List.mem_cons_self ..)), ih]

/-- A piece of a text. -/
theorem extract_data (s : ByteArray) (f i : Nat) : (s.extract f i).data.toList = (s.data.toList.drop f).take (i - f) := by
  rw [Lib.extract_data]

theorem info_s : ∃ i0, Tryd.prog.info? 9 = some i0 ∧ i0.zero = some (.string ByteArray.empty) ∧ i0.size = 1 ∧ i0.bytes = 16 := by
  obtain ⟨i0, hi, h⟩ := Option.map_eq_some_iff.1 info_str
  simp only [Prod.mk.injEq] at h
  exact ⟨i0, hi, h.1, h.2.1, h.2.2⟩

def strV (l : List ByteArray) : List Value := l.map Value.string

/-- append of one text to what the call owns. -/
theorem append_str (base : Nat) (v : Value) (n : Nat) (xs : List ByteArray) (W : World) (hown : W.ownsRow base 9 1 v n (strV xs)) (hbase : base ≤ W.heap.size) (hn : n ≤ 2000000) (b : Nat) (x : ByteArray) (hu : W.cell? ⟨b, 0, none⟩ = some (.string x)) :
    ∃ v' W1, (Builtin.append_ #[38, 38] 38 #[v, .slice (some ⟨b, 0, none⟩) 1 1]).run Tryd.prog W = .ok v' W1 ∧ W1.ownsRow base 9 1 v' (n + 1) (strV (xs ++ [x])) ∧ W.grownBy W1 v.ownBlock := by
  obtain ⟨i0, hi, hz0, hz1, hz2⟩ := info_s
  obtain ⟨v', W1, hrun, r1, r2, _, _⟩ := run_append_own_at (P := Tryd.prog) W base 38 38 9 i0 (.string ByteArray.empty) 1 16 Tryd.underlying38 hi hz0 hz1 hz2 rfl (by decide) v n _ hown ⟨b, 0, none⟩ 1 1 [.string x] (by simp) (fun j u hj => by
    cases j with
    | zero => cases hj; exact hu
    | succ j => simp at hj) (by simp [Value.oneCell']) (by unfold maxLen; omega) (by omega) hbase
  refine ⟨v', W1, hrun, ?_, r2⟩
  unfold strV at *
  rw [List.map_append]
  exact r1

theorem drop_at {s : ByteArray} {i : Nat} (h : i < s.size) : s.data.toList.drop i = (s[i]'h) :: s.data.toList.drop (i + 1) := by
  have e : i < s.data.toList.length := h
  rw [List.drop_eq_getElem_cons e]
  rfl
/-- What lies between two places, and the sign behind it. -/
theorem piece_next {s : ByteArray} {f i : Nat} (hf : f ≤ i) (h : i < s.size) : (s.data.toList.drop f).take (i + 1 - f) = (s.data.toList.drop f).take (i - f) ++ [s[i]'h] := by
  have e : (s.data.toList.drop f)[i - f]? = some (s[i]'h) := by
    rw [List.getElem?_drop, show f + (i - f) = i by omega, Array.getElem?_toList]
    exact Array.getElem?_eq_getElem h
  rw [show i + 1 - f = (i - f) + 1 by omega, List.take_add_one, e]
  rfl
theorem piece_split {s : ByteArray} {f i : Nat} (hf : f ≤ i) (h : i < s.size) : s.data.toList.drop f = (s.data.toList.drop f).take (i - f) ++ (s[i]'h) :: s.data.toList.drop (i + 1) := by
  rw [← drop_at h]
  have e := (List.take_append_drop (i - f) (s.data.toList.drop f)).symm
  rw [List.drop_drop, show f + (i - f) = i by omega] at e
  exact e
theorem piece_end {s : ByteArray} {f : Nat} (_hf : f ≤ s.size) : (s.data.toList.drop f).take (s.size - f) = s.data.toList.drop f := by
  refine List.take_of_length_le ?_
  rw [List.length_drop]
  exact Nat.le_refl _

set_option maxRecDepth 100000 in
set_option maxHeartbeats 2000000 in
theorem words_calls (s : ByteArray) (hs : s.size ≤ 1048576) (w : World) :
    Calls Tryd.prog 15 #[.string s] w fun e w' => ∃ ws v, e = .returned v ∧ ws.map (·.data.toList) = cutAll s.data.toList ∧ (∀ x ∈ ws, x.size ≤ s.size) ∧ w'.ownsRow w.heap.size 9 1 v ws.length (strV ws) ∧ Below w.heap.size w w' := by
  go_enter Tryd.func15, Tryd.ntmps15
  go_wp2
  go_loopg [3, 4, 5] (s.size + 2) (fun gk v f u wr => ∃ (had : List ByteArray) (from_ i : Nat), f = .int .i64 (from_ : Int) ∧ u = .int .i64 (i : Int) ∧ i ≤ s.size + 1 ∧ s.size + 1 < i + gk ∧ Hid ((∀ x ∈ had, x.size ≤ s.size) ∧ had.length ≤ from_ ∧ from_ ≤ i ∧
    ((i ≤ s.size ∧ (∀ c ∈ (s.data.toList.drop from_).take (i - from_), c.toNat ≠ 32) ∧ had.map (·.data.toList) ++ cutAll (s.data.toList.drop from_) = cutAll s.data.toList) ∨ (i = s.size + 1 ∧ had.map (·.data.toList) = cutAll s.data.toList)) ∧
    wr.ownsRow w.heap.size 9 1 v had.length (strV had) ∧ Below w.heap.size w wr))
  case atStart => exact ⟨[], 0, 0, rfl, rfl, Nat.zero_le _, by omega, (fun x hx => by cases hx), Nat.le_refl _, Nat.le_refl _, .inl ⟨Nat.zero_le _, (fun c hc => by simp at hc), rfl⟩, ⟨rfl, .inl ⟨rfl, rfl⟩⟩, Below.refl _ _⟩
  case round =>
    obtain ⟨had, from_, i, rfl, rfl, hi, hgk, HR⟩ := hrel
    have hi0 : (0 : Int) ≤ (i : Int) := by omega
    have hf0 : (0 : Int) ≤ (from_ : Int) := by omega
    have hsz : (s.size : Int) ≤ 1048576 := by omega
    by_cases hle : i ≤ s.size
    · have hlez : (i : Int) ≤ (s.size : Int) := by omega
      by_cases hlt : i < s.size
      · have hltz : (i : Int) < (s.size : Int) := by omega
        have hne : ((i : Int) == (s.size : Int)) = false := by rw [beq_eq_false_iff_ne]; omega
        by_cases hc : (s[i]'hlt).toNat = 32
        · have hcz : ((s[i]'hlt).toNat : Int) = 32 := by omega
          have hx : (s.extract from_ i).size ≤ s.size := by rw [ByteArray.size_extract]; omega
          have HX : Hid (∃ v' W1, (Builtin.append_ #[38, 38] 38 #[u3, .slice (some ⟨wr.heap.size, 0, none⟩) 1 1]).run Tryd.prog (wr.alloc (.cells #[.string (s.extract from_ i)] 9)) = .ok v' W1 ∧ Hid ((∀ x ∈ had ++ [s.extract from_ i], x.size ≤ s.size) ∧ (had ++ [s.extract from_ i]).length ≤ i + 1 ∧ i + 1 ≤ i + 1 ∧ ((i + 1 ≤ s.size ∧ (∀ c ∈ (s.data.toList.drop (i + 1)).take (i + 1 - (i + 1)), c.toNat ≠ 32) ∧ (had ++ [s.extract from_ i]).map (·.data.toList) ++ cutAll (s.data.toList.drop (i + 1)) = cutAll s.data.toList) ∨ (i + 1 = s.size + 1 ∧ (had ++ [s.extract from_ i]).map (·.data.toList) = cutAll s.data.toList)) ∧ W1.ownsRow w.heap.size 9 1 v' (had ++ [s.extract from_ i]).length (strV (had ++ [s.extract from_ i])) ∧ Below w.heap.size w W1)) := by
            obtain ⟨q1, q2, q3, q4, q5, q6⟩ := HR.out
            have hown2 := q5.alloc (.cells #[.string (s.extract from_ i)] 9)
            have hB2 := q6.alloc q6.size (.cells #[.string (s.extract from_ i)] 9)
            have hcell : (wr.alloc (.cells #[.string (s.extract from_ i)] 9)).cell? ⟨wr.heap.size, 0, none⟩ = some (.string (s.extract from_ i)) := by rw [World.cell?_alloc_new]; rfl
            obtain ⟨v', W1, h1, h2, h3⟩ := append_str w.heap.size u3 had.length had _ hown2 hB2.size (by omega) wr.heap.size _ hcell
            refine ⟨v', W1, h1, (fun x hx' => ?_), by rw [List.length_append, List.length_singleton]; omega, Nat.le_refl _, ?_, by rw [List.length_append, List.length_singleton]; exact h2, hB2.grown h3 hB2.size (fun j e => (World.ownsRow.lt hown2 _ e).1)⟩
            · rcases List.mem_append.1 hx' with e | e
              · exact q1 x e
              · rw [List.mem_singleton.1 e]; exact hx
            · rcases q4 with ⟨_, q7, q8⟩ | ⟨q7, _⟩
              · refine .inl ⟨by omega, (fun c hc => by simp at hc), ?_⟩
                rw [piece_split q3 hlt, cutAll_step _ _ _ q7 hc] at q8
                rw [List.map_append, List.map_singleton, extract_data, List.append_assoc]
                exact q8
              · omega
          obtain ⟨v', W1, hrun, HO3⟩ := HX.out
          have HRUN := hide_ hrun
          have hfi : (from_ : Int) ≤ (i : Int) := by have := HR.out.2.2.1; omega
          clear hrun HX HR
          go_wp2_with (first
            | (at_builtin; refine wpList_run_append rfl (.tmp 22) (.tmp 27) 38 rfl _ _ _ _ rfl rfl HRUN.out ?_)
            | fail)
          go_roundg (s.size + 1 - i)
          case measure => omega
          case rel => exact ⟨had ++ [s.extract from_ i], i + 1, i + 1, by first | rfl | go_num, by first | rfl | go_num, by omega, by omega, HO3⟩
        · have hcz : (((s[i]'hlt).toNat : Int) == 32) = false := by rw [beq_eq_false_iff_ne]; omega
          have HN : Hid ((∀ x ∈ had, x.size ≤ s.size) ∧ had.length ≤ from_ ∧ from_ ≤ i + 1 ∧ ((i + 1 ≤ s.size ∧ (∀ c ∈ (s.data.toList.drop from_).take (i + 1 - from_), c.toNat ≠ 32) ∧ had.map (·.data.toList) ++ cutAll (s.data.toList.drop from_) = cutAll s.data.toList) ∨ (i + 1 = s.size + 1 ∧ had.map (·.data.toList) = cutAll s.data.toList)) ∧ wr.ownsRow w.heap.size 9 1 u3 had.length (strV had) ∧ Below w.heap.size w wr) := by
            obtain ⟨q1, q2, q3, q4, q5, q6⟩ := HR.out
            refine ⟨q1, q2, by omega, ?_, q5, q6⟩
            rcases q4 with ⟨_, q7, q8⟩ | ⟨q7, _⟩
            · refine .inl ⟨by omega, (fun c hcm => ?_), q8⟩
              rw [piece_next q3 hlt] at hcm
              rcases List.mem_append.1 hcm with e | e
              · exact q7 c e
              · rw [List.mem_singleton.1 e]; exact hc
            · omega
          clear HR
          go_wp2
          go_roundg (s.size + 1 - i)
          case measure => omega
          case rel => exact ⟨had, from_, i + 1, rfl, by first | rfl | go_num, by omega, by omega, HN.out⟩
      · obtain rfl : i = s.size := by omega
        have hx : (s.extract from_ s.size).size ≤ s.size := by rw [ByteArray.size_extract]; omega
        have HX : Hid (∃ v' W1, (Builtin.append_ #[38, 38] 38 #[u3, .slice (some ⟨wr.heap.size, 0, none⟩) 1 1]).run Tryd.prog (wr.alloc (.cells #[.string (s.extract from_ s.size)] 9)) = .ok v' W1 ∧ Hid ((∀ x ∈ had ++ [s.extract from_ s.size], x.size ≤ s.size) ∧ (had ++ [s.extract from_ s.size]).length ≤ s.size + 1 ∧ s.size + 1 ≤ s.size + 1 ∧ ((s.size + 1 ≤ s.size ∧ (∀ c ∈ (s.data.toList.drop (s.size + 1)).take (s.size + 1 - (s.size + 1)), c.toNat ≠ 32) ∧ (had ++ [s.extract from_ s.size]).map (·.data.toList) ++ cutAll (s.data.toList.drop (s.size + 1)) = cutAll s.data.toList) ∨ (s.size + 1 = s.size + 1 ∧ (had ++ [s.extract from_ s.size]).map (·.data.toList) = cutAll s.data.toList)) ∧ W1.ownsRow w.heap.size 9 1 v' (had ++ [s.extract from_ s.size]).length (strV (had ++ [s.extract from_ s.size])) ∧ Below w.heap.size w W1)) := by
          obtain ⟨q1, q2, q3, q4, q5, q6⟩ := HR.out
          have hown2 := q5.alloc (.cells #[.string (s.extract from_ s.size)] 9)
          have hB2 := q6.alloc q6.size (.cells #[.string (s.extract from_ s.size)] 9)
          have hcell : (wr.alloc (.cells #[.string (s.extract from_ s.size)] 9)).cell? ⟨wr.heap.size, 0, none⟩ = some (.string (s.extract from_ s.size)) := by rw [World.cell?_alloc_new]; rfl
          obtain ⟨v', W1, h1, h2, h3⟩ := append_str w.heap.size u3 had.length had _ hown2 hB2.size (by omega) wr.heap.size _ hcell
          refine ⟨v', W1, h1, (fun x hx' => ?_), by rw [List.length_append, List.length_singleton]; omega, Nat.le_refl _, ?_, by rw [List.length_append, List.length_singleton]; exact h2, hB2.grown h3 hB2.size (fun j e => (World.ownsRow.lt hown2 _ e).1)⟩
          · rcases List.mem_append.1 hx' with e | e
            · exact q1 x e
            · rw [List.mem_singleton.1 e]; exact hx
          · rcases q4 with ⟨_, q7, q8⟩ | ⟨q7, _⟩
            · refine .inr ⟨rfl, ?_⟩
              rw [piece_end q3] at q7
              rw [cutAll_word _ q7] at q8
              rw [List.map_append, List.map_singleton, extract_data, piece_end q3]
              exact q8
            · omega
        obtain ⟨v', W1, hrun, HO3⟩ := HX.out
        have HRUN := hide_ hrun
        have hfi : (from_ : Int) ≤ (s.size : Int) := by have := HR.out.2.2.1; omega
        clear hrun HX HR
        go_wp2_with (first
          | (at_builtin; refine wpList_run_append rfl (.tmp 22) (.tmp 27) 38 rfl _ _ _ _ rfl rfl HRUN.out ?_)
          | fail)
        go_roundg (s.size + 1 - s.size)
        case measure => omega
        case rel => exact ⟨had ++ [s.extract from_ s.size], s.size + 1, s.size + 1, by first | rfl | go_num, by first | rfl | go_num, by omega, by omega, by obtain ⟨p1, p2, p3, p4, p5⟩ := HO3.out; exact ⟨p1, p2, p3, (by rcases p4 with e | e; exact .inl e; exact .inr ⟨rfl, e.2⟩), p5⟩⟩
    · have hlez : ¬ ((i : Int) ≤ (s.size : Int)) := by omega
      go_wp2
      go_ret
      obtain ⟨q1, q2, q3, q4, q5, q6⟩ := HR.out
      rcases q4 with ⟨e, _⟩ | ⟨_, e⟩
      · omega
      · exact ⟨had, _, rfl, e, q1, q5, q6⟩
end Go.Proofs.YtmkcdkfjomaidaaDoor
