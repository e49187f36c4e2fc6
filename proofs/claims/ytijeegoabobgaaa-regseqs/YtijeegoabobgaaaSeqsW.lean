/-
  PROVED HERE: the walk of RegSeqs.
-/
import Derived.Test.YtijeegoabobgaaaSeq6
namespace Go.Proofs.Ytijeegoabobgaaa
open Go.RowKit

theorem seqs_laid (n : Nat) (ta tb : DataW Unit) (k : Int) (s : ByteArray) (a : Option Addr) (len cap : Nat) (l : Int) (r : ByteArray) (p : Option Addr) (ln cp : Nat) (ga : Option Addr) (gl gc : Nat) (gs : List Grp) (w : World) (hA : Ex w n ta (.agg #[.int .i64 k, .string s, .slice a len cap])) (hB : Ex w n tb (.agg #[.int .i64 l, .string r, .slice p ln cp])) (hNA : named n ta) (hNB : named n tb) (hG : Groups w ga gl gs) :
    ∃ w7, w7 = (((((((w.alloc (.cells #[.int .i64 k, .string s, .slice a len cap] 24)).alloc (.cells #[.int .i64 l, .string r, .slice p ln cp] 24)).alloc (.cells #[.int .i64 k, .string s, .slice a len cap] 24)).alloc (.cells #[.int .i64 l, .string r, .slice p ln cp] 24)).alloc (.cells #[.int .i64 6, .string ⟨#[]⟩, .slice (some ⟨w.heap.size + 1 + 1, 0, none⟩) 1 1, .int .i64 6, .string ⟨#[]⟩, .slice (some ⟨w.heap.size + 1 + 1 + 1, 0, none⟩) 1 1] 24)).alloc (.cells #[.int .i64 2, .string ⟨#[]⟩, .slice (some ⟨w.heap.size + 1 + 1 + 1 + 1, 0, none⟩) 2 2] 24)).alloc (.cells #[.int .i64 3, .string ⟨#[]⟩, .slice (some ⟨w.heap.size + 1 + 1 + 1 + 1, 0, none⟩) 2 2] 24)) ∧ Below w.heap.size w w7 ∧ (∀ X : World, Below w7.heap.size w7 X → X.cell? ⟨w.heap.size + 1 + 1 + 1 + 1, 0, none⟩ = some (.int .i64 6) ∧ X.cell? ⟨w.heap.size + 1 + 1 + 1 + 1, 1, none⟩ = some (.string ⟨#[]⟩) ∧ X.cell? ⟨w.heap.size + 1 + 1 + 1 + 1, 2, none⟩ = some (.slice (some ⟨w.heap.size + 1 + 1, 0, none⟩) 1 1) ∧ X.cell? ⟨w.heap.size + 1 + 1 + 1 + 1, 3, none⟩ = some (.int .i64 6) ∧ X.cell? ⟨w.heap.size + 1 + 1 + 1 + 1, 4, none⟩ = some (.string ⟨#[]⟩) ∧ X.cell? ⟨w.heap.size + 1 + 1 + 1 + 1, 5, none⟩ = some (.slice (some ⟨w.heap.size + 1 + 1 + 1, 0, none⟩) 1 1) ∧ X.cell? ⟨w.heap.size + 1 + 1 + 1 + 1 + 1, 0, none⟩ = some (.int .i64 2) ∧ X.cell? ⟨w.heap.size + 1 + 1 + 1 + 1 + 1, 1, none⟩ = some (.string ⟨#[]⟩) ∧ X.cell? ⟨w.heap.size + 1 + 1 + 1 + 1 + 1, 2, none⟩ = some (.slice (some ⟨w.heap.size + 1 + 1 + 1 + 1, 0, none⟩) 2 2) ∧ X.cell? ⟨w.heap.size + 1 + 1 + 1 + 1 + 1 + 1, 0, none⟩ = some (.int .i64 3) ∧ X.cell? ⟨w.heap.size + 1 + 1 + 1 + 1 + 1 + 1, 1, none⟩ = some (.string ⟨#[]⟩) ∧ X.cell? ⟨w.heap.size + 1 + 1 + 1 + 1 + 1 + 1, 2, none⟩ = some (.slice (some ⟨w.heap.size + 1 + 1 + 1 + 1, 0, none⟩) 2 2)) ∧
      (∀ X : World, Below w7.heap.size w7 X → Calls Try.prog 5 #[(.agg #[.int .i64 2, .string ⟨#[]⟩, .slice (some ⟨w.heap.size + 1 + 1 + 1 + 1, 0, none⟩) 2 2]), .slice ga gl gc] X fun e w' => e = .returned (.int .i64 (chk (n + 1 + 1) (node 2 ⟨#[]⟩ [(node 6 ⟨#[]⟩ [ta]), (node 6 ⟨#[]⟩ [tb])]) gs)) ∧ Below w7.heap.size w7 w') ∧
      (∀ X : World, Below w7.heap.size w7 X → Calls Try.prog 5 #[(.agg #[.int .i64 3, .string ⟨#[]⟩, .slice (some ⟨w.heap.size + 1 + 1 + 1 + 1, 0, none⟩) 2 2]), .slice ga gl gc] X fun e w' => e = .returned (.int .i64 (chk (n + 1 + 1) (node 3 ⟨#[]⟩ [(node 6 ⟨#[]⟩ [ta]), (node 6 ⟨#[]⟩ [tb])]) gs)) ∧ Below w7.heap.size w7 w') ∧
      (chk (n + 1 + 1) (node 2 ⟨#[]⟩ [(node 6 ⟨#[]⟩ [ta]), (node 6 ⟨#[]⟩ [tb])]) gs = 0 → chk (n + 1 + 1) (node 3 ⟨#[]⟩ [(node 6 ⟨#[]⟩ [ta]), (node 6 ⟨#[]⟩ [tb])]) gs = 0 → Says w7 (.agg #[.int .i64 6, .string ⟨#[]⟩, .slice (some ⟨w.heap.size + 1 + 1, 0, none⟩) 1 1]) ga gl gc (LangD gs (n + 1) (node 6 ⟨#[]⟩ [ta])) ∧ Says w7 (.agg #[.int .i64 6, .string ⟨#[]⟩, .slice (some ⟨w.heap.size + 1 + 1 + 1, 0, none⟩) 1 1]) ga gl gc (LangD gs (n + 1) (node 6 ⟨#[]⟩ [tb])) ∧ Says w7 (.agg #[.int .i64 2, .string ⟨#[]⟩, .slice (some ⟨w.heap.size + 1 + 1 + 1 + 1, 0, none⟩) 2 2]) ga gl gc (fun zs => ∃ x y, zs = x ++ y ∧ LangD gs (n + 1) (node 6 ⟨#[]⟩ [ta]) x ∧ LangD gs (n + 1) (node 6 ⟨#[]⟩ [tb]) y) ∧ Says w7 (.agg #[.int .i64 3, .string ⟨#[]⟩, .slice (some ⟨w.heap.size + 1 + 1 + 1 + 1, 0, none⟩) 2 2]) ga gl gc (fun zs => LangD gs (n + 1) (node 6 ⟨#[]⟩ [ta]) zs ∨ LangD gs (n + 1) (node 6 ⟨#[]⟩ [tb]) zs)) := by
  obtain ⟨w7, hw7⟩ : ∃ w7, w7 = (((((((w.alloc (.cells #[.int .i64 k, .string s, .slice a len cap] 24)).alloc (.cells #[.int .i64 l, .string r, .slice p ln cp] 24)).alloc (.cells #[.int .i64 k, .string s, .slice a len cap] 24)).alloc (.cells #[.int .i64 l, .string r, .slice p ln cp] 24)).alloc (.cells #[.int .i64 6, .string ⟨#[]⟩, .slice (some ⟨w.heap.size + 1 + 1, 0, none⟩) 1 1, .int .i64 6, .string ⟨#[]⟩, .slice (some ⟨w.heap.size + 1 + 1 + 1, 0, none⟩) 1 1] 24)).alloc (.cells #[.int .i64 2, .string ⟨#[]⟩, .slice (some ⟨w.heap.size + 1 + 1 + 1 + 1, 0, none⟩) 2 2] 24)).alloc (.cells #[.int .i64 3, .string ⟨#[]⟩, .slice (some ⟨w.heap.size + 1 + 1 + 1 + 1, 0, none⟩) 2 2] 24)) := ⟨_, rfl⟩
  have hs7 : w7.heap.size = w.heap.size + 7 := by rw [hw7]; simp
  have hb7 : Below w.heap.size w w7 := by
    rw [hw7]
    exact ((((((((Below.refl _ w).alloc (Nat.le_refl _) _).alloc (by simp; try omega) _).alloc (by simp; try omega) _).alloc (by simp; try omega) _).alloc (by simp; try omega) _).alloc (by simp; try omega) _).alloc (by simp; try omega) _)
  have m2 : w7.heap[w.heap.size + 1 + 1]? = some (.cells #[.int .i64 k, .string s, .slice a len cap] 24 (0, 0)) := by rw [hw7]; exact ((at_old (by simp; try omega)).trans ((at_old (by simp; try omega)).trans ((at_old (by simp; try omega)).trans ((at_old (by simp; try omega)).trans (at_new (by simp))))))
  have m3 : w7.heap[w.heap.size + 1 + 1 + 1]? = some (.cells #[.int .i64 l, .string r, .slice p ln cp] 24 (0, 0)) := by rw [hw7]; exact ((at_old (by simp; try omega)).trans ((at_old (by simp; try omega)).trans ((at_old (by simp; try omega)).trans (at_new (by simp)))))
  have m4 : w7.heap[w.heap.size + 1 + 1 + 1 + 1]? = some (.cells #[.int .i64 6, .string ⟨#[]⟩, .slice (some ⟨w.heap.size + 1 + 1, 0, none⟩) 1 1, .int .i64 6, .string ⟨#[]⟩, .slice (some ⟨w.heap.size + 1 + 1 + 1, 0, none⟩) 1 1] 24 (0, 0)) := by rw [hw7]; exact ((at_old (by simp; try omega)).trans ((at_old (by simp; try omega)).trans (at_new (by simp))))
  have m5 : w7.heap[w.heap.size + 1 + 1 + 1 + 1 + 1]? = some (.cells #[.int .i64 2, .string ⟨#[]⟩, .slice (some ⟨w.heap.size + 1 + 1 + 1 + 1, 0, none⟩) 2 2] 24 (0, 0)) := by rw [hw7]; exact ((at_old (by simp; try omega)).trans (at_new (by simp)))
  have m6 : w7.heap[w.heap.size + 1 + 1 + 1 + 1 + 1 + 1]? = some (.cells #[.int .i64 3, .string ⟨#[]⟩, .slice (some ⟨w.heap.size + 1 + 1 + 1 + 1, 0, none⟩) 2 2] 24 (0, 0)) := by rw [hw7]; exact (at_new (by simp))
  have hEA := Ex.below hb7 _ _ _ hA
  have hEB := Ex.below hb7 _ _ _ hB
  have hG7 := hG.below hb7
  have eA := Ex.behind (c := 1) 6 m2 hEA
  have eB := Ex.behind (c := 1) 6 m3 hEB
  have nA := named_behind 6 hNA
  have nB := named_behind 6 hNB
  have eS := Ex.two (c := 2) 2 m4 eA eB
  have eL := Ex.two (c := 2) 3 m4 eA eB
  refine ⟨w7, hw7, hb7, fun X hX => ?_, fun X hX => ?_, fun X hX => ?_, fun h1 h2 => ⟨says_of eA nA hG7 (chk_kid (t := (node 2 ⟨#[]⟩ [(node 6 ⟨#[]⟩ [ta]), (node 6 ⟨#[]⟩ [tb])])) (by rw [kindT_node]; decide) (by rw [subs_node]; simp) h1) (fun _ => Iff.rfl), says_of eB nB hG7 (chk_kid (t := (node 2 ⟨#[]⟩ [(node 6 ⟨#[]⟩ [ta]), (node 6 ⟨#[]⟩ [tb])])) (by rw [kindT_node]; decide) (by rw [subs_node]; simp) h1) (fun _ => Iff.rfl), says_of eS (named_two 2 nA nB) hG7 h1 (lang_seq2 gs (n + 1) _ _), says_of eL (named_two 3 nA nB) hG7 h2 (lang_alt2 gs (n + 1) _ _)⟩⟩
  · have q4 := (hX.block _ (by omega)).trans m4
    obtain ⟨b0, b1, b2, _⟩ := cells3 ((hX.block _ (by omega)).trans m5)
    obtain ⟨d0, d1, d2, _⟩ := cells3 ((hX.block _ (by omega)).trans m6)
    exact ⟨cell_of_row X _ 0 _ _ _ q4, cell_of_row X _ 1 _ _ _ q4, cell_of_row X _ 2 _ _ _ q4, cell_of_row X _ 3 _ _ _ q4, cell_of_row X _ 4 _ _ _ q4, cell_of_row X _ 5 _ _ _ q4, b0, b1, b2, d0, d1, d2⟩
  · refine (rcheck_calls (n + 1 + 1) _ _ ga gl gc gs X (Ex.below hX _ _ _ eS) (named_two 2 nA nB) (hG7.below hX)).mono ?_
    rintro e W ⟨rfl, hW⟩
    exact ⟨rfl, hX.trans (hW.mono hX.size)⟩
  · refine (rcheck_calls (n + 1 + 1) _ _ ga gl gc gs X (Ex.below hX _ _ _ eL) (named_two 3 nA nB) (hG7.below hX)).mono ?_
    rintro e W ⟨rfl, hW⟩
    exact ⟨rfl, hX.trans (hW.mono hX.size)⟩
set_option maxRecDepth 100000 in
set_option maxHeartbeats 8000000 in
theorem seqs_walk (n : Nat) (ta tb : DataW Unit) (k : Int) (s : ByteArray) (a : Option Addr) (len cap : Nat) (l : Int) (r : ByteArray) (p : Option Addr) (ln cp : Nat) (ga : Option Addr) (gl gc : Nat) (gs : List Grp) (za : Option Addr) (zl zc : Nat) (xs : List Int) (ya : Option Addr) (yl yc : Nat) (ys : List Int) (w : World) (hA : Ex w n ta (.agg #[.int .i64 k, .string s, .slice a len cap])) (hB : Ex w n tb (.agg #[.int .i64 l, .string r, .slice p ln cp])) (hNA : named n ta) (hNB : named n tb) (hG : Groups w ga gl gs) (hX' : Ints w za zl xs) (hY' : Ints w ya yl ys) (hzc : za = none → zc = 0) (hyc : ya = none → yc = 0) :
    Calls Try.prog 4 #[(.agg #[.int .i64 k, .string s, .slice a len cap]), (.agg #[.int .i64 l, .string r, .slice p ln cp]), .slice ga gl gc, .slice za zl zc, .slice ya yl yc] w fun e w' => e = .returned (.bool true) ∧ Below w.heap.size w w' := by
  have HAW : Hid (∀ W : World, Calls Try.prog 6 #[] W fun e w' => e = .returned (.bool true) ∧ Below W.heap.size W w') := fun W => awake_calls W
  obtain ⟨w7, hw7, hb7, HK0, HC0, HD0, HL0⟩ := seqs_laid n ta tb k s a len cap l r p ln cp ga gl gc gs w hA hB hNA hNB hG
  have HW7 : Hid ((((((((w.alloc (.cells #[.int .i64 k, .string s, .slice a len cap] 24)).alloc (.cells #[.int .i64 l, .string r, .slice p ln cp] 24)).alloc (.cells #[.int .i64 k, .string s, .slice a len cap] 24)).alloc (.cells #[.int .i64 l, .string r, .slice p ln cp] 24)).alloc (.cells #[.int .i64 6, .string ⟨#[]⟩, .slice (some ⟨w.heap.size + 1 + 1, 0, none⟩) 1 1, .int .i64 6, .string ⟨#[]⟩, .slice (some ⟨w.heap.size + 1 + 1 + 1, 0, none⟩) 1 1] 24)).alloc (.cells #[.int .i64 2, .string ⟨#[]⟩, .slice (some ⟨w.heap.size + 1 + 1 + 1 + 1, 0, none⟩) 2 2] 24)).alloc (.cells #[.int .i64 3, .string ⟨#[]⟩, .slice (some ⟨w.heap.size + 1 + 1 + 1 + 1, 0, none⟩) 2 2] 24)) = w7) := hw7.symm
  have HB7 : Hid (∀ X : World, Below w7.heap.size w7 X → Below w.heap.size w X) := fun X hX => hb7.trans (hX.mono hb7.size)
  have HK : Hid (∀ X : World, Below w7.heap.size w7 X → X.cell? ⟨w.heap.size + 1 + 1 + 1 + 1, 0, none⟩ = some (.int .i64 6) ∧ X.cell? ⟨w.heap.size + 1 + 1 + 1 + 1, 1, none⟩ = some (.string ⟨#[]⟩) ∧ X.cell? ⟨w.heap.size + 1 + 1 + 1 + 1, 2, none⟩ = some (.slice (some ⟨w.heap.size + 1 + 1, 0, none⟩) 1 1) ∧ X.cell? ⟨w.heap.size + 1 + 1 + 1 + 1, 3, none⟩ = some (.int .i64 6) ∧ X.cell? ⟨w.heap.size + 1 + 1 + 1 + 1, 4, none⟩ = some (.string ⟨#[]⟩) ∧ X.cell? ⟨w.heap.size + 1 + 1 + 1 + 1, 5, none⟩ = some (.slice (some ⟨w.heap.size + 1 + 1 + 1, 0, none⟩) 1 1) ∧ X.cell? ⟨w.heap.size + 1 + 1 + 1 + 1 + 1, 0, none⟩ = some (.int .i64 2) ∧ X.cell? ⟨w.heap.size + 1 + 1 + 1 + 1 + 1, 1, none⟩ = some (.string ⟨#[]⟩) ∧ X.cell? ⟨w.heap.size + 1 + 1 + 1 + 1 + 1, 2, none⟩ = some (.slice (some ⟨w.heap.size + 1 + 1 + 1 + 1, 0, none⟩) 2 2) ∧ X.cell? ⟨w.heap.size + 1 + 1 + 1 + 1 + 1 + 1, 0, none⟩ = some (.int .i64 3) ∧ X.cell? ⟨w.heap.size + 1 + 1 + 1 + 1 + 1 + 1, 1, none⟩ = some (.string ⟨#[]⟩) ∧ X.cell? ⟨w.heap.size + 1 + 1 + 1 + 1 + 1 + 1, 2, none⟩ = some (.slice (some ⟨w.heap.size + 1 + 1 + 1 + 1, 0, none⟩) 2 2)) := HK0
  have HX : Hid (∀ X : World, Below w7.heap.size w7 X → Ints X za zl xs) := fun X hX => hX'.below (HB7.out X hX)
  have HY : Hid (∀ X : World, Below w7.heap.size w7 X → Ints X ya yl ys) := fun X hX => hY'.below (HB7.out X hX)
  have HZC : Hid (za = none → zc = 0) := hzc
  have HYC : Hid (ya = none → yc = 0) := hyc
  obtain ⟨_, hz1, _⟩ := id hX'
  obtain ⟨_, hy1, _⟩ := id hY'
  have hzi : (zl : Int) ≤ 9223372036854775807 := by omega
  have hyi : (yl : Int) ≤ 9223372036854775807 := by omega
  have HC : Hid (∀ X : World, Below w7.heap.size w7 X → Calls Try.prog 5 #[(.agg #[.int .i64 2, .string ⟨#[]⟩, .slice (some ⟨w.heap.size + 1 + 1 + 1 + 1, 0, none⟩) 2 2]), .slice ga gl gc] X fun e w' => e = .returned (.int .i64 (chk (n + 1 + 1) (node 2 ⟨#[]⟩ [(node 6 ⟨#[]⟩ [ta]), (node 6 ⟨#[]⟩ [tb])]) gs)) ∧ Below w7.heap.size w7 w') := HC0
  have HD : Hid (∀ X : World, Below w7.heap.size w7 X → Calls Try.prog 5 #[(.agg #[.int .i64 3, .string ⟨#[]⟩, .slice (some ⟨w.heap.size + 1 + 1 + 1 + 1, 0, none⟩) 2 2]), .slice ga gl gc] X fun e w' => e = .returned (.int .i64 (chk (n + 1 + 1) (node 3 ⟨#[]⟩ [(node 6 ⟨#[]⟩ [ta]), (node 6 ⟨#[]⟩ [tb])]) gs)) ∧ Below w7.heap.size w7 w') := HD0
  have HL : Hid (chk (n + 1 + 1) (node 2 ⟨#[]⟩ [(node 6 ⟨#[]⟩ [ta]), (node 6 ⟨#[]⟩ [tb])]) gs = 0 → chk (n + 1 + 1) (node 3 ⟨#[]⟩ [(node 6 ⟨#[]⟩ [ta]), (node 6 ⟨#[]⟩ [tb])]) gs = 0 → Says w7 (.agg #[.int .i64 6, .string ⟨#[]⟩, .slice (some ⟨w.heap.size + 1 + 1, 0, none⟩) 1 1]) ga gl gc (LangD gs (n + 1) (node 6 ⟨#[]⟩ [ta])) ∧ Says w7 (.agg #[.int .i64 6, .string ⟨#[]⟩, .slice (some ⟨w.heap.size + 1 + 1 + 1, 0, none⟩) 1 1]) ga gl gc (LangD gs (n + 1) (node 6 ⟨#[]⟩ [tb])) ∧ Says w7 (.agg #[.int .i64 2, .string ⟨#[]⟩, .slice (some ⟨w.heap.size + 1 + 1 + 1 + 1, 0, none⟩) 2 2]) ga gl gc (fun zs => ∃ x y, zs = x ++ y ∧ LangD gs (n + 1) (node 6 ⟨#[]⟩ [ta]) x ∧ LangD gs (n + 1) (node 6 ⟨#[]⟩ [tb]) y) ∧ Says w7 (.agg #[.int .i64 3, .string ⟨#[]⟩, .slice (some ⟨w.heap.size + 1 + 1 + 1 + 1, 0, none⟩) 2 2]) ga gl gc (fun zs => LangD gs (n + 1) (node 6 ⟨#[]⟩ [ta]) zs ∨ LangD gs (n + 1) (node 6 ⟨#[]⟩ [tb]) zs)) := HL0
  clear hX' hY' hzc hyc hA hB hNA hNB hG HK0 HC0 HD0 HL0 hw7 hb7
  generalize LangD gs (n + 1) (node 6 ⟨#[]⟩ [ta]) = LA at HL
  generalize LangD gs (n + 1) (node 6 ⟨#[]⟩ [tb]) = LB at HL
  generalize chk (n + 1 + 1) (node 2 ⟨#[]⟩ [(node 6 ⟨#[]⟩ [ta]), (node 6 ⟨#[]⟩ [tb])]) gs = cs at *
  generalize chk (n + 1 + 1) (node 3 ⟨#[]⟩ [(node 6 ⟨#[]⟩ [ta]), (node 6 ⟨#[]⟩ [tb])]) gs = ca at *
  have hR0 : Below w7.heap.size w7 w7 := Below.refl _ _
  by_cases hl : 50 < zl
  · have hd : decide ((50 : Int) < (zl : Int)) = true := by simp; omega
    go_enter Try.func4, Try.ntmps4
    go_wp2_with fail
    rw [HW7.out]
    refine (HAW.out _).mono ?_
    rintro e XZ ⟨rfl, hXZ⟩
    have HEND := HB7.out _ (hR0.trans (hXZ.mono hR0.size))
    clear hXZ
    go_wp2
    go_ret
    first | exact HEND | exact ⟨rfl, HEND⟩
  have hd : decide ((50 : Int) < (zl : Int)) = false := by simp; omega
  by_cases hl2 : 50 < yl
  · have hd2 : decide ((50 : Int) < (yl : Int)) = true := by simp; omega
    go_enter Try.func4, Try.ntmps4
    go_wp2_with fail
    rw [HW7.out]
    refine (HAW.out _).mono ?_
    rintro e XZ ⟨rfl, hXZ⟩
    have HEND := HB7.out _ (hR0.trans (hXZ.mono hR0.size))
    clear hXZ
    go_wp2
    go_ret
    first | exact HEND | exact ⟨rfl, HEND⟩
  have hd2 : decide ((50 : Int) < (yl : Int)) = false := by simp; omega
  by_cases hc : cs ≠ 0
  · have e0 : (cs == 0) = false := by simpa using hc
    have e1 : (cs != 0) = true := by simp [bne, e0]
    go_enter Try.func4, Try.ntmps4
    go_wp2_with fail
    rw [HW7.out]
    refine (HC.out _ hR0).mono ?_
    rintro e W ⟨rfl, hW⟩
    go_wp2_with fail
    refine (HAW.out _).mono ?_
    rintro e XZ ⟨rfl, hXZ⟩
    have HEND := HB7.out _ (hW.trans (hXZ.mono hW.size))
    clear hXZ
    go_wp2
    go_ret
    first | exact HEND | exact ⟨rfl, HEND⟩
  obtain rfl : cs = 0 := Classical.not_not.1 hc
  clear hc
  have hdc : ((0 : Int) != 0) = false := rfl
  by_cases hc : ca ≠ 0
  · have e0 : (ca == 0) = false := by simpa using hc
    have e1 : (ca != 0) = true := by simp [bne, e0]
    go_enter Try.func4, Try.ntmps4
    go_wp2_with fail
    rw [HW7.out]
    refine (HC.out _ hR0).mono ?_
    rintro e W ⟨rfl, hW⟩
    obtain ⟨q0, q1, q2, q3, q4, q5, q6, q7, q8, q9, q10, q11⟩ := HK.out _ hW
    go_wp2_with fail
    refine (HD.out _ hW).mono ?_
    rintro e W2 ⟨rfl, hW2⟩
    clear q0 q1 q2 q3 q4 q5 q6 q7 q8 q9 q10 q11
    go_wp2_with fail
    refine (HAW.out _).mono ?_
    rintro e XZ ⟨rfl, hXZ⟩
    have HEND := HB7.out _ (hW2.trans (hXZ.mono hW2.size))
    clear hXZ
    go_wp2
    go_ret
    first | exact HEND | exact ⟨rfl, HEND⟩
  obtain rfl : ca = 0 := Classical.not_not.1 hc
  clear hc
  obtain ⟨HA0, HB0, HS0, HO0⟩ := HL.out rfl rfl
  have HA : Hid (Says w7 (.agg #[.int .i64 6, .string ⟨#[]⟩, .slice (some ⟨w.heap.size + 1 + 1, 0, none⟩) 1 1]) ga gl gc LA) := HA0
  have HB : Hid (Says w7 (.agg #[.int .i64 6, .string ⟨#[]⟩, .slice (some ⟨w.heap.size + 1 + 1 + 1, 0, none⟩) 1 1]) ga gl gc LB) := HB0
  have HS : Hid (Says w7 (.agg #[.int .i64 2, .string ⟨#[]⟩, .slice (some ⟨w.heap.size + 1 + 1 + 1 + 1, 0, none⟩) 2 2]) ga gl gc (fun zs => ∃ x y, zs = x ++ y ∧ LA x ∧ LB y)) := HS0
  have HO : Hid (Says w7 (.agg #[.int .i64 3, .string ⟨#[]⟩, .slice (some ⟨w.heap.size + 1 + 1 + 1 + 1, 0, none⟩) 2 2]) ga gl gc (fun zs => LA zs ∨ LB zs)) := HO0
  clear HA0 HB0 HS0 HO0 HL
  go_enter Try.func4, Try.ntmps4
  go_wp2_with fail
  rw [HW7.out]
  refine (HC.out _ hR0).mono ?_
  rintro e W ⟨rfl, hW⟩
  obtain ⟨q0, q1, q2, q3, q4, q5, q6, q7, q8, q9, q10, q11⟩ := HK.out _ hW
  go_wp2_with fail
  refine (HD.out _ hW).mono ?_
  rintro e W2 ⟨rfl, hW2⟩
  clear q0 q1 q2 q3 q4 q5 q6 q7 q8 q9 q10 q11
  clear hW HC HD HW7
  obtain ⟨q0, q1, q2, q3, q4, q5, q6, q7, q8, q9, q10, q11⟩ := HK.out _ hW2
  go_wp2_with fail
  refine (HA.out _ za zl zc xs hW2 (HX.out _ hW2)).mono ?_
  rintro e W3 ⟨b1, rfl, hb1, hB3⟩
  have HB1 : Hid (b1 = true ↔ LA xs) := hb1
  have hW3 : Below w7.heap.size w7 W3 := hW2.trans (hB3.mono hW2.size)
  clear q0 q1 q2 q3 q4 q5 q6 q7 q8 q9 q10 q11
  clear hb1 hB3 hW2
  obtain ⟨q0, q1, q2, q3, q4, q5, q6, q7, q8, q9, q10, q11⟩ := HK.out _ hW3
  go_wp2_with fail
  refine (HB.out _ ya yl yc ys hW3 (HY.out _ hW3)).mono ?_
  rintro e WN ⟨b2, rfl, hb2, hBN'⟩
  have HB2 : Hid (b2 = true ↔ LB ys) := hb2
  have hBN : Below w7.heap.size w7 WN := hW3.trans (hBN'.mono hW3.size)
  clear q0 q1 q2 q3 q4 q5 q6 q7 q8 q9 q10 q11
  clear hb2 hBN' hW3
  have hown0 := owned_nil WN WN.heap.size (Nat.le_refl _)
  have hBb : Below w7.heap.size w7 (WN.alloc (.cells #[] 3)) := hBN.alloc hBN.size _
  have hxb := HX.out _ hBb
  have hs0 : 0 + zl ≤ 1000000 := by omega
  have hs1 : zl + yl ≤ 1000000 := by omega
  have hs3 : WN.heap.size ≤ (WN.alloc (.cells #[] 3)).heap.size := by simp
  have hzc := HZC.out
  have hyc := HYC.out
  cases b1 with
  | true =>
    have hLA : LA xs := HB1.out.1 rfl
    have HLA : Hid (LA xs) := hLA
    clear HB1 hLA
    cases b2 with
    | true =>
      have hLB : LB ys := HB2.out.1 rfl
      have HLB : Hid (LB ys) := hLB
      clear HB2 hLB
      go_wp2_with (first
        | (at_builtin; refine wpList_append_ints rfl (.tmp 61) (.tmp 62) rfl WN.heap.size _ 0 [] rfl hown0 za zl zc xs rfl hzc hxb hs0 hs3 ?_; intro v1 W3 hown1 hB3; rw [Nat.zero_add, List.nil_append] at hown1; have hW3 := hBb.trans (hB3.mono hBN.size); have hyb := HY.out _ hW3; have hs2 : WN.heap.size ≤ W3.heap.size := Nat.le_trans hs3 hB3.size)
        | (at_builtin; refine wpList_append_ints rfl (.tmp 63) (.tmp 64) rfl WN.heap.size _ zl xs rfl hown1 ya yl yc ys rfl hyc hyb hs1 hs2 ?_; intro v2 W4 hown2 hB4'; have hB4 : Below w7.heap.size w7 W4 := hW3.trans (hB4'.mono hBN.size); obtain ⟨ra, rc, rfl, hR⟩ := owned_ints hown2 (by omega); obtain ⟨q0, q1, q2, q3, q4, q5, q6, q7, q8, q9, q10, q11⟩ := HK.out _ hB4)
        | fail)
      refine (HS.out _ ra (zl + yl) rc (xs ++ ys) hB4 (hR)).mono ?_
      rintro e X5 ⟨b5, rfl, hb, hB⟩
      have hX5 : Below w7.heap.size w7 X5 := hB4.trans (hB.mono hB4.size)
      obtain rfl : b5 = true := hb.2 ⟨xs, ys, rfl, HLA.out, HLB.out⟩
      clear q0 q1 q2 q3 q4 q5 q6 q7 q8 q9 q10 q11
      clear hb hB
      obtain ⟨q0, q1, q2, q3, q4, q5, q6, q7, q8, q9, q10, q11⟩ := HK.out _ hX5
      go_wp2_with fail
      refine (HO.out _ za zl zc xs hX5 (HX.out _ hX5)).mono ?_
      rintro e X6 ⟨b6, rfl, hb, hB⟩
      have hX6 : Below w7.heap.size w7 X6 := hX5.trans (hB.mono hX5.size)
      obtain rfl : b6 = true := hb.2 (.inl HLA.out)
      clear q0 q1 q2 q3 q4 q5 q6 q7 q8 q9 q10 q11
      clear hb hB
      obtain ⟨q0, q1, q2, q3, q4, q5, q6, q7, q8, q9, q10, q11⟩ := HK.out _ hX6
      go_wp2_with fail
      refine (HAW.out _).mono ?_
      rintro e XZ ⟨rfl, hXZ⟩
      have HEND := HB7.out _ (hX6.trans (hXZ.mono hX6.size))
      clear hXZ
      go_wp2
      go_ret
      first | exact HEND | exact ⟨rfl, HEND⟩
    | false =>
      clear HB2
      go_wp2_with (first
        | (at_builtin; refine wpList_append_ints rfl (.tmp 61) (.tmp 62) rfl WN.heap.size _ 0 [] rfl hown0 za zl zc xs rfl hzc hxb hs0 hs3 ?_; intro v1 W3 hown1 hB3; rw [Nat.zero_add, List.nil_append] at hown1; have hW3 := hBb.trans (hB3.mono hBN.size); have hyb := HY.out _ hW3; have hs2 : WN.heap.size ≤ W3.heap.size := Nat.le_trans hs3 hB3.size)
        | (at_builtin; refine wpList_append_ints rfl (.tmp 63) (.tmp 64) rfl WN.heap.size _ zl xs rfl hown1 ya yl yc ys rfl hyc hyb hs1 hs2 ?_; intro v2 W4 hown2 hB4'; have hB4 : Below w7.heap.size w7 W4 := hW3.trans (hB4'.mono hBN.size); obtain ⟨ra, rc, rfl, hR⟩ := owned_ints hown2 (by omega); obtain ⟨q0, q1, q2, q3, q4, q5, q6, q7, q8, q9, q10, q11⟩ := HK.out _ hB4)
        | fail)
      refine (HO.out _ za zl zc xs hB4 (HX.out _ hB4)).mono ?_
      rintro e X6 ⟨b6, rfl, hb, hB⟩
      have hX6 : Below w7.heap.size w7 X6 := hB4.trans (hB.mono hB4.size)
      obtain rfl : b6 = true := hb.2 (.inl HLA.out)
      clear q0 q1 q2 q3 q4 q5 q6 q7 q8 q9 q10 q11
      clear hb hB
      obtain ⟨q0, q1, q2, q3, q4, q5, q6, q7, q8, q9, q10, q11⟩ := HK.out _ hX6
      go_wp2_with fail
      refine (HAW.out _).mono ?_
      rintro e XZ ⟨rfl, hXZ⟩
      have HEND := HB7.out _ (hX6.trans (hXZ.mono hX6.size))
      clear hXZ
      go_wp2
      go_ret
      first | exact HEND | exact ⟨rfl, HEND⟩
  | false =>
    have HN : Hid (¬ LA xs) := fun q => by cases HB1.out.2 q
    clear HB1
    go_wp2_with (first
      | (at_builtin; refine wpList_append_ints rfl (.tmp 61) (.tmp 62) rfl WN.heap.size _ 0 [] rfl hown0 za zl zc xs rfl hzc hxb hs0 hs3 ?_; intro v1 W3 hown1 hB3; rw [Nat.zero_add, List.nil_append] at hown1; have hW3 := hBb.trans (hB3.mono hBN.size); have hyb := HY.out _ hW3; have hs2 : WN.heap.size ≤ W3.heap.size := Nat.le_trans hs3 hB3.size)
      | (at_builtin; refine wpList_append_ints rfl (.tmp 63) (.tmp 64) rfl WN.heap.size _ zl xs rfl hown1 ya yl yc ys rfl hyc hyb hs1 hs2 ?_; intro v2 W4 hown2 hB4'; have hB4 : Below w7.heap.size w7 W4 := hW3.trans (hB4'.mono hBN.size); obtain ⟨ra, rc, rfl, hR⟩ := owned_ints hown2 (by omega); obtain ⟨q0, q1, q2, q3, q4, q5, q6, q7, q8, q9, q10, q11⟩ := HK.out _ hB4)
      | fail)
    refine (HO.out _ za zl zc xs hB4 (HX.out _ hB4)).mono ?_
    rintro e X6 ⟨b6, rfl, hb, hB⟩
    have hX6 : Below w7.heap.size w7 X6 := hB4.trans (hB.mono hB4.size)
    have hb6 : b6 = true ↔ LB xs := hb.trans ⟨fun q => q.resolve_left HN.out, .inr⟩
    clear q0 q1 q2 q3 q4 q5 q6 q7 q8 q9 q10 q11
    clear hb hB
    obtain ⟨q0, q1, q2, q3, q4, q5, q6, q7, q8, q9, q10, q11⟩ := HK.out _ hX6
    go_wp2_with fail
    refine (HB.out _ za zl zc xs hX6 (HX.out _ hX6)).mono ?_
    rintro e X7 ⟨b7, rfl, hb, hB⟩
    have hX7 : Below w7.heap.size w7 X7 := hX6.trans (hB.mono hX6.size)
    obtain rfl : b6 = b7 := Bool.eq_iff_iff.2 (hb6.trans hb.symm)
    have hbb : (b6 == b6) = true := by simp
    clear hb6
    clear q0 q1 q2 q3 q4 q5 q6 q7 q8 q9 q10 q11
    clear hb hB
    obtain ⟨q0, q1, q2, q3, q4, q5, q6, q7, q8, q9, q10, q11⟩ := HK.out _ hX7
    go_wp2_with fail
    refine (HAW.out _).mono ?_
    rintro e XZ ⟨rfl, hXZ⟩
    have HEND := HB7.out _ (hX7.trans (hXZ.mono hX7.size))
    clear hXZ
    go_wp2
    go_ret
    first | exact HEND | exact ⟨rfl, HEND⟩
end Go.Proofs.Ytijeegoabobgaaa
