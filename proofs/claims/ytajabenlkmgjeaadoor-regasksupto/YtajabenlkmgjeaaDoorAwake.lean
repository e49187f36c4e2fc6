/-
  PROVED HERE: a name's language; the law's own awake answers true; nothing that lay before is turned.
-/
import Derived.Test.YtajabenlkmgjeaaDoorAcc
namespace Go.Proofs.YtajabenlkmgjeaaDoor
open Go.RowKit

theorem bit_fold : ∀ (l : List Int) (m k : Nat), (l.foldl (fun m t => m ||| 2 ^ t.toNat) m).testBit k = (m.testBit k || l.any (fun t => t.toNat == k)) := by
  intro l
  induction l with
  | nil => intro m k; simp
  | cons t r ih =>
    intro m k
    rw [List.foldl_cons, ih, Nat.testBit_or, Nat.testBit_two_pow, List.any_cons, Bool.or_assoc]
    congr 2
theorem takes_mem {ts : List Int} (h : ts.all isTy = true) (a : Int) : takes (maskOf ts) a = true ↔ a ∈ ts := by
  have hty : ∀ x ∈ ts, 0 ≤ x ∧ x < 16 := fun x hx => by
    have := List.all_eq_true.1 h x hx
    unfold isTy at this
    simpa using this
  unfold takes maskOf
  rw [bit_fold]
  simp only [Nat.zero_testBit, Bool.false_or, Bool.and_eq_true, decide_eq_true_eq, List.any_eq_true, beq_iff_eq]
  constructor
  · rintro ⟨⟨h0, h1⟩, x, hx, e⟩
    have := hty x hx
    rw [show a = x from by omega]
    exact hx
  · intro ha
    exact ⟨hty a ha, a, ha, rfl⟩
def aName : ByteArray := ⟨#[97]⟩
theorem letters_a : letters ⟨#[97]⟩ = true := by simp [letters, ByteArray.toList_eq, letter]
theorem name_check : checkE 1 (node 1 ⟨#[97]⟩ []) = 0 := by
  have h3 : rightE 1 (node 1 ⟨#[97]⟩ []) = true := by
    rw [rightE, subs_node, kindT_node, nameT_node]
    simp [shapely, letters_a]
  unfold checkE
  rw [show cnt 1 (node 1 ⟨#[97]⟩ []) = 1 from rfl, show dp 1 (node 1 ⟨#[97]⟩ []) = 1 from rfl, if_neg (by decide), if_pos h3]
theorem maskG_one (ts : List Int) : maskG [(⟨#[97]⟩, ts)] ⟨#[97]⟩ = maskOf ts := by rw [maskG, if_pos (by simp)]
theorem rightG_one (ts : List Int) : rightG [(⟨#[97]⟩, ts)] = rightTs ts := by unfold rightG; simp
/-- What Check says of the name a alone, with one group of that name. -/
theorem name_chk (ts : List Int) : chk 1 (node 1 ⟨#[97]⟩ []) [(⟨#[97]⟩, ts)] = 0 ↔ rightTs ts = true ∧ ts ≠ [] := by
  unfold chk
  rw [if_pos name_check, rightG_one]
  have hn : nmd [(⟨#[97]⟩, ts)] 1 (node 1 ⟨#[97]⟩ []) = !(((maskOf ts : Nat) : Int) == 0) := by rw [nmd, kindT_node, if_pos rfl, nameT_node, maskG_one]
  rw [hn]
  cases hr : rightTs ts with
  | false => simp
  | true =>
    have hall : ts.all isTy = true := by unfold rightTs at hr; rw [Bool.and_eq_true] at hr; exact hr.2
    have hz : maskOf ts = 0 ↔ ts = [] := by
      constructor
      · intro e
        cases ts with
        | nil => rfl
        | cons x r =>
          have := (takes_mem hall x).2 (List.mem_cons_self ..)
          rw [e, takes_zero] at this
          cases this
      · intro e; rw [e]; rfl
    by_cases e : ts = []
    · rw [if_pos rfl, hz.2 e]
      simp [e]
    · have : maskOf ts ≠ 0 := fun h => e (hz.1 h)
      rw [if_pos rfl, if_pos (by simp; omega)]
      simp [e]
theorem name_lang (ts : List Int) (zs : List Int) (h : rightTs ts = true) : LangD [(⟨#[97]⟩, ts)] 1 (node 1 ⟨#[97]⟩ []) zs ↔ ∃ a, zs = [a] ∧ a ∈ ts := by
  have hall : ts.all isTy = true := by unfold rightTs at h; rw [Bool.and_eq_true] at h; exact h.2
  unfold LangD
  rw [Lang, kindT_node, if_pos rfl, nameT_node, maskG_one]
  constructor
  · rintro ⟨a, e, ha⟩
    exact ⟨a, e, (takes_mem hall a).1 ha⟩
  · rintro ⟨a, e, ha⟩
    exact ⟨a, e, (takes_mem hall a).2 ha⟩
theorem Ex.leaf (w : World) (k : Int) (s : ByteArray) (a : Option Addr) (cap : Nat) : Ex w 1 (node k s []) (.agg #[.int .i64 k, .string s, .slice a 0 cap]) := ⟨k, s, a, 0, cap, [], rfl, rfl, rfl, by omega, .inl rfl⟩
theorem named_a : named 1 (node 1 ⟨#[97]⟩ []) := ⟨by rw [nameT_node]; decide, fun x hx => by cases hx⟩
/-- A group of one name that was just made. -/
theorem Groups.one {w : World} {b : Nat} {s : ByteArray} {a : Option Addr} {len cap : Nat} {ts : List Int} (hb : w.heap[b]? = some (.cells #[.string s, .slice a len cap] 42 (0, 0))) (hT : Ints w a len ts) : Groups w (some ⟨b, 0, none⟩) 1 [(s, ts)] := by
  refine ⟨rfl, by omega, .inr ⟨b, 0, rfl, (Array.getElem?_eq_some_iff.1 hb).1, fun i g hg => ?_⟩⟩
  cases i with
  | zero =>
    simp at hg
    subst hg
    exact ⟨a, len, cap, cell_of_row w b 0 _ _ _ hb, cell_of_row w b 1 _ _ _ hb, hT⟩
  | succ i => simp at hg
theorem Ints.none0 (w : World) : Ints w none 0 [] := ⟨rfl, by omega, .inl rfl⟩
theorem Ints.one {w : World} {b : Nat} {x : Int} (hb : w.heap[b]? = some (.cells #[.int .i64 x] 3 (0, 0))) : Ints w (some ⟨b, 0, none⟩) 1 [x] := by
  refine ⟨rfl, by omega, .inr ⟨b, 0, rfl, (Array.getElem?_eq_some_iff.1 hb).1, fun i y hy => ?_⟩⟩
  cases i with
  | zero => simp at hy; subst hy; exact cell_of_row w b 0 _ _ _ hb
  | succ i => simp at hy
theorem Ints.two {w : World} {b : Nat} {x y : Int} (hb : w.heap[b]? = some (.cells #[.int .i64 x, .int .i64 y] 3 (0, 0))) : Ints w (some ⟨b, 0, none⟩) 2 [x, y] := by
  refine ⟨rfl, by omega, .inr ⟨b, 0, rfl, (Array.getElem?_eq_some_iff.1 hb).1, fun i z hz => ?_⟩⟩
  match i, hz with
  | 0, hz => simp at hz; subst hz; exact cell_of_row w b 0 _ _ _ hb
  | 1, hz => simp at hz; subst hz; exact cell_of_row w b 1 _ _ _ hb
set_option maxRecDepth 100000 in
set_option maxHeartbeats 1000000 in
theorem awake_calls (w : World) : Calls Tryd.prog 7 #[] w fun e w' => e = .returned (.bool true) ∧ Below w.heap.size w w' := by
  obtain ⟨w3, hw3⟩ : ∃ w3, w3 = ((w.alloc (.cells #[.int .i64 1] 3)).alloc (.cells #[.string ⟨#[97]⟩, .slice (some ⟨w.heap.size, 0, none⟩) 1 1] 42)).alloc (.cells #[.int .i64 1] 3) := ⟨_, rfl⟩
  have hb3 : Below w.heap.size w w3 := by rw [hw3]; exact (((Below.refl _ w).alloc (Nat.le_refl _) _).alloc (by simp) _).alloc (by simp; omega) _
  have m0 : w3.heap[w.heap.size]? = some (.cells #[.int .i64 1] 3 (0, 0)) := by rw [hw3, Below.heap_alloc _ _ _ (by simp; omega), Below.heap_alloc _ _ _ (by simp)]; exact World.alloc_heap_new w _
  have m1 : w3.heap[w.heap.size + 1]? = some (.cells #[.string ⟨#[97]⟩, .slice (some ⟨w.heap.size, 0, none⟩) 1 1] 42 (0, 0)) := by
    rw [hw3, Below.heap_alloc _ _ _ (by simp)]
    have := World.alloc_heap_new (w.alloc (.cells #[.int .i64 1] 3)) (.cells #[.string ⟨#[97]⟩, .slice (some ⟨w.heap.size, 0, none⟩) 1 1] 42)
    rwa [World.size_alloc] at this
  have m2 : w3.heap[w.heap.size + 1 + 1]? = some (.cells #[.int .i64 1] 3 (0, 0)) := by
    rw [hw3]
    have := World.alloc_heap_new ((w.alloc (.cells #[.int .i64 1] 3)).alloc (.cells #[.string ⟨#[97]⟩, .slice (some ⟨w.heap.size, 0, none⟩) 1 1] 42)) (.cells #[.int .i64 1] 3)
    rwa [World.size_alloc, World.size_alloc] at this
  have hA := accepts_calls 1 (node 1 ⟨#[97]⟩ []) _ (some ⟨w.heap.size + 1, 0, none⟩) 1 1 [(⟨#[97]⟩, [1])] (some ⟨w.heap.size + 1 + 1, 0, none⟩) 1 1 [1] w3 (Ex.leaf w3 1 ⟨#[97]⟩ none 0) named_a (Groups.one m1 (Ints.one m0)) (Ints.one m2)
  have hr : rightTs [1] = true := by decide
  have htrue : chk 1 (node 1 ⟨#[97]⟩ []) [(⟨#[97]⟩, [1])] = 0 ∧ LangD [(⟨#[97]⟩, [1])] 1 (node 1 ⟨#[97]⟩ []) [1] := ⟨(name_chk [1]).2 ⟨hr, by simp⟩, (name_lang [1] [1] hr).2 ⟨1, rfl, by simp⟩⟩
  have HA : Hid (Calls Tryd.prog 10 #[.agg #[.int .i64 1, .string ⟨#[97]⟩, .slice none 0 0], .slice (some ⟨w.heap.size + 1, 0, none⟩) 1 1, .slice (some ⟨w.heap.size + 1 + 1, 0, none⟩) 1 1] w3 fun e w' => e = .returned (.bool true) ∧ Below w3.heap.size w3 w') := hA.mono (by
    rintro e W ⟨b, rfl, hb, hB⟩
    rw [hb.2 htrue]
    exact ⟨rfl, hB⟩)
  have HW : Hid (((w.alloc (.cells #[.int .i64 1] 3)).alloc (.cells #[.string ⟨#[97]⟩, .slice (some ⟨w.heap.size, 0, none⟩) 1 1] 42)).alloc (.cells #[.int .i64 1] 3) = w3) := hw3.symm
  have HB : Hid (Below w.heap.size w w3) := hb3
  clear hA htrue m0 m1 m2 hb3 hw3
  go_enter Tryd.func7, Tryd.ntmps7
  go_wp2_with fail
  rw [HW.out]
  refine HA.out.mono ?_
  rintro e W ⟨rfl, hW⟩
  go_wp2
  go_ret
  exact ⟨rfl, HB.out.trans (hW.mono HB.out.size)⟩
end Go.Proofs.YtajabenlkmgjeaaDoor
