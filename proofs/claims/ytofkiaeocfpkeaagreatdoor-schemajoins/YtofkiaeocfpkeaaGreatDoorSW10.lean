/-
  PROVED HERE: what the texts NamesF, Rules, Every, Types6, Bits6, Tz6, Listed6, Nexts6 say (each has its own words below).
-/
import Derived.Test.YtofkiaeocfpkeaaGreatDoorSW9
import Derived.BigQuiet
import Derived.Laws.BitsAllLaws
/- NamesF: schema's namesOf: text, the types, the groups, in memory of their own. -/
namespace Go.Proofs.YtofkiaeocfpkeaaGreatDoor
open Go.RowKit

theorem Hid.mk_ {p : Prop} (h : p) : Hid p := h
def textB : ByteArray := ⟨#[116, 101, 120, 116]⟩
/-- All names of a schema. -/
def specNames : Nat → List SpecD → List Grp
  | _, [] => []
  | i, s :: r => (s.name, [((i + 1 : Nat) : Int)]) :: specNames (i + 1) r
def namesD (l : List SpecD) (gs : List Grp) : List Grp := (textB, [0]) :: (specNames 0 l ++ gs)
theorem specNames_length : ∀ (l : List SpecD) (i : Nat), (specNames i l).length = l.length := by
  intro l
  induction l with
  | nil => intro i; rfl
  | cons s r ih => intro i; rw [specNames, List.length_cons, ih, List.length_cons]
theorem specNames_snoc : ∀ (l : List SpecD) (i : Nat) (x : SpecD), specNames i (l ++ [x]) = specNames i l ++ [(x.name, [((i + l.length + 1 : Nat) : Int)])] := by
  intro l
  induction l with
  | nil => intro i x; simp [specNames]
  | cons s r ih => intro i x; rw [List.cons_append, specNames, specNames, ih, List.cons_append, List.length_cons]; simp only [Nat.add_assoc, Nat.add_comm 1]
theorem one_row (W : World) (t : Int) : (W.alloc (.cells #[.int .i64 t] 3)).ownsRow 0 3 1 (.slice (some ⟨W.heap.size, 0, none⟩) 1 1) 1 (intsV [t]) := ⟨rfl, .inr ⟨W.heap.size, 1, _, rfl, Nat.zero_le _, World.alloc_heap_new W _, Nat.le_refl _, by unfold maxLen; omega, rfl, rfl⟩⟩
/-- The first name. -/
theorem names_first (w : World) : Nms w.heap.size ((w.alloc (.cells #[.int .i64 0] 3)).alloc (.cells #[.string textB, .slice (some ⟨w.heap.size, 0, none⟩) 1 1] 73)) (.slice (some ⟨w.heap.size + 1, 0, none⟩) 1 1) [(textB, some ⟨w.heap.size, 0, none⟩, 1, [0])] := by
  refine ⟨⟨rfl, .inr ⟨w.heap.size + 1, 1, #[.string textB, .slice (some ⟨w.heap.size, 0, none⟩) 1 1], rfl, by omega, ?_, Nat.le_refl _, by unfold maxLen; omega, rfl, rfl⟩⟩, fun x hx => ?_⟩
  · have := World.alloc_heap_new (w.alloc (.cells #[.int .i64 0] 3)) (.cells #[.string textB, .slice (some ⟨w.heap.size, 0, none⟩) 1 1] 73)
    rw [World.size_alloc] at this
    exact this
  · rw [List.mem_singleton] at hx
    subst hx
    exact ⟨World.ownsRow.alloc (one_row w 0) _, by show 1 ≤ 1000000; omega⟩
/-- A name more, of a type. -/
theorem names_type {w wr : World} {v : Value} {xs : List GrpD} {i : Nat} (h : Nms w.heap.size wr v xs) (hlen : xs.length ≤ 100) (hB : Below w.heap.size w wr) (x : SpecD) :
    ∃ g' cap' W1, (Builtin.append_ #[22, 22] 22 #[v, .slice (some ⟨wr.heap.size + 1 + 1, 0, none⟩) 1 1]).run Tryz.prog (((wr.alloc (.cells #[.string x.name, .string x.expr, .bool x.leaf, .int .i64 x.marks, .int .i64 x.least, .int .i64 x.most, .bool x.lines] 46)).alloc (.cells #[.int .i64 (1 + (i : Int))] 3)).alloc (.cells #[.string x.name, .slice (some ⟨wr.heap.size + 1, 0, none⟩) 1 1] 73)) = .ok (.slice (some ⟨g', 0, none⟩) (xs.length + 1) cap') W1 ∧ Nms w.heap.size W1 (.slice (some ⟨g', 0, none⟩) (xs.length + 1) cap') (xs ++ [(x.name, some ⟨wr.heap.size + 1, 0, none⟩, 1, [1 + (i : Int)])]) ∧ Below w.heap.size w W1 := by
  obtain ⟨W1, hW1⟩ : ∃ W1, W1 = wr.alloc (.cells #[.string x.name, .string x.expr, .bool x.leaf, .int .i64 x.marks, .int .i64 x.least, .int .i64 x.most, .bool x.lines] 46) := ⟨_, rfl⟩
  have s1 : W1.heap.size = wr.heap.size + 1 := by rw [hW1, World.size_alloc]
  rw [← hW1, ← s1]
  have hB1 : Below wr.heap.size wr W1 := by rw [hW1]; exact (Below.refl _ wr).alloc (Nat.le_refl _) _
  clear hW1
  obtain ⟨W2, hW2⟩ : ∃ W2, W2 = W1.alloc (.cells #[.int .i64 (1 + (i : Int))] 3) := ⟨_, rfl⟩
  have s2 : W2.heap.size = W1.heap.size + 1 := by rw [hW2, World.size_alloc]
  have hB2 : Below wr.heap.size wr W2 := by rw [hW2]; exact hB1.alloc hB1.size _
  have ho : W2.ownsRow 0 3 1 (.slice (some ⟨W1.heap.size, 0, none⟩) 1 1) 1 (intsV [1 + (i : Int)]) := by rw [hW2]; exact one_row W1 _
  rw [← hW2, ← s2]
  clear hW2
  have hB3 : Below wr.heap.size wr (W2.alloc (.cells #[.string x.name, .slice (some ⟨W1.heap.size, 0, none⟩) 1 1] 73)) := hB2.alloc hB2.size _
  obtain ⟨g', cap', Z, h1, h2, h3⟩ := (h.below hB3).put (x.name, some ⟨W1.heap.size, 0, none⟩, 1, [1 + (i : Int)]) ⟨World.ownsRow.alloc ho _, by show 1 ≤ 1000000; omega⟩ (by omega) (by have := hB3.size; have := hB.size; omega) W2.heap.size 1 (two_cells W2 _ _ _)
  have hBZ := hB.trans (hB3.mono hB.size)
  exact ⟨g', cap', Z, h1, h2, hBZ.grown h3 hBZ.size (fun k e => owned_base h.row e)⟩
/-- A name more, of a group. -/
theorem names_group {w wr Y Y1 : World} {v : Value} {xs : List GrpD} {x : Grp} {ta a1 : Option Addr} {tl tc c1 b0 : Nat} (h : Nms w.heap.size wr v xs) (hlen : xs.length ≤ 100) (hB : Below w.heap.size w wr) (hx : x.2.length = tl) (htl : tl ≤ 1000000) (hcl : Y.ownsRow b0 3 1 (.slice a1 tl c1) tl (intsV x.2)) (hBY : Below (wr.alloc (.cells #[.string x.1, .slice ta tl tc] 73)).heap.size (wr.alloc (.cells #[.string x.1, .slice ta tl tc] 73)) Y) (hY1 : Y1 = Y.alloc (.cells #[.string x.1, .slice a1 tl c1] 73)) :
    (Y1.cell? ⟨wr.heap.size, 0, none⟩ = some (.string x.1) ∧ Y1.cell? ⟨wr.heap.size, 1, none⟩ = some (.slice ta tl tc)) ∧ ∃ g' cap' W1, (Builtin.append_ #[22, 22] 22 #[v, .slice (some ⟨Y.heap.size, 0, none⟩) 1 1]).run Tryz.prog Y1 = .ok (.slice (some ⟨g', 0, none⟩) (xs.length + 1) cap') W1 ∧ (W1.cell? ⟨wr.heap.size, 0, none⟩ = some (.string x.1) ∧ W1.cell? ⟨wr.heap.size, 1, none⟩ = some (.slice ta tl tc)) ∧ Nms w.heap.size W1 (.slice (some ⟨g', 0, none⟩) (xs.length + 1) cap') (xs ++ [(x.1, a1, c1, x.2)]) ∧ Below w.heap.size w W1 := by
  have hB1 : Below wr.heap.size wr (wr.alloc (.cells #[.string x.1, .slice ta tl tc] 73)) := (Below.refl _ wr).alloc (Nat.le_refl _) _
  have m0 : (wr.alloc (.cells #[.string x.1, .slice ta tl tc] 73)).heap[wr.heap.size]? = some (.cells #[.string x.1, .slice ta tl tc] 73 (0, 0)) := World.alloc_heap_new wr _
  have hlt0 : wr.heap.size < (wr.alloc (.cells #[.string x.1, .slice ta tl tc] 73)).heap.size := (Array.getElem?_eq_some_iff.1 m0).1
  have mY : Y.heap[wr.heap.size]? = some (.cells #[.string x.1, .slice ta tl tc] 73 (0, 0)) := (hBY.block _ hlt0).trans m0
  have hBYw : Below wr.heap.size wr Y := hB1.trans (hBY.mono hB1.size)
  have hltY : wr.heap.size < Y.heap.size := (Array.getElem?_eq_some_iff.1 mY).1
  have mY1 : Y1.heap[wr.heap.size]? = some (.cells #[.string x.1, .slice ta tl tc] 73 (0, 0)) := by rw [hY1]; exact (Below.heap_alloc Y _ _ hltY).trans mY
  have hB3 : Below wr.heap.size wr Y1 := by rw [hY1]; exact hBYw.alloc hBYw.size _
  have hok : GrpOk Y1 (x.1, a1, c1, x.2) := by
    refine ⟨?_, by show x.2.length ≤ 1000000; omega⟩
    show Y1.ownsRow 0 3 1 (.slice a1 x.2.length c1) x.2.length (intsV x.2)
    rw [hx, hY1]
    have := World.ownsRow.alloc hcl (.cells #[.string x.1, .slice a1 tl c1] 73)
    refine ⟨this.1, ?_⟩
    rcases this.2 with h2 | ⟨g, cap, cur, h1, h2, h3⟩
    · exact .inl h2
    · exact .inr ⟨g, cap, cur, h1, Nat.zero_le _, h3⟩
  obtain ⟨g', cap', Z, h1, h2, h3⟩ := (h.below hB3).put (x.1, a1, c1, x.2) hok (by omega) (by have := hB3.size; have := hB.size; omega) Y.heap.size 1 (by unfold grpC; dsimp only; rw [hx, hY1]; exact two_cells Y _ _ _)
  have hBZ := hB.trans (hB3.mono hB.size)
  have hc1 := fun j => cell_of_row Y1 wr.heap.size j _ _ _ mY1
  have mZ : Z.heap[wr.heap.size]? = some (.cells #[.string x.1, .slice ta tl tc] 73 (0, 0)) := by
    refine (h3.block _ (Array.getElem?_eq_some_iff.1 mY1).1 (fun e => ?_)).trans mY1
    have := (owns_lt h.row e.symm).1
    omega
  have hcZ := fun j => cell_of_row Z wr.heap.size j _ _ _ mZ
  exact ⟨⟨hc1 0, hc1 1⟩, g', cap', Z, h1, ⟨hcZ 0, hcZ 1⟩, h2, hBZ.grown h3 hBZ.size (fun k e => owned_base h.row e)⟩
set_option maxRecDepth 100000 in
set_option maxHeartbeats 600000 in
theorem namesof_calls (a : Option Addr) (len cap : Nat) (l : List SpecD) (ga : Option Addr) (gl gc : Nat) (gs : List Grp) (w : World) (hl : Specs w a len l) (hG : Groups w ga gl gs) (hsz : len ≤ 15) (hgz : gl ≤ 16) (hts : ∀ x ∈ gs, x.2.length ≤ 1000000) :
    Calls Tryz.prog 66 #[.slice a len cap, .slice ga gl gc] w fun e w' => ∃ (g c : Nat) (xs : List GrpD), e = .returned (.slice (some ⟨g, 0, none⟩) xs.length c) ∧ Nms w.heap.size w' (.slice (some ⟨g, 0, none⟩) xs.length c) xs ∧ xs.map plainG = namesD l gs ∧ Below w.heap.size w w' := by
  have HS : Hid (∀ (X : World) (i : Nat), Below w.heap.size w X → i < len → ∃ b o x, a = some ⟨b, o, none⟩ ∧ l[i]? = some x ∧ SpecAt X b (o + i * 7) x) := fun X i hX hi => by
    obtain ⟨b, o, x, h1, _, h2, h3⟩ := hl.at hi
    exact ⟨b, o, x, h1, h2, h3 X hX⟩
  have HGG : Hid (∀ (X : World) (i : Nat), Below w.heap.size w X → i < gl → ∃ b o x ta tl tc, ga = some ⟨b, o, none⟩ ∧ gs[i]? = some x ∧ X.cell? ⟨b, o + i * 2, none⟩ = some (.string x.1) ∧ X.cell? ⟨b, o + i * 2 + 1, none⟩ = some (.slice ta tl tc) ∧ Ints X ta tl x.2 ∧ tl ≤ 1000000) := fun X i hX hi => by
    obtain ⟨b, o, x, ta, tl, tc, h1, h2, h3, h4⟩ := hG.at hi
    obtain ⟨h5, h6⟩ := h4 X hX
    exact ⟨b, o, x, ta, tl, tc, h1, h2, h5, h6, h3.below hX, by have := hts x (List.mem_of_getElem? h2); have := h3.1; omega⟩
  have HLL : Hid (l.length = len ∧ gs.length = gl) := ⟨hl.1, hG.1⟩
  have HB0 : Hid (Below w.heap.size w ((w.alloc (.cells #[.int .i64 0] 3)).alloc (.cells #[.string textB, .slice (some ⟨w.heap.size, 0, none⟩) 1 1] 73))) := ((Below.refl _ w).alloc (Nat.le_refl _) _).alloc (by simp) _
  have HO0 := Hid.mk_ (names_first w)
  have hsi : (len : Int) ≤ 15 := by omega
  have hgi : (gl : Int) ≤ 16 := by omega
  clear hl hG hts
  go_enter Tryz.func66, Tryz.ntmps66
  go_wp2
  go_loopg [5, 15] (len + 1) (fun gk u v wr => ∃ (i : Nat) (g c : Nat) (xs : List GrpD), i ≤ len ∧ len < i + gk ∧ u = .slice (some ⟨g, 0, none⟩) xs.length c ∧ v = .int .i64 (i : Int) ∧ Nms w.heap.size wr (.slice (some ⟨g, 0, none⟩) xs.length c) xs ∧ xs.map plainG = (textB, [0]) :: specNames 0 (l.take i) ∧ Below w.heap.size w wr)
  case atStart => exact ⟨0, _, _, [(textB, some ⟨w.heap.size, 0, none⟩, 1, [0])], Nat.zero_le _, by omega, rfl, rfl, HO0.out, by rw [List.take_zero]; rfl, HB0.out⟩
  case round =>
    obtain ⟨i, g, c, xs, hi, hgk, rfl, rfl, hown, hnm, hB⟩ := hrel
    clear HO0 HB0
    have hxl : xs.length = i + 1 := by
      have := congrArg List.length hnm
      rw [List.length_map, List.length_cons, specNames_length, List.length_take] at this
      have := HLL.out.1
      omega
    by_cases hlt : i < len
    · obtain ⟨b, o, x, rfl, hx, c0, c1, c2, c3, c4, c5, c6⟩ := HS.out wr i hB hlt
      have hii : (i : Int) < (len : Int) := by omega
      have hi0 : (0 : Int) ≤ (i : Int) := by omega
      have hd : decide ((i : Int) < (len : Int)) = true := by simpa using hii
      obtain ⟨g', cap', W1, hrun, hown', hBW⟩ := names_type (i := i) hown (by omega) hB x
      have htk : l.take (i + 1) = l.take i ++ [x] := by rw [List.take_add_one, hx]; rfl
      have HN : Hid (Nms w.heap.size W1 (.slice (some ⟨g', 0, none⟩) (xs ++ [(x.name, some (⟨wr.heap.size + 1, 0, none⟩ : Addr), 1, [1 + (i : Int)])]).length cap') (xs ++ [(x.name, some ⟨wr.heap.size + 1, 0, none⟩, 1, [1 + (i : Int)])]) ∧ (xs ++ [(x.name, some (⟨wr.heap.size + 1, 0, none⟩ : Addr), 1, [1 + (i : Int)])]).map plainG = (textB, [0]) :: specNames 0 (l.take (i + 1)) ∧ Below w.heap.size w W1) := by
        refine ⟨by rw [List.length_append]; exact hown', ?_, hBW⟩
        rw [htk, specNames_snoc, List.map_append, hnm, List.map_singleton, List.cons_append]
        have e1 : (0 + (l.take i).length + 1 : Nat) = 1 + i := by rw [List.length_take]; have := HLL.out.1; omega
        rw [e1]
        rfl
      have HRUN := Hid.mk_ hrun
      clear hown hB hBW hown' hrun htk HS hx hnm hxl
      go_wp2_with (first
        | (at_builtin; refine wpList_run_append rfl (.tmp 20) (.tmp 27) 22 rfl _ _ _ _ rfl rfl HRUN.out ?_)
        | fail)
      go_roundg (len - i)
      case measure => omega
      case rel => exact ⟨i + 1, g', cap', _, by omega, by omega, by rw [List.length_append]; rfl, by first | rfl | go_num, HN.out⟩
    · obtain rfl : i = len := by omega
      have hd : decide ((i : Int) < (i : Int)) = false := by simp
      have HI0 : Hid (Nms w.heap.size wr (.slice (some ⟨g, 0, none⟩) xs.length c) xs ∧ xs.map plainG = (textB, [0]) :: (specNames 0 l ++ gs.take 0) ∧ Below w.heap.size w wr) := by
        rw [List.take_of_length_le (by have := HLL.out.1; omega)] at hnm
        exact ⟨hown, by rw [hnm, List.take_zero, List.append_nil], hB⟩
      clear hown hB HS hnm hgk hxl
      go_wp2
      go_loopg [5, 32] (gl + 1) (fun gk u v wr => ∃ (j : Nat) (g c : Nat) (xs : List GrpD), j ≤ gl ∧ gl < j + gk ∧ u = .slice (some ⟨g, 0, none⟩) xs.length c ∧ v = .int .i64 (j : Int) ∧ Nms w.heap.size wr (.slice (some ⟨g, 0, none⟩) xs.length c) xs ∧ xs.map plainG = (textB, [0]) :: (specNames 0 l ++ gs.take j) ∧ Below w.heap.size w wr)
      case atStart => exact ⟨0, g, c, xs, Nat.zero_le _, by omega, rfl, rfl, HI0.out⟩
      case round =>
        clear HI0
        obtain ⟨j, g, c, xs, hj, hgk, rfl, rfl, hown, hnm, hB⟩ := hrel
        have hxl : xs.length = i + 1 + j := by
          have := congrArg List.length hnm
          rw [List.length_map, List.length_cons, List.length_append, specNames_length, List.length_take] at this
          have := HLL.out.1
          have := HLL.out.2
          omega
        by_cases hlt2 : j < gl
        · obtain ⟨b, o, x, ta, tl, tc, rfl, hx, c0, c1, hti, htl⟩ := HGG.out wr j hB hlt2
          have hii : (j : Int) < (gl : Int) := by omega
          have hj0 : (0 : Int) ≤ (j : Int) := by omega
          have hd2 : decide ((j : Int) < (gl : Int)) = true := by simpa using hii
          obtain ⟨V0, hV0⟩ : ∃ V0, V0 = wr.alloc (.cells #[.string x.1, .slice ta tl tc] 73) := ⟨_, rfl⟩
          have hBV : Below wr.heap.size wr V0 := by rw [hV0]; exact (Below.refl _ wr).alloc (Nat.le_refl _) _
          have m0 : V0.heap[wr.heap.size]? = some (.cells #[.string x.1, .slice ta tl tc] 73 (0, 0)) := by rw [hV0]; exact World.alloc_heap_new wr _
          have hlt0 : wr.heap.size < V0.heap.size := (Array.getElem?_eq_some_iff.1 m0).1
          have HKS : Hid (∀ X : World, Below V0.heap.size V0 X → X.cell? ⟨wr.heap.size, 0, none⟩ = some (.string x.1) ∧ X.cell? ⟨wr.heap.size, 1, none⟩ = some (.slice ta tl tc)) := fun X hX => by
            have mX := (hX.block _ hlt0).trans m0
            have hc := fun q => cell_of_row X wr.heap.size q _ _ _ mX
            exact ⟨hc 0, hc 1⟩
          have HCL : Hid (∀ X : World, Below V0.heap.size V0 X → Calls Tryz.prog 109 #[.slice ta tl tc] X fun e w' => ∃ a1 c1, e = .returned (.slice a1 tl c1) ∧ w'.ownsRow X.heap.size 3 1 (.slice a1 tl c1) tl (intsV x.2) ∧ Below X.heap.size X w') := fun X hX => iclone_calls ta tl tc x.2 X (hti.below (hBV.trans (hX.mono hBV.size))) htl
          have HVD : Hid (Below V0.heap.size V0 V0.drew) := (Below.refl _ _).drew
          have HPUT : Hid (∀ (Y Y1 : World) (a1 : Option Addr) (c1 : Nat), Y.ownsRow V0.drew.heap.size 3 1 (.slice a1 tl c1) tl (intsV x.2) → Below V0.heap.size V0 Y → Y1 = Y.alloc (.cells #[.string x.1, .slice a1 tl c1] 73) → (Y1.cell? ⟨wr.heap.size, 0, none⟩ = some (.string x.1) ∧ Y1.cell? ⟨wr.heap.size, 1, none⟩ = some (.slice ta tl tc)) ∧ ∃ g' cap' W1, (Builtin.append_ #[22, 22] 22 #[.slice (some ⟨g, 0, none⟩) xs.length c, .slice (some ⟨Y.heap.size, 0, none⟩) 1 1]).run Tryz.prog Y1 = .ok (.slice (some ⟨g', 0, none⟩) (xs.length + 1) cap') W1 ∧ (W1.cell? ⟨wr.heap.size, 0, none⟩ = some (.string x.1) ∧ W1.cell? ⟨wr.heap.size, 1, none⟩ = some (.slice ta tl tc)) ∧ Nms w.heap.size W1 (.slice (some ⟨g', 0, none⟩) (xs ++ [(x.1, a1, c1, x.2)]).length cap') (xs ++ [(x.1, a1, c1, x.2)]) ∧ (xs ++ [(x.1, a1, c1, x.2)]).map plainG = (textB, [0]) :: (specNames 0 l ++ gs.take (j + 1)) ∧ Below w.heap.size w W1) := fun Y Y1 a1 c1 q1 q2 q3 => by
            have hgl := HLL.out
            obtain ⟨r1, g', cap', W1, r2, r3, r4, r5⟩ := names_group (ta := ta) (tc := tc) hown (by omega) hB hti.1 htl q1 (by rw [hV0] at q2; exact q2) q3
            refine ⟨r1, g', cap', W1, r2, r3, by rw [List.length_append]; exact r4, ?_, r5⟩
            rw [List.map_append, hnm, List.map_singleton, List.take_add_one, hx, List.cons_append, List.append_assoc]
            rfl
          rw [hV0] at HKS HCL HVD HPUT
          clear hown hB hnm hti htl hx m0 hlt0 hBV hV0 HGG hgi hxl
          obtain ⟨xn, xt⟩ := x
          dsimp only at *
          go_wp2_with fail
          refine wp_region_held_drew (S := fun X => X.cell? ⟨wr.heap.size, 0, none⟩ = some (.string xn) ∧ X.cell? ⟨wr.heap.size, 1, none⟩ = some (.slice ta tl tc)) hmx (HKS.out _ HVD.out) (fun hS => ?_)
          refine takeD 0 (some 36) (v := ?_) rfl rfl (by kernel_rfl) (by kernel_rfl) (by kernel_rfl) (fun _ _ _ h => h) (Or.inl ⟨by rfl, ?_⟩) hS ?_
          rotate_left
          · intro w hSw
            try go_simp
            with_reducible rfl
          try simp only [Act.put, List.setIfInBounds_toArray, List.set_cons_zero, List.set_cons_succ]
          refine takeD 1 (some 37) (v := ?_) rfl rfl (by kernel_rfl) (by kernel_rfl) (by kernel_rfl) (fun _ _ _ h => h) (Or.inl ⟨by rfl, ?_⟩) hS ?_
          rotate_left
          · intro w hSw
            go_simp
            with_reducible rfl
          try simp only [Act.put, List.setIfInBounds_toArray, List.set_cons_zero, List.set_cons_succ]
          refine takeD 2 (some 38) (v := ?_) rfl rfl (by kernel_rfl) (by kernel_rfl) (by kernel_rfl) (fun _ _ _ h => h) (Or.inl ⟨by rfl, ?_⟩) hS ?_
          rotate_left
          · intro w hSw
            obtain ⟨k0, k1⟩ := hSw
            go_simp
            with_reducible rfl
          try simp only [Act.put, List.setIfInBounds_toArray, List.set_cons_zero, List.set_cons_succ]
          refine takeD 3 (some 39) (v := ?_) rfl rfl (by kernel_rfl) (by kernel_rfl) (by kernel_rfl) (fun _ _ _ h => h) (Or.inl ⟨by rfl, ?_⟩) hS ?_
          rotate_left
          · intro w hSw
            go_simp
            with_reducible rfl
          try simp only [Act.put, List.setIfInBounds_toArray, List.set_cons_zero, List.set_cons_succ]
          refine takeD 4 (some 40) (v := ?_) rfl rfl (by kernel_rfl) (by kernel_rfl) (by kernel_rfl) (fun _ _ _ h => h) (Or.inl ⟨by rfl, ?_⟩) hS ?_
          rotate_left
          · intro w hSw
            obtain ⟨k0, k1⟩ := hSw
            go_simp
            with_reducible rfl
          try simp only [Act.put, List.setIfInBounds_toArray, List.set_cons_zero, List.set_cons_succ]
          refine callD 5 (by kernel_rfl) rfl (fun K hK => ?_)
          rw [if_pos (by rfl)]
          go_simp
          refine (HCL.out _ HVD.out).mono ?_
          rintro e Y ⟨a1, c1, rfl, hcl, bY⟩
          have HY : Hid (Y.ownsRow (wr.alloc (.cells #[.string xn, .slice ta tl tc] 73)).drew.heap.size 3 1 (.slice a1 tl c1) tl (intsV xt) ∧ Below (wr.alloc (.cells #[.string xn, .slice ta tl tc] 73)).heap.size (wr.alloc (.cells #[.string xn, .slice ta tl tc] 73)) Y) := ⟨hcl, HVD.out.trans (bY.mono HVD.out.size)⟩
          clear hcl bY
          have hS1 := HKS.out Y HY.out.2
          refine hK.out _ _ hS1 (fun _ => ?_)
          clear hK K
          try simp only [Act.put, List.setIfInBounds_toArray, List.set_cons_zero, List.set_cons_succ]
          refine takeD 6 (some 42) (v := ?_) rfl rfl (by kernel_rfl) (by kernel_rfl) (by kernel_rfl) (fun _ _ _ h => h) (Or.inl ⟨by rfl, ?_⟩) hS1 ?_
          rotate_left
          · intro w hSw
            go_simp
            with_reducible rfl
          try simp only [Act.put, List.setIfInBounds_toArray, List.set_cons_zero, List.set_cons_succ]
          refine callD 7 (by kernel_rfl) rfl (fun K hK => ?_)
          rw [if_pos (by rfl)]
          go_simp
          obtain ⟨Y1, hY1⟩ : ∃ Y1, Y.alloc (.cells #[.string xn, .slice a1 tl c1] 73) = Y1 := ⟨_, rfl⟩
          rw [hY1]
          have HP := HPUT.out Y Y1 a1 c1 HY.out.1 HY.out.2 hY1.symm
          clear hY1 HY
          obtain ⟨hS2, g2, cap2, Y2, hrun, hS3, hN⟩ := HP
          have HRUN := Hid.mk_ hrun
          have HN := Hid.mk_ hN
          clear hrun hN
          refine hK.out _ _ hS2 (fun _ => ?_)
          clear hK K
          try simp only [Act.put, List.setIfInBounds_toArray, List.set_cons_zero, List.set_cons_succ]
          refine callD 8 (by kernel_rfl) rfl (fun K hK => ?_)
          rw [if_pos (by rfl)]
          refine wp_run_append _ _ 22 rfl _ _ _ _ rfl rfl HRUN.out ?_
          refine hK.out _ _ hS3 (fun _ => ?_)
          clear hK K
          try simp only [Act.put, List.setIfInBounds_toArray]
          refine takeD 9 (some 5) (v := ?_) rfl rfl (by kernel_rfl) (by kernel_rfl) (by kernel_rfl) (fun _ _ _ h => h) (Or.inl ⟨by rfl, ?_⟩) hS3 ?_
          rotate_left
          · intro w hSw
            try go_simp
            with_reducible rfl
          try simp only [Act.put]
          refine wpAnyH_done (by kernel_rfl) ?_ _
          go_wp2
          go_roundg (gl - j)
          case measure => omega
          case rel => exact ⟨j + 1, g2, cap2, xs ++ [(xn, a1, c1, xt)], by omega, by omega, by rw [List.length_append]; rfl, by first | rfl | go_num, HN.out⟩

        · obtain rfl : j = gl := by omega
          have hd2 : decide ((j : Int) < (j : Int)) = false := by simp
          have HE : Hid (Nms w.heap.size wr (.slice (some ⟨g, 0, none⟩) xs.length c) xs ∧ xs.map plainG = namesD l gs ∧ Below w.heap.size w wr) := by
            rw [List.take_of_length_le (by have := HLL.out.2; omega)] at hnm
            exact ⟨hown, hnm, hB⟩
          clear hown hnm hB HGG hxl
          go_wp2
          go_ret
          exact ⟨g, c, xs, rfl, HE.out⟩
end Go.Proofs.YtofkiaeocfpkeaaGreatDoor

/- Rules: what schema's rules of a type answer: its marks, its numbers, that a leaf has no expression. -/
namespace Go.Proofs.YtofkiaeocfpkeaaGreatDoor
open Go.RowKit

def okM (s : SpecD) : Bool := decide (0 ≤ s.marks) && decide (s.marks ≤ 7)
def okN (s : SpecD) : Bool := decide (0 ≤ s.least) && decide (s.least ≤ s.most) && decide (s.most ≤ 15)
def okL (s : SpecD) : Bool := !s.leaf || s.expr.toList.isEmpty
set_option maxRecDepth 100000 in
set_option maxHeartbeats 400000 in
theorem hasmarks_calls (b o : Nat) (s : SpecD) (w : World) (h : SpecAt w b o s) : Calls Tryz.prog 68 #[.pointer (some ⟨b, o, none⟩)] w fun e w' => e = .returned (.bool (okM s)) ∧ Below w.heap.size w w' := by
  obtain ⟨_, _, _, c3, _, _, _⟩ := h
  have HR : Hid (Below w.heap.size w w) := Below.refl _ _
  have HD : Hid (Below w.heap.size w w.drew) := (Below.refl _ _).drew
  unfold okM
  by_cases d1 : 0 ≤ s.marks
  · by_cases d2 : s.marks ≤ 7
    · have e1 : decide (0 ≤ s.marks) = true := by simpa using d1
      have e2 : decide (s.marks ≤ 7) = true := by simpa using d2
      go_enter Tryz.func68, Tryz.ntmps68
      go_wp2
      go_ret
      exact ⟨by simp [d1, d2], HR.out⟩
    · have e1 : decide (0 ≤ s.marks) = true := by simpa using d1
      have e2 : decide (s.marks ≤ 7) = false := by simpa using d2
      go_enter Tryz.func68, Tryz.ntmps68
      go_wp2
      go_ret
      exact ⟨by simp, HR.out⟩
  · have e1 : decide (0 ≤ s.marks) = false := by simpa using d1
    go_enter Tryz.func68, Tryz.ntmps68
    go_wp2
    go_ret
    exact ⟨by simp, HR.out⟩
set_option maxRecDepth 100000 in
set_option maxHeartbeats 400000 in
theorem hasnumbers_calls (b o : Nat) (s : SpecD) (w : World) (h : SpecAt w b o s) : Calls Tryz.prog 69 #[.pointer (some ⟨b, o, none⟩)] w fun e w' => e = .returned (.bool (okN s)) ∧ Below w.heap.size w w' := by
  obtain ⟨_, _, _, _, c4, c5, _⟩ := h
  have HR : Hid (∀ X, Below w.heap.size w X → Below w.heap.size w X) := fun _ h => h
  unfold okN
  by_cases d1 : 0 ≤ s.least
  · have e1 : decide (0 ≤ s.least) = true := by simpa using d1
    by_cases d2 : s.least ≤ s.most
    · have e2 : decide (s.least ≤ s.most) = true := by simpa using d2
      by_cases d3 : s.most ≤ 15
      · have e3 : decide (s.most ≤ 15) = true := by simpa using d3
        go_enter Tryz.func69, Tryz.ntmps69
        go_wp2
        go_quiet (fail)
        go_wp2
        go_ret
        exact ⟨by simp [d1, d2, d3], ⟨rfl, rfl, rfl, Nat.le_refl _, fun _ _ => rfl⟩⟩
      · have e3 : decide (s.most ≤ 15) = false := by simpa using d3
        go_enter Tryz.func69, Tryz.ntmps69
        go_wp2
        go_quiet (fail)
        go_wp2
        go_ret
        exact ⟨by simp [d1, d2, d3], ⟨rfl, rfl, rfl, Nat.le_refl _, fun _ _ => rfl⟩⟩
    · have e2 : decide (s.least ≤ s.most) = false := by simpa using d2
      go_enter Tryz.func69, Tryz.ntmps69
      go_wp2
      go_quiet (fail)
      go_wp2
      go_ret
      exact ⟨by first | (rw [e1, e2]; rfl) | (simp; omega), ⟨rfl, rfl, rfl, Nat.le_refl _, fun _ _ => rfl⟩⟩
  · have e1 : decide (0 ≤ s.least) = false := by simpa using d1
    go_enter Tryz.func69, Tryz.ntmps69
    go_wp2
    go_quiet (fail)
    go_wp2
    go_ret
    exact ⟨by first | (rw [e1]; rfl) | (simp; omega), ⟨rfl, rfl, rfl, Nat.le_refl _, fun _ _ => rfl⟩⟩
set_option maxRecDepth 100000 in
set_option maxHeartbeats 400000 in
theorem isemptyleaf_calls (b o : Nat) (s : SpecD) (w : World) (h : SpecAt w b o s) : Calls Tryz.prog 70 #[.pointer (some ⟨b, o, none⟩)] w fun e w' => e = .returned (.bool (okL s)) ∧ Below w.heap.size w w' := by
  obtain ⟨_, c1, c2, _, _, _, _⟩ := h
  have HR : Hid (Below w.heap.size w w) := Below.refl _ _
  unfold okL
  generalize s.leaf = lf at *
  cases lf with
  | false =>
    go_enter Tryz.func70, Tryz.ntmps70
    go_wp2
    go_ret
    exact ⟨by simp, HR.out⟩
  | true =>
    by_cases d : s.expr.toList = []
    · have e : s.expr.toList.isEmpty = true := by rw [d]; rfl
      rw [e]
      go_enter Tryz.func70, Tryz.ntmps70
      go_wp2
      go_ret
      exact ⟨by simp, HR.out⟩
    · have e : s.expr.toList.isEmpty = false := List.isEmpty_eq_false_iff.2 d
      rw [e]
      go_enter Tryz.func70, Tryz.ntmps70
      go_wp2
      go_ret
      exact ⟨by simp, HR.out⟩
end Go.Proofs.YtofkiaeocfpkeaaGreatDoor

/- Every: schema's everyType with New's three rules: whether all types keep them. -/
namespace Go.Proofs.YtofkiaeocfpkeaaGreatDoor
open Go.RowKit

/-- A row of kinds in memory, as a schema reads it. -/
def KindsAt (w : World) (g : Nat) (ks : List KindD) : Prop := g < w.heap.size ∧ ∀ (i : Nat) (x : KindD), ks[i]? = some x → SpecAt w g (i * 10) x.1
theorem KindsAt.below {w w' : World} {g : Nat} {ks : List KindD} (h : KindsAt w g ks) (hB : Below w.heap.size w w') : KindsAt w' g ks :=
  ⟨Nat.lt_of_lt_of_le h.1 hB.size, fun i x hx => (h.2 i x hx).same (hB.block g h.1)⟩
theorem kinds_at {w : World} {base g n c : Nat} {ks : List KindD} (h : w.ownsRow base 115 10 (.slice (some ⟨g, 0, none⟩) n c) ks.length (flatK ks)) : KindsAt w g ks := by
  refine ⟨(owns_lt h (g := g) rfl).1, fun i x hx => ?_⟩
  have h0 : 0 < ks.length := by have := (List.getElem?_eq_some_iff.1 hx).1; omega
  obtain ⟨g', cap', e, hc⟩ := owns_cell h h0
  injection e with e1
  injection e1 with e1
  injection e1 with e1
  subst e1
  exact ⟨hc _ _ (flatK_at (j := 0) hx rfl), hc _ _ (flatK_at (j := 1) hx rfl), hc _ _ (flatK_at (j := 2) hx rfl), hc _ _ (flatK_at (j := 3) hx rfl), hc _ _ (flatK_at (j := 4) hx rfl), hc _ _ (flatK_at (j := 5) hx rfl), hc _ _ (flatK_at (j := 6) hx rfl)⟩
def okS (s : SpecD) : Bool := okM s && (okN s && okL s)
set_option maxRecDepth 100000 in
set_option maxHeartbeats 800000 in
theorem everytype_calls (B g c nn : Nat) (nv : Value) (ks : List KindD) (w : World) (hs : w.heap[B]? = some (.cells #[.slice (some ⟨g, 0, none⟩) ks.length c, nv] 120 (0, 0))) (hk : KindsAt w g ks) (hf : w.heap[nn]? = some (.cells #[.func (.func 68) #[] #[], .func (.func 69) #[] #[], .func (.func 70) #[] #[]] 125 (0, 0))) (hlen : ks.length ≤ 100) :
    Calls Tryz.prog 67 #[.pointer (some ⟨B, 0, none⟩), .slice (some ⟨nn, 0, none⟩) 3 3] w fun e w' => e = .returned (.bool ((ks.drop 1).all fun x => okS x.1)) ∧ Below w.heap.size w w' := by
  have hB0 : B < w.heap.size := (Array.getElem?_eq_some_iff.1 hs).1
  have hn0 : nn < w.heap.size := (Array.getElem?_eq_some_iff.1 hf).1
  have HC : Hid (∀ X, Below w.heap.size w X → X.cell? ⟨B, 0, none⟩ = some (.slice (some ⟨g, 0, none⟩) ks.length c) ∧ X.cell? ⟨nn, 0, none⟩ = some (.func (.func 68) #[] #[]) ∧ X.cell? ⟨nn, 1, none⟩ = some (.func (.func 69) #[] #[]) ∧ X.cell? ⟨nn, 2, none⟩ = some (.func (.func 70) #[] #[])) := fun X hX => by
    have h1 := fun j => cell_of_row X B j _ _ _ ((hX.block _ hB0).trans hs)
    have h2 := fun j => cell_of_row X nn j _ _ _ ((hX.block _ hn0).trans hf)
    exact ⟨h1 0, h2 0, h2 1, h2 2⟩
  have HK : Hid (∀ X, Below w.heap.size w X → ∀ (i : Nat) (x : KindD), ks[i]? = some x → SpecAt X g (i * 10) x.1) := fun X hX => (hk.below hX).2
  have hli : (ks.length : Int) ≤ 100 := by omega
  clear hs hk hf hB0 hn0
  go_enter Tryz.func67, Tryz.ntmps67
  go_wp2
  go_loopg [5] (ks.length + 2) (fun gk v wr => ∃ i : Nat, 1 ≤ i ∧ ks.length + 1 < i + gk ∧ (i ≤ ks.length ∨ i = 1) ∧ v = .int .i64 (i : Int) ∧ (∀ (j : Nat) (x : KindD), 1 ≤ j → j < i → ks[j]? = some x → okS x.1 = true) ∧ Below w.heap.size w wr)
  case atStart => exact ⟨1, by omega, by omega, .inr rfl, rfl, fun j x h1 h2 => by omega, Below.refl _ _⟩
  case round =>
    obtain ⟨i, hi1, hgk, hi2, rfl, hT, hB⟩ := hrel
    obtain ⟨c0, f0, f1, f2⟩ := HC.out wr hB
    by_cases hlt : i < ks.length
    · obtain ⟨x, hx⟩ : ∃ x, ks[i]? = some x := ⟨_, List.getElem?_eq_getElem hlt⟩
      have hii : (i : Int) < (ks.length : Int) := by omega
      have hi0 : (0 : Int) ≤ (i : Int) := by omega
      have hdi : decide ((i : Int) < (ks.length : Int)) = true := by simpa using hii
      have HSP : Hid (∀ X, Below w.heap.size w X → SpecAt X g (i * 10) x.1) := fun X hX => HK.out X hX i x hx
      have HB : Hid (ks[i]? = some x ∧ (∀ (j : Nat) (x : KindD), 1 ≤ j → j < i → ks[j]? = some x → okS x.1 = true) ∧ Below w.heap.size w wr) := ⟨hx, hT, hB⟩
      have HM1 := hasmarks_calls g (i * 10) x.1 wr (HSP.out wr hB)
      clear hT hB hx HK
      go_wp2
      clear HM1 c0 f0 f1 f2
      go_loopg [19] 4 (fun gk v wr => ∃ j : Nat, j ≤ 3 ∧ 3 < j + gk ∧ v = .int .i64 (j : Int) ∧ (1 ≤ j → okM x.1 = true) ∧ (2 ≤ j → okN x.1 = true) ∧ (3 ≤ j → okL x.1 = true) ∧ Below w.heap.size w wr)
      case atStart => exact ⟨0, by omega, by omega, rfl, fun h => by omega, fun h => by omega, fun h => by omega, HB.out.2.2⟩
      case round =>
        obtain ⟨j, hj, hgk2, rfl, t1, t2, t3, hBr⟩ := hrel
        obtain rfl | rfl | rfl | rfl : j = 0 ∨ j = 1 ∨ j = 2 ∨ j = 3 := by omega
        · have HM := hasmarks_calls g (i * 10) x.1 wr (HSP.out wr hBr)
          obtain ⟨c0, f0, f1, f2⟩ := HC.out wr hBr
          have HBr : Hid (Below w.heap.size w wr ∧ (1 ≤ 0 → okM x.1 = true) ∧ (2 ≤ 0 → okN x.1 = true) ∧ (3 ≤ 0 → okL x.1 = true)) := ⟨hBr, t1, t2, t3⟩
          obtain ⟨r, hr⟩ : ∃ r, okM x.1 = r := ⟨_, rfl⟩
          rw [hr] at HM
          have HR : Hid (okM x.1 = r) := hr
          clear hBr t1 t2 t3 hr
          go_wp2_with fail
          refine HM.mono ?_
          rintro e W1 ⟨rfl, hB1⟩
          have HB1 : Hid (Below w.heap.size w W1) := HBr.out.1.trans (hB1.mono HBr.out.1.size)
          clear hB1 HM
          cases r with
          | true =>
            go_wp2
            go_roundg (3 - 0)
            case measure => omega
            case rel => exact ⟨0 + 1, by omega, by omega, by first | rfl | go_num, fun _ => HR.out, fun h => HBr.out.2.2.1 (by omega), fun h => HBr.out.2.2.2 (by omega), HB1.out⟩
          | false =>
            have HF : Hid (((ks.drop 1).all fun x => okS x.1) = false) := by
              refine List.all_eq_false.2 ⟨x, List.mem_of_getElem? (i := i - 1) (by rw [List.getElem?_drop, show 1 + (i - 1) = i by omega]; exact HB.out.1), ?_⟩
              have hr := HR.out
              unfold okS
              rw [hr]
              simp
            go_wp2
            go_ret
            exact ⟨by rw [HF.out]; rfl, HB1.out⟩
        · have HM := hasnumbers_calls g (i * 10) x.1 wr (HSP.out wr hBr)
          obtain ⟨c0, f0, f1, f2⟩ := HC.out wr hBr
          have HBr : Hid (Below w.heap.size w wr ∧ (1 ≤ 1 → okM x.1 = true) ∧ (2 ≤ 1 → okN x.1 = true) ∧ (3 ≤ 1 → okL x.1 = true)) := ⟨hBr, t1, t2, t3⟩
          obtain ⟨r, hr⟩ : ∃ r, okN x.1 = r := ⟨_, rfl⟩
          rw [hr] at HM
          have HR : Hid (okN x.1 = r) := hr
          clear hBr t1 t2 t3 hr
          go_wp2_with fail
          refine HM.mono ?_
          rintro e W1 ⟨rfl, hB1⟩
          have HB1 : Hid (Below w.heap.size w W1) := HBr.out.1.trans (hB1.mono HBr.out.1.size)
          clear hB1 HM
          cases r with
          | true =>
            go_wp2
            go_roundg (3 - 1)
            case measure => omega
            case rel => exact ⟨1 + 1, by omega, by omega, by first | rfl | go_num, fun h => HBr.out.2.1 (by omega), fun _ => HR.out, fun h => HBr.out.2.2.2 (by omega), HB1.out⟩
          | false =>
            have HF : Hid (((ks.drop 1).all fun x => okS x.1) = false) := by
              refine List.all_eq_false.2 ⟨x, List.mem_of_getElem? (i := i - 1) (by rw [List.getElem?_drop, show 1 + (i - 1) = i by omega]; exact HB.out.1), ?_⟩
              have hr := HR.out
              unfold okS
              rw [hr]
              simp
            go_wp2
            go_ret
            exact ⟨by rw [HF.out]; rfl, HB1.out⟩
        · have HM := isemptyleaf_calls g (i * 10) x.1 wr (HSP.out wr hBr)
          obtain ⟨c0, f0, f1, f2⟩ := HC.out wr hBr
          have HBr : Hid (Below w.heap.size w wr ∧ (1 ≤ 2 → okM x.1 = true) ∧ (2 ≤ 2 → okN x.1 = true) ∧ (3 ≤ 2 → okL x.1 = true)) := ⟨hBr, t1, t2, t3⟩
          obtain ⟨r, hr⟩ : ∃ r, okL x.1 = r := ⟨_, rfl⟩
          rw [hr] at HM
          have HR : Hid (okL x.1 = r) := hr
          clear hBr t1 t2 t3 hr
          go_wp2_with fail
          refine HM.mono ?_
          rintro e W1 ⟨rfl, hB1⟩
          have HB1 : Hid (Below w.heap.size w W1) := HBr.out.1.trans (hB1.mono HBr.out.1.size)
          clear hB1 HM
          cases r with
          | true =>
            go_wp2
            go_roundg (3 - 2)
            case measure => omega
            case rel => exact ⟨2 + 1, by omega, by omega, by first | rfl | go_num, fun h => HBr.out.2.1 (by omega), fun h => HBr.out.2.2.1 (by omega), fun _ => HR.out, HB1.out⟩
          | false =>
            have HF : Hid (((ks.drop 1).all fun x => okS x.1) = false) := by
              refine List.all_eq_false.2 ⟨x, List.mem_of_getElem? (i := i - 1) (by rw [List.getElem?_drop, show 1 + (i - 1) = i by omega]; exact HB.out.1), ?_⟩
              have hr := HR.out
              unfold okS
              rw [hr]
              simp
            go_wp2
            go_ret
            exact ⟨by rw [HF.out]; rfl, HB1.out⟩
        · have HN : Hid ((∀ (j : Nat) (x : KindD), 1 ≤ j → j < i + 1 → ks[j]? = some x → okS x.1 = true) ∧ Below w.heap.size w wr) := by
            refine ⟨fun q y h1 h2 hy => ?_, hBr⟩
            by_cases e : q = i
            · subst e
              rw [HB.out.1] at hy
              cases hy
              unfold okS
              rw [t1 (by omega), t2 (by omega), t3 (by omega)]
              rfl
            · exact HB.out.2.1 q y h1 (by omega) hy
          clear hBr t1 t2 t3
          go_wp2
          go_roundg (ks.length + 1 - i)
          case measure => omega
          case rel => exact ⟨i + 1, by omega, by omega, .inl (by omega), by first | rfl | go_num, HN.out⟩
    · have hdi : decide ((i : Int) < (ks.length : Int)) = false := by simp; omega
      have HE : Hid (((ks.drop 1).all fun x => okS x.1) = true ∧ Below w.heap.size w wr) := ⟨by
        rw [List.all_eq_true]
        intro x hx
        obtain ⟨j, hj⟩ := List.getElem?_of_mem hx
        rw [List.getElem?_drop] at hj
        exact hT (1 + j) x (by omega) (by have := (List.getElem?_eq_some_iff.1 hj).1; omega) hj, hB⟩
      clear hT hB HK HC
      go_wp2
      go_ret
      exact ⟨by rw [HE.out.1]; rfl, HE.out.2⟩
end Go.Proofs.YtofkiaeocfpkeaaGreatDoor

/- Types6: reg's types at every walk: what the places that fit would take; nothing that lay before is turned. -/
namespace Go.Proofs.YtofkiaeocfpkeaaGreatDoor
open Go.RowKit Go.Maps

/-- What the places of S that fit would take, of those that are no more left: its bits. -/
def TakenBy (F : List Place) (S : Nat → Bool) (ok : Nat → Bool) (left : Lit → Bool) (j : Nat) : Prop := ∃ (p : Nat) (x : Place), S p = true ∧ left (.int .i64 (p : Int)) = false ∧ F[p]? = some x ∧ ok x.2.2 = true ∧ x.1.testBit j = true
/-- How far the walk over the set is. -/
structure TypI (F : List Place) (N : Nat) (S : Nat → Bool) (ok : Nat → Bool) (bh : Nat) (W1 wr : World) (D : DataW Unit) (left : Lit → Bool) (cnt acc : Nat) : Prop where
  rg : wr.ranges Tryz.prog 3 unitElem bh W1.heap.size N D left cnt
  sub : ∀ kl, left kl = true → ∃ p : Nat, kl = .int .i64 (p : Int) ∧ S p = true
  iff : ∀ j, acc.testBit j = true ↔ TakenBy F S ok left j
  lt : acc < 65536
  bel : Below W1.heap.size W1 wr
theorem TypI.on {F : List Place} {N : Nat} {S ok : Nat → Bool} {bh : Nat} {W1 wr : World} {D : DataW Unit} {left : Lit → Bool} {cnt acc : Nat} (h : TypI F N S ok bh W1 wr D left cnt acc) {p : Nat} {x : Place} (hp : S p = true) (hx : F[p]? = some x) (hm : x.1 < 65536) {w1 w2 : World} {cnt1 : Nat} (hg1 : wr.grownBy w1 (some W1.heap.size)) (hrg : w1.ranges Tryz.prog 3 unitElem bh W1.heap.size N D (fun z => left z && !z.sameKey (.int .i64 (p : Int))) cnt1) (hg2 : w1.grownBy w2 none) :
    TypI F N S ok bh W1 w2 D (fun z => left z && !z.sameKey (.int .i64 (p : Int))) cnt1 (if ok x.2.2 = true then acc ||| x.1 else acc) := by
  have hkey : WideAt.IsKeyLit (.int .i64 (p : Int)) := by trivial
  have hsame : ∀ z : Lit, z.sameKey (.int .i64 (p : Int)) = true ↔ z = .int .i64 (p : Int) := fun z => ⟨fun e => WideAt.sameKey_eq e, fun e => by rw [e]; exact WideAt.sameKey_self hkey⟩
  have hleft : ∀ q : Nat, (left (.int .i64 (q : Int)) && !(Lit.int .i64 (q : Int)).sameKey (.int .i64 (p : Int))) = false ↔ (left (.int .i64 (q : Int)) = false ∨ q = p) := fun q => by
    rw [Bool.and_eq_false_iff, Bool.not_eq_false', hsame]
    constructor
    · rintro (e | e)
      · exact .inl e
      · right
        have : (q : Int) = (p : Int) := by injection e
        omega
    · rintro (e | e)
      · exact .inl e
      · exact .inr (by rw [e])
  have hT : ∀ j, TakenBy F S ok (fun z => left z && !z.sameKey (.int .i64 (p : Int))) j ↔ (TakenBy F S ok left j ∨ (ok x.2.2 = true ∧ x.1.testBit j = true)) := fun j => by
    constructor
    · rintro ⟨q, y, h1, h2, h3, h4, h5⟩
      rcases (hleft q).1 h2 with e | e
      · exact .inl ⟨q, y, h1, e, h3, h4, h5⟩
      · subst e
        rw [hx] at h3
        cases h3
        exact .inr ⟨h4, h5⟩
    · rintro (⟨q, y, h1, h2, h3, h4, h5⟩ | ⟨h4, h5⟩)
      · exact ⟨q, y, h1, (hleft q).2 (.inl h2), h3, h4, h5⟩
      · exact ⟨p, x, hp, (hleft p).2 (.inr rfl), hx, h4, h5⟩
  refine ⟨hrg.kept hg2 (by simp) (by simp), fun kl hk => h.sub kl (by rw [Bool.and_eq_true] at hk; exact hk.1), fun j => ?_, ?_, ?_⟩
  · rw [hT, ← h.iff]
    split
    · rename_i e
      rw [Nat.testBit_or, Bool.or_eq_true]
      exact ⟨fun q => q.imp_right fun r => ⟨e, r⟩, fun q => q.imp_right fun r => r.2⟩
    · rename_i e
      exact ⟨.inl, fun q => q.elim id fun r => absurd r.1 e⟩
  · split
    · exact Nat.or_lt_two_pow (n := 16) h.lt hm
    · exact h.lt
  · exact (h.bel.grown hg1 h.bel.size (fun k e => by cases e; exact Nat.le_refl _)).grown hg2 (Nat.le_trans h.bel.size hg1.size) (fun k e => by cases e)
end Go.Proofs.YtofkiaeocfpkeaaGreatDoor

/- Bits6: the lowest bit of a number of sixteen bits, and the list of its bits. -/
namespace Go.Proofs.YtofkiaeocfpkeaaGreatDoor
open Go.RowKit

/-- A number that is not 0: its lowest bit. -/
theorem low_bit : ∀ (b m : Nat), m ≤ b → m ≠ 0 → ∃ k q, m = 2 ^ k * (2 * q + 1) := by
  intro b
  induction b with
  | zero => intro m h1 h2; omega
  | succ b ih =>
    intro m h1 h2
    rcases Nat.mod_two_eq_zero_or_one m with h | h
    · obtain ⟨k, q, e⟩ := ih (m / 2) (by omega) (by omega)
      refine ⟨k + 1, q, ?_⟩
      have : m = 2 * (m / 2) := by omega
      rw [this, e, Nat.pow_succ, Nat.mul_comm (2 ^ k) 2, Nat.mul_assoc]
    · exact ⟨0, m / 2, by omega⟩
theorem bit_odd (q i : Nat) : (2 * q + 1).testBit i = (decide (i = 0) || (2 * q).testBit i) := by
  cases i with
  | zero => simp
  | succ i =>
    rw [Nat.testBit_succ, Nat.testBit_succ, show (2 * q + 1) / 2 = q by omega, show 2 * q / 2 = q by omega]
    simp
theorem bit_even (q : Nat) : (2 * q).testBit 0 = false := by simp
theorem low_test (k q j : Nat) : (2 ^ k * (2 * q + 1)).testBit j = (decide (k ≤ j) && (2 * q + 1).testBit (j - k)) := by
  rw [Nat.mul_comm, Nat.testBit_mul_two_pow]
theorem less_one (k q : Nat) : 2 ^ k * (2 * q + 1) - 1 = 2 ^ k * (2 * q) + (2 ^ k - 1) := by
  have : 0 < 2 ^ k := Nat.two_pow_pos k
  rw [Nat.mul_add]
  omega
/-- With one less, and both: the lowest bit is struck. -/
theorem struck (k q j : Nat) : ((2 ^ k * (2 * q + 1)) &&& (2 ^ k * (2 * q + 1) - 1)).testBit j = ((2 ^ k * (2 * q + 1)).testBit j && !decide (j = k)) := by
  have hp : 0 < 2 ^ k := Nat.two_pow_pos k
  rw [Nat.testBit_and, low_test, less_one, Nat.testBit_two_pow_mul_add _ (by omega)]
  by_cases h : j < k
  · have h1 : decide (k ≤ j) = false := by simp; omega
    rw [h1]; simp
  · have h1 : decide (k ≤ j) = true := by simp; omega
    rw [if_neg h, h1, bit_odd]
    by_cases h2 : j = k
    · subst h2
      simp
    · have h3 : ¬ j - k = 0 := by omega
      simp [h2, h3]
theorem low_is (k q : Nat) : (2 ^ k * (2 * q + 1)).testBit k = true := by rw [low_test, bit_odd]; simp
theorem low_none (k q j : Nat) (h : j < k) : (2 ^ k * (2 * q + 1)).testBit j = false := by
  rw [low_test]
  have : decide (k ≤ j) = false := by simp; omega
  rw [this]; rfl
end Go.Proofs.YtofkiaeocfpkeaaGreatDoor

/- Tz6: bits.TrailingZeros16 at every number of sixteen bits that is not 0: its lowest bit; memory stays. -/
namespace Go.Proofs.YtofkiaeocfpkeaaGreatDoor
open Go.RowKit

theorem low_and (k q : Nat) (h : 2 ^ k * (2 * q + 1) < 65536) : (2 ^ k * (2 * q + 1)) &&& (65536 - 2 ^ k * (2 * q + 1)) = 2 ^ k := by
  have hk : k < 16 := by
    rcases Nat.lt_or_ge k 16 with e | e
    · exact e
    · have h1 : 2 ^ 16 ≤ 2 ^ k := Nat.pow_le_pow_right (by decide) e
      have h2 : 2 ^ k * 1 ≤ 2 ^ k * (2 * q + 1) := Nat.mul_le_mul_left _ (by omega)
      omega
  have hp : 2 ^ k * 2 ^ (16 - k) = 65536 := by rw [← Nat.pow_add, show k + (16 - k) = 16 by omega]
  have hq : 2 * q < 2 ^ (16 - k) := by
    have : 2 ^ k * (2 * q + 1) < 2 ^ k * 2 ^ (16 - k) := by rw [hp]; exact h
    have := Nat.lt_of_mul_lt_mul_left this
    omega
  have e : 65536 - 2 ^ k * (2 * q + 1) = 2 ^ k * (2 ^ (16 - k) - (2 * q + 1)) := by rw [Nat.mul_sub, hp]
  apply Nat.eq_of_testBit_eq
  intro j
  rw [Nat.testBit_and, low_test, e, Nat.mul_comm (2 ^ k) (2 ^ (16 - k) - (2 * q + 1)), Nat.testBit_mul_two_pow, Nat.testBit_two_pow_sub_succ hq, bit_odd, Nat.testBit_two_pow]
  by_cases hj : k ≤ j
  · by_cases h0 : j - k = 0
    · have : k = j := by omega
      subst this
      simp
      omega
    · have h1 : ¬ k = j := by omega
      cases hb : (2 * q).testBit (j - k) <;> simp [h0, h1]
  · have h1 : ¬ k = j := by omega
    simp [hj, h1]
/-- The table that the program's variable holds. -/
def tabL : List Int := [0, 1, 28, 2, 29, 14, 24, 3, 30, 22, 20, 15, 25, 17, 4, 8, 31, 27, 13, 23, 21, 19, 16, 7, 26, 12, 18, 6, 11, 5, 10, 9]
def Tab (w : World) : Prop := ∀ i x, tabL[i]? = some x → w.cell? ⟨0, i, none⟩ = some (.int .u8 x)
theorem Tab.below {b : Nat} {w w' : World} (h : Tab w) (hb : Below b w w') (h0 : 0 < b) : Tab w' := fun i x hx => (hb.cell (p := ⟨0, i, none⟩) h0).trans (h i x hx)
set_option maxRecDepth 100000 in
set_option maxHeartbeats 4000000 in
theorem tz_calls (k q : Nat) (w : World) (h : 2 ^ k * (2 * q + 1) < 65536) (hT : Tab w) :
    Calls Tryz.prog 39 #[.int .u16 ((2 ^ k * (2 * q + 1) : Nat) : Int)] w fun e w' => e = .returned (.int .i64 (k : Int)) ∧ w' = w := by
  have hla := low_and k q h
  have hpos : 0 < 2 ^ k * (2 * q + 1) := Nat.mul_pos (Nat.two_pow_pos k) (by omega)
  obtain ⟨m, hm⟩ : ∃ m, m = 2 ^ k * (2 * q + 1) := ⟨_, rfl⟩
  rw [← hm] at h hla hpos ⊢
  have hne : ((m : Int) == 0) = false := by rw [beq_eq_false_iff_ne]; omega
  have hk : k < 16 := by
    rcases Nat.lt_or_ge k 16 with e | e
    · exact e
    · have h1 : 2 ^ 16 ≤ 2 ^ k := Nat.pow_le_pow_right (by decide) e
      have h2 : m &&& 65536 - m ≤ m := Nat.and_le_left
      omega
  have hw : IntKind.u16.wrap (-(m : Int)) = ((65536 - m : Nat) : Int) := by
    show (-(m : Int)) % 65536 = _
    omega
  have hb : bits .and .u16 (m : Int) (IntKind.u16.wrap (-(m : Int))) = ((2 ^ k : Nat) : Int) := by
    rw [hw, u16_and_nat m (65536 - m) h (by omega), hla]
  have key : ∀ k : Fin 16, 0 ≤ ((2 ^ k.val : Nat) : Int) % 4294967296 * 125613361 % 4294967296 / 134217728 ∧ ((2 ^ k.val : Nat) : Int) % 4294967296 * 125613361 % 4294967296 / 134217728 < 32 ∧ tabL[(((2 ^ k.val : Nat) : Int) % 4294967296 * 125613361 % 4294967296 / 134217728).toNat]? = some (k.val : Int) := by decide +kernel
  obtain ⟨k1, k2, k3⟩ := key ⟨k, hk⟩
  have hc := hT _ _ k3
  rw [← hb] at k1 k2 hc
  have hki : (k : Int) < 16 := by omega
  clear hm k3 key hla hw hb hT hpos
  go_enter Tryz.func39, Tryz.ntmps39
  go_wp2
  go_ret
  exact ⟨rfl, rfl⟩
end Go.Proofs.YtofkiaeocfpkeaaGreatDoor

/- Listed6: reg's listed at every set: its types, rising; nothing that lay before is turned. -/
namespace Go.Proofs.YtofkiaeocfpkeaaGreatDoor
open Go.RowKit

/-- How far the list is: of m the bits of r are left. -/
structure ListI (m r : Nat) (xs : List Int) : Prop where
  lt : r < 65536
  mem : ∀ j : Nat, m.testBit j = true ↔ (r.testBit j = true ∨ (j : Int) ∈ xs)
  nat : ∀ x ∈ xs, ∃ j : Nat, x = (j : Int)
  rise : xs.Pairwise (· < ·)
  low : ∀ x ∈ xs, ∀ j : Nat, r.testBit j = true → x < (j : Int)
  few : ∀ j : Nat, r.testBit j = true → xs.length ≤ j
theorem bit_small {m j : Nat} (h : m < 65536) (hj : m.testBit j = true) : j < 16 := by
  rcases Nat.lt_or_ge j 16 with e | e
  · exact e
  · have : m < 2 ^ j := Nat.lt_of_lt_of_le h (Nat.pow_le_pow_right (n := 2) (by decide) e)
    rw [Nat.testBit_lt_two_pow this] at hj
    cases hj
theorem ListI.on {m k q : Nat} {xs : List Int} (h : ListI m (2 ^ k * (2 * q + 1)) xs) : ListI m ((2 ^ k * (2 * q + 1)) &&& (2 ^ k * (2 * q + 1) - 1)) (xs ++ [(k : Int)]) ∧ xs.length < 16 := by
  have hk := low_is k q
  have hb : ∀ j, ((2 ^ k * (2 * q + 1)) &&& (2 ^ k * (2 * q + 1) - 1)).testBit j = true ↔ ((2 ^ k * (2 * q + 1)).testBit j = true ∧ j ≠ k) := fun j => by
    rw [struck, Bool.and_eq_true, Bool.not_eq_true', decide_eq_false_iff_not]
  have hgt : ∀ j, ((2 ^ k * (2 * q + 1)) &&& (2 ^ k * (2 * q + 1) - 1)).testBit j = true → k < j := fun j hj => by
    obtain ⟨h1, h2⟩ := (hb j).1 hj
    rcases Nat.lt_or_ge j k with e | e
    · rw [low_none k q j e] at h1
      cases h1
    · omega
  refine ⟨⟨Nat.lt_of_le_of_lt Nat.and_le_left h.lt, fun j => ?_, fun x hx => ?_, ?_, fun x hx j hj => ?_, fun j hj => ?_⟩, ?_⟩
  · rw [h.mem, hb, List.mem_append, List.mem_singleton]
    constructor
    · rintro (e | e)
      · by_cases hjk : j = k
        · exact .inr (.inr (by rw [hjk]))
        · exact .inl ⟨e, hjk⟩
      · exact .inr (.inl e)
    · rintro (⟨e, _⟩ | e | e)
      · exact .inl e
      · exact .inr e
      · have : j = k := by omega
        rw [this]
        exact .inl hk
  · rcases List.mem_append.1 hx with e | e
    · exact h.nat x e
    · exact ⟨k, List.mem_singleton.1 e⟩
  · rw [List.pairwise_append]
    refine ⟨h.rise, List.pairwise_singleton _ _, fun x hx y hy => ?_⟩
    rw [List.mem_singleton.1 hy]
    exact h.low x hx k hk
  · have := hgt j hj
    rcases List.mem_append.1 hx with e | e
    · exact h.low x e j ((hb j).1 hj).1
    · rw [List.mem_singleton.1 e]
      omega
  · have h1 := hgt j hj
    have h2 := h.few k hk
    rw [List.length_append, List.length_singleton]
    omega
  · have h1 := h.few k hk
    have h2 := bit_small h.lt hk
    omega
theorem ListI.start {m : Nat} (h : m < 65536) : ListI m m [] := ⟨h, fun j => (by simp), fun x hx => (by cases hx), List.Pairwise.nil, fun x hx => (by cases hx), fun j _ => Nat.zero_le _⟩
end Go.Proofs.YtofkiaeocfpkeaaGreatDoor

/- Nexts6: reg's Begins and Nexts at every right tree, all groups and every word; nothing that lay before is turned. -/
namespace Go.Proofs.YtofkiaeocfpkeaaGreatDoor
open Go.RowKit

/-- The word leads somewhere. -/
def PreD (gs : List Grp) (n : Nat) (t : DataW Unit) (zs : List Int) : Prop := ∃ q, afterS (planF gs n t) (startS (planF gs n t) (firstF gs n t)) zs q
/-- How long the longest beginning is that leads somewhere. -/
def LongD (gs : List Grp) (n : Nat) (t : DataW Unit) (zs : List Int) (i : Nat) : Prop := i ≤ zs.length ∧ PreD gs n t (zs.take i) ∧ (i < zs.length → ¬ PreD gs n t (zs.take (i + 1)))
theorem pre_less {gs : List Grp} {n : Nat} {t : DataW Unit} {xs ys : List Int} (h : PreD gs n t (xs ++ ys)) : PreD gs n t xs := by
  unfold PreD at h ⊢
  obtain ⟨q, hq⟩ := h
  apply Classical.byContradiction
  intro hn
  have : ∀ p, ¬ afterS (planF gs n t) (startS (planF gs n t) (firstF gs n t)) xs p := fun p hp => hn ⟨p, hp⟩
  have h2 := afterS_empty (F := planF gs n t) this ys q
  unfold afterS at hq h2
  rw [List.foldl_append] at hq
  exact h2 hq
theorem long_all {gs : List Grp} {n : Nat} {t : DataW Unit} {zs : List Int} {i : Nat} (h : LongD gs n t zs i) (hp : PreD gs n t zs) : i = zs.length := by
  obtain ⟨h1, _, h3⟩ := h
  rcases Nat.lt_or_ge i zs.length with e | e
  · refine absurd ?_ (h3 e)
    rw [← List.take_append_drop (i + 1) zs] at hp
    exact pre_less hp
  · omega
theorem long_of {gs : List Grp} {n : Nat} {t : DataW Unit} {zs : List Int} {i : Nat} (h : LongD gs n t zs i) (hp : i = zs.length) : PreD gs n t zs := by
  have := h.2.1
  rwa [hp, List.take_of_length_le (Nat.le_refl _)] at this
set_option maxRecDepth 100000 in
set_option maxHeartbeats 1000000 in
theorem begins_calls (n : Nat) (t : DataW Unit) (v : Value) (ga : Option Addr) (gl gc : Nat) (gs : List Grp) (za : Option Addr) (zl zc : Nat) (zs : List Int) (w : World) (h : Ex w n t v) (hN : named n t) (hG : Groups w ga gl gs) (hZ : Ints w za zl zs) (hc : chk n t gs = 0) :
    Calls Tryz.prog 167 #[v, .slice ga gl gc, .slice za zl zc] w fun e w' => ∃ i : Nat, e = .returned (.int .i64 (i : Int)) ∧ LongD gs n t zs i ∧ Below w.heap.size w w' := by
  have hb0 : ∀ o, Below w.heap.size w (w.alloc o) := fun o => (Below.refl _ w).alloc (Nat.le_refl _) _
  have HW : Hid (∀ o, Calls Tryz.prog 37 #[v, .slice ga gl gc, .slice za zl zc] (w.alloc o) fun e w' => ∃ (Bw : Nat) (i : Nat), e = .returned (.tuple #[.pointer (some ⟨Bw, 0, none⟩), .int .i64 (i : Int)]) ∧ LongD gs n t zs i ∧ Below w.heap.size w w') := fun o => by
    refine (walked_calls n t v ga gl gc gs za zl zc zs (w.alloc o) (Ex.below (hb0 o) _ _ _ h) hN (hG.below (hb0 o)) (hZ.below (hb0 o)) hc).mono ?_
    rintro e W ⟨Bw, S, i, rfl, _, ⟨r1, r2, r3⟩, hB⟩
    refine ⟨Bw, i, rfl, ⟨r1, r2, fun hi hp => ?_⟩, (hb0 o).trans (hB.mono (by simp))⟩
    rcases r3 with ⟨e, _⟩ | ⟨_, _, e⟩
    · omega
    · obtain ⟨q, hq⟩ := hp
      exact e q hq
  obtain ⟨k, s, a, len, cap, rfl⟩ : ∃ k s a len cap, v = .agg #[.int .i64 k, .string s, .slice a len cap] := by
    cases n with
    | zero => exact h.elim
    | succ n => obtain ⟨k, s, a, len, cap, ts, _, rfl, _⟩ := h; exact ⟨k, s, a, len, cap, rfl⟩
  clear h hN hG hZ hc hb0
  go_enter Tryz.func167, Tryz.ntmps167
  go_wp2_with fail
  refine (HW.out _).mono ?_
  rintro e W ⟨Bw, i, rfl, hL, hB⟩
  have HE : Hid (LongD gs n t zs i ∧ Below w.heap.size w W) := ⟨hL, hB⟩
  clear hL hB HW
  go_wp2
  go_ret
  exact ⟨i, rfl, HE.out⟩
theorem takes_bit {m : Nat} (hm : m < 65536) (x : Int) : takes m x = true ↔ ∃ j : Nat, x = (j : Int) ∧ m.testBit j = true := by
  have htk : takes m x = (isTy x && m.testBit x.toNat) := by unfold takes isTy; rfl
  rw [htk, Bool.and_eq_true]
  constructor
  · rintro ⟨h1, h2⟩
    refine ⟨x.toNat, ?_, h2⟩
    unfold isTy at h1
    simp at h1
    omega
  · rintro ⟨j, rfl, hj⟩
    have := bit_small hm hj
    refine ⟨by unfold isTy; simp; omega, by simpa using hj⟩
/-- What a set of places takes on leads somewhere. -/
theorem pre_snoc {gs : List Grp} {n : Nat} {t : DataW Unit} {zs : List Int} {S : Nat → Bool} (hF : Sound1 (planF gs n t) (planF gs n t).length) (hS : ∀ q, S q = true ↔ afterS (planF gs n t) (startS (planF gs n t) (firstF gs n t)) zs q) (x : Int) :
    PreD gs n t (zs ++ [x]) ↔ ∃ j : Nat, x = (j : Int) ∧ ∃ (p : Nat) (y : Place), S p = true ∧ (planF gs n t)[p]? = some y ∧ y.1.testBit j = true := by
  unfold PreD
  rw [afterS_snoc]
  constructor
  · rintro ⟨q, a, y, r, k, h1, h2, h3, h4, h5⟩
    obtain ⟨j, rfl, hj⟩ := (takes_bit (hF.mask a y h2) x).1 h3
    exact ⟨j, rfl, a, y, (hS a).2 h1, h2, hj⟩
  · rintro ⟨j, rfl, p, y, h1, h2, h3⟩
    have h0 : y.1 ≠ 0 := fun e => by rw [e] at h3; simp at h3
    obtain ⟨q, e, _⟩ := hF.step h2 h0
    exact ⟨q, p, y, q, 0, (hS p).1 h1, h2, (takes_bit (hF.mask p y h2) _).2 ⟨j, rfl, h3⟩, by rw [e]; rfl, rfl⟩
end Go.Proofs.YtofkiaeocfpkeaaGreatDoor
