/-
  PROVED HERE: the document's own fill of an act by the words behind its word.
-/
import Derived.Test.YtmkcdkfjomaidaaDoorRPut
import Derived.Test.YtmkcdkfjomaidaaDoorRNumber
import Derived.Test.YtmkcdkfjomaidaaDoorRWords
import Derived.Deep.RegionWith
namespace Go.Proofs.YtmkcdkfjomaidaaDoor
open Go.RowKit

theorem seven_set (W : World) (b : Nat) (t : TypeId) (x0 x1 x2 x3 x4 x5 x6 y0 y1 y2 y3 y4 y5 y6 : Value) (h : W.heap[b]? = some (.cells #[x0, x1, x2, x3, x4, x5, x6] t (0, 0))) :
    (((((((W.setCell ⟨b, 0, none⟩ y0).setCell ⟨b, 1, none⟩ y1).setCell ⟨b, 2, none⟩ y2).setCell ⟨b, 3, none⟩ y3).setCell ⟨b, 4, none⟩ y4).setCell ⟨b, 5, none⟩ y5).setCell ⟨b, 6, none⟩ y6).heap[b]? = some (.cells #[y0, y1, y2, y3, y4, y5, y6] t (0, 0)) := by
  have h0 := heap_setCell_row _ b 0 _ t y0 h
  simp only [List.setIfInBounds_toArray, List.set_cons_zero] at h0
  have h1 := heap_setCell_row _ b 1 _ t y1 h0
  simp only [List.setIfInBounds_toArray, List.set_cons_zero, List.set_cons_succ] at h1
  have h2 := heap_setCell_row _ b 2 _ t y2 h1
  simp only [List.setIfInBounds_toArray, List.set_cons_zero, List.set_cons_succ] at h2
  have h3 := heap_setCell_row _ b 3 _ t y3 h2
  simp only [List.setIfInBounds_toArray, List.set_cons_zero, List.set_cons_succ] at h3
  have h4 := heap_setCell_row _ b 4 _ t y4 h3
  simp only [List.setIfInBounds_toArray, List.set_cons_zero, List.set_cons_succ] at h4
  have h5 := heap_setCell_row _ b 5 _ t y5 h4
  simp only [List.setIfInBounds_toArray, List.set_cons_zero, List.set_cons_succ] at h5
  have h6 := heap_setCell_row _ b 6 _ t y6 h5
  simp only [List.setIfInBounds_toArray, List.set_cons_zero, List.set_cons_succ] at h6
  exact h6

set_option maxRecDepth 100000 in
set_option maxHeartbeats 2000000 in
theorem rfill_calls (k a b c d n : Int) (fs : ByteArray) (hf : fs.size ≤ 4) (g cap : Nat) (x : ByteArray) (r : List ByteArray) (hsz : ∀ y ∈ r, y.size ≤ 281474976710656) (_hlen : r.length ≤ 2000000) (w : World) (hS : Strs w g (some ⟨g, 0, none⟩) (x :: r)) :
    Calls Tryd.prog 17 #[.agg #[.int .i64 k, .int .i64 a, .int .i64 b, .int .i64 c, .int .i64 d, .int .i64 n, .slice none 0 0], .string fs, .slice (some ⟨g, 0, none⟩) (r.length + 1) cap] w fun e w' =>
      (∀ a' c' d' n', fillP (actC k a b c d n) fs.data.toList r = some (actC k a' b c' d' n') → e = .returned (.tuple #[.agg #[.int .i64 k, .int .i64 a', .int .i64 b, .int .i64 c', .int .i64 d', .int .i64 n', .slice none 0 0], .bool true])) ∧
      (fillP (actC k a b c d n) fs.data.toList r = none → e = .returned (.tuple #[.agg #[.int .i64 0, .int .i64 0, .int .i64 0, .int .i64 0, .int .i64 0, .int .i64 0, .slice none 0 0], .bool false])) ∧ Below w.heap.size w w' := by
  have hL : fs.data.toList.length = fs.size := rfl
  obtain ⟨W0, hW⟩ : ∃ W0, W0 = (w.alloc (.cells #[.int .i64 k, .int .i64 a, .int .i64 b, .int .i64 c, .int .i64 d, .int .i64 n, .slice none 0 0] 24)).alloc (.cells #[.int .i64 0, .int .i64 0, .int .i64 0, .int .i64 0, .int .i64 0, .int .i64 0, .slice none 0 0] 24) := ⟨_, rfl⟩
  have HW : Hid (Below w.heap.size w W0 ∧ W0.heap.size = w.heap.size + 2 ∧ W0.heap[w.heap.size]? = some (.cells (actC k a b c d n) 24 (0, 0)) ∧ W0.heap[w.heap.size + 1]? = some (.cells (actC 0 0 0 0 0 0) 24 (0, 0))) := by
    have h1 : Below w.heap.size w (w.alloc (.cells #[.int .i64 k, .int .i64 a, .int .i64 b, .int .i64 c, .int .i64 d, .int .i64 n, .slice none 0 0] 24)) := (Below.refl _ w).alloc (Nat.le_refl _) _
    have h2 : (w.alloc (.cells #[.int .i64 k, .int .i64 a, .int .i64 b, .int .i64 c, .int .i64 d, .int .i64 n, .slice none 0 0] 24)).heap.size = w.heap.size + 1 := World.size_alloc _ _
    have h3 := World.alloc_heap_new w (.cells #[.int .i64 k, .int .i64 a, .int .i64 b, .int .i64 c, .int .i64 d, .int .i64 n, .slice none 0 0] 24)
    generalize w.alloc (.cells #[.int .i64 k, .int .i64 a, .int .i64 b, .int .i64 c, .int .i64 d, .int .i64 n, .slice none 0 0] 24) = V at *
    subst hW
    refine ⟨h1.alloc h1.size _, by rw [World.size_alloc]; omega, (Below.heap_alloc V _ _ (by omega)).trans h3, ?_⟩
    rw [← h2]
    exact World.alloc_heap_new V _
  have HWE := hide_ hW
  clear hW
  obtain ⟨F, hF⟩ : ∃ F, F = fillP (actC k a b c d n) fs.data.toList r := ⟨_, rfl⟩
  by_cases hln : r.length = fs.size
  · rw [← hF]
    have hln' : (r.length : Int) + 1 = (fs.size : Int) + 1 := by omega
    have hfs : (fs.size : Int) ≤ 4 := by omega
    have HF := hide_ hF
    obtain ⟨o, C, T, eo, hC, hat⟩ := hS
    cases eo
    have hgl : g < w.heap.size := (Array.getElem?_eq_some_iff.1 hC).1
    have HG : Hid (∀ (i : Nat) (wr : World), i < fs.size → But (· = w.heap.size) W0 wr → ∃ y, r[i]? = some y ∧ y.size ≤ 281474976710656 ∧ wr.cell? ⟨g, i + 1, none⟩ = some (.string y)) := fun i wr hi hB => by
      have e1 : r[i]? = some r[i] := List.getElem?_eq_getElem (by omega)
      refine ⟨r[i], e1, hsz _ (List.getElem_mem _), ?_⟩
      have e2 : wr.heap[g]? = some (.cells C T (0, 0)) := ((hB.block g (by have := HW.out.2.1; omega) (show ¬ g = w.heap.size by omega)).trans (HW.out.1.block g hgl)).trans hC
      rw [cell_of_row wr g (i + 1) _ _ _ e2]
      have := hat (i + 1) r[i] (by rw [List.getElem?_cons_succ]; exact e1)
      simpa using this
    clear hF hC hat hsz hln
    go_enter Tryd.func17, Tryd.ntmps17
    go_wp2
    go_loopg [8] (fs.size + 1) (fun gk u wr => ∃ (i : Nat) (a1 c1 d1 n1 : Int), u = .int .i64 (i : Int) ∧ i ≤ fs.size ∧ fs.size < i + gk ∧ Hid (wr.heap[w.heap.size]? = some (.cells (actC k a1 b c1 d1 n1) 24 (0, 0)) ∧ F = fillP (actC k a1 b c1 d1 n1) (fs.data.toList.drop i) (r.drop i) ∧ But (· = w.heap.size) W0 wr))
    case atStart => exact ⟨0, a, c, d, n, rfl, Nat.zero_le _, by omega, by rw [← HWE.out]; exact HW.out.2.2.1, HF.out, by rw [← HWE.out]; exact But.refl _ _⟩
    case round =>
      obtain ⟨i, a1, c1, d1, n1, rfl, hi, hgk, HR⟩ := hrel
      have hi0 : (0 : Int) ≤ (i : Int) := by omega
      clear HWE
      have HZ : Hid (wr.heap[w.heap.size + 1]? = some (.cells (actC 0 0 0 0 0 0) 24 (0, 0)) ∧ Below w.heap.size w wr) := by
        have hs := HW.out.2.1
        exact ⟨(HR.out.2.2.block _ (by omega) (show ¬ w.heap.size + 1 = w.heap.size by omega)).trans HW.out.2.2.2, HW.out.1.trans (HR.out.2.2.below (by omega) (fun q hq => by rw [show q = w.heap.size from hq]; omega))⟩
      have m0 : wr.cell? ⟨w.heap.size, 0, none⟩ = some (.int .i64 k) := cell_of_row wr w.heap.size 0 _ _ _ HR.out.1
      have m1 : wr.cell? ⟨w.heap.size, 1, none⟩ = some (.int .i64 a1) := cell_of_row wr w.heap.size 1 _ _ _ HR.out.1
      have m2 : wr.cell? ⟨w.heap.size, 2, none⟩ = some (.int .i64 b) := cell_of_row wr w.heap.size 2 _ _ _ HR.out.1
      have m3 : wr.cell? ⟨w.heap.size, 3, none⟩ = some (.int .i64 c1) := cell_of_row wr w.heap.size 3 _ _ _ HR.out.1
      have m4 : wr.cell? ⟨w.heap.size, 4, none⟩ = some (.int .i64 d1) := cell_of_row wr w.heap.size 4 _ _ _ HR.out.1
      have m5 : wr.cell? ⟨w.heap.size, 5, none⟩ = some (.int .i64 n1) := cell_of_row wr w.heap.size 5 _ _ _ HR.out.1
      have m6 : wr.cell? ⟨w.heap.size, 6, none⟩ = some (.slice none 0 0) := cell_of_row wr w.heap.size 6 _ _ _ HR.out.1
      by_cases hlt : i < fs.size
      · have hii : (i : Int) < (fs.size : Int) := by omega
        obtain ⟨y, hy, hys, hcy⟩ := HG.out i wr hlt HR.out.2.2
        have HN := hide_ (rnumber_calls y hys wr)
        have HFi : Hid (F = match pnum y.data.toList with | some v => fillP ((actC k a1 b c1 d1 n1).setIfInBounds (off ((fs[i]'hlt).toNat : Int)) (.int .i64 v)) (fs.data.toList.drop (i + 1)) (r.drop (i + 1)) | none => none) := by
          have := HR.out.2.1
          have e2 : r.drop i = y :: r.drop (i + 1) := by
            have hl2 : i < r.length := (List.getElem?_eq_some_iff.1 hy).1
            rw [List.drop_eq_getElem_cons hl2]
            congr 1
            exact (List.getElem?_eq_some_iff.1 hy).2
          rw [e2, drop_at hlt] at this
          exact this
        clear hy hys
        generalize hpo : pnum y.data.toList = po at *
        cases po with
        | none =>
          have HX : Hid (F = none) := HFi.out
          clear HR HFi hpo HF
          go_wp2_with fail
          refine HN.out.mono ?_
          rintro e W1 ⟨nn, rfl, _, rfl⟩
          rw [show (none : Option Int).isSome = false from rfl]
          go_wp2_with (refine wpList_store_row rfl 24 _ _ rfl (w.heap.size + 1) #[.int .i64 0, .int .i64 0, .int .i64 0, .int .i64 0, .int .i64 0, .int .i64 0, .slice none 0 0] rfl rfl 24 _ HZ.out.1 sizeAct rfl (ones7 _ _ _ _ _ _ _ _ _) ?_)
          refine bodyPost_ret (results_row_tmp rfl _ _ (w.heap.size + 1) 24 #[.int .i64 0, .int .i64 0, .int .i64 0, .int .i64 0, .int .i64 0, .int .i64 0, .slice none 0 0] (0, 0) _ rfl (setRow_heap _ _ _ _ _ _ HZ.out.1) Tryd.underlying24 rfl sizeAct) rfl ?_
          have h0 := HX.out
          subst h0
          exact ⟨fun _ _ _ _ e => (by cases e), fun _ => rfl, below_setRow HZ.out.2 (by omega) _⟩
        | some vv =>
          obtain ⟨a2, c2, d2, n2, hset, _, _⟩ := numAt_set a1 c1 d1 n1 vv (fs[i]'hlt)
          have HP := hide_ (put_calls k a1 b c1 d1 n1 vv (fs[i]'hlt) a2 c2 d2 n2 (hset k b))
          have HX : Hid (F = fillP (actC k a2 b c2 d2 n2) (fs.data.toList.drop (i + 1)) (r.drop (i + 1)) ∧ ∀ W1, Below wr.heap.size wr W1 → W1.heap[w.heap.size]? = some (.cells (actC k a1 b c1 d1 n1) 24 (0, 0)) ∧ But (· = w.heap.size) W0 W1) := by
            refine ⟨by rw [← hset k b]; exact HFi.out, fun W1 hB => ⟨(hB.block _ (Array.getElem?_eq_some_iff.1 HR.out.1).1).trans HR.out.1, HR.out.2.2.trans (E := fun _ => False) (But.of_below hB) (fun _ _ h => h.elim)⟩⟩
          have hwl : w.heap.size < wr.heap.size := (Array.getElem?_eq_some_iff.1 HR.out.1).1
          clear HR HFi hpo hset
          go_wp2_with fail
          refine HN.out.mono ?_
          rintro e W1 ⟨nn, rfl, hvv, rfl⟩
          rw [show (some vv).isSome = true from rfl]
          obtain rfl := hvv vv rfl
          clear hvv
          go_wp2_with fail
          have HP2 : Hid (Calls Tryd.prog 21 #[.agg #[.int .i64 k, .int .i64 a1, .int .i64 b, .int .i64 c1, .int .i64 d1, .int .i64 n1, .slice none 0 0], .int .u8 ((fs[i]'hlt).toNat : Int), .int .i64 nn] W1.drew fun e W2 => e = .returned (.agg #[.int .i64 k, .int .i64 a2, .int .i64 b, .int .i64 c2, .int .i64 d2, .int .i64 n2, .slice none 0 0]) ∧ (W2.cell? ⟨w.heap.size, 0, none⟩ = some (.int .i64 k) ∧ W2.cell? ⟨w.heap.size, 1, none⟩ = some (.int .i64 a1) ∧ W2.cell? ⟨w.heap.size, 2, none⟩ = some (.int .i64 b) ∧ W2.cell? ⟨w.heap.size, 3, none⟩ = some (.int .i64 c1) ∧ W2.cell? ⟨w.heap.size, 4, none⟩ = some (.int .i64 d1) ∧ W2.cell? ⟨w.heap.size, 5, none⟩ = some (.int .i64 n1) ∧ W2.cell? ⟨w.heap.size, 6, none⟩ = some (.slice none 0 0)) ∧ (∀ o, W2.frozen? ⟨w.heap.size, o, none⟩ = false) ∧ Hid (W2.heap[w.heap.size]? = some (.cells (actC k a1 b c1 d1 n1) 24 (0, 0)) ∧ But (· = w.heap.size) W0 W2)) := by
            refine (HP.out _).mono ?_
            rintro e W2 ⟨rfl, hB2⟩
            have hB4 : Below W1.heap.size W1 W2 := (show Below W1.heap.size W1 W1.drew from (Below.refl _ W1).drew).trans (show Below W1.heap.size W1.drew W2 from hB2)
            obtain ⟨hr2, HB3⟩ := HX.out.2 W2 hB4
            exact ⟨rfl, ⟨cell_of_row W2 w.heap.size 0 _ _ _ hr2, cell_of_row W2 w.heap.size 1 _ _ _ hr2, cell_of_row W2 w.heap.size 2 _ _ _ hr2, cell_of_row W2 w.heap.size 3 _ _ _ hr2, cell_of_row W2 w.heap.size 4 _ _ _ hr2, cell_of_row W2 w.heap.size 5 _ _ _ hr2, cell_of_row W2 w.heap.size 6 _ _ _ hr2⟩, fun o => by simp [World.frozen?, hr2], hr2, HB3⟩
          clear HP
          go_region_with (refine HP2.out.mono ?_; rintro e W2 ⟨rfl, ⟨q0, q1, q2, q3, q4, q5, q6⟩, qf, HQ⟩)
          all_goals
            obtain ⟨V, hV⟩ : ∃ V, V = (((((((W2.setCell ⟨w.heap.size, 0, none⟩ (.int .i64 k)).setCell ⟨w.heap.size, 1, none⟩ (.int .i64 a2)).setCell ⟨w.heap.size, 2, none⟩ (.int .i64 b)).setCell ⟨w.heap.size, 3, none⟩ (.int .i64 c2)).setCell ⟨w.heap.size, 4, none⟩ (.int .i64 d2)).setCell ⟨w.heap.size, 5, none⟩ (.int .i64 n2)).setCell ⟨w.heap.size, 6, none⟩ (.slice none 0 0)) := ⟨_, rfl⟩
            rw [← hV]
            have HV : Hid (V.heap[w.heap.size]? = some (.cells (actC k a2 b c2 d2 n2) 24 (0, 0)) ∧ But (· = w.heap.size) W0 V) := by
              rw [hV]
              exact ⟨seven_set W2 w.heap.size _ _ _ _ _ _ _ _ _ _ _ _ _ _ _ HQ.out.1, (But.trans (But.trans (But.trans (But.trans (But.trans (But.trans (But.trans HQ.out.2 (But.setCell (· = w.heap.size) _ ⟨w.heap.size, 0, none⟩ (.int .i64 k) rfl) (fun _ _ h => h)) (But.setCell (· = w.heap.size) _ ⟨w.heap.size, 1, none⟩ (.int .i64 a2) rfl) (fun _ _ h => h)) (But.setCell (· = w.heap.size) _ ⟨w.heap.size, 2, none⟩ (.int .i64 b) rfl) (fun _ _ h => h)) (But.setCell (· = w.heap.size) _ ⟨w.heap.size, 3, none⟩ (.int .i64 c2) rfl) (fun _ _ h => h)) (But.setCell (· = w.heap.size) _ ⟨w.heap.size, 4, none⟩ (.int .i64 d2) rfl) (fun _ _ h => h)) (But.setCell (· = w.heap.size) _ ⟨w.heap.size, 5, none⟩ (.int .i64 n2) rfl) (fun _ _ h => h)) (But.setCell (· = w.heap.size) _ ⟨w.heap.size, 6, none⟩ (.slice none 0 0) rfl) (fun _ _ h => h))⟩
            clear hV HQ q0 q1 q2 q3 q4 q5 q6 qf HP2 HN
            go_wp2
            go_roundg (fs.size - i)
            case measure => omega
            case rel => exact ⟨i + 1, a2, c2, d2, n2, by first | rfl | go_num, by omega, by omega, HV.out.1, HX.out.1, HV.out.2⟩
      · obtain rfl : i = fs.size := by omega
        have HX : Hid (F = some (actC k a1 b c1 d1 n1)) := by
          have := HR.out.2.1
          have e2 : r.drop fs.size = [] := List.drop_eq_nil_of_le (by omega)
          rw [drop_end, e2] at this
          exact this
        clear HR HF
        go_wp2_with (refine wpList_store_row rfl 24 _ _ rfl (w.heap.size + 1) #[.int .i64 k, .int .i64 a1, .int .i64 b, .int .i64 c1, .int .i64 d1, .int .i64 n1, .slice none 0 0] rfl rfl 24 _ HZ.out.1 sizeAct rfl (ones7 _ _ _ _ _ _ _ _ _) ?_)
        refine bodyPost_ret (results_row_tmp rfl _ _ (w.heap.size + 1) 24 #[.int .i64 k, .int .i64 a1, .int .i64 b, .int .i64 c1, .int .i64 d1, .int .i64 n1, .slice none 0 0] (0, 0) _ rfl (setRow_heap _ _ _ _ _ _ HZ.out.1) Tryd.underlying24 rfl sizeAct) rfl ?_
        have h0 := HX.out
        subst h0
        refine ⟨fun a' c' d' n' e => ?_, fun e => (by cases e), below_setRow HZ.out.2 (by omega) _⟩
        obtain ⟨_, rfl, _, rfl, rfl, rfl⟩ := actC_inj (Option.some.inj e)
        rfl
  · rw [← hF]
    have hFn : F = none := by rw [hF]; exact fillP_len _ _ _ (by omega)
    have HFn := hide_ hFn
    have hne : ¬ ((r.length : Int) + 1 = (fs.size : Int) + 1) := by omega
    clear hF hFn hS hsz
    go_enter Tryd.func17, Tryd.ntmps17
    have HZ : Hid (((w.alloc (.cells #[.int .i64 k, .int .i64 a, .int .i64 b, .int .i64 c, .int .i64 d, .int .i64 n, .slice none 0 0] 24)).alloc (.cells #[.int .i64 0, .int .i64 0, .int .i64 0, .int .i64 0, .int .i64 0, .int .i64 0, .slice none 0 0] 24)).heap[w.heap.size + 1]? = some (.cells (actC 0 0 0 0 0 0) 24 (0, 0))) := by have := HW.out.2.2.2; rw [HWE.out] at this; exact this
    go_wp2_with (refine wpList_store_row rfl 24 _ _ rfl (w.heap.size + 1) #[.int .i64 0, .int .i64 0, .int .i64 0, .int .i64 0, .int .i64 0, .int .i64 0, .slice none 0 0] rfl rfl 24 _ HZ.out sizeAct rfl (ones7 _ _ _ _ _ _ _ _ _) ?_)
    refine bodyPost_ret (results_row_tmp rfl _ _ (w.heap.size + 1) 24 #[.int .i64 0, .int .i64 0, .int .i64 0, .int .i64 0, .int .i64 0, .int .i64 0, .slice none 0 0] (0, 0) _ rfl (setRow_heap _ _ _ _ _ _ HZ.out) Tryd.underlying24 rfl sizeAct) rfl ?_
    have h0 := HFn.out
    subst h0
    refine ⟨fun _ _ _ _ e => (by cases e), fun _ => rfl, below_setRow ?_ (by omega) _⟩
    have := HW.out.1
    rw [HWE.out] at this
    exact this
end Go.Proofs.YtmkcdkfjomaidaaDoor
