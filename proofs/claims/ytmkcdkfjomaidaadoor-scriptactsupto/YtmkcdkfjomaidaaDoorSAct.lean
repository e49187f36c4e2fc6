/-
  PROVED HERE: script.Act at every line: its act, or none.
-/
import Derived.Test.YtmkcdkfjomaidaaDoorSShapes
import Derived.Laws.Tables
import Derived.Laws.ResultCell
import Derived.Laws.Rows
import Derived.Laws.CopyOwn
namespace Go.Proofs.YtmkcdkfjomaidaaDoor
open Go.RowKit

/-- An act's cells. -/
def actC (k a b c d n : Int) : Array Value := #[.int .i64 k, .int .i64 a, .int .i64 b, .int .i64 c, .int .i64 d, .int .i64 n, .slice none 0 0]

theorem off_cases (c : Int) : off c = 1 ∨ off c = 3 ∨ off c = 4 ∨ off c = 5 := by
  unfold off
  split
  · exact .inl rfl
  · split
    · exact .inr (.inl rfl)
    · split
      · exact .inr (.inr (.inl rfl))
      · exact .inr (.inr (.inr rfl))

theorem fillP_act : ∀ (L : List UInt8) (ws : List ByteArray) (k a b c d n : Int) (cs : Array Value), fillP (actC k a b c d n) L ws = some cs → ∃ a' c' d' n', cs = actC k a' b c' d' n'
  | [], [], k, a, b, c, d, n, cs, h => by
    unfold fillP at h
    cases h
    exact ⟨a, c, d, n, rfl⟩
  | [], _ :: _, _, _, _, _, _, _, _, h => by cases h
  | _ :: _, [], _, _, _, _, _, _, _, h => by cases h
  | l :: L, x :: r, k, a, b, c, d, n, cs, h => by
    unfold fillP at h
    split at h
    · rename_i v hv
      rcases off_cases (l.toNat : Int) with e | e | e | e
      · rw [e] at h
        exact fillP_act L r k v b c d n cs h
      · rw [e] at h
        exact fillP_act L r k a b v d n cs h
      · rw [e] at h
        exact fillP_act L r k a b c v n cs h
      · rw [e] at h
        exact fillP_act L r k a b c d v cs h
    · cases h

/-- The first shape with that word and as many numbers. -/
def seek (x : ByteArray) (r : List ByteArray) : List Shp → Option (Array Value)
  | [] => none
  | t :: l => if (t.word.toList == x.toList) = true then (match fillP (actC t.k 0 t.b 0 0 0) t.fs.data.toList r with | some cs => some cs | none => seek x r l) else seek x r l

/-- The act that a line's words say. -/
def actW : List ByteArray → Option (Array Value)
  | [] => none
  | x :: r => seek x r tab

theorem seek_act (x : ByteArray) (r : List ByteArray) : ∀ (l : List Shp) (cs : Array Value), seek x r l = some cs → ∃ k a b c d n, cs = actC k a b c d n
  | [], cs, h => by cases h
  | t :: l, cs, h => by
    unfold seek at h
    split at h
    · split at h
      · rename_i cs' e
        cases h
        obtain ⟨a, c, d, n, rfl⟩ := fillP_act _ _ _ _ _ _ _ _ _ e
        exact ⟨_, _, _, _, _, _, rfl⟩
      · exact seek_act x r l cs h
    · exact seek_act x r l cs h

theorem five_size (s : ByteArray) : ∀ x ∈ five s, x.size ≤ s.size := by
  have key : ∀ (k : Nat) (s : ByteArray), ∀ x ∈ Lib.splitB ⟨#[32]⟩ 0 k s, x.size ≤ s.size := by
    intro k
    induction k with
    | zero => intro s x hx; simp [Lib.splitB] at hx; subst hx; exact Nat.le_refl _
    | succ k ih =>
      intro s x hx
      unfold Lib.splitB at hx
      split at hx
      · simp at hx; subst hx; exact Nat.le_refl _
      · rcases List.mem_cons.1 hx with rfl | hx
        · rw [ByteArray.size_extract]; omega
        · have := ih _ x hx
          rw [ByteArray.size_extract] at this
          omega
  exact key _ s

theorem results_row_tmp {P : Program} {fn : Func} {p u : Tmp} {ty : TypeId} (h : fn.results = #[.cell p ty, .tmp u]) (tmps : Array Value) (w : World) (g : Nat) (t : TypeId) (cs : Array Value) (fr : Nat × Nat) (d : TypeDesc)
    (hp : tmps.getD p undef = .pointer (some ⟨g, 0, none⟩)) (hg : w.heap[g]? = some (.cells cs t fr))
    (hu : P.underlying ty = some d) (hd : (match d with | .struct _ | .array _ _ => true | _ => false) = true) (hi : (P.info? ty).map (·.size) = some cs.size) :
    (results fn tmps).run P w = .ok (.tuple #[.agg cs, tmps.getD u undef]) w := by
  rw [results_cell_tmp h, hp]
  simp [asAddr, run_loadVar_row w g t ty cs fr d hg hu hd hi, Result.andThen]
theorem sizeAct : (Tryd.prog.info? 24).map (·.size) = some 7 := by kernel_rfl
theorem ones7 (k a b c d n : Int) (p : Option Addr) (l m : Nat) : (#[.int .i64 k, .int .i64 a, .int .i64 b, .int .i64 c, .int .i64 d, .int .i64 n, .slice p l m] : Array Value).all (·.oneCell') = true := by
  rw [Array.all_eq_true_iff_forall_mem]
  intro v hv
  simp at hv
  rcases hv with rfl | rfl | rfl | rfl | rfl | rfl | rfl <;> rfl
theorem cell_of_row (w : World) (g j : Nat) (cs : Array Value) (t : TypeId) (fr : Nat × Nat) (hg : w.heap[g]? = some (.cells cs t fr)) : w.cell? ⟨g, j, none⟩ = cs[j]? := by
  simp only [World.cell?]
  rw [hg]
  rfl

set_option maxRecDepth 100000 in
set_option maxHeartbeats 2000000 in
theorem act_calls (s : ByteArray) (hs : s.size ≤ 281474976710656) (w : World) (hE : Env w) :
    Calls Tryd.prog 5 #[.string s] w fun e w' => (∀ k a b c d n, actW (five s) = some (actC k a b c d n) → e = .returned (.tuple #[.agg (actC k a b c d n), .int .i64 0])) ∧ (actW (five s) = none → e = .returned (.tuple #[.agg (actC 0 0 0 0 0 0), .int .i64 4])) ∧ Below w.heap.size w w' := by
  obtain ⟨x, r, h5⟩ := five_cons s
  have hsz := five_size s
  have hlen : r.length ≤ 4 := by have := five_room s; rw [h5, List.length_cons] at this; unfold room at this; omega
  rw [h5] at hsz
  have HS := hide_ (fun W => split_calls s hs x r h5 W)
  have hws : ∀ y ∈ r, y.size ≤ 281474976710656 := fun y hy => Nat.le_trans (hsz y (List.mem_cons_of_mem _ hy)) hs
  rw [h5]
  obtain ⟨F, hF⟩ : ∃ F, F = seek x r tab := ⟨_, rfl⟩
  rw [show actW (x :: r) = seek x r tab from rfl, ← hF]
  have HF := hide_ hF
  clear hF hsz h5 hs
  have HE := hide_ hE
  have HWS := hide_ hws
  clear hE hws
  go_enter Tryd.func5, Tryd.ntmps5
  go_wp2_with fail
  refine (HS.out _).mono ?_
  rintro e W1 ⟨aw, capw, rfl, hS1, hB1⟩
  go_wp2_with fail
  refine (shapes_calls W1).mono ?_
  rintro e W2 ⟨rfl, hW2⟩
  -- what stays in all that comes
  have HK : Hid (Below w.heap.size w W2 ∧ w.heap.size + 2 ≤ W2.heap.size ∧ W2.heap[w.heap.size]? = some (.cells (actC 0 0 0 0 0 0) 24 (0, 0)) ∧ Strs W2 (w.heap.size + 1) aw r ∧ W1.heap.size < W2.heap.size ∧ W2.heap[W1.heap.size]? = some (.cells tabC 44 (0, 0))) := by
    have e0 : (w.alloc (.cells (actC 0 0 0 0 0 0) 24)).heap.size = w.heap.size + 1 := World.size_alloc _ _
    have h1 : Below w.heap.size w W1 := ((Below.refl _ w).alloc (Nat.le_refl _) (.cells (actC 0 0 0 0 0 0) 24)).trans (hB1.mono (by simp))
    have hz : W1.heap[w.heap.size]? = some (.cells (actC 0 0 0 0 0 0) 24 (0, 0)) := (hB1.block _ (by simp)).trans (World.alloc_heap_new w _)
    have hlt := hS1.lt
    have hsz : w.heap.size + 1 < W1.heap.size := by simpa using hlt
    subst hW2
    refine ⟨h1.alloc h1.size _, by rw [World.size_alloc]; omega, ?_, ?_, by rw [World.size_alloc]; omega, World.alloc_heap_new W1 _⟩
    · exact (Below.heap_alloc W1 _ _ (by omega)).trans hz
    · have := hS1.later (W' := W1.alloc (.cells tabC 44)) (Below.heap_alloc W1 _ _ hlt)
      simpa using this
  clear hW2 hS1 hB1 HS
  go_wp2_with fail
  go_loopg [16] 16 (fun gk u wr => ∃ i : Nat, u = .int .i64 (i : Int) ∧ i ≤ 15 ∧ 15 < i + gk ∧ Hid (F = seek x r (tab.drop i) ∧ Below W2.heap.size W2 wr))
  case atStart => exact ⟨0, rfl, Nat.zero_le _, by omega, HF.out, Below.refl _ _⟩
  case round =>
    obtain ⟨i, rfl, hi, hgk, HR⟩ := hrel
    have hi0 : (0 : Int) ≤ (i : Int) := by omega
    by_cases hlt : i < 15
    · have hii : (i : Int) < 15 := by omega
      obtain ⟨t, ht⟩ : ∃ t, tab[i]? = some t := ⟨_, List.getElem?_eq_getElem (by rw [tab_length]; exact hlt)⟩
      obtain ⟨ta, tf⟩ := tab_asc (List.mem_of_getElem? ht)
      have HD : Hid (F = if (t.word.toList == x.toList) = true then (match fillP (actC t.k 0 t.b 0 0 0) t.fs.data.toList r with | some cs => some cs | none => seek x r (tab.drop (i + 1))) else seek x r (tab.drop (i + 1))) := by
        have h1 := HR.out.1
        have h2 : tab.drop i = t :: tab.drop (i + 1) := by
          rw [List.drop_eq_getElem_cons (by rw [tab_length]; exact hlt)]
          congr 1
          exact (List.getElem?_eq_some_iff.1 ht).2
        rw [h2] at h1
        exact h1
      obtain ⟨d0, d1, d2, d3⟩ := tabC_at i t ht
      have hg2 : wr.heap[W1.heap.size]? = some (.cells tabC 44 (0, 0)) := (HR.out.2.block _ HK.out.2.2.2.2.1).trans HK.out.2.2.2.2.2
      have c0 := (cell_of_row wr W1.heap.size (i * 4) _ _ _ hg2).trans d0
      have c1 := (cell_of_row wr W1.heap.size (i * 4 + 1) _ _ _ hg2).trans d1
      have c2 := (cell_of_row wr W1.heap.size (i * 4 + 2) _ _ _ hg2).trans d2
      have c3 := (cell_of_row wr W1.heap.size (i * 4 + 3) _ _ _ hg2).trans d3
      clear d0 d1 d2 d3 hg2 ht
      by_cases hcmp : (t.word.toList == x.toList) = true
      · have HST := hide_ (fun hb => start_calls t.word t.fs t.k t.b (wr.heap.size + 1) (actC 0 0 0 0 0 0) ((wr.alloc (.cells #[.string t.word, .string t.fs, .int .i64 t.k, .int .i64 t.b] 44)).alloc (.cells (actC 0 0 0 0 0 0) 24)) hb rfl ta tf)
        have HB3 : Hid (Below W2.heap.size W2 ((wr.alloc (.cells #[.string t.word, .string t.fs, .int .i64 t.k, .int .i64 t.b] 44)).alloc (.cells (actC 0 0 0 0 0 0) 24)) ∧ ((wr.alloc (.cells #[.string t.word, .string t.fs, .int .i64 t.k, .int .i64 t.b] 44)).alloc (.cells (actC 0 0 0 0 0 0) 24)).heap[wr.heap.size + 1]? = some (.cells (actC 0 0 0 0 0 0) 24 (0, 0))) := by
          refine ⟨?_, ?_⟩
          · have h1 := HR.out.2.alloc HR.out.2.size (.cells #[.string t.word, .string t.fs, .int .i64 t.k, .int .i64 t.b] 44)
            exact h1.alloc h1.size _
          · have := World.alloc_heap_new (wr.alloc (.cells #[.string t.word, .string t.fs, .int .i64 t.k, .int .i64 t.b] 44)) (.cells (actC 0 0 0 0 0 0) 24)
            rw [World.size_alloc] at this
            exact this
        have HFL : Hid (∀ W3 v, W3.ownsRow ((wr.alloc (.cells #[.string t.word, .string t.fs, .int .i64 t.k, .int .i64 t.b] 44)).alloc (.cells (actC 0 0 0 0 0 0) 24)).heap.size 61 1 v t.fs.size (ptrs (wr.heap.size + 1) t.fs.data.toList) →
            W3.heap[wr.heap.size + 1]? = some (.cells (actC t.k 0 t.b 0 0 0) 24 (0, 0)) → But (· = wr.heap.size + 1) ((wr.alloc (.cells #[.string t.word, .string t.fs, .int .i64 t.k, .int .i64 t.b] 44)).alloc (.cells (actC 0 0 0 0 0 0) 24)) W3 →
            Calls Tryd.prog 13 #[.slice aw r.length capw, v] W3 fun e w' => ∃ ok, e = .returned (.bool ok) ∧ Hid (Below W2.heap.size W2 w') ∧ Hid (∀ cs', fillP (actC t.k 0 t.b 0 0 0) t.fs.data.toList r = some cs' → ok = true ∧ w'.heap[wr.heap.size + 1]? = some (.cells cs' 24 (0, 0))) ∧ Hid (fillP (actC t.k 0 t.b 0 0 0) t.fs.data.toList r = none → ok = false)) := fun W3 v h1 h2 h3 => by
          have hsz := HR.out.2.size
          have hB3 : Below W2.heap.size W2 W3 := HB3.out.1.trans (h3.below HB3.out.1.size (fun k hk => by rw [show k = wr.heap.size + 1 from hk]; omega))
          have hES : Env W3 := (HE.out.new HK.out.1).below hB3 (by have := HE.out.big; have := HK.out.1.size; omega)
          have hSt : Strs W3 (w.heap.size + 1) aw r := HK.out.2.2.2.1.later (hB3.block _ HK.out.2.2.2.1.lt)
          have hbw := HK.out.2.2.2.1.lt
          refine (fill_calls aw r.length capw r rfl HWS.out v t.fs.size t.fs.data.toList _ (wr.heap.size + 1) (w.heap.size + 1) _ rfl W3 hES hSt h1 h2 (by have := HE.out.big; have := HK.out.1.size; omega) (by simp) (by omega) tf).mono ?_
          rintro e w' ⟨ok, rfl, q1, q2, q3⟩
          exact ⟨ok, rfl, hB3.trans (q1.below hB3.size (fun k hk => by rw [show k = wr.heap.size + 1 from hk]; omega)), q2, q3⟩
        have HDD : Hid (F = (match fillP (actC t.k 0 t.b 0 0 0) t.fs.data.toList r with | some cs => some cs | none => seek x r (tab.drop (i + 1)))) := by
          have := HD.out
          rw [if_pos hcmp] at this
          exact this
        have HSH := hide_ (fillP_act t.fs.data.toList r t.k 0 t.b 0 0 0)
        generalize fillP (actC t.k 0 t.b 0 0 0) t.fs.data.toList r = fp at *
        clear HD HR ta tf
        cases fp with
        | none =>
          go_wp2_with fail
          refine (HST.out HB3.out.2).mono ?_
          rintro e W3 ⟨v, rfl, k1, k2, k3⟩
          go_wp2_with fail
          refine (HFL.out W3 v k1 k2 k3).mono ?_
          rintro e W4 ⟨ok, rfl, g1, g2, g3⟩
          obtain rfl : ok = false := by first | exact g3.out rfl | exact g3.out trivial
          clear k1 k2 k3 HST HFL HB3
          go_wp2_with fail
          go_roundg (15 - i)
          case measure => omega
          case rel => exact ⟨i + 1, by first | rfl | go_num, by omega, by omega, HDD.out, g1.out⟩
        | some cs' =>
          obtain ⟨a', c', d', n', rfl⟩ := HSH.out cs' rfl
          go_wp2_with fail
          refine (HST.out HB3.out.2).mono ?_
          rintro e W3 ⟨v, rfl, k1, k2, k3⟩
          go_wp2_with fail
          refine (HFL.out W3 v k1 k2 k3).mono ?_
          rintro e W4 ⟨ok, rfl, g1, g2, g3⟩
          obtain ⟨rfl, hrow⟩ := g2.out _ rfl
          have w0 : W4.cell? ⟨wr.heap.size + 1, 0, none⟩ = some (.int .i64 t.k) := cell_of_row W4 (wr.heap.size + 1) 0 _ _ _ hrow
          have w1 : W4.cell? ⟨wr.heap.size + 1, 1, none⟩ = some (.int .i64 a') := cell_of_row W4 (wr.heap.size + 1) 1 _ _ _ hrow
          have w2 : W4.cell? ⟨wr.heap.size + 1, 2, none⟩ = some (.int .i64 t.b) := cell_of_row W4 (wr.heap.size + 1) 2 _ _ _ hrow
          have w3 : W4.cell? ⟨wr.heap.size + 1, 3, none⟩ = some (.int .i64 c') := cell_of_row W4 (wr.heap.size + 1) 3 _ _ _ hrow
          have w4 : W4.cell? ⟨wr.heap.size + 1, 4, none⟩ = some (.int .i64 d') := cell_of_row W4 (wr.heap.size + 1) 4 _ _ _ hrow
          have w5 : W4.cell? ⟨wr.heap.size + 1, 5, none⟩ = some (.int .i64 n') := cell_of_row W4 (wr.heap.size + 1) 5 _ _ _ hrow
          have w6 : W4.cell? ⟨wr.heap.size + 1, 6, none⟩ = some (.slice none 0 0) := cell_of_row W4 (wr.heap.size + 1) 6 _ _ _ hrow
          have HZ : Hid (W4.heap[w.heap.size]? = some (.cells (actC 0 0 0 0 0 0) 24 (0, 0))) := (g1.out.block _ (by have := HK.out.2.1; omega)).trans HK.out.2.2.1
          have HP : Hid (∀ cs, Below w.heap.size w (W4.setRow w.heap.size cs)) := fun cs => below_setRow (HK.out.1.trans (g1.out.mono HK.out.1.size)) (Nat.le_refl _) cs
          clear k1 k2 k3 HST HFL HB3 g1 g2 g3 hrow HF
          go_wp2_with (refine wpList_store_row rfl 24 _ _ rfl w.heap.size #[.int .i64 t.k, .int .i64 a', .int .i64 t.b, .int .i64 c', .int .i64 d', .int .i64 n', .slice none 0 0] rfl rfl 24 _ HZ.out sizeAct rfl (ones7 _ _ _ _ _ _ _ _ _) ?_)
          refine bodyPost_ret (results_row_tmp rfl _ _ w.heap.size 24 #[.int .i64 t.k, .int .i64 a', .int .i64 t.b, .int .i64 c', .int .i64 d', .int .i64 n', .slice none 0 0] (0, 0) _ rfl (setRow_heap _ _ _ _ _ _ HZ.out) Tryd.underlying24 rfl sizeAct) rfl ?_
          have h1 : F = some (actC t.k a' t.b c' d' n') := HDD.out
          subst h1
          refine ⟨fun k a b c d n e => ?_, fun e => (by cases e), HP.out _⟩
          have := Option.some.inj e
          rw [← this]
          rfl
      · have hcmp' : (t.word.toList == x.toList) = false := by simpa using hcmp
        have HN : Hid (F = seek x r (tab.drop (i + 1)) ∧ ∀ o1 o2, Below W2.heap.size W2 ((wr.alloc o1).alloc o2)) := by
          refine ⟨?_, fun o1 o2 => ?_⟩
          · have := HD.out
            rw [if_neg hcmp] at this
            exact this
          · have h1 := HR.out.2.alloc HR.out.2.size o1
            exact h1.alloc h1.size o2
        clear HR HD hcmp
        go_wp2_with fail
        go_roundg (15 - i)
        case measure => omega
        case rel => exact ⟨i + 1, by first | rfl | go_num, by omega, by omega, HN.out.1, HN.out.2 _ _⟩
    · obtain rfl : i = 15 := by omega
      have HZ : Hid (wr.heap[w.heap.size]? = some (.cells (actC 0 0 0 0 0 0) 24 (0, 0))) := (HR.out.2.block _ (by have := HK.out.2.1; omega)).trans HK.out.2.2.1
      have HP : Hid (F = none ∧ ∀ cs, Below w.heap.size w (wr.setRow w.heap.size cs)) := ⟨HR.out.1, fun cs => below_setRow (HK.out.1.trans (HR.out.2.mono HK.out.1.size)) (Nat.le_refl _) cs⟩
      clear HR HF
      go_wp2_with (refine wpList_store_row rfl 24 _ _ rfl w.heap.size #[.int .i64 0, .int .i64 0, .int .i64 0, .int .i64 0, .int .i64 0, .int .i64 0, .slice none 0 0] rfl rfl 24 _ HZ.out sizeAct rfl (ones7 _ _ _ _ _ _ _ _ _) ?_)
      refine bodyPost_ret (results_row_tmp rfl _ _ w.heap.size 24 #[.int .i64 0, .int .i64 0, .int .i64 0, .int .i64 0, .int .i64 0, .int .i64 0, .slice none 0 0] (0, 0) _ rfl (setRow_heap _ _ _ _ _ _ HZ.out) Tryd.underlying24 rfl sizeAct) rfl ?_
      obtain ⟨h1, h2⟩ := HP.out
      subst h1
      exact ⟨fun _ _ _ _ _ _ e => (by cases e), fun _ => rfl, h2 _⟩
end Go.Proofs.YtmkcdkfjomaidaaDoor
