/-
  PROVED HERE: expr.Parse at every text: the tree, the place, the error; nothing that lay before is turned.
-/
import Derived.Test.YtafidabopcgkhaaDoorWhole
import Derived.Test.YtafidabopcgkhaaDoorPRight
import Derived.Test.YtafidabopcgkhaaDoorTold
namespace Go.Proofs.YtafidabopcgkhaaDoor
open Go.RowKit

def emptyT : DataW Unit := node 0 ⟨#[]⟩ []
/-- What Parse answers, as plain data. -/
def outT (s : ByteArray) : Option (DataW Unit) :=
  if 200 < s.size then none
  else match readT (bts s) with
    | none => none
    | some t => if checkE 200 t = 0 then some t else none
def outE (s : ByteArray) : Int :=
  if 200 < s.size then 2
  else match readT (bts s) with
    | none => 4
    | some t => if checkE 200 t = 0 then 0 else 4
def outN (s : ByteArray) : Nat :=
  if 200 < s.size then 0
  else match readT (bts s) with
    | none => s.size - (altN (s.size + 1) (bts s)).2.length
    | some t => if checkE 200 t = 0 then s.size else 0
theorem out_long {s : ByteArray} (h : 200 < s.size) : outT s = none ∧ outE s = 2 ∧ outN s = 0 := by
  unfold outT outE outN
  rw [if_pos h, if_pos h, if_pos h]
  exact ⟨rfl, rfl, rfl⟩
theorem out_none {s : ByteArray} (h : ¬ 200 < s.size) (hr : readT (bts s) = none) : outT s = none ∧ outE s = 4 ∧ outN s = s.size - (altN (s.size + 1) (bts s)).2.length := by
  unfold outT outE outN
  rw [if_neg h, if_neg h, if_neg h, hr]
  exact ⟨rfl, rfl, rfl⟩
theorem out_bad {s : ByteArray} {t : DataW Unit} (h : ¬ 200 < s.size) (hr : readT (bts s) = some t) (hc : ¬ checkE 200 t = 0) : outT s = none ∧ outE s = 4 ∧ outN s = 0 := by
  unfold outT outE outN
  rw [if_neg h, if_neg h, if_neg h, hr]
  simp only [if_neg hc]
  exact ⟨trivial, trivial, trivial⟩
theorem out_some {s : ByteArray} {t : DataW Unit} (h : ¬ 200 < s.size) (hr : readT (bts s) = some t) (hc : checkE 200 t = 0) : outT s = some t ∧ outE s = 0 ∧ outN s = s.size := by
  unfold outT outE outN
  rw [if_neg h, if_neg h, if_neg h, hr]
  simp only [if_pos hc]
  exact ⟨trivial, trivial, trivial⟩
theorem emptyT_ex (w : World) (n : Nat) : Ex w (n + 1) emptyT zE := ⟨0, ⟨#[]⟩, none, 0, 0, [], rfl, rfl, rfl, by omega, .inl rfl⟩
theorem emptyT_right (n : Nat) : rightE (n + 1) emptyT = true := by
  unfold emptyT
  rw [rightE, subs_node, kindT_node, nameT_node]
  simp [shapely, ByteArray.toList_eq]
theorem emptyT_check : checkE 200 emptyT = 0 := by
  have h1 : cnt 200 emptyT = 1 := rfl
  have h2 : dp 200 emptyT = 1 := rfl
  unfold checkE
  rw [h1, h2, if_neg (by decide), if_pos (emptyT_right 199)]
theorem emptyT_named : named 200 emptyT := NamA.node (by decide) (fun x hx => by cases hx) 200
theorem Below.of_kept {lo g : Nat} {w W W' : World} (h : Below lo w W) (hK : Kept g W W') (hg : lo ≤ g) (hl : lo ≤ W.heap.size) : Below lo w W' :=
  ⟨hK.os.trans h.os, hK.tape.trans h.tape, hK.output.trans h.output, Nat.le_trans h.size hK.size, fun k hk => (hK.block k (by omega) (by omega)).trans (h.block k hk)⟩
theorem left_inj {s : ByteArray} {j : Nat} (hj : j ≤ s.size) {l : List UInt8} (h : l = left s j) : s.size - l.length = j := by
  rw [h, left_length]
  omega
theorem ExA.down {A : Nat → Prop} {w : World} : ∀ (n : Nat) (t : DataW Unit) (v : Value) (m : Nat), ExA A w n t v → dp n t ≤ m → ExA A w m t v := by
  intro n
  induction n with
  | zero => intro t v m h; exact h.elim
  | succ n ih =>
    rintro t v m ⟨k, s, a, len, cap, ts, rfl, rfl, h3, h4, h5⟩ hd
    rw [dp, subs_node] at hd
    have hg := greatest_nonneg (dp n) ts
    cases m with
    | zero => omega
    | succ m =>
      refine ⟨k, s, a, len, cap, ts, rfl, rfl, h3, h4, ?_⟩
      rcases h5 with h5 | ⟨b, o, h5, h6, h7, hc⟩
      · exact .inl h5
      · refine .inr ⟨b, o, h5, h6, h7, fun i x hx => ?_⟩
        obtain ⟨k', s', a', len', cap', c0, c1, c2, c3⟩ := hc i x hx
        have := le_greatest (f := dp n) ts x (List.mem_of_getElem? hx)
        exact ⟨k', s', a', len', cap', c0, c1, c2, ih _ _ m c3 (by omega)⟩
theorem Whl.cases {g : Nat} {s : ByteArray} {lo : Nat} {e : Ending} {w' : World} (h : Whl g s lo e w') (hs : ¬ 200 < s.size) :
    (∃ k nm a ln cp t, readT (bts s) = some t ∧ ExA (fun b => lo ≤ b) w' 200 t (.agg #[.int .i64 k, .string nm, .slice a ln cp]) ∧ named 200 t ∧ e = .returned (.tuple #[.agg #[.int .i64 k, .string nm, .slice a ln cp], .nilIface])) ∨
    (∃ k nm a ln cp j, readT (bts s) = none ∧ (altN (s.size + 1) (bts s)).2 = left s j ∧ j ≤ s.size ∧ e = .returned (.tuple #[.agg #[.int .i64 k, .string nm, .slice a ln cp], refV j 4])) := by
  rcases h with ⟨h1, rfl⟩ | ⟨r, t, m, h1, h2, h3, h4, rfl⟩ | ⟨r, j, h1, h2, h3, h4, rfl⟩
  · exact .inl ⟨0, ⟨#[]⟩, none, 0, 0, emptyT, by unfold readT; rw [if_pos h1]; rfl, ExA.leaf _ w' 199 0 ⟨#[]⟩ none 0, emptyT_named, rfl⟩
  · obtain ⟨k, nm, a, ln, cp⟩ := r
    have hl := bts_length s
    have hb := altN_bound (s.size + 1) (bts s) t [] h2 m
    rw [hl] at hb
    exact .inl ⟨k, nm, a, ln, cp, t, read_of h1 (n := s.size + 1) (by omega) h2, (ExA.down m t _ 200 h3 (by simp at hb; omega)).mono fun b _ h => h.1, (altN_named _ _ _ _ h2 (by omega)).1 200, rfl⟩
  · obtain ⟨k, nm, a, ln, cp⟩ := r
    exact .inr ⟨k, nm, a, ln, cp, j, h3, h2, h4, rfl⟩
/-- What read answers. -/
def Rdd (lo : Nat) (s : ByteArray) (e : Ending) (w' : World) : Prop :=
  (∃ t r, outT s = some t ∧ outE s = 0 ∧ outN s = s.size ∧ ExA (fun b => lo ≤ b) w' 200 t (rawV r) ∧ e = .returned (.tuple #[rawV r, .nilIface])) ∨
  (outT s = none ∧ outE s ≠ 0 ∧ e = .returned (.tuple #[zE, refV (outN s) (outE s)]))
set_option maxRecDepth 100000 in
set_option maxHeartbeats 4000000 in
theorem read_calls (s : ByteArray) (hs : s.size ≤ 9223372036854775807) (w : World) :
    Calls Tryd.prog 18 #[.string s] w fun e w' => Below w.heap.size w w' ∧ Rdd w.heap.size s e w' := by
  by_cases hbig : 200 < s.size
  · obtain ⟨o1, o2, o3⟩ := out_long hbig
    have HO : Hid (outT s = none ∧ outE s = 2 ∧ outN s = 0) := ⟨o1, o2, o3⟩
    have HB : Hid (∀ cs, Below w.heap.size w ((w.alloc (.cells #[.int .i64 0, .string ⟨#[]⟩, .slice none 0 0] 24)).setRow w.heap.size cs)) := fun cs => below_setRow ((Below.refl _ w).alloc (Nat.le_refl _) _) (Nat.le_refl _) cs
    have hb : (200 : Int) < (s.size : Int) := by omega
    clear o1 o2 o3
    go_enter Tryd.func18, Tryd.ntmps18
    go_wp2_with (refine wpList_store_row rfl 24 _ _ rfl w.heap.size #[.int .i64 0, .string ⟨#[]⟩, .slice none 0 0] rfl rfl 24 _ (heap_alloc_new w _) sizeExpr rfl (ones3 _ _ _ _ _) ?_)
    refine bodyPost_ret (results_row_tmp rfl _ _ w.heap.size 24 #[.int .i64 0, .string ⟨#[]⟩, .slice none 0 0] (0, 0) _ rfl (setRow_heap _ _ _ _ _ _ (heap_alloc_new w _)) Tryd.underlying24 rfl sizeExpr) rfl ?_
    refine ⟨HB.out _, .inr ⟨HO.out.1, by rw [HO.out.2.1]; decide, ?_⟩⟩
    rw [HO.out.2.1, HO.out.2.2]
    rfl
  · have hb : ¬ (200 : Int) < (s.size : Int) := by omega
    obtain ⟨w1, hw1⟩ : ∃ w1, w1 = (w.alloc (.cells #[.int .i64 0, .string ⟨#[]⟩, .slice none 0 0] 24)).alloc (.cells #[.string s, .int .i64 0] 67) := ⟨_, rfl⟩
    have hB1 : Below w.heap.size w w1 := by rw [hw1]; exact ((Below.refl _ w).alloc (Nat.le_refl _) _).alloc (by simp) _
    have hs1 : w1.heap.size = w.heap.size + 1 + 1 := by rw [hw1]; simp
    have hR1 : RAt w1 (w.heap.size + 1) s 0 := by
      unfold RAt
      have := heap_alloc_new (w.alloc (.cells #[.int .i64 0, .string ⟨#[]⟩, .slice none 0 0] 24)) (.cells #[.string s, .int .i64 0] 67)
      rw [World.size_alloc] at this
      rw [hw1]
      exact this
    have hz1 : w1.heap[w.heap.size]? = some (.cells #[.int .i64 0, .string ⟨#[]⟩, .slice none 0 0] 24 (0, 0)) := by rw [hw1, Below.heap_alloc _ _ _ (by simp)]; exact heap_alloc_new w _
    have HWh := whole_calls (w.heap.size + 1) s (by omega) w1 hR1
    have HH : Hid (Calls Tryd.prog 31 #[.pointer (some ⟨w.heap.size + 1, 0, none⟩)] w1 fun e w' => Kept (w.heap.size + 1) w1 w' ∧ Whl (w.heap.size + 1) s w1.heap.size e w') := HWh
    have HW : Hid (Below w.heap.size w w1 ∧ w1.heap.size = w.heap.size + 1 + 1 ∧ w1.heap[w.heap.size]? = some (.cells #[.int .i64 0, .string ⟨#[]⟩, .slice none 0 0] 24 (0, 0)) ∧ ¬ 200 < s.size) := ⟨hB1, hs1, hz1, hbig⟩
    clear HWh hB1 hs1 hz1 hR1 hbig
    go_enter Tryd.func18, Tryd.ntmps18
    go_wp2_with fail
    rw [← hw1]
    clear hw1
    refine HH.out.mono ?_
    rintro e2 W2 ⟨hK2, hE⟩
    obtain ⟨hB1, hs1, hz1, hbig⟩ := HW.out
    have hs2 := hK2.size
    have hz2 : W2.heap[w.heap.size]? = some (.cells #[.int .i64 0, .string ⟨#[]⟩, .slice none 0 0] 24 (0, 0)) := (hK2.block _ (by omega) (by omega)).trans hz1
    have hB2 : Below w.heap.size w W2 := Below.of_kept hB1 hK2 (by omega) (by omega)
    have hsz2 : w.heap.size < W2.heap.size := by omega
    have hw1s : w.heap.size < w1.heap.size := by omega
    clear HH HW hK2 hz1 hs1 hs2 hB1
    have HZ : Hid (∀ o, (W2.alloc o).heap[w.heap.size]? = some (.cells #[.int .i64 0, .string ⟨#[]⟩, .slice none 0 0] 24 (0, 0))) := fun o => (Below.heap_alloc W2 o _ hsz2).trans hz2
    rcases hE.cases hbig with ⟨k, nm, a, ln, cp, t, hrd, hex, hnm, rfl⟩ | ⟨k, nm, a, ln, cp, j, hrd, hpl, hjs, rfl⟩
    · have HCk : Hid (∀ W, Below W2.heap.size W2 W → Calls Tryd.prog 15 #[.agg #[.int .i64 k, .string nm, .slice a ln cp]] W fun e w' => e = .returned (.int .i64 (checkE 200 t)) ∧ Below W.heap.size W w') := fun W hW => check_calls 200 t _ W (Ex.below hW _ _ _ (ExA.ex _ _ _ hex)) hnm
      have HA : Hid (∀ o, Below W2.heap.size W2 (W2.alloc o)) := fun o => (Below.refl _ W2).alloc (Nat.le_refl _) _
      have HE : Hid (ExA (fun b => w1.heap.size ≤ b) W2 200 t (.agg #[.int .i64 k, .string nm, .slice a ln cp])) := hex
      have HW2 : Hid (Below w.heap.size w W2 ∧ w.heap.size < W2.heap.size ∧ w.heap.size < w1.heap.size) := ⟨hB2, hsz2, hw1s⟩
      have hev : ∀ W, Below (W2.alloc (.cells #[.int .i64 k, .string nm, .slice a ln cp] 24)).heap.size (W2.alloc (.cells #[.int .i64 k, .string nm, .slice a ln cp] 24)) W → W.heap[W2.heap.size]? = some (.cells #[.int .i64 k, .string nm, .slice a ln cp] 24 (0, 0)) := fun W hW => (hW.block _ (by simp)).trans (heap_alloc_new W2 _)
      have HEV : Hid (∀ W, Below (W2.alloc (.cells #[.int .i64 k, .string nm, .slice a ln cp] 24)).heap.size (W2.alloc (.cells #[.int .i64 k, .string nm, .slice a ln cp] 24)) W → W.heap[W2.heap.size]? = some (.cells #[.int .i64 k, .string nm, .slice a ln cp] 24 (0, 0))) := hev
      by_cases hck : checkE 200 t = 0
      · obtain ⟨o1, o2, o3⟩ := out_some hbig hrd hck
        have HO : Hid (outT s = some t ∧ outE s = 0 ∧ outN s = s.size) := ⟨o1, o2, o3⟩
        rw [hck] at HCk
        clear o1 o2 o3 hex hnm hrd hE hz2 hB2 hsz2 hev hck
        go_wp2_with fail
        refine (HCk.out _ (HA.out _)).mono ?_
        rintro e3 W3 ⟨rfl, hB3⟩
        have he3 := HEV.out W3 hB3
        have c0 : W3.cell? ⟨W2.heap.size, 0, none⟩ = some (.int .i64 k) := cell_of_row W3 _ 0 _ _ _ he3
        have c1 : W3.cell? ⟨W2.heap.size, 1, none⟩ = some (.string nm) := cell_of_row W3 _ 1 _ _ _ he3
        have c2 : W3.cell? ⟨W2.heap.size, 2, none⟩ = some (.slice a ln cp) := cell_of_row W3 _ 2 _ _ _ he3
        obtain ⟨hB2, hlt, hw1s⟩ := HW2.out
        have hB23 : Below W2.heap.size W2 W3 := (HA.out _).trans (hB3.mono (by simp))
        have HZ3 : Hid (W3.heap[w.heap.size]? = some (.cells #[.int .i64 0, .string ⟨#[]⟩, .slice none 0 0] 24 (0, 0))) := (hB3.block _ (by simp; omega)).trans (HZ.out _)
        have HF : Hid (∀ cs, Below w.heap.size w (W3.setRow w.heap.size cs)) := fun cs => below_setRow (hB2.trans (hB23.mono (by omega))) (Nat.le_refl _) cs
        have HX : Hid (∀ cs, ExA (fun b => w.heap.size ≤ b) (W3.setRow w.heap.size cs) 200 t (.agg #[.int .i64 k, .string nm, .slice a ln cp])) := fun cs => ExA.kept (by rw [size_setRow]; exact hB23.size) (fun b hb hA => ⟨by omega, (setRow_other _ _ _ _ (by omega)).trans (hB23.block b hb)⟩) _ _ _ HE.out
        clear hB2 hlt hw1s hB23 hB3 he3 HZ HW2 HE HEV HCk HA
        go_wp2_with (refine wpList_store_row rfl 24 _ _ rfl w.heap.size #[.int .i64 k, .string nm, .slice a ln cp] rfl rfl 24 _ HZ3.out sizeExpr rfl (ones3 _ _ _ _ _) ?_)
        refine bodyPost_ret (results_row_tmp rfl _ _ w.heap.size 24 #[.int .i64 k, .string nm, .slice a ln cp] (0, 0) _ rfl (setRow_heap _ _ _ _ _ _ HZ3.out) Tryd.underlying24 rfl sizeExpr) rfl ?_
        exact ⟨HF.out _, .inl ⟨t, (k, nm, a, ln, cp), HO.out.1, HO.out.2.1, HO.out.2.2, HX.out _, rfl⟩⟩
      · obtain ⟨o1, o2, o3⟩ := out_bad hbig hrd hck
        have HO : Hid (outT s = none ∧ outE s = 4 ∧ outN s = 0) := ⟨o1, o2, o3⟩
        generalize checkE 200 t = C at *
        have e1 : (C == 0) = false := by rw [beq_eq_false_iff_ne]; exact hck
        have e2 : (C != 0) = true := by rw [bne_iff_ne]; exact hck
        clear o1 o2 o3 hex hnm hrd hE hz2 hB2 hsz2 hev hck HE
        go_wp2_with fail
        refine (HCk.out _ (HA.out _)).mono ?_
        rintro e3 W3 ⟨rfl, hB3⟩
        obtain ⟨hB2, hlt, hw1s⟩ := HW2.out
        have hB23 : Below W2.heap.size W2 W3 := (HA.out _).trans (hB3.mono (by simp))
        have HZ3 : Hid (W3.heap[w.heap.size]? = some (.cells #[.int .i64 0, .string ⟨#[]⟩, .slice none 0 0] 24 (0, 0))) := (hB3.block _ (by simp; omega)).trans (HZ.out _)
        have HF : Hid (∀ cs, Below w.heap.size w (W3.setRow w.heap.size cs)) := fun cs => below_setRow (hB2.trans (hB23.mono (by omega))) (Nat.le_refl _) cs
        clear hB2 hlt hw1s hB23 hB3 HZ HW2 HEV HCk HA
        go_wp2_with (refine wpList_store_row rfl 24 _ _ rfl w.heap.size #[.int .i64 0, .string ⟨#[]⟩, .slice none 0 0] rfl rfl 24 _ HZ3.out sizeExpr rfl (ones3 _ _ _ _ _) ?_)
        refine bodyPost_ret (results_row_tmp rfl _ _ w.heap.size 24 #[.int .i64 0, .string ⟨#[]⟩, .slice none 0 0] (0, 0) _ rfl (setRow_heap _ _ _ _ _ _ HZ3.out) Tryd.underlying24 rfl sizeExpr) rfl ?_
        refine ⟨HF.out _, .inr ⟨HO.out.1, by rw [HO.out.2.1]; decide, ?_⟩⟩
        rw [HO.out.2.1, HO.out.2.2]
        rfl
    · obtain ⟨o1, o2, o3⟩ := out_none hbig hrd
      rw [left_inj hjs hpl] at o3
      have HO : Hid (outT s = none ∧ outE s = 4 ∧ outN s = j) := ⟨o1, o2, o3⟩
      have HF : Hid (∀ o cs, Below w.heap.size w ((W2.alloc o).setRow w.heap.size cs)) := fun o cs => below_setRow (hB2.alloc (by omega) o) (Nat.le_refl _) cs
      clear o1 o2 o3 hE hz2 hB2 hsz2 hrd hpl hjs hbig
      unfold refV
      go_wp2_with (refine wpList_store_row rfl 24 _ _ rfl w.heap.size #[.int .i64 0, .string ⟨#[]⟩, .slice none 0 0] rfl rfl 24 _ (HZ.out _) sizeExpr rfl (ones3 _ _ _ _ _) ?_)
      refine bodyPost_ret (results_row_tmp rfl _ _ w.heap.size 24 #[.int .i64 0, .string ⟨#[]⟩, .slice none 0 0] (0, 0) _ rfl (setRow_heap _ _ _ _ _ _ (HZ.out _)) Tryd.underlying24 rfl sizeExpr) rfl ?_
      refine ⟨HF.out _ _, .inr ⟨HO.out.1, by rw [HO.out.2.1]; decide, ?_⟩⟩
      rw [HO.out.2.1, HO.out.2.2]
      rfl
def outTree (s : ByteArray) : DataW Unit := (outT s).getD emptyT
set_option maxRecDepth 100000 in
set_option maxHeartbeats 4000000 in
theorem parse_calls (s : ByteArray) (hs : s.size ≤ 9223372036854775807) (w : World) (hg : ETy w) :
    Calls Tryd.prog 9 #[.string s] w fun e w' => Below w.heap.size w w' ∧ ∃ r, Ex w' 200 (outTree s) (rawV r) ∧ e = .returned (.tuple #[rawV r, .int .i64 (outN s : Int), .int .i64 (outE s)]) := by
  have HR : Hid (∀ W, Calls Tryd.prog 18 #[.string s] W fun e w' => Below W.heap.size W w' ∧ Rdd W.heap.size s e w') := fun W => read_calls s hs W
  have HT : Hid (∀ W, Below w.heap.size w W → Calls Tryd.prog 19 #[refV (outN s) (outE s)] W fun e w' => e = .returned (.tuple #[.int .i64 (outN s : Int), .int .i64 (outE s)]) ∧ Below W.heap.size W w') := fun W hW => told_calls (outN s) (outE s) W (hg.below hW)
  clear hg hs
  go_enter Tryd.func9, Tryd.ntmps9
  go_wp2_with fail
  refine (HR.out _).mono ?_
  rintro e1 W1 ⟨hB1, hE⟩
  have hz1 : W1.heap[w.heap.size]? = some (.cells #[.int .i64 0, .string ⟨#[]⟩, .slice none 0 0] 24 (0, 0)) := (hB1.block _ (by simp)).trans (heap_alloc_new w _)
  have hB : Below w.heap.size w W1 := ((Below.refl _ w).alloc (Nat.le_refl _) _).trans (hB1.mono (by simp))
  have hs1 : w.heap.size < W1.heap.size := by have := hB1.size; simp only [World.size_alloc] at this; omega
  clear HR
  rcases hE with ⟨t, r, o1, o2, o3, hX, rfl⟩ | ⟨o1, o2, rfl⟩
  · obtain ⟨k, nm, a, ln, cp⟩ := r
    unfold rawV at hX ⊢
    simp only at hX ⊢
    have HO : Hid (outT s = some t ∧ outE s = 0 ∧ outN s = s.size) := ⟨o1, o2, o3⟩
    have HZ : Hid (∀ o, (W1.alloc o).heap[w.heap.size]? = some (.cells #[.int .i64 0, .string ⟨#[]⟩, .slice none 0 0] 24 (0, 0))) := fun o => (Below.heap_alloc W1 o _ hs1).trans hz1
    have HF : Hid (∀ o cs, Below w.heap.size w ((W1.alloc o).setRow w.heap.size cs)) := fun o cs => below_setRow (hB.alloc (by omega) o) (Nat.le_refl _) cs
    have HX : Hid (∀ o cs, ExA (fun b => w.heap.size ≤ b) ((W1.alloc o).setRow w.heap.size cs) 200 t (.agg #[.int .i64 k, .string nm, .slice a ln cp])) := fun o cs => ExA.kept (by rw [size_setRow]; simp) (fun b hb hA => by simp only [World.size_alloc] at hA; exact ⟨by omega, (setRow_other _ _ _ _ (by omega)).trans (Below.heap_alloc W1 o b hb)⟩) _ _ _ hX
    clear hX hz1 hB hB1 hs1 o1 o2 o3 HT
    go_wp2_with (refine wpList_store_row rfl 24 _ _ rfl w.heap.size #[.int .i64 k, .string nm, .slice a ln cp] rfl rfl 24 _ (HZ.out _) sizeExpr rfl (ones3 _ _ _ _ _) ?_)
    refine bodyPost_ret (results_row_tmp2 rfl _ _ w.heap.size 24 #[.int .i64 k, .string nm, .slice a ln cp] (0, 0) _ rfl (setRow_heap _ _ _ _ _ _ (HZ.out _)) Tryd.underlying24 rfl sizeExpr) rfl ?_
    refine ⟨HF.out _ _, (k, nm, a, ln, cp), ?_, ?_⟩
    · unfold outTree
      rw [HO.out.1]
      exact ExA.ex _ _ _ (HX.out _ _)
    · rw [HO.out.2.1, HO.out.2.2]
      rfl
  · have HO : Hid (outT s = none) := o1
    have HZ : Hid ((W1.alloc (.cells #[.int .i64 0, .string ⟨#[]⟩, .slice none 0 0] 24)).heap[w.heap.size]? = some (.cells #[.int .i64 0, .string ⟨#[]⟩, .slice none 0 0] 24 (0, 0))) := (Below.heap_alloc W1 _ _ hs1).trans hz1
    have HB : Hid (Below w.heap.size w (W1.alloc (.cells #[.int .i64 0, .string ⟨#[]⟩, .slice none 0 0] 24)) ∧ w.heap.size < (W1.alloc (.cells #[.int .i64 0, .string ⟨#[]⟩, .slice none 0 0] 24)).heap.size) := ⟨hB.alloc (by omega) _, by simp; omega⟩
    clear hz1 hB hB1 hs1 o1
    unfold zE
    obtain ⟨N, hN⟩ : ∃ N, outN s = N := ⟨_, rfl⟩
    obtain ⟨E, hEE⟩ : ∃ E, outE s = E := ⟨_, rfl⟩
    have HN : Hid (outN s = N ∧ outE s = E) := ⟨hN, hEE⟩
    rw [hN, hEE] at HT ⊢
    clear hN hEE o2
    unfold refV at HT ⊢
    go_wp2_with fail
    refine (HT.out _ HB.out.1).mono ?_
    rintro e3 W3 ⟨rfl, hB3⟩
    have HZ3 : Hid (W3.heap[w.heap.size]? = some (.cells #[.int .i64 0, .string ⟨#[]⟩, .slice none 0 0] 24 (0, 0))) := (hB3.block _ HB.out.2).trans HZ.out
    have HF : Hid (∀ cs, Below w.heap.size w (W3.setRow w.heap.size cs)) := fun cs => below_setRow (HB.out.1.trans (hB3.mono HB.out.1.size)) (Nat.le_refl _) cs
    clear hB3 HZ HB HT
    go_wp2_with (refine wpList_store_row rfl 24 _ _ rfl w.heap.size #[.int .i64 0, .string ⟨#[]⟩, .slice none 0 0] rfl rfl 24 _ HZ3.out sizeExpr rfl (ones3 _ _ _ _ _) ?_)
    refine bodyPost_ret (results_row_tmp2 rfl _ _ w.heap.size 24 #[.int .i64 0, .string ⟨#[]⟩, .slice none 0 0] (0, 0) _ rfl (setRow_heap _ _ _ _ _ _ HZ3.out) Tryd.underlying24 rfl sizeExpr) rfl ?_
    refine ⟨HF.out _, (0, ⟨#[]⟩, none, 0, 0), ?_, by rw [HN.out.1, HN.out.2]; rfl⟩
    unfold outTree
    rw [HO.out]
    exact emptyT_ex _ 199
end Go.Proofs.YtafidabopcgkhaaDoor
