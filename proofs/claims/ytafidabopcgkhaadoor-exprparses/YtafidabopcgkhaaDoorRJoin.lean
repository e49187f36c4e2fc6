/-
  PROVED HERE: the document's own join at every row of trees: what it returns; nothing that lay before is turned.
-/
import Derived.Test.YtafidabopcgkhaaDoorHeldP
namespace Go.Proofs.YtafidabopcgkhaaDoor
open Go.RowKit

/-- A slice of trees, each of blocks from lo on. -/
def LRow (w : World) (a : Option Addr) (len m lo : Nat) (ts : List (DataW Unit)) (rs : List Raw) : Prop :=
  ∃ b o, a = some ⟨b, o, none⟩ ∧ b < w.heap.size ∧ ts.length = len ∧ Rows3 (fun b => lo ≤ b) w m ts rs ∧ ∀ j u, (rawC rs)[j]? = some u → w.cell? ((⟨b, o, none⟩ : Addr).add j) = some u
theorem LRow.at {w : World} {a : Option Addr} {len m lo : Nat} {ts : List (DataW Unit)} {rs : List Raw} (h : LRow w a len m lo ts rs) {i : Nat} (hi : i < len) : ∃ b o x kx nx ax lx cx, a = some ⟨b, o, none⟩ ∧ b < w.heap.size ∧ ts[i]? = some x ∧ rs[i]? = some ((kx, nx, ax, lx, cx) : Raw) ∧ ExA (fun b => lo ≤ b) w m x (.agg #[.int .i64 kx, .string nx, .slice ax lx cx]) ∧ ∀ W : World, Below w.heap.size w W → W.cell? ⟨b, o + i * 3, none⟩ = some (.int .i64 kx) ∧ W.cell? ⟨b, o + i * 3 + 1, none⟩ = some (.string nx) ∧ W.cell? ⟨b, o + i * 3 + 2, none⟩ = some (.slice ax lx cx) := by
  obtain ⟨b, o, rfl, hb, hl, hr, hc⟩ := h
  have hx : ts[i]? = some (ts[i]'(by omega)) := List.getElem?_eq_getElem (by omega)
  obtain ⟨r, hr1, hr2⟩ := hr.2 i _ hx
  obtain ⟨f0, f1, f2⟩ := rawC_at rs i r hr1
  have g0 := hc _ _ f0
  have g1 := hc _ _ f1
  have g2 := hc _ _ f2
  rw [add_none] at g0 g1 g2
  obtain ⟨kx, nx, ax, lx, cx⟩ := r
  rw [← Nat.add_assoc] at g1 g2
  exact ⟨b, o, _, kx, nx, ax, lx, cx, rfl, hb, hx, hr1, hr2, fun W hW => ⟨(hW.cell (p := ⟨b, _, none⟩) hb).trans g0, (hW.cell (p := ⟨b, _, none⟩) hb).trans g1, (hW.cell (p := ⟨b, _, none⟩) hb).trans g2⟩⟩
theorem flat_take (k : Int) {ts : List (DataW Unit)} {i : Nat} {x : DataW Unit} (h : ts[i]? = some x) : flatT k (ts.take (i + 1)) = flatT k (ts.take i) ++ (if kindT x = k then subs x else [x]) := by
  rw [List.take_add_one, h]
  exact flat_add k _ x
theorem flat_part (k : Int) : ∀ (ts : List (DataW Unit)) (i : Nat), (flatT k (ts.take i)).length ≤ (flatT k ts).length := by
  intro ts
  induction ts with
  | nil => intro i; simp [flatT]
  | cons x r ih =>
    intro i
    cases i with
    | zero => exact Nat.zero_le _
    | succ i =>
      rw [List.take_succ_cons, flatT, flatT, List.length_append, List.length_append]
      have := ih i
      omega
theorem cell_same {w w' : World} {b : Nat} (h : w'.heap[b]? = w.heap[b]?) (j : Nat) : w'.cell? ⟨b, j, none⟩ = w.cell? ⟨b, j, none⟩ := by
  unfold World.cell?
  rw [h]
/-- What join's loop holds. -/
structure Jn (k : Int) (w wr : World) (m lo : Nat) (F : List (DataW Unit)) (ev : Option Addr) (en ec : Nat) : Prop where
  below : Below w.heap.size w wr
  zero : wr.heap[w.heap.size]? = some (.cells #[.int .i64 0, .string ⟨#[]⟩, .slice none 0 0] 24 (0, 0))
  var : wr.heap[w.heap.size + 1]? = some (.cells #[.int .i64 k, .string ⟨#[]⟩, .slice ev en ec] 24 (0, 0))
  len : F.length = en
  rows : ∃ qs, wr.ownsRow (w.heap.size + 2) 24 3 (.slice ev en ec) en (rawC qs) ∧ Rows3 (fun b => lo ≤ b) w m F qs
theorem Jn.append {k : Int} {w wr : World} {m lo : Nat} {F us : List (DataW Unit)} {ev : Option Addr} {en ec : Nat} (h : Jn k w wr m lo F ev en ec) (_hlo : lo ≤ w.heap.size) {W : World} (hW : Below wr.heap.size wr W) {qs : List Raw} (hr : Rows3 (fun b => lo ≤ b) w m us qs) {len : Nat} (hl : us.length = len) (hb : en + len ≤ 1000) (b o cp : Nat) (hc : ∀ j u, (rawC qs)[j]? = some u → W.cell? ((⟨b, o, none⟩ : Addr).add j) = some u) :
    ∃ ev' en' ec' W3, (Builtin.append_ #[22, 22] 22 #[.slice ev en ec, .slice (some ⟨b, o, none⟩) len cp]).run Tryd.prog W = .ok (.slice ev' en' ec') W3 ∧ W3.heap[w.heap.size + 1]? = some (.cells #[.int .i64 k, .string ⟨#[]⟩, .slice ev en ec] 24 (0, 0)) ∧ (∀ j, j < w.heap.size → W3.heap[j]? = w.heap[j]?) ∧ Jn k w (W3.setCell ⟨w.heap.size + 1, 2, none⟩ (.slice ev' en' ec')) m lo (F ++ us) ev' en' ec' := by
  obtain ⟨qs0, hown, hrows⟩ := h.rows
  have hs := h.below.size
  have hsz := hW.size
  have hvl : w.heap.size + 1 < wr.heap.size := (Array.getElem?_eq_some_iff.1 h.var).1
  have hown2 : W.ownsRow (w.heap.size + 2) 24 3 (.slice ev en ec) en (rawC qs0) := owns_kept hown fun j hj => hW.block j (own_lies hown hj).2
  obtain ⟨v', W3, hrun, ho, hgr, hat⟩ := expr_append hown2 (by omega) b o len cp (by rw [hr.1, hl]) hc (by omega)
  have hv' : ∃ ev' ec', v' = .slice ev' (en + len) ec' := by
    obtain ⟨_, ⟨h1, h2⟩ | ⟨g, cap, _, h1, _⟩⟩ := ho
    · exact ⟨none, 0, by rw [h1, h2]⟩
    · exact ⟨_, _, h1⟩
  obtain ⟨ev', ec', rfl⟩ := hv'
  have hgs := hgr.size
  have hblk : ∀ j, j < wr.heap.size → j < w.heap.size + 2 → W3.heap[j]? = wr.heap[j]? := fun j h1 h2 => by
    rw [hgr.block j (by omega) (fun e => by have := (own_lies hown2 e.symm).1; omega), hW.block j h1]
  have hvar3 : W3.heap[w.heap.size + 1]? = some (.cells #[.int .i64 k, .string ⟨#[]⟩, .slice ev en ec] 24 (0, 0)) := (hblk _ hvl (by omega)).trans h.var
  have hbe : ∀ j, j < w.heap.size → W3.heap[j]? = w.heap[j]? := fun j hj => (hblk j (by omega) (by omega)).trans (h.below.block j hj)
  refine ⟨ev', _, ec', W3, hrun, hvar3, hbe, ?_, ?_, ?_, by rw [List.length_append, h.len, hl], qs0 ++ qs, ?_, ?_⟩
  · refine ⟨hgr.os.trans (hW.os.trans h.below.os), hgr.tape.trans (hW.tape.trans h.below.tape), hgr.output.trans (hW.output.trans h.below.output), by simp; omega, fun j hj => ?_⟩
    rw [Below.heap_setCell _ _ _ _ (by show j ≠ w.heap.size + 1; omega)]
    exact hbe j hj
  · rw [Below.heap_setCell _ _ _ _ (by show w.heap.size ≠ w.heap.size + 1; omega)]
    exact (hblk _ (by omega) (by omega)).trans h.zero
  · exact heap_setCell_same W3 (w.heap.size + 1) 2 _ _ _ hvar3
  · refine owns_kept ho fun j hj => ?_
    have := (own_lies ho hj).1
    exact Below.heap_setCell _ _ _ _ (by show j ≠ w.heap.size + 1; omega)
  · exact hrows.append hr
set_option maxRecDepth 100000 in
set_option maxHeartbeats 8000000 in
theorem join_calls (k : Int) (hk : k = 2 ∨ k = 3) (a : Option Addr) (len cap m lo : Nat) (ts : List (DataW Unit)) (rs : List Raw) (w : World) (hL : LRow w a len m lo ts rs) (h1 : 1 ≤ len) (hG : ∀ x ∈ ts, Good x) (hlo : lo ≤ w.heap.size) (hbd : (flatT k ts).length ≤ 1000) :
    Calls Tryd.prog 34 #[.int .i64 k, .slice a len cap] w fun e w' => Below w.heap.size w w' ∧ ∃ r m', e = .returned (rawV r) ∧ ExA (fun b => lo ≤ b) w' m' (joinT k ts) (rawV r) := by
  have hmx : Tryd.prog.follows .mixedOrders = true := by kernel_rfl
  have hlen : ts.length = len := by obtain ⟨_, _, _, _, h, _⟩ := hL; exact h
  have HB1 : Hid (∀ cs, Below w.heap.size w ((w.alloc (.cells #[.int .i64 0, .string ⟨#[]⟩, .slice none 0 0] 24)).setRow w.heap.size cs)) := fun cs => below_setRow ((Below.refl _ w).alloc (Nat.le_refl _) _) (Nat.le_refl _) cs
  by_cases hone : len = 1
  · subst hone
    obtain ⟨b, o, x, kx, nx, ax, lx, cx, rfl, hb, hx, hr, hX, hc⟩ := hL.at (i := 0) (by omega)
    have hj : joinT k ts = x := by
      match ts, hlen, hx with
      | [y], _, hx => cases hx; rfl
    rw [hj]
    have hcc := hc (w.alloc (.cells #[.int .i64 0, .string ⟨#[]⟩, .slice none 0 0] 24)) ((Below.refl _ w).alloc (Nat.le_refl _) _)
    simp only [Nat.zero_mul, Nat.add_zero] at hcc
    obtain ⟨d0, d1, d2⟩ := hcc
    have HX : Hid (∀ cs, ExA (fun b => lo ≤ b) ((w.alloc (.cells #[.int .i64 0, .string ⟨#[]⟩, .slice none 0 0] 24)).setRow w.heap.size cs) m x (.agg #[.int .i64 kx, .string nx, .slice ax lx cx])) := fun cs => ExA.kept (by rw [size_setRow]; simp) (fun b hb hA => ⟨hA, (setRow_other _ _ _ _ (by omega)).trans (Below.heap_alloc w _ b hb)⟩) _ _ _ hX
    clear hc hX hL hG hbd hj
    go_enter Tryd.func34, Tryd.ntmps34
    go_wp2_with (refine wpList_store_row rfl 24 _ _ rfl w.heap.size #[.int .i64 kx, .string nx, .slice ax lx cx] rfl rfl 24 _ (heap_alloc_new w _) sizeExpr rfl (ones3 _ _ _ _ _) ?_)
    refine bodyPost_ret (results_cell_row rfl _ _ w.heap.size 24 #[.int .i64 kx, .string nx, .slice ax lx cx] (0, 0) _ rfl (setRow_heap _ _ _ _ _ _ (heap_alloc_new w _)) Tryd.underlying24 rfl sizeExpr) rfl ?_
    exact ⟨HB1.out _, (kx, nx, ax, lx, cx), m, rfl, HX.out _⟩
  · have hob : ((len : Int) == 1) = false := by rw [beq_eq_false_iff_ne]; omega
    have hj : joinT k ts = node k ⟨#[]⟩ (flatT k ts) := by
      match ts, hlen with
      | [], h => simp at h; omega
      | [y], h => simp at h; omega
      | x :: y :: r, _ => rfl
    rw [hj]
    have HS : Hid (Jn k w ((w.alloc (.cells #[.int .i64 0, .string ⟨#[]⟩, .slice none 0 0] 24)).alloc (.cells #[.int .i64 k, .string ⟨#[]⟩, .slice none 0 0] 24)) m lo (flatT k (ts.take 0)) none 0 0) := by
      refine ⟨((Below.refl _ w).alloc (Nat.le_refl _) _).alloc (by simp) _, ?_, ?_, rfl, [], World.ownsRow_nil _ _ _ _, Rows3.nil _ _ _⟩
      · rw [Below.heap_alloc _ _ _ (by simp)]
        exact heap_alloc_new w _
      · have := heap_alloc_new (w.alloc (.cells #[.int .i64 0, .string ⟨#[]⟩, .slice none 0 0] 24)) (.cells #[.int .i64 k, .string ⟨#[]⟩, .slice none 0 0] 24)
        rw [World.size_alloc] at this
        exact this
    have HLR : Hid (LRow w a len m lo ts rs) := hL
    have HGG : Hid ((∀ x ∈ ts, Good x) ∧ lo ≤ w.heap.size ∧ (flatT k ts).length ≤ 1000 ∧ (k = 2 ∨ k = 3)) := ⟨hG, hlo, hbd, hk⟩
    have HT : Hid (ts.take len = ts) := List.take_of_length_le (by omega)
    have hl1000 : len ≤ 1000 := by have := flat_len hk ts hG; omega
    clear hL hG hlo hbd hk hj HB1
    go_enter Tryd.func34, Tryd.ntmps34
    go_wp2
    go_loopw [6] (fun u w' => ∃ j : Nat, j ≤ len ∧ u = .int .i64 (j : Int) ∧ ∃ ev en ec, Jn k w w' m lo (flatT k (ts.take j)) ev en ec) (fun u _ => len - (intOf u).toNat)
    case atStart => exact ⟨0, by omega, rfl, none, 0, 0, HS.out⟩
    case round =>
      obtain ⟨i, hi, rfl, ev, en, ec, hJ⟩ := hrel
      clear HS
      have hvar := hJ.var
      have c2 : wr.cell? ⟨w.heap.size + 1, 2, none⟩ = some (.slice ev en ec) := cell_of_row wr _ 2 _ _ _ hvar
      have f2 : wr.frozen? ⟨w.heap.size + 1, 2, none⟩ = false := by simp [World.frozen?, hvar]
      by_cases hlt : i < len
      · obtain ⟨b, o, x, kx, nx, ax, lx, cx, rfl, hb, hx, hr, hX, hc⟩ := HLR.out.at hlt
        obtain ⟨d0, d1, d2⟩ := hc wr hJ.below
        have hkx : kindT x = kx := (ExA.node (r := (kx, nx, ax, lx, cx)) hX).1
        have hlx : (subs x).length = lx := (ExA.node (r := (kx, nx, ax, lx, cx)) hX).2
        have hft := flat_take k hx
        have hfb := flat_part k ts (i + 1)
        obtain ⟨hG, hlo, hbd, hk⟩ := HGG.out
        have hGx := hG x (List.mem_of_getElem? hx)
        have hJl := hJ.len
        by_cases hkk : kx = k
        · subst hkk
          rw [if_pos hkx] at hft
          have hl2 := (hGx.2 (by rw [hkx]; exact hk)).2
          rw [hft, List.length_append, hlx, hJl] at hfb
          cases m with
          | zero => exact hX.elim
          | succ m =>
          obtain ⟨-, -, -, b2, o2, qs, rfl, hb2, -, hr2, hc2⟩ := hX.kids (by omega)
          obtain ⟨ev', en', ec', W3, hrun, hv3, hb3, hJ3⟩ := hJ.append hlo ((Below.refl _ wr).drew) (hr2.upto (Nat.le_succ _)) hlx (by omega) b2 o2 cx (fun j u hj => by
            have h5 := hc2 j u hj
            rw [add_none] at h5 ⊢
            exact (hJ.below.cell (p := ⟨b2, o2 + j, none⟩) hb2).trans h5)
          rw [← hft] at hJ3
          have HJ3 : Hid (Jn kx w (W3.setCell ⟨w.heap.size + 1, 2, none⟩ (.slice ev' en' ec')) (m + 1) lo (flatT kx (ts.take (i + 1))) ev' en' ec') := hJ3
          have HQ : Hid ((fun w' => w'.cell? ⟨b, o + i * 3, none⟩ = some (.int .i64 kx) ∧ w'.cell? ⟨b, o + i * 3 + 1, none⟩ = some (.string nx) ∧ w'.cell? ⟨b, o + i * 3 + 2, none⟩ = some (.slice (some ⟨b2, o2, none⟩) lx cx)) wr.drew) := ⟨d0, d1, d2⟩
          have hcw := hc w (Below.refl _ _)
          have hS3 : (fun w' => w'.cell? ⟨b, o + i * 3, none⟩ = some (.int .i64 kx) ∧ w'.cell? ⟨b, o + i * 3 + 1, none⟩ = some (.string nx) ∧ w'.cell? ⟨b, o + i * 3 + 2, none⟩ = some (.slice (some ⟨b2, o2, none⟩) lx cx)) W3 := ⟨(cell_same (hb3 b hb) _).trans hcw.1, (cell_same (hb3 b hb) _).trans hcw.2.1, (cell_same (hb3 b hb) _).trans hcw.2.2⟩
          have hS4 : (fun w' => w'.cell? ⟨b, o + i * 3, none⟩ = some (.int .i64 kx) ∧ w'.cell? ⟨b, o + i * 3 + 1, none⟩ = some (.string nx) ∧ w'.cell? ⟨b, o + i * 3 + 2, none⟩ = some (.slice (some ⟨b2, o2, none⟩) lx cx)) (W3.setCell ⟨w.heap.size + 1, 2, none⟩ (.slice ev' en' ec')) := by
            have hb4 := (hJ3.below.block b hb)
            exact ⟨(cell_same hb4 _).trans hcw.1, (cell_same hb4 _).trans hcw.2.1, (cell_same hb4 _).trans hcw.2.2⟩
          have c3 : W3.cell? ⟨w.heap.size + 1, 2, none⟩ = some (.slice ev en ec) := cell_of_row W3 _ 2 _ _ _ hv3
          have f3 : W3.frozen? ⟨w.heap.size + 1, 2, none⟩ = false := by simp [World.frozen?, hv3]
          have c2d : wr.drew.cell? ⟨w.heap.size + 1, 2, none⟩ = some (.slice ev en ec) := c2
          clear hcw hc2 hr2 hX hJ3 hv3 hb3 hJ
          go_wp2_with fail
          refine wp_region_held_drew (S := (fun w' => w'.cell? ⟨b, o + i * 3, none⟩ = some (.int .i64 kx) ∧ w'.cell? ⟨b, o + i * 3 + 1, none⟩ = some (.string nx) ∧ w'.cell? ⟨b, o + i * 3 + 2, none⟩ = some (.slice (some ⟨b2, o2, none⟩) lx cx))) hmx HQ.out (fun hS => ?_)
          refine takeD 0 (some 28) (v := ?_) rfl rfl (by kernel_rfl) (by kernel_rfl) (by kernel_rfl) (fun _ _ _ h => h) (Or.inl ⟨by rfl, ?_⟩) hS ?_
          rotate_left
          · intro w hSw
            obtain ⟨s1, s2, s3⟩ := hSw
            go_simp
            with_reducible rfl
          try simp only [Act.put, List.setIfInBounds_toArray, List.set_cons_zero, List.set_cons_succ]
          refine takeD 2 (some 30) (v := ?_) rfl rfl (by kernel_rfl) (by kernel_rfl) (by kernel_rfl) (fun _ _ _ h => h) (Or.inl ⟨by rfl, ?_⟩) hS ?_
          rotate_left
          · intro w hSw
            obtain ⟨s1, s2, s3⟩ := hSw
            go_simp
            with_reducible rfl
          try simp only [Act.put, List.setIfInBounds_toArray, List.set_cons_zero, List.set_cons_succ]
          refine takeD 3 (some 31) (v := ?_) rfl rfl (by kernel_rfl) (by kernel_rfl) (by kernel_rfl) (fun _ _ _ h => h) (Or.inl ⟨by rfl, ?_⟩) hS ?_
          rotate_left
          · intro w hSw
            obtain ⟨s1, s2, s3⟩ := hSw
            go_simp
            with_reducible rfl
          try simp only [Act.put, List.setIfInBounds_toArray, List.set_cons_zero, List.set_cons_succ]
          refine takeD 4 (some 32) (v := ?_) rfl rfl (by kernel_rfl) (by kernel_rfl) (by kernel_rfl) (fun _ _ _ h => h) (Or.inl ⟨by rfl, ?_⟩) hS ?_
          rotate_left
          · intro w hSw
            obtain ⟨s1, s2, s3⟩ := hSw
            go_simp
            with_reducible rfl
          try simp only [Act.put, List.setIfInBounds_toArray, List.set_cons_zero, List.set_cons_succ]
          refine takeD 5 (some 33) (v := ?_) rfl rfl (by kernel_rfl) (by kernel_rfl) (by kernel_rfl) (fun _ _ _ h => h) (Or.inl ⟨by rfl, ?_⟩) hS ?_
          rotate_left
          · intro w hSw
            obtain ⟨s1, s2, s3⟩ := hSw
            go_simp
            with_reducible rfl
          try simp only [Act.put, List.setIfInBounds_toArray, List.set_cons_zero, List.set_cons_succ]
          refine takeD 6 (some 34) (v := ?_) rfl rfl (by kernel_rfl) (by kernel_rfl) (by kernel_rfl) (fun _ _ _ h => h) (Or.inl ⟨by rfl, ?_⟩) hS ?_
          rotate_left
          · intro w hSw
            obtain ⟨s1, s2, s3⟩ := hSw
            go_simp
            with_reducible rfl
          try simp only [Act.put, List.setIfInBounds_toArray, List.set_cons_zero, List.set_cons_succ]
          refine callD 1 (by kernel_rfl) rfl (fun K hK => ?_)
          go_simp
          refine hK.out _ _ hS (fun _ => ?_)
          clear hK K
          try simp only [Act.put, List.setIfInBounds_toArray, List.set_cons_zero, List.set_cons_succ]
          refine callD 7 (by kernel_rfl) rfl (fun K hK => ?_)
          rw [if_pos (by rfl)]
          refine wp_run_append _ _ 22 rfl _ _ (.slice ev' en' ec') W3 rfl rfl hrun ?_
          refine hK.out _ _ hS3 (fun _ => ?_)
          clear hK K
          try simp only [Act.put, List.setIfInBounds_toArray]
          refine takeD 8 (some 36) (v := ?_) rfl rfl (by kernel_rfl) (by kernel_rfl) (by kernel_rfl) (fun _ _ _ h => h) (Or.inl ⟨by rfl, ?_⟩) hS3 ?_
          rotate_left
          · intro w hSw
            obtain ⟨s1, s2, s3⟩ := hSw
            go_simp
            with_reducible rfl
          try simp only [Act.put]
          refine callD 9 (by kernel_rfl) rfl (fun K hK => ?_)
          rw [if_pos (by rfl)]
          go_simp
          refine hK.out _ _ hS4 (fun _ => ?_)
          clear hK K
          try simp only [Act.put, List.setIfInBounds_toArray, List.set_cons_zero, List.set_cons_succ]
          refine wpAnyH_done (by kernel_rfl) ?_ _
          go_wp2
          go_roundw
          case rel => exact ⟨i + 1, by omega, rfl, ev', en', ec', HJ3.out⟩
          case measure => simp [intOf]; omega
        · have hkb : (kx == k) = false := by rw [beq_eq_false_iff_ne]; exact hkk
          rw [if_neg (fun e => hkk (hkx.symm.trans e))] at hft
          rw [hft, List.length_append, hJl, List.length_cons, List.length_nil] at hfb
          obtain ⟨Y, hY⟩ : ∃ Y : Obj, Y = .cells #[.int .i64 kx, .string nx, .slice ax lx cx] 24 := ⟨_, rfl⟩
          have hws : w.heap.size + 1 < wr.heap.size := (Array.getElem?_eq_some_iff.1 hvar).1
          have hnew : (wr.drew.alloc Y).heap[wr.heap.size]? = some Y := heap_alloc_new wr.drew Y
          obtain ⟨ev', en', ec', W3, hrun, hv3, hb3, hJ3⟩ := hJ.append (us := [x]) (qs := [((kx, nx, ax, lx, cx) : Raw)]) (len := 1) hlo (W := wr.drew.alloc Y) ((Below.refl _ wr).drew.alloc (Nat.le_refl _) Y) (Rows3.one hX) rfl (by omega) wr.heap.size 0 1 (fun j u hj => by
            rw [add_none]
            refine rawC_cells [((kx, nx, ax, lx, cx) : Raw)] 0 (fun i x hx => ?_) j u hj
            have hcell : ∀ j, (wr.drew.alloc Y).cell? ⟨wr.heap.size, j, none⟩ = (#[.int .i64 kx, .string nx, .slice ax lx cx] : Array Value)[j]? := fun j => by
              rw [hY] at hnew ⊢
              exact cell_of_row _ _ j _ _ _ hnew
            cases i with
            | zero =>
              have hx2 : ((kx, nx, ax, lx, cx) : Raw) = x := Option.some.inj hx
              subst hx2
              exact ⟨hcell 0, hcell 1, hcell 2⟩
            | succ i => cases hx)
          rw [← hft] at hJ3
          have HJ3 : Hid (Jn k w (W3.setCell ⟨w.heap.size + 1, 2, none⟩ (.slice ev' en' ec')) m lo (flatT k (ts.take (i + 1))) ev' en' ec') := hJ3
          have HQ : Hid ((fun w' => w'.cell? ⟨b, o + i * 3, none⟩ = some (.int .i64 kx) ∧ w'.cell? ⟨b, o + i * 3 + 1, none⟩ = some (.string nx) ∧ w'.cell? ⟨b, o + i * 3 + 2, none⟩ = some (.slice ax lx cx)) wr.drew) := ⟨d0, d1, d2⟩
          have hcw := hc w (Below.refl _ _)
          have hwb : b < wr.heap.size := by have := hJ.below.size; omega
          have hSa : (fun w' => w'.cell? ⟨b, o + i * 3, none⟩ = some (.int .i64 kx) ∧ w'.cell? ⟨b, o + i * 3 + 1, none⟩ = some (.string nx) ∧ w'.cell? ⟨b, o + i * 3 + 2, none⟩ = some (.slice ax lx cx)) (wr.drew.alloc (.cells #[.int .i64 kx, .string nx, .slice ax lx cx] 24)) := by
            have hb4 : (wr.drew.alloc (.cells #[.int .i64 kx, .string nx, .slice ax lx cx] 24)).heap[b]? = wr.heap[b]? := Below.heap_alloc wr.drew _ b hwb
            exact ⟨(cell_same hb4 _).trans d0, (cell_same hb4 _).trans d1, (cell_same hb4 _).trans d2⟩
          have hS3 : (fun w' => w'.cell? ⟨b, o + i * 3, none⟩ = some (.int .i64 kx) ∧ w'.cell? ⟨b, o + i * 3 + 1, none⟩ = some (.string nx) ∧ w'.cell? ⟨b, o + i * 3 + 2, none⟩ = some (.slice ax lx cx)) W3 := ⟨(cell_same (hb3 b hb) _).trans hcw.1, (cell_same (hb3 b hb) _).trans hcw.2.1, (cell_same (hb3 b hb) _).trans hcw.2.2⟩
          have hS4 : (fun w' => w'.cell? ⟨b, o + i * 3, none⟩ = some (.int .i64 kx) ∧ w'.cell? ⟨b, o + i * 3 + 1, none⟩ = some (.string nx) ∧ w'.cell? ⟨b, o + i * 3 + 2, none⟩ = some (.slice ax lx cx)) (W3.setCell ⟨w.heap.size + 1, 2, none⟩ (.slice ev' en' ec')) := by
            have hb4 := (hJ3.below.block b hb)
            exact ⟨(cell_same hb4 _).trans hcw.1, (cell_same hb4 _).trans hcw.2.1, (cell_same hb4 _).trans hcw.2.2⟩
          have c3 : W3.cell? ⟨w.heap.size + 1, 2, none⟩ = some (.slice ev en ec) := cell_of_row W3 _ 2 _ _ _ hv3
          have f3 : W3.frozen? ⟨w.heap.size + 1, 2, none⟩ = false := by simp [World.frozen?, hv3]
          have c2d : wr.drew.cell? ⟨w.heap.size + 1, 2, none⟩ = some (.slice ev en ec) := c2
          have c2e : (wr.drew.alloc (.cells #[.int .i64 kx, .string nx, .slice ax lx cx] 24)).cell? ⟨w.heap.size + 1, 2, none⟩ = some (.slice ev en ec) := (cell_same (Below.heap_alloc wr.drew _ _ hws) _).trans c2
          have c2g : (wr.alloc (.cells #[.int .i64 kx, .string nx, .slice ax lx cx] 24)).cell? ⟨w.heap.size + 1, 2, none⟩ = some (.slice ev en ec) := (cell_same (Below.heap_alloc wr _ _ hws) _).trans c2
          rw [hY] at hrun
          clear hcw hX hJ3 hv3 hb3 hJ hnew hY hwb hws
          go_wp2_with fail
          refine wp_region_held_drew (S := (fun w' => w'.cell? ⟨b, o + i * 3, none⟩ = some (.int .i64 kx) ∧ w'.cell? ⟨b, o + i * 3 + 1, none⟩ = some (.string nx) ∧ w'.cell? ⟨b, o + i * 3 + 2, none⟩ = some (.slice ax lx cx))) hmx HQ.out (fun hS => ?_)
          refine takeD 0 (some 37) (v := ?_) rfl rfl (by kernel_rfl) (by kernel_rfl) (by kernel_rfl) (fun _ _ _ h => h) (Or.inl ⟨by rfl, ?_⟩) hS ?_
          rotate_left
          · intro w hSw
            obtain ⟨s1, s2, s3⟩ := hSw
            go_simp
            with_reducible rfl
          try simp only [Act.put, List.setIfInBounds_toArray, List.set_cons_zero, List.set_cons_succ]
          refine takeD 2 (some 39) (v := ?_) rfl rfl (by kernel_rfl) (by kernel_rfl) (by kernel_rfl) (fun _ _ _ h => h) (Or.inl ⟨by rfl, ?_⟩) hS ?_
          rotate_left
          · intro w hSw
            obtain ⟨s1, s2, s3⟩ := hSw
            go_simp
            with_reducible rfl
          try simp only [Act.put, List.setIfInBounds_toArray, List.set_cons_zero, List.set_cons_succ]
          refine takeD 3 (some 40) (v := ?_) rfl rfl (by kernel_rfl) (by kernel_rfl) (by kernel_rfl) (fun _ _ _ h => h) (Or.inl ⟨by rfl, ?_⟩) hS ?_
          rotate_left
          · intro w hSw
            obtain ⟨s1, s2, s3⟩ := hSw
            go_simp
            with_reducible rfl
          try simp only [Act.put, List.setIfInBounds_toArray, List.set_cons_zero, List.set_cons_succ]
          refine takeD 4 (some 41) (v := ?_) rfl rfl (by kernel_rfl) (by kernel_rfl) (by kernel_rfl) (fun _ _ _ h => h) (Or.inl ⟨by rfl, ?_⟩) hS ?_
          rotate_left
          · intro w hSw
            obtain ⟨s1, s2, s3⟩ := hSw
            go_simp
            with_reducible rfl
          try simp only [Act.put, List.setIfInBounds_toArray, List.set_cons_zero, List.set_cons_succ]
          refine takeD 5 (some 42) (v := ?_) rfl rfl (by kernel_rfl) (by kernel_rfl) (by kernel_rfl) (fun _ _ _ h => h) (Or.inl ⟨by rfl, ?_⟩) hS ?_
          rotate_left
          · intro w hSw
            obtain ⟨s1, s2, s3⟩ := hSw
            go_simp
            with_reducible rfl
          try simp only [Act.put, List.setIfInBounds_toArray, List.set_cons_zero, List.set_cons_succ]
          refine wpAnyH_ready (rs := [1, 6]) (by kernel_rfl) (by simp) (AllReadyH.cons rfl (fun K hK => ?_) (AllReadyH.cons rfl (fun K hK => ?_) AllReadyH.nil))
          · go_simp
            refine hK.out _ _ hS (fun _ => ?_)
            clear hK K
            try simp only [Act.put, List.setIfInBounds_toArray, List.set_cons_zero, List.set_cons_succ]
            refine callD 6 (by kernel_rfl) rfl (fun K hK => ?_)
            go_simp
            refine hK.out _ _ hSa (fun _ => ?_)
            clear hK K
            try simp only [Act.put, List.setIfInBounds_toArray, List.set_cons_zero, List.set_cons_succ]
            refine callD 7 (by kernel_rfl) rfl (fun K hK => ?_)
            rw [if_pos (by rfl)]
            refine wp_run_append _ _ 22 rfl _ _ (.slice ev' en' ec') W3 rfl rfl hrun ?_
            refine hK.out _ _ hS3 (fun _ => ?_)
            clear hK K
            try simp only [Act.put, List.setIfInBounds_toArray]
            refine takeD 8 (some 45) (v := ?_) rfl rfl (by kernel_rfl) (by kernel_rfl) (by kernel_rfl) (fun _ _ _ h => h) (Or.inl ⟨by rfl, ?_⟩) hS3 ?_
            rotate_left
            · intro w hSw
              obtain ⟨s1, s2, s3⟩ := hSw
              go_simp
              with_reducible rfl
            try simp only [Act.put]
            refine callD 9 (by kernel_rfl) rfl (fun K hK => ?_)
            rw [if_pos (by rfl)]
            go_simp
            refine hK.out _ _ hS4 (fun _ => ?_)
            clear hK K
            try simp only [Act.put, List.setIfInBounds_toArray, List.set_cons_zero, List.set_cons_succ]
            refine wpAnyH_done (by kernel_rfl) ?_ _
            go_wp2
            go_roundw
            case rel => exact ⟨i + 1, by omega, rfl, ev', en', ec', HJ3.out⟩
            case measure => simp [intOf]; omega
          · go_simp
            refine hK.out _ _ hSa (fun _ => ?_)
            clear hK K
            try simp only [Act.put, List.setIfInBounds_toArray, List.set_cons_zero, List.set_cons_succ]
            refine callD 1 (by kernel_rfl) rfl (fun K hK => ?_)
            go_simp
            refine hK.out _ _ hSa (fun _ => ?_)
            clear hK K
            try simp only [Act.put, List.setIfInBounds_toArray, List.set_cons_zero, List.set_cons_succ]
            refine callD 7 (by kernel_rfl) rfl (fun K hK => ?_)
            rw [if_pos (by rfl)]
            refine wp_run_append _ _ 22 rfl _ _ (.slice ev' en' ec') W3 rfl rfl hrun ?_
            refine hK.out _ _ hS3 (fun _ => ?_)
            clear hK K
            try simp only [Act.put, List.setIfInBounds_toArray]
            refine takeD 8 (some 45) (v := ?_) rfl rfl (by kernel_rfl) (by kernel_rfl) (by kernel_rfl) (fun _ _ _ h => h) (Or.inl ⟨by rfl, ?_⟩) hS3 ?_
            rotate_left
            · intro w hSw
              obtain ⟨s1, s2, s3⟩ := hSw
              go_simp
              with_reducible rfl
            try simp only [Act.put]
            refine callD 9 (by kernel_rfl) rfl (fun K hK => ?_)
            rw [if_pos (by rfl)]
            go_simp
            refine hK.out _ _ hS4 (fun _ => ?_)
            clear hK K
            try simp only [Act.put, List.setIfInBounds_toArray, List.set_cons_zero, List.set_cons_succ]
            refine wpAnyH_done (by kernel_rfl) ?_ _
            go_wp2
            go_roundw
            case rel => exact ⟨i + 1, by omega, rfl, ev', en', ec', HJ3.out⟩
            case measure => simp [intOf]; omega

      · obtain rfl : i = len := by omega
        rw [HT.out] at hJ
        obtain ⟨qs, hown, hrows⟩ := hJ.rows
        have hJB := hJ.below
        have hs1 : w.heap.size + 1 < wr.heap.size := (Array.getElem?_eq_some_iff.1 hvar).1
        obtain ⟨a2, cp2, hv2, _, hx2⟩ := ExA.of_owns (A := fun b => lo ≤ b ∧ b ≠ w.heap.size) hown (hrows.kept hJB.size fun b hb hA => ⟨⟨hA, by omega⟩, hJB.block b hb⟩) (by have := HGG.out.2.2.1; have := hJ.len; omega) (fun g hg => by have h1 := (own_lies hown hg).1; have h2 := HGG.out.2.1; exact ⟨by omega, by omega⟩) k ⟨#[]⟩
        cases hv2
        have c0 : wr.cell? ⟨w.heap.size + 1, 0, none⟩ = some (.int .i64 k) := cell_of_row wr _ 0 _ _ _ hvar
        have c1 : wr.cell? ⟨w.heap.size + 1, 1, none⟩ = some (.string ⟨#[]⟩) := cell_of_row wr _ 1 _ _ _ hvar
        have HZ : Hid (wr.heap[w.heap.size]? = some (.cells #[.int .i64 0, .string ⟨#[]⟩, .slice none 0 0] 24 (0, 0))) := hJ.zero
        have HF : Hid (∀ cs, Below w.heap.size w (wr.setRow w.heap.size cs) ∧ ExA (fun b => lo ≤ b) (wr.setRow w.heap.size cs) (m + 1) (node k ⟨#[]⟩ (flatT k ts)) (.agg #[.int .i64 k, .string ⟨#[]⟩, .slice ev en ec])) := fun cs => ⟨below_setRow hJB (Nat.le_refl _) cs, ExA.kept (by rw [size_setRow]; exact Nat.le_refl _) (fun b hb hA => ⟨hA.1, setRow_other _ _ _ _ hA.2⟩) _ _ _ hx2⟩
        clear hJ hown hrows hJB hx2 hvar hs1
        go_wp2_with (refine wpList_store_row rfl 24 _ _ rfl w.heap.size #[.int .i64 k, .string ⟨#[]⟩, .slice ev en ec] rfl rfl 24 _ HZ.out sizeExpr rfl (ones3 _ _ _ _ _) ?_)
        refine bodyPost_ret (results_cell_row rfl _ _ w.heap.size 24 #[.int .i64 k, .string ⟨#[]⟩, .slice ev en ec] (0, 0) _ rfl (setRow_heap _ _ _ _ _ _ HZ.out) Tryd.underlying24 rfl sizeExpr) rfl ?_
        exact ⟨(HF.out _).1, (k, ⟨#[]⟩, ev, en, ec), m + 1, rfl, (HF.out _).2⟩
end Go.Proofs.YtafidabopcgkhaaDoor
