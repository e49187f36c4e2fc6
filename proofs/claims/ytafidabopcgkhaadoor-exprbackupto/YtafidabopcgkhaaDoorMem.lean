/-
  PROVED HERE: trees in memory whose blocks all lie where A says; rows of trees that a call owns.
-/
import Derived.Test.YtafidabopcgkhaaDoorRd
import Derived.OwnWalkIn
import Derived.Maps.AppendAt
import Derived.ProofKit
import Derived.Laws.Tables
import Derived.Laws.CopyOwn
import Derived.Laws.ResultCell
namespace Go.Proofs.YtafidabopcgkhaaDoor
open Go.RowKit

/-- A tree all of whose blocks lie where A says. -/
def ExA (A : Nat → Prop) (w : World) : Nat → DataW Unit → Value → Prop
  | 0, _, _ => False
  | n + 1, t, v => ∃ (k : Int) (s : ByteArray) (a : Option Addr) (len cap : Nat) (ts : List (DataW Unit)), t = node k s ts ∧ v = .agg #[.int .i64 k, .string s, .slice a len cap] ∧ ts.length = len ∧ len ≤ 4398046511104 ∧
      (len = 0 ∨ ∃ b o, a = some ⟨b, o, none⟩ ∧ b < w.heap.size ∧ A b ∧ ∀ i x, ts[i]? = some x → ∃ (k' : Int) (s' : ByteArray) (a' : Option Addr) (len' cap' : Nat),
        w.cell? ⟨b, o + i * 3, none⟩ = some (.int .i64 k') ∧ w.cell? ⟨b, o + i * 3 + 1, none⟩ = some (.string s') ∧ w.cell? ⟨b, o + i * 3 + 2, none⟩ = some (.slice a' len' cap') ∧ ExA A w n x (.agg #[.int .i64 k', .string s', .slice a' len' cap']))
theorem ExA.ex {A : Nat → Prop} {w : World} : ∀ (n : Nat) (t : DataW Unit) (v : Value), ExA A w n t v → Ex w n t v := by
  intro n
  induction n with
  | zero => intro t v h; exact h
  | succ n ih =>
    rintro t v ⟨k, s, a, len, cap, ts, h1, h2, h3, h4, h5⟩
    refine ⟨k, s, a, len, cap, ts, h1, h2, h3, h4, ?_⟩
    rcases h5 with h5 | ⟨b, o, h5, h6, _, hc⟩
    · exact .inl h5
    · refine .inr ⟨b, o, h5, h6, fun i x hx => ?_⟩
      obtain ⟨k', s', a', len', cap', c0, c1, c2, c3⟩ := hc i x hx
      exact ⟨k', s', a', len', cap', c0, c1, c2, ih _ _ c3⟩
/-- A tree of a later world. -/
theorem ExA.kept {A A' : Nat → Prop} {w w' : World} (hs : w.heap.size ≤ w'.heap.size) (hk : ∀ b, b < w.heap.size → A b → A' b ∧ w'.heap[b]? = w.heap[b]?) : ∀ (n : Nat) (t : DataW Unit) (v : Value), ExA A w n t v → ExA A' w' n t v := by
  have hcell : ∀ b o, b < w.heap.size → A b → w'.cell? ⟨b, o, none⟩ = w.cell? ⟨b, o, none⟩ := fun b o h1 h2 => by
    unfold World.cell?
    rw [(hk b h1 h2).2]
  intro n
  induction n with
  | zero => intro t v h; exact h
  | succ n ih =>
    rintro t v ⟨k, s, a, len, cap, ts, h1, h2, h3, h4, h5⟩
    refine ⟨k, s, a, len, cap, ts, h1, h2, h3, h4, ?_⟩
    rcases h5 with h5 | ⟨b, o, rfl, hlt, hA, hc⟩
    · exact .inl h5
    · refine .inr ⟨b, o, rfl, Nat.lt_of_lt_of_le hlt hs, (hk b hlt hA).1, fun i x hx => ?_⟩
      obtain ⟨k', s', a', len', cap', c0, c1, c2, c3⟩ := hc i x hx
      exact ⟨k', s', a', len', cap', (hcell _ _ hlt hA).trans c0, (hcell _ _ hlt hA).trans c1, (hcell _ _ hlt hA).trans c2, ih _ _ c3⟩
theorem ExA.mono {A A' : Nat → Prop} {w : World} (h : ∀ b, b < w.heap.size → A b → A' b) {n : Nat} {t : DataW Unit} {v : Value} (hx : ExA A w n t v) : ExA A' w n t v :=
  ExA.kept (Nat.le_refl _) (fun b h1 h2 => ⟨h b h1 h2, rfl⟩) n t v hx
theorem ExA.up {A : Nat → Prop} {w : World} : ∀ (n : Nat) (t : DataW Unit) (v : Value), ExA A w n t v → ExA A w (n + 1) t v := by
  intro n
  induction n with
  | zero => intro t v h; exact h.elim
  | succ n ih =>
    rintro t v ⟨k, s, a, len, cap, ts, h1, h2, h3, h4, h5⟩
    refine ⟨k, s, a, len, cap, ts, h1, h2, h3, h4, ?_⟩
    rcases h5 with h5 | ⟨b, o, h5, h6, h7, hc⟩
    · exact .inl h5
    · refine .inr ⟨b, o, h5, h6, h7, fun i x hx => ?_⟩
      obtain ⟨k', s', a', len', cap', c0, c1, c2, c3⟩ := hc i x hx
      exact ⟨k', s', a', len', cap', c0, c1, c2, ih _ _ c3⟩
theorem ExA.upto {A : Nat → Prop} {w : World} {n m : Nat} (h : n ≤ m) {t : DataW Unit} {v : Value} (hx : ExA A w n t v) : ExA A w m t v := by
  induction h with
  | refl => exact hx
  | step _ ih => exact ExA.up _ _ _ ih
theorem ExA.leaf (A : Nat → Prop) (w : World) (n : Nat) (k : Int) (s : ByteArray) (a : Option Addr) (cap : Nat) : ExA A w (n + 1) (node k s []) (.agg #[.int .i64 k, .string s, .slice a 0 cap]) :=
  ⟨k, s, a, 0, cap, [], rfl, rfl, rfl, by omega, .inl rfl⟩
/-- What lies in three cells. -/
def Raw : Type := Int × ByteArray × Option Addr × Nat × Nat
def rawV (x : Raw) : Value := .agg #[.int .i64 x.1, .string x.2.1, .slice x.2.2.1 x.2.2.2.1 x.2.2.2.2]
def rawC : List Raw → List Value
  | [] => []
  | x :: r => .int .i64 x.1 :: .string x.2.1 :: .slice x.2.2.1 x.2.2.2.1 x.2.2.2.2 :: rawC r
theorem rawC_append (l m : List Raw) : rawC (l ++ m) = rawC l ++ rawC m := by
  induction l with
  | nil => rfl
  | cons x r ih => simp [rawC, ih]
theorem rawC_length (l : List Raw) : (rawC l).length = l.length * 3 := by
  induction l with
  | nil => rfl
  | cons x r ih => simp [rawC, ih]; omega
theorem rawC_one (l : List Raw) : ∀ u ∈ rawC l, u.oneCell' = true := by
  induction l with
  | nil => intro u hu; cases hu
  | cons x r ih =>
    intro u hu
    simp only [rawC, List.mem_cons] at hu
    rcases hu with rfl | rfl | rfl | hu
    · rfl
    · rfl
    · rfl
    · exact ih u hu
theorem rawC_at (l : List Raw) (i : Nat) (x : Raw) (h : l[i]? = some x) : (rawC l)[i * 3]? = some (.int .i64 x.1) ∧ (rawC l)[i * 3 + 1]? = some (.string x.2.1) ∧ (rawC l)[i * 3 + 2]? = some (.slice x.2.2.1 x.2.2.2.1 x.2.2.2.2) := by
  induction l generalizing i with
  | nil => simp at h
  | cons y r ih =>
    cases i with
    | zero =>
      obtain rfl : y = x := by simpa using h
      exact ⟨rfl, rfl, rfl⟩
    | succ i =>
      have := ih i (by simpa using h)
      rw [show (i + 1) * 3 = i * 3 + 3 from by omega, show i * 3 + 3 + 1 = i * 3 + 1 + 3 from by omega, show i * 3 + 3 + 2 = i * 3 + 2 + 3 from by omega]
      exact this
theorem rawC_cells {w : World} {b : Nat} (l : List Raw) (o : Nat) (h : ∀ i x, l[i]? = some x → w.cell? ⟨b, o + i * 3, none⟩ = some (.int .i64 x.1) ∧ w.cell? ⟨b, o + i * 3 + 1, none⟩ = some (.string x.2.1) ∧
    w.cell? ⟨b, o + i * 3 + 2, none⟩ = some (.slice x.2.2.1 x.2.2.2.1 x.2.2.2.2)) : ∀ j u, (rawC l)[j]? = some u → w.cell? ⟨b, o + j, none⟩ = some u := by
  intro j u hj
  have hjl : j < l.length * 3 := by
    have := (List.getElem?_eq_some_iff.1 hj).1
    rwa [rawC_length] at this
  obtain ⟨x, hx⟩ : ∃ x, l[j / 3]? = some x := ⟨_, List.getElem?_eq_getElem (by omega)⟩
  obtain ⟨f0, f1, f2⟩ := rawC_at l (j / 3) x hx
  obtain ⟨c0, c1, c2⟩ := h (j / 3) x hx
  rcases (show j = j / 3 * 3 ∨ j = j / 3 * 3 + 1 ∨ j = j / 3 * 3 + 2 from by omega) with e | e | e
  · rw [e] at hj ⊢
    rw [f0] at hj
    exact c0.trans hj
  · rw [e] at hj ⊢
    rw [f1] at hj
    exact c1.trans hj
  · rw [e] at hj ⊢
    rw [f2] at hj
    exact c2.trans hj
theorem add_none (b o i : Nat) : (⟨b, o, none⟩ : Addr).add i = ⟨b, o + i, none⟩ := by unfold Addr.add; split <;> simp_all
/-- Trees and what lies of each in three cells. -/
def Rows3 (A : Nat → Prop) (w : World) (m : Nat) (ts : List (DataW Unit)) (rs : List Raw) : Prop := rs.length = ts.length ∧ ∀ (i : Nat) (t : DataW Unit), ts[i]? = some t → ∃ r, rs[i]? = some r ∧ ExA A w m t (rawV r)
theorem Rows3.nil (A : Nat → Prop) (w : World) (m : Nat) : Rows3 A w m [] [] := ⟨rfl, fun i t h => by simp at h⟩
theorem Rows3.append {A : Nat → Prop} {w : World} {m : Nat} {ts us : List (DataW Unit)} {rs qs : List Raw} (h : Rows3 A w m ts rs) (h' : Rows3 A w m us qs) : Rows3 A w m (ts ++ us) (rs ++ qs) := by
  refine ⟨by rw [List.length_append, List.length_append, h.1, h'.1], fun i t ht => ?_⟩
  rcases Nat.lt_or_ge i ts.length with hi | hi
  · rw [List.getElem?_append_left hi] at ht
    rw [List.getElem?_append_left (by rw [h.1]; exact hi)]
    exact h.2 i t ht
  · rw [List.getElem?_append_right hi] at ht
    rw [List.getElem?_append_right (by rw [h.1]; exact hi), h.1]
    exact h'.2 _ t ht
theorem Rows3.one {A : Nat → Prop} {w : World} {m : Nat} {t : DataW Unit} {r : Raw} (h : ExA A w m t (rawV r)) : Rows3 A w m [t] [r] := by
  refine ⟨rfl, fun i u hu => ?_⟩
  cases i with
  | zero =>
    obtain rfl : t = u := by simpa using hu
    exact ⟨r, rfl, h⟩
  | succ i => simp at hu
theorem Rows3.kept {A A' : Nat → Prop} {w w' : World} (hs : w.heap.size ≤ w'.heap.size) (hk : ∀ b, b < w.heap.size → A b → A' b ∧ w'.heap[b]? = w.heap[b]?) {m : Nat} {ts : List (DataW Unit)} {rs : List Raw} (h : Rows3 A w m ts rs) : Rows3 A' w' m ts rs :=
  ⟨h.1, fun i t ht => by obtain ⟨r, h1, h2⟩ := h.2 i t ht; exact ⟨r, h1, ExA.kept hs hk _ _ _ h2⟩⟩
theorem Rows3.upto {A : Nat → Prop} {w : World} {n m : Nat} (hm : n ≤ m) {ts : List (DataW Unit)} {rs : List Raw} (h : Rows3 A w n ts rs) : Rows3 A w m ts rs :=
  ⟨h.1, fun i t ht => by obtain ⟨r, h1, h2⟩ := h.2 i t ht; exact ⟨r, h1, h2.upto hm⟩⟩
/-- Those within a tree, as they lie. -/
theorem ExA.kids {A : Nat → Prop} {w : World} {m : Nat} {t : DataW Unit} {k : Int} {s : ByteArray} {a : Option Addr} {len cap : Nat} (h : ExA A w (m + 1) t (.agg #[.int .i64 k, .string s, .slice a len cap])) (h0 : 0 < len) :
    t = node k s (subs t) ∧ (subs t).length = len ∧ len ≤ 4398046511104 ∧ ∃ b o rs, a = some ⟨b, o, none⟩ ∧ b < w.heap.size ∧ A b ∧ Rows3 A w m (subs t) rs ∧ ∀ j u, (rawC rs)[j]? = some u → w.cell? ((⟨b, o, none⟩ : Addr).add j) = some u := by
  obtain ⟨k', s', a', len', cap', ts, rfl, hv, hl, hz, hk⟩ := h
  obtain ⟨rfl, rfl, rfl, rfl, rfl⟩ : k = k' ∧ s = s' ∧ a = a' ∧ len = len' ∧ cap = cap' := by
    have := Array.toList_inj.2 (Value.agg.inj hv)
    simp only [List.cons.injEq, Value.int.injEq, Value.string.injEq, Value.slice.injEq, and_true, true_and] at this
    exact ⟨this.1, this.2.1, this.2.2.1, this.2.2.2.1, this.2.2.2.2⟩
  rw [subs_node]
  refine ⟨rfl, hl, hz, ?_⟩
  rcases hk with h | ⟨b, o, rfl, hlt, hA, hc⟩
  · omega
  · have key : ∀ (l : List (DataW Unit)) (d : Nat), (∀ i x, l[i]? = some x → ts[d + i]? = some x) → ∃ rs : List Raw, rs.length = l.length ∧ ∀ i x, l[i]? = some x → ∃ r, rs[i]? = some r ∧ ExA A w m x (rawV r) ∧ w.cell? ⟨b, o + (d + i) * 3, none⟩ = some (.int .i64 r.1) ∧ w.cell? ⟨b, o + (d + i) * 3 + 1, none⟩ = some (.string r.2.1) ∧ w.cell? ⟨b, o + (d + i) * 3 + 2, none⟩ = some (.slice r.2.2.1 r.2.2.2.1 r.2.2.2.2) := by
      intro l
      induction l with
      | nil => intro d _; exact ⟨[], rfl, fun i x h => by simp at h⟩
      | cons y l ih =>
        intro d hd
        obtain ⟨rs, h1, h2⟩ := ih (d + 1) (fun i x hx => by have := hd (i + 1) x (by simpa using hx); rwa [show d + 1 + i = d + (i + 1) from by omega])
        obtain ⟨k', s', a', len', cap', c0, c1, c2, c3⟩ := hc d y (by have := hd 0 y rfl; simpa using this)
        obtain ⟨r0, rfl, rfl, rfl, rfl, rfl⟩ : ∃ r0 : Raw, k' = r0.1 ∧ s' = r0.2.1 ∧ a' = r0.2.2.1 ∧ len' = r0.2.2.2.1 ∧ cap' = r0.2.2.2.2 := ⟨(k', s', a', len', cap'), rfl, rfl, rfl, rfl, rfl⟩
        refine ⟨r0 :: rs, by simp [h1], fun i x hx => ?_⟩
        cases i with
        | zero =>
          obtain rfl : y = x := by simpa using hx
          exact ⟨_, rfl, c3, c0, c1, c2⟩
        | succ i =>
          obtain ⟨r, g1, g2, g3⟩ := h2 i x (by simpa using hx)
          rw [show d + 1 + i = d + (i + 1) from by omega] at g3
          exact ⟨r, by simpa using g1, g2, g3⟩
    obtain ⟨rs, h1, h2⟩ := key ts 0 (fun i x h => by simpa using h)
    refine ⟨b, o, rs, rfl, hlt, hA, ⟨h1, fun i t ht => ?_⟩, fun j u hj => ?_⟩
    · obtain ⟨r, g1, g2, _⟩ := h2 i t ht
      exact ⟨r, g1, g2⟩
    · rw [add_none]
      refine rawC_cells rs o (fun i x hx => ?_) j u hj
      have hi : i < ts.length := by rw [← h1]; exact (List.getElem?_eq_some_iff.1 hx).1
      obtain ⟨r, g1, _, g3⟩ := h2 i _ (List.getElem?_eq_getElem hi)
      rw [hx] at g1
      cases g1
      simpa using g3
/-- What a slice of trees owns is the tree's. -/
theorem ExA.of_owns {A : Nat → Prop} {W : World} {base : Nat} {v : Value} {n m : Nat} {ts : List (DataW Unit)} {rs : List Raw} (h : W.ownsRow base 24 3 v n (rawC rs)) (hr : Rows3 A W m ts rs) (hn : n ≤ 4398046511104) (hA : ∀ g, v.ownBlock = some g → A g) (k : Int) (s : ByteArray) :
    ∃ a cap, v = .slice a n cap ∧ ts.length = n ∧ ExA A W (m + 1) (node k s ts) (.agg #[.int .i64 k, .string s, .slice a n cap]) := by
  obtain ⟨hl, ⟨h1, h2⟩ | ⟨g, cap, cur, rfl, hb, hg, hc1, hc2, hc3, hc4⟩⟩ := h
  · subst h2
    have hr0 : rs.length = 0 := by rw [rawC_length] at hl; omega
    have ht0 : ts.length = 0 := by rw [← hr.1, hr0]
    exact ⟨none, 0, h1, ht0, k, s, none, 0, 0, ts, rfl, rfl, ht0, by omega, .inl rfl⟩
  · have hl' : rs.length = n := by rw [rawC_length] at hl; omega
    have ht : ts.length = n := by rw [← hr.1, hl']
    refine ⟨_, cap, rfl, ht, k, s, _, n, cap, ts, rfl, rfl, ht, hn, .inr ⟨g, 0, rfl, (Array.getElem?_eq_some_iff.1 hg).1, hA g rfl, fun i x hx => ?_⟩⟩
    obtain ⟨r, hr1, hr2⟩ := hr.2 i x hx
    obtain ⟨f0, f1, f2⟩ := rawC_at rs i r hr1
    have key : ∀ j u, (rawC rs)[j]? = some u → W.cell? ⟨g, 0 + j, none⟩ = some u := by
      intro j u hj
      have hjl : j < n * 3 := by
        have := (List.getElem?_eq_some_iff.1 hj).1
        rw [rawC_length] at this
        omega
      rw [← hc4, List.getElem?_take, if_pos hjl, Array.getElem?_toList] at hj
      simp [World.cell?, hg, hj]
    exact ⟨r.1, r.2.1, r.2.2.1, r.2.2.2.1, r.2.2.2.2, key _ _ f0, key _ _ f1, key _ _ f2, hr2⟩
theorem infoExpr : (Tryd.prog.info? 24).map (fun i => (i.zero, i.size, i.bytes)) = some (some (.agg #[.int .i64 0, .string ⟨#[]⟩, .slice none 0 0]), 3, 48) := by kernel_rfl
/-- append of trees to what the call owns. -/
theorem expr_append {base : Nat} {v : Value} {n : Nat} {rs qs : List Raw} {W : World} (hown : W.ownsRow base 24 3 v n (rawC rs)) (hbase : base ≤ W.heap.size) (b o len cap : Nat) (hl : qs.length = len) (hc : ∀ j u, (rawC qs)[j]? = some u → W.cell? ((⟨b, o, none⟩ : Addr).add j) = some u) (hsz : n + len ≤ 1099511627776) :
    ∃ v' W1, (Builtin.append_ #[22, 22] 22 #[v, .slice (some ⟨b, o, none⟩) len cap]).run Tryd.prog W = .ok v' W1 ∧ W1.ownsRow base 24 3 v' (n + len) (rawC (rs ++ qs)) ∧ W.grownBy W1 v.ownBlock ∧ (v'.ownBlock = v.ownBlock ∨ v'.ownBlock = some W.heap.size) := by
  obtain ⟨i0, hi, hz0, hz1, hz2⟩ := info_parts infoExpr
  obtain ⟨v', W1, hrun, r1, r2, _, r4⟩ := run_append_own_at (P := Tryd.prog) W base 22 22 24 i0 _ 3 48 Tryd.underlying22 hi hz0 hz1 hz2 rfl (by decide) v n _ hown ⟨b, o, none⟩ len cap (rawC qs) (by rw [rawC_length, hl]) hc (rawC_one qs) (by unfold maxLen; omega) (by omega) hbase
  rw [← rawC_append] at r1
  exact ⟨v', W1, hrun, r1, r2, r4⟩
/-- A built-in append whose run is known, in a walk. -/
theorem wp_run_append {o : Oper} {a : Act} {w : World} {K : Act → World → Prop} {Q : Exit → Act → World → Prop} (s x : Operand) (t : TypeId) (ho : o.op = .call { callee := .builtin .append, args := #[s, x], argTypes := #[t, t] })
    (v u v' : Value) (w' : World) (hs : a.eval s = v) (hx : a.eval x = u) (hr : (Builtin.append_ #[t, t] o.type #[v, u]).run Tryd.prog w = .ok v' w') (h : K (a.put o.dst v') w') : o.wp Tryd.prog a w K Q := by
  unfold Oper.wp execOp
  simp only [ho, resolve, invoke, builtin, Sem.run_bind, Sem.run_pure, Result.andThen_ok, List.map_toArray, List.map_cons, List.map_nil, hs, hx, hr]
  exact h
theorem wpList_run_append {ops : Array Oper} {rest : List Oper} {o : Oper} {a : Act} {w : World} {Q : Exit → Act → World → Prop} (hgd : o.guard = none) (s x : Operand) (t : TypeId) (ho : o.op = .call { callee := .builtin .append, args := #[s, x], argTypes := #[t, t] })
    (v u v' : Value) (w' : World) (hs : a.eval s = v) (hx : a.eval x = u) (hr : (Builtin.append_ #[t, t] o.type #[v, u]).run Tryd.prog w = .ok v' w') (h : wpList Tryd.prog ops Q rest (a.put o.dst v') w') : wpList Tryd.prog ops Q (o :: rest) a w :=
  wpList_plain hgd fun _ hK => wp_run_append s x t ho v u v' w' hs hx hr (hK _ _ h)
end Go.Proofs.YtafidabopcgkhaaDoor
