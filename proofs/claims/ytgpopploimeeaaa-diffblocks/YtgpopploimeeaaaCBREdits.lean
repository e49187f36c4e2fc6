/-
  PROVED HERE: the document's own Edits: what the pairs leave.
-/
import Derived.Test.YtgpopploimeeaaaCB11
namespace Go.Proofs.Ytgpopploimeeaaa
open Go.RowKit

/-- What lies between the pairs, from the places i and j on. -/
def editsP : List (Nat × Nat) → Nat → Nat → List (Nat × Nat × Nat)
  | [], _, _ => []
  | x :: r, i, j => if i < x.1 ∨ j < x.2 then (i, x.1 - i, x.2 - j) :: editsP r (x.1 + 1) (x.2 + 1) else editsP r (x.1 + 1) (x.2 + 1)
def rangeV (l : List (Nat × Nat × Nat)) : List Value := l.flatMap fun x => [.int .i64 (x.1 : Int), .int .i64 (x.2.1 : Int), .int .i64 (x.2.2 : Int)]
theorem rangeV_add (l : List (Nat × Nat × Nat)) (x : Nat × Nat × Nat) : rangeV (l ++ [x]) = rangeV l ++ [.int .i64 (x.1 : Int), .int .i64 (x.2.1 : Int), .int .i64 (x.2.2 : Int)] := by
  unfold rangeV
  rw [List.flatMap_append]
  rfl
theorem pairV_add (l : List (Nat × Nat)) (x : Nat × Nat) : pairV (l ++ [x]) = pairV l ++ [.int .i64 (x.1 : Int), .int .i64 (x.2 : Int)] := by
  unfold pairV
  rw [List.flatMap_append]
  rfl
theorem pairV_at : ∀ (l : List (Nat × Nat)) (k : Nat) (x : Nat × Nat), l[k]? = some x → (pairV l)[2 * k]? = some (.int .i64 (x.1 : Int)) ∧ (pairV l)[2 * k + 1]? = some (.int .i64 (x.2 : Int))
  | [], k, x, h => by simp at h
  | y :: l, 0, x, h => by
    obtain rfl : y = x := by simpa using h
    exact ⟨rfl, rfl⟩
  | y :: l, k + 1, x, h => by
    have := pairV_at l k x (by simpa using h)
    have e : pairV (y :: l) = .int .i64 (y.1 : Int) :: .int .i64 (y.2 : Int) :: pairV l := rfl
    rw [e, show 2 * (k + 1) = 2 * k + 1 + 1 by omega]
    exact this
theorem pairV_length (l : List (Nat × Nat)) : (pairV l).length = 2 * l.length := by
  induction l with
  | nil => rfl
  | cons x l ih =>
    have e : pairV (x :: l) = .int .i64 (x.1 : Int) :: .int .i64 (x.2 : Int) :: pairV l := rfl
    rw [e, List.length_cons, List.length_cons, ih, List.length_cons]
    omega

/-- One goes on from the other, none beyond a bound. -/
def Chn (c : Nat) : Nat → Nat → List (Nat × Nat) → Prop
  | _, _, [] => True
  | i, j, x :: r => i ≤ x.1 ∧ j ≤ x.2 ∧ x.1 ≤ c ∧ x.2 ≤ c ∧ Chn c (x.1 + 1) (x.2 + 1) r
theorem chn_of {like : Nat → Nat → Bool} {n m c : Nat} (hn : n ≤ c) (hm : m ≤ c) : ∀ (l : List (Nat × Nat)) (i j : Nat), i ≤ n → j ≤ m → IsPairs like n m i j l → Chn c i j (l ++ [(n, m)])
  | [], i, j, hi, hj, _ => ⟨hi, hj, hn, hm, trivial⟩
  | x :: l, i, j, _, _, h => ⟨h.2.1.ip, h.2.1.jq, by have := h.2.1.pn; omega, by have := h.2.1.qm; omega, chn_of hn hm l _ _ h.2.1.pn h.2.1.qm h.2.2⟩

theorem info_range : (Try.prog.info? 41).map (fun i => (i.zero, i.size, i.bytes)) = some (some (.agg #[.int .i64 0, .int .i64 0, .int .i64 0]), 3, 24) := by kernel_rfl
theorem infoRange : ∃ i0, Try.prog.info? 41 = some i0 ∧ i0.zero = some (.agg #[.int .i64 0, .int .i64 0, .int .i64 0]) ∧ i0.size = 3 ∧ i0.bytes = 24 := by
  obtain ⟨i0, hi, h⟩ := Option.map_eq_some_iff.1 info_range
  simp only [Prod.mk.injEq] at h
  exact ⟨i0, hi, h.1, h.2.1, h.2.2⟩

/-- append of one range to what the call owns. -/
theorem append_range (base : Nat) (v : Value) (l : List (Nat × Nat × Nat)) (W : World) (hown : W.ownsRow base 41 3 v l.length (rangeV l)) (hbase : base ≤ W.heap.size) (hn : l.length ≤ 1000) (x : Nat × Nat × Nat) :
    ∃ v' W1, (Builtin.append_ #[32, 32] 32 #[v, .slice (some ⟨W.heap.size, 0, none⟩) 1 1]).run Try.prog (W.alloc (.cells #[.int .i64 (x.1 : Int), .int .i64 (x.2.1 : Int), .int .i64 (x.2.2 : Int)] 41)) = .ok v' W1 ∧
      W1.ownsRow base 41 3 v' (l ++ [x]).length (rangeV (l ++ [x])) ∧ (∀ w : World, Below base w W → Below base w W1) := by
  obtain ⟨i0, hi, hz0, hz1, hz2⟩ := infoRange
  have hown2 := hown.alloc (.cells #[.int .i64 (x.1 : Int), .int .i64 (x.2.1 : Int), .int .i64 (x.2.2 : Int)] 41)
  have hB2 : ∀ w : World, Below base w W → Below base w (W.alloc (.cells #[.int .i64 (x.1 : Int), .int .i64 (x.2.1 : Int), .int .i64 (x.2.2 : Int)] 41)) := fun w h => h.alloc hbase _
  have hsz := World.size_alloc W (.cells #[.int .i64 (x.1 : Int), .int .i64 (x.2.1 : Int), .int .i64 (x.2.2 : Int)] 41)
  have hnew := World.alloc_heap_new W (.cells #[.int .i64 (x.1 : Int), .int .i64 (x.2.1 : Int), .int .i64 (x.2.2 : Int)] 41)
  generalize W.alloc (.cells #[.int .i64 (x.1 : Int), .int .i64 (x.2.1 : Int), .int .i64 (x.2.2 : Int)] 41) = V at *
  have q0 : V.cell? ⟨W.heap.size, 0, none⟩ = some (.int .i64 (x.1 : Int)) := by simp only [World.cell?]; rw [hnew]; rfl
  have q1 : V.cell? ⟨W.heap.size, 1, none⟩ = some (.int .i64 (x.2.1 : Int)) := by simp only [World.cell?]; rw [hnew]; rfl
  have q2 : V.cell? ⟨W.heap.size, 2, none⟩ = some (.int .i64 (x.2.2 : Int)) := by simp only [World.cell?]; rw [hnew]; rfl
  obtain ⟨v', W1, hrun, r1, r2, _, _⟩ := run_append_own_at (P := Try.prog) V base 32 32 41 i0 (.agg #[.int .i64 0, .int .i64 0, .int .i64 0]) 3 24 Try.underlying32 hi hz0 hz1 hz2 rfl (by decide) v l.length _ hown2 ⟨W.heap.size, 0, none⟩ 1 1 [.int .i64 (x.1 : Int), .int .i64 (x.2.1 : Int), .int .i64 (x.2.2 : Int)] (by simp) (fun j u hj => by
    match j, hj with
    | 0, hj => cases hj; exact q0
    | 1, hj => cases hj; exact q1
    | 2, hj => cases hj; exact q2
    | j + 3, hj => simp at hj) (by simp [Value.oneCell']) (by unfold maxLen; omega) (by omega) (by omega)
  refine ⟨v', W1, hrun, ?_, fun w h => (hB2 w h).grown r2 (by omega) (fun j e => (World.ownsRow.lt hown2 _ e).1)⟩
  rw [rangeV_add, List.length_append]
  exact r1

/-- What a row of pairs that the call owns holds. -/
theorem pair_cells {W : World} {base : Nat} {v : Value} {l : List (Nat × Nat)} (h : W.ownsRow base 68 2 v l.length (pairV l)) (hl : 0 < l.length) :
    ∃ g cap, v = .slice (some ⟨g, 0, none⟩) l.length cap ∧ base ≤ g ∧ g < W.heap.size ∧ ∀ k x, l[k]? = some x → ∀ W' : World, Below W.heap.size W W' → W'.cell? ⟨g, k * 2, none⟩ = some (.int .i64 (x.1 : Int)) ∧ W'.cell? ⟨g, k * 2 + 1, none⟩ = some (.int .i64 (x.2 : Int)) := by
  obtain ⟨_, ⟨_, h2⟩ | ⟨g, cap, cur, rfl, hb, hg, hc1, hc2, hc3, hc4⟩⟩ := h
  · omega
  · have hlt := (Array.getElem?_eq_some_iff.1 hg).1
    refine ⟨g, cap, rfl, hb, hlt, fun k x hx W' hB => ?_⟩
    have hk : k < l.length := (List.getElem?_eq_some_iff.1 hx).1
    have hp := pairV_at l k x hx
    rw [← hc4, List.getElem?_take, List.getElem?_take, if_pos (by omega), if_pos (by omega), Nat.mul_comm] at hp
    refine ⟨(hB.cell (p := ⟨g, _, none⟩) hlt).trans ?_, (hB.cell (p := ⟨g, _, none⟩) hlt).trans ?_⟩
    · simp only [World.cell?]
      rw [hg]
      show cur[_]? = _
      rw [← Array.getElem?_toList]
      exact hp.1
    · simp only [World.cell?]
      rw [hg]
      show cur[_]? = _
      rw [← Array.getElem?_toList]
      exact hp.2

theorem step_run_append {ops : Array Oper} {o : Oper} {a : Act} {w : World} {K : Act → World → Prop} {Q : Exit → Act → World → Prop} {E : Prop} (hgd : o.guard = none) (s x : Operand) (t : TypeId) (ho : o.op = .call { callee := .builtin .append, args := #[s, x], argTypes := #[t, t] })
    (v u v' : Value) (w' : World) (hs : a.eval s = v) (hx : a.eval x = u) (hr : (Builtin.append_ #[t, t] o.type #[v, u]).run Try.prog w = .ok v' w') (h : K (a.put o.dst v') w') : if Region.wanted o (yielded ops a.tmps) = true then Oper.wp Try.prog o a w K Q else E := by
  have hw : Region.wanted o (yielded ops a.tmps) = true := by simp [Region.wanted, hgd]
  rw [if_pos hw]
  exact wp_run_append s x t ho v u v' w' hs hx hr h

/-- One range more. -/
theorem edits_more {W0 W : World} {v : Value} {out : List (Nat × Nat × Nat)} (hown : W.ownsRow W0.heap.size 41 3 v out.length (rangeV out)) (hB : Below W0.heap.size W0 W) (hl : out.length ≤ 1000) (a b c : Nat) (z1 z2 : Int) (h1 : z1 = (b : Int)) (h2 : z2 = (c : Int)) :
    ∃ v' W1, (Builtin.append_ #[32, 32] 32 #[v, .slice (some ⟨W.heap.size, 0, none⟩) 1 1]).run Try.prog (W.alloc (.cells #[.int .i64 (a : Int), .int .i64 z1, .int .i64 z2] 41)).drew = .ok v' W1 ∧
      Hid (W1.ownsRow W0.heap.size 41 3 v' (out ++ [(a, b, c)]).length (rangeV (out ++ [(a, b, c)])) ∧ Below W0.heap.size W0 W1) := by
  subst h1 h2
  obtain ⟨v', W1, r1, r2, r3⟩ := append_range W0.heap.size v out W.drew hown hB.size hl (a, b, c)
  exact ⟨v', W1, r1, r2, r3 W0 hB.drew⟩

theorem edits_long (a1 a2 : Option Addr) (n1 n2 c1 c2 : Nat) (hn : 400 < n1 ∨ 400 < n2) (h1 : n1 ≤ 35184372088832) (h2 : n2 ≤ 35184372088832) (w : World) :
    Calls Try.prog 13 #[.slice a1 n1 c1, .slice a2 n2 c2] w fun e w' => e = .returned (.tuple #[.slice none 0 0, .int .i64 2]) ∧ w' = w := by
  have HP := hide_ (pairs2_long a1 a2 n1 n2 c1 c2 hn h1 h2 w)
  go_enter Try.func13, Try.ntmps13
  go_wp2_with fail
  refine HP.out.mono ?_
  rintro e W1 ⟨rfl, rfl⟩
  go_wp2
  go_ret2
  exact ⟨rfl, rfl⟩

set_option maxRecDepth 100000 in
set_option maxHeartbeats 4000000 in
theorem edits_calls (a1 a2 : Option Addr) (n m c1 c2 : Nat) (l1 l2 : List Tok) (hn : n ≤ 400) (hm : m ≤ 400) (w : World) (h1 : Toks w a1 n l1) (h2 : Toks w a2 m l2) :
    Calls Try.prog 13 #[.slice a1 n c1, .slice a2 m c2] w fun e w' => ∃ l v, e = .returned (.tuple #[v, .int .i64 0]) ∧ IsPairs (likeL l1 l2) n m 0 0 l ∧ l.length ≤ n ∧
      w'.ownsRow w.heap.size 41 3 v (editsP (l ++ [(n, m)]) 0 0).length (rangeV (editsP (l ++ [(n, m)]) 0 0)) ∧ Below w.heap.size w w' := by
  have HP := hide_ (pairs2_calls a1 a2 n m c1 c2 l1 l2 hn hm w h1 h2)
  clear h1 h2
  go_enter Try.func13, Try.ntmps13
  go_wp2_with fail
  refine HP.out.mono ?_
  rintro e W1 ⟨l, v, rfl, hip, hl, hown, hB⟩
  have HIP := hide_ hip
  have hlen : l.length ≤ n := hl
  have HX : Hid (∃ v' W2, (Builtin.append_ #[26, 26] 26 #[v, .slice (some ⟨W1.heap.size, 0, none⟩) 1 1]).run Try.prog (W1.alloc (.cells #[.int .i64 (n : Int), .int .i64 (m : Int)] 68)) = .ok v' W2 ∧
      W2.ownsRow w.heap.size 68 2 v' (l ++ [(n, m)]).length (pairV (l ++ [(n, m)])) ∧ Below w.heap.size w W2) := by
    have hown2 := hown.alloc (.cells #[.int .i64 (n : Int), .int .i64 (m : Int)] 68)
    have hB2 := hB.alloc hB.size (.cells #[.int .i64 (n : Int), .int .i64 (m : Int)] 68)
    have hsz := World.size_alloc W1 (.cells #[.int .i64 (n : Int), .int .i64 (m : Int)] 68)
    have hnew := World.alloc_heap_new W1 (.cells #[.int .i64 (n : Int), .int .i64 (m : Int)] 68)
    generalize W1.alloc (.cells #[.int .i64 (n : Int), .int .i64 (m : Int)] 68) = V at *
    have hws := hB.size
    have c0 : V.cell? ⟨W1.heap.size, 0, none⟩ = some (.int .i64 (n : Int)) := by simp only [World.cell?]; rw [hnew]; rfl
    have c1 : V.cell? ⟨W1.heap.size, 1, none⟩ = some (.int .i64 (m : Int)) := by simp only [World.cell?]; rw [hnew]; rfl
    obtain ⟨v', W2, h1, h2, h3, h4⟩ := append_pair w.heap.size v l V hown2 (by omega) (by omega) W1.heap.size n m c0 c1
    exact ⟨v', W2, h1, h2, hB2.grown h3 (by omega) (fun j e => (World.ownsRow.lt hown2 _ e).1)⟩
  obtain ⟨v', W2, hrun, hown2, hB2⟩ := HX.out
  have HRUN := hide_ hrun
  have HCH : Hid (Chn 400 0 0 (l ++ [(n, m)])) := chn_of hn hm l 0 0 (Nat.zero_le _) (Nat.zero_le _) HIP.out
  have hL1 : (l ++ [(n, m)]).length ≤ 401 := by rw [List.length_append, List.length_singleton]; omega
  have hL0 : 0 < (l ++ [(n, m)]).length := by rw [List.length_append, List.length_singleton]; omega
  have HL : Hid (l.length ≤ n) := hlen
  clear HP hip hrun HX hown hB hl hlen
  obtain ⟨g, cap, rfl, hg1, hg2, hcells⟩ := pair_cells hown2 hL0
  have HC := hide_ hcells
  have HB2 := hide_ hB2
  clear hcells hown2 hB2
  generalize hL : l ++ [(n, m)] = L at *
  have HEL := hide_ hL
  clear hL
  go_wp2_with (first | (at_builtin; refine wpList_run_append rfl (.tmp 21) (.tmp 27) 26 rfl _ _ _ _ rfl rfl HRUN.out ?_) | fail)
  clear HRUN
  go_loopg [8, 9, 10, 11] (L.length + 1) (fun gk v ui uj uk wr => ∃ (i j k : Nat) (out : List (Nat × Nat × Nat)), ui = .int .i64 (i : Int) ∧ uj = .int .i64 (j : Int) ∧ uk = .int .i64 (k : Int) ∧ k ≤ L.length ∧ L.length < k + gk ∧ i ≤ 401 ∧ j ≤ 401 ∧ Hid (editsP L 0 0 = out ++ editsP (L.drop k) i j ∧ Chn 400 i j (L.drop k) ∧ out.length ≤ k) ∧
    Hid (wr.ownsRow W2.heap.size 41 3 v out.length (rangeV out) ∧ Below W2.heap.size W2 wr))
  case atStart => exact ⟨0, 0, 0, [], rfl, rfl, rfl, Nat.zero_le _, by omega, by omega, by omega, ⟨rfl, HCH.out, Nat.le_refl _⟩, ⟨rfl, .inl ⟨rfl, rfl⟩⟩, Below.refl _ W2⟩
  case round =>
    obtain ⟨i, j, k, out, rfl, rfl, rfl, hk, hgk, hi, hj, HE, HO⟩ := hrel
    have hi0 : (0 : Int) ≤ (i : Int) := by omega
    have hj0 : (0 : Int) ≤ (j : Int) := by omega
    have hk0 : (0 : Int) ≤ (k : Int) := by omega
    have hi4 : (i : Int) ≤ 401 := by omega
    have hj4 : (j : Int) ≤ 401 := by omega
    rcases Nat.lt_or_ge k L.length with hlt | hge
    · have hlti : (k : Int) < (L.length : Int) := by omega
      obtain ⟨x, hx⟩ : ∃ x, L[k]? = some x := ⟨_, List.getElem?_eq_getElem hlt⟩
      obtain ⟨q0, q1⟩ := HC.out k x hx wr HO.out.2
      have hd : L.drop k = x :: L.drop (k + 1) := by
        rw [List.drop_eq_getElem_cons hlt]
        rw [List.getElem?_eq_getElem hlt] at hx
        rw [Option.some.inj hx]
      obtain ⟨p, q⟩ := x
      have hch := HE.out.2.1
      rw [hd] at hch
      obtain ⟨c1, c2, c3, c4, c5⟩ := hch
      simp only at c1 c2 c3 c4 c5 q0 q1
      have hp0 : (0 : Int) ≤ (p : Int) := by omega
      have hq0 : (0 : Int) ≤ (q : Int) := by omega
      have hp4 : (p : Int) ≤ 400 := by omega
      have hq4 : (q : Int) ≤ 400 := by omega
      have hip : (i : Int) ≤ (p : Int) := by omega
      have hjq : (j : Int) ≤ (q : Int) := by omega
      by_cases hb : i < p ∨ j < q
      · have HN : Hid (editsP L 0 0 = (out ++ [(i, p - i, q - j)]) ++ editsP (L.drop (k + 1)) (p + 1) (q + 1) ∧ Chn 400 (p + 1) (q + 1) (L.drop (k + 1)) ∧ (out ++ [(i, p - i, q - j)]).length ≤ k + 1) := by
          refine ⟨?_, c5, ?_⟩
          · rw [HE.out.1, hd, editsP, if_pos hb, List.append_assoc]
            rfl
          · have := HE.out.2.2
            rw [List.length_append, List.length_singleton]
            omega
        obtain ⟨v', W3, hrun, HW3⟩ := edits_more HO.out.1 HO.out.2 (by have := HE.out.2.2; omega) i (p - i) (q - j) (IntKind.i64.wrap ((p : Int) - (i : Int))) (IntKind.i64.wrap ((q : Int) - (j : Int))) (by rw [IntKind.wrap_i64]; omega) (by rw [IntKind.wrap_i64]; omega)
        have HRUN := hide_ hrun
        obtain ⟨r0, r1⟩ := HC.out k _ hx W3 HW3.out.2
        have HR3 : Hid (W3.cell? ⟨g, k * 2, none⟩ = some (.int .i64 (p : Int)) ∧ W3.cell? ⟨g, k * 2 + 1, none⟩ = some (.int .i64 (q : Int))) := ⟨r0, r1⟩
        clear HE HO hd hx c5 hrun r0 r1
        by_cases hb1 : (i : Int) < (p : Int)
        · clear hb
          go_wp2
          go_region_held3 (fun X => X.cell? ⟨g, k * 2, none⟩ = some (.int .i64 (p : Int)) ∧ X.cell? ⟨g, k * 2 + 1, none⟩ = some (.int .i64 (q : Int))) (first | go_keep | exact HR3.out) ((refine step_run_append rfl (.tmp 51) (.tmp 68) 32 rfl _ _ _ _ (by simp [Act.eval]) (by simp [Act.eval]) HRUN.out ?_))
          obtain ⟨r0, r1⟩ := HR3.out
          go_wp2
          go_roundg (L.length - k)
          case measure => omega
          case rel => exact ⟨p + 1, q + 1, k + 1, out ++ [(i, p - i, q - j)], by first | rfl | go_num, by first | rfl | go_num, by first | rfl | go_num, by omega, by omega, by omega, by omega, HN, HW3⟩
        · have hb2 : (j : Int) < (q : Int) := by omega
          clear hb
          go_wp2
          go_region_held3 (fun X => X.cell? ⟨g, k * 2, none⟩ = some (.int .i64 (p : Int)) ∧ X.cell? ⟨g, k * 2 + 1, none⟩ = some (.int .i64 (q : Int))) (first | go_keep | exact HR3.out) ((refine step_run_append rfl (.tmp 51) (.tmp 68) 32 rfl _ _ _ _ (by simp [Act.eval]) (by simp [Act.eval]) HRUN.out ?_))
          obtain ⟨r0, r1⟩ := HR3.out
          go_wp2
          go_roundg (L.length - k)
          case measure => omega
          case rel => exact ⟨p + 1, q + 1, k + 1, out ++ [(i, p - i, q - j)], by first | rfl | go_num, by first | rfl | go_num, by first | rfl | go_num, by omega, by omega, by omega, by omega, HN, HW3⟩
      · have HN : Hid (editsP L 0 0 = out ++ editsP (L.drop (k + 1)) (p + 1) (q + 1) ∧ Chn 400 (p + 1) (q + 1) (L.drop (k + 1)) ∧ out.length ≤ k + 1) := by
          refine ⟨?_, c5, ?_⟩
          · rw [HE.out.1, hd, editsP, if_neg hb]
          · have := HE.out.2.2
            omega
        have hb1 : ¬ ((i : Int) < (p : Int)) := by omega
        have hb2 : ¬ ((j : Int) < (q : Int)) := by omega
        clear HE hd hx c5 hb
        go_wp2
        go_roundg (L.length - k)
        case measure => omega
        case rel => exact ⟨p + 1, q + 1, k + 1, out, by first | rfl | go_num, by first | rfl | go_num, by first | rfl | go_num, by omega, by omega, by omega, by omega, HN, HO⟩
    · obtain rfl : k = L.length := by omega
      have HF : Hid (wr.ownsRow W2.heap.size 41 3 u8 (editsP L 0 0).length (rangeV (editsP L 0 0)) ∧ Below W2.heap.size W2 wr) := by
        have := HE.out.1
        rw [List.drop_length] at this
        rw [this]
        show _ ∧ _
        rw [show out ++ editsP [] i j = out from List.append_nil out]
        exact HO.out
      clear HE HO HC
      go_wp2
      go_ret2
      have hLL := HEL.out
      refine ⟨l, _, rfl, HIP.out, HL.out, ?_, HB2.out.trans (HF.out.2.mono HB2.out.size)⟩
      rw [hLL]
      exact owns_base HF.out.1 HB2.out.size
end Go.Proofs.Ytgpopploimeeaaa
