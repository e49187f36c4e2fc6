/-
  PROVED HERE: the program's own Edits: what the pairs leave.
-/
import Derived.Test.YtgpopploimeeaaaPPair2
namespace Go.Proofs.Ytgpopploimeeaaa
open Go.RowKit

/-- append of one range to what the call owns. -/
theorem append_range2 (base : Nat) (v : Value) (l : List (Nat × Nat × Nat)) (W : World) (hown : W.ownsRow base 41 3 v l.length (rangeV l)) (hbase : base ≤ W.heap.size) (hn : l.length ≤ 1000) (x : Nat × Nat × Nat) :
    ∃ v' W1, (Builtin.append_ #[32, 32] 32 #[v, .slice (some ⟨W.heap.size, 0, none⟩) 1 1]).run Try.prog (W.alloc (.cells #[.int .i64 (x.1 : Int), .int .i64 (x.2.1 : Int), .int .i64 (x.2.2 : Int)] 41)) = .ok v' W1 ∧
      W1.ownsRow base 41 3 v' (l ++ [x]).length (rangeV (l ++ [x])) ∧ (∀ w : World, Below base w W → Below base w W1) ∧ (∀ b, b < W.heap.size → v.ownBlock ≠ some b → W1.heap[b]? = W.heap[b]?) := by
  obtain ⟨i0, hi, hz0, hz1, hz2⟩ := infoRange
  have hown2 := hown.alloc (.cells #[.int .i64 (x.1 : Int), .int .i64 (x.2.1 : Int), .int .i64 (x.2.2 : Int)] 41)
  have hB2 : ∀ w : World, Below base w W → Below base w (W.alloc (.cells #[.int .i64 (x.1 : Int), .int .i64 (x.2.1 : Int), .int .i64 (x.2.2 : Int)] 41)) := fun w h => h.alloc hbase _
  have hB3 : ∀ b, b < W.heap.size → (W.alloc (.cells #[.int .i64 (x.1 : Int), .int .i64 (x.2.1 : Int), .int .i64 (x.2.2 : Int)] 41)).heap[b]? = W.heap[b]? := fun b hb => Below.heap_alloc W _ b hb
  have hsz := World.size_alloc W (.cells #[.int .i64 (x.1 : Int), .int .i64 (x.2.1 : Int), .int .i64 (x.2.2 : Int)] 41)
  have hnew := World.alloc_heap_new W (.cells #[.int .i64 (x.1 : Int), .int .i64 (x.2.1 : Int), .int .i64 (x.2.2 : Int)] 41)
  generalize W.alloc (.cells #[.int .i64 (x.1 : Int), .int .i64 (x.2.1 : Int), .int .i64 (x.2.2 : Int)] 41) = V at *
  have q0 : V.cell? ⟨W.heap.size, 0, none⟩ = some (.int .i64 (x.1 : Int)) := by simp only [World.cell?]; rw [hnew]; rfl
  have q1 : V.cell? ⟨W.heap.size, 1, none⟩ = some (.int .i64 (x.2.1 : Int)) := by simp only [World.cell?]; rw [hnew]; rfl
  have q2 : V.cell? ⟨W.heap.size, 2, none⟩ = some (.int .i64 (x.2.2 : Int)) := by simp only [World.cell?]; rw [hnew]; rfl
  obtain ⟨v', W1, hrun, r1, r2, _, _⟩ := run_append_own_at (P := Try.prog) V base 32 32 41 i0 (.agg #[.int .i64 0, .int .i64 0, .int .i64 0]) 3 24 Try.underlying32 hi hz0 hz1 hz2 rfl (by decide) v l.length _ hown2 ⟨W.heap.size, 0, none⟩ 1 1 [.int .i64 (x.1 : Int), .int .i64 (x.2.1 : Int), .int .i64 (x.2.2 : Int)] (by simp) (fun j u hj => by
    match j, hj with
    | 0, hj => cases hj; exact q0
    | 1, hj => cases hj; exact q1
    | 2, hj => cases hj; exact q2
    | j + 3, hj => simp at hj) (by simp [Value.oneCell']) (by unfold maxLen; omega) (by omega) (by omega)
  refine ⟨v', W1, hrun, ?_, fun w h => (hB2 w h).grown r2 (by omega) (fun j e => (World.ownsRow.lt hown2 _ e).1), fun b hb hne => (r2.block b (by omega) (fun e => hne e.symm)).trans (hB3 b hb)⟩
  rw [rangeV_add, List.length_append]
  exact r1


/-- One range more, beside the pair that the round holds. -/
theorem pedits_more {W0 W : World} {v : Value} {out : List (Nat × Nat × Nat)} (hown : W.ownsRow W0.heap.size 41 3 v out.length (rangeV out)) (hB : Below W0.heap.size W0 W) (hl : out.length ≤ 1000) (p q a b c : Nat) (z1 z2 : Int) (h1 : z1 = (b : Int)) (h2 : z2 = (c : Int)) :
    ∃ v' W1, (Builtin.append_ #[32, 32] 32 #[v, .slice (some ⟨W.heap.size + 1, 0, none⟩) 1 1]).run Try.prog ((W.alloc (.cells #[.int .i64 (p : Int), .int .i64 (q : Int)] 68)).alloc (.cells #[.int .i64 (a : Int), .int .i64 z1, .int .i64 z2] 41)) = .ok v' W1 ∧
      Hid (W1.ownsRow W0.heap.size 41 3 v' (out ++ [(a, b, c)]).length (rangeV (out ++ [(a, b, c)])) ∧ Below W0.heap.size W0 W1) ∧ W1.cell? ⟨W.heap.size, 0, none⟩ = some (.int .i64 (p : Int)) ∧ W1.cell? ⟨W.heap.size, 1, none⟩ = some (.int .i64 (q : Int)) := by
  subst h1 h2
  have hown2 := hown.alloc (.cells #[.int .i64 (p : Int), .int .i64 (q : Int)] 68)
  have hB2 := hB.alloc hB.size (.cells #[.int .i64 (p : Int), .int .i64 (q : Int)] 68)
  have hsz := World.size_alloc W (.cells #[.int .i64 (p : Int), .int .i64 (q : Int)] 68)
  have hnew := World.alloc_heap_new W (.cells #[.int .i64 (p : Int), .int .i64 (q : Int)] 68)
  have hlt := World.ownsRow.lt hown
  generalize W.alloc (.cells #[.int .i64 (p : Int), .int .i64 (q : Int)] 68) = V at *
  have hws := hB.size
  obtain ⟨v', W1, r1, r2, r3, r4⟩ := append_range2 W0.heap.size v out V hown2 (by omega) hl (a, b, c)
  rw [hsz] at r1
  have hb := r4 W.heap.size (by omega) (fun e => by have := (hlt _ e).2; omega)
  rw [hnew] at hb
  refine ⟨v', W1, r1, ⟨r2, r3 W0 hB2⟩, ?_, ?_⟩
  · simp only [World.cell?]; rw [hb]; rfl
  · simp only [World.cell?]; rw [hb]; rfl

set_option maxRecDepth 100000 in
set_option maxHeartbeats 4000000 in
theorem pedits_calls (a1 a2 : Option Addr) (n m c1 c2 : Nat) (l1 l2 : List Tok) (hn : n ≤ 400) (hm : m ≤ 400) (w : World) (h1 : Toks w a1 n l1) (h2 : Toks w a2 m l2) :
    Calls Try.prog 12 #[.slice a1 n c1, .slice a2 m c2] w fun e w' => ∃ l v, e = .returned (.tuple #[v, .int .i64 0]) ∧ IsPairs (likeL l1 l2) n m 0 0 l ∧ l.length ≤ n ∧
      w'.ownsRow w.heap.size 41 3 v (editsP (l ++ [(n, m)]) 0 0).length (rangeV (editsP (l ++ [(n, m)]) 0 0)) ∧ Below w.heap.size w w' := by
  have HP := hide_ (ppairs_calls a1 a2 n m c1 c2 l1 l2 hn hm w h1 h2)
  clear h1 h2
  go_enter Try.func12, Try.ntmps12
  go_wp2_with fail
  refine HP.out.mono ?_
  rintro e W1 ⟨l, v, rfl, hip, hl, hown, hB⟩
  have HIP := hide_ hip
  have hlen : l.length ≤ n := hl
  have HX : Hid (∃ v' W2, (Builtin.append_ #[26, 26] 26 #[v, .slice (some ⟨W1.heap.size, 0, none⟩) 1 1]).run Try.prog (W1.alloc (.cells #[.int .i64 (n : Int), .int .i64 (m : Int)] 68)) = .ok v' W2 ∧
      W2.ownsRow w.heap.size 68 2 v' (l ++ [(n, m)]).length (pairV (l ++ [(n, m)])) ∧ Below w.heap.size w W2) := by
    have hown2 := hown.alloc (.cells #[.int .i64 (n : Int), .int .i64 (m : Int)] 68)
    have hB2 := hB.alloc hB.size (.cells #[.int .i64 (n : Int), .int .i64 (m : Int)] 68)
    have hsz := World.size_alloc W1 (.cells #[.int .i64 (n : Int), .int .i64 (m : Int)] 68)
    have hnew := World.alloc_heap_new W1 (.cells #[.int .i64 (n : Int), .int .i64 (m : Int)] 68)
    generalize W1.alloc (.cells #[.int .i64 (n : Int), .int .i64 (m : Int)] 68) = V at *
    have hws := hB.size
    have c0 : V.cell? ⟨W1.heap.size, 0, none⟩ = some (.int .i64 (n : Int)) := by simp only [World.cell?]; rw [hnew]; rfl
    have c1 : V.cell? ⟨W1.heap.size, 1, none⟩ = some (.int .i64 (m : Int)) := by simp only [World.cell?]; rw [hnew]; rfl
    obtain ⟨v', W2, h1, h2, h3, h4⟩ := append_pair w.heap.size v l V hown2 (by omega) (by omega) W1.heap.size n m c0 c1
    exact ⟨v', W2, h1, h2, hB2.grown h3 (by omega) (fun j e => (World.ownsRow.lt hown2 _ e).1)⟩
  obtain ⟨v', W2, hrun, hown2, hB2⟩ := HX.out
  have HRUN := hide_ hrun
  have HCH : Hid (Chn 400 0 0 (l ++ [(n, m)])) := chn_of hn hm l 0 0 (Nat.zero_le _) (Nat.zero_le _) HIP.out
  have hL1 : (l ++ [(n, m)]).length ≤ 401 := by rw [List.length_append, List.length_singleton]; omega
  have hL0 : 0 < (l ++ [(n, m)]).length := by rw [List.length_append, List.length_singleton]; omega
  have HL : Hid (l.length ≤ n) := hlen
  clear HP hip hrun HX hown hB hl hlen
  obtain ⟨g, cap, rfl, hg1, hg2, hcells⟩ := pair_cells hown2 hL0
  have HC := hide_ hcells
  have HB2 := hide_ hB2
  clear hcells hown2 hB2
  generalize hL : l ++ [(n, m)] = L at *
  have HEL := hide_ hL
  clear hL
  go_wp2_with (first | (at_builtin; refine wpList_run_append rfl (.tmp 22) (.tmp 28) 26 rfl _ _ _ _ rfl rfl HRUN.out ?_) | fail)
  clear HRUN
  go_loopg [8, 9, 10, 31] (L.length + 1) (fun gk v ui uj uk wr => ∃ (i j k : Nat) (out : List (Nat × Nat × Nat)), ui = .int .i64 (i : Int) ∧ uj = .int .i64 (j : Int) ∧ uk = .int .i64 (k : Int) ∧ k ≤ L.length ∧ L.length < k + gk ∧ i ≤ 401 ∧ j ≤ 401 ∧ Hid (editsP L 0 0 = out ++ editsP (L.drop k) i j ∧ Chn 400 i j (L.drop k) ∧ out.length ≤ k) ∧
    Hid (wr.ownsRow W2.heap.size 41 3 v out.length (rangeV out) ∧ Below W2.heap.size W2 wr))
  case atStart => exact ⟨0, 0, 0, [], rfl, rfl, rfl, Nat.zero_le _, by omega, by omega, by omega, ⟨rfl, HCH.out, Nat.le_refl _⟩, ⟨rfl, .inl ⟨rfl, rfl⟩⟩, Below.refl _ W2⟩
  case round =>
    obtain ⟨i, j, k, out, rfl, rfl, rfl, hk, hgk, hi, hj, HE, HO⟩ := hrel
    have hi0 : (0 : Int) ≤ (i : Int) := by omega
    have hj0 : (0 : Int) ≤ (j : Int) := by omega
    have hk0 : (0 : Int) ≤ (k : Int) := by omega
    have hi4 : (i : Int) ≤ 401 := by omega
    have hj4 : (j : Int) ≤ 401 := by omega
    rcases Nat.lt_or_ge k L.length with hlt | hge
    · have hlti : (k : Int) < (L.length : Int) := by omega
      obtain ⟨x, hx⟩ : ∃ x, L[k]? = some x := ⟨_, List.getElem?_eq_getElem hlt⟩
      obtain ⟨q0, q1⟩ := HC.out k x hx wr HO.out.2
      have hd : L.drop k = x :: L.drop (k + 1) := by
        rw [List.drop_eq_getElem_cons hlt]
        rw [List.getElem?_eq_getElem hlt] at hx
        rw [Option.some.inj hx]
      obtain ⟨p, q⟩ := x
      have hch := HE.out.2.1
      rw [hd] at hch
      obtain ⟨c1, c2, c3, c4, c5⟩ := hch
      simp only at c1 c2 c3 c4 c5 q0 q1
      have hp0 : (0 : Int) ≤ (p : Int) := by omega
      have hq0 : (0 : Int) ≤ (q : Int) := by omega
      have hp4 : (p : Int) ≤ 400 := by omega
      have hq4 : (q : Int) ≤ 400 := by omega
      have hip : (i : Int) ≤ (p : Int) := by omega
      have hjq : (j : Int) ≤ (q : Int) := by omega
      by_cases hb : i < p ∨ j < q
      · have HN : Hid (editsP L 0 0 = (out ++ [(i, p - i, q - j)]) ++ editsP (L.drop (k + 1)) (p + 1) (q + 1) ∧ Chn 400 (p + 1) (q + 1) (L.drop (k + 1)) ∧ (out ++ [(i, p - i, q - j)]).length ≤ k + 1) := by
          refine ⟨?_, c5, ?_⟩
          · rw [HE.out.1, hd, editsP, if_pos hb, List.append_assoc]
            rfl
          · have := HE.out.2.2
            rw [List.length_append, List.length_singleton]
            omega
        obtain ⟨v', W3, hrun, HW3, r0, r1⟩ := pedits_more HO.out.1 HO.out.2 (by have := HE.out.2.2; omega) p q i (p - i) (q - j) ((p : Int) - (i : Int)) ((q : Int) - (j : Int)) (by omega) (by omega)
        have HRUN := hide_ hrun
        have HR3 : Hid (W3.cell? ⟨wr.heap.size, 0, none⟩ = some (.int .i64 (p : Int)) ∧ W3.cell? ⟨wr.heap.size, 1, none⟩ = some (.int .i64 (q : Int))) := ⟨r0, r1⟩
        clear HE HO hd hx c5 hrun r0 r1
        by_cases hb1 : (i : Int) < (p : Int)
        · clear hb
          go_wp2_with (first | (at_builtin; refine wpList_run_append rfl (.tmp 45) (.tmp 56) 32 rfl _ _ _ _ rfl rfl HRUN.out ?_; obtain ⟨r0, r1⟩ := HR3.out) | fail)
          go_quiet (fail)
          obtain ⟨V, hV⟩ : ∃ V, V = W3.drewN nq := ⟨_, rfl⟩
          have HV : Hid (V.ownsRow W2.heap.size 41 3 v' (out ++ [(i, p - i, q - j)]).length (rangeV (out ++ [(i, p - i, q - j)])) ∧ Below W2.heap.size W2 V) := by rw [hV]; exact ⟨owns_below HW3.out.1 (below_drewN (Below.refl _ W3) nq), below_drewN HW3.out.2 nq⟩
          rw [← hV]
          clear hV
          go_wp2
          go_roundg (L.length - k)
          case measure => omega
          case rel => exact ⟨p + 1, q + 1, k + 1, out ++ [(i, p - i, q - j)], by first | rfl | go_num, by first | rfl | go_num, by first | rfl | go_num, by omega, by omega, by omega, by omega, HN, HV⟩
        · have hb2 : (j : Int) < (q : Int) := by omega
          clear hb
          go_wp2_with (first | (at_builtin; refine wpList_run_append rfl (.tmp 45) (.tmp 56) 32 rfl _ _ _ _ rfl rfl HRUN.out ?_; obtain ⟨r0, r1⟩ := HR3.out) | fail)
          go_quiet (fail)
          obtain ⟨V, hV⟩ : ∃ V, V = W3.drewN nq := ⟨_, rfl⟩
          have HV : Hid (V.ownsRow W2.heap.size 41 3 v' (out ++ [(i, p - i, q - j)]).length (rangeV (out ++ [(i, p - i, q - j)])) ∧ Below W2.heap.size W2 V) := by rw [hV]; exact ⟨owns_below HW3.out.1 (below_drewN (Below.refl _ W3) nq), below_drewN HW3.out.2 nq⟩
          rw [← hV]
          clear hV
          go_wp2
          go_roundg (L.length - k)
          case measure => omega
          case rel => exact ⟨p + 1, q + 1, k + 1, out ++ [(i, p - i, q - j)], by first | rfl | go_num, by first | rfl | go_num, by first | rfl | go_num, by omega, by omega, by omega, by omega, HN, HV⟩
      · have HN : Hid (editsP L 0 0 = out ++ editsP (L.drop (k + 1)) (p + 1) (q + 1) ∧ Chn 400 (p + 1) (q + 1) (L.drop (k + 1)) ∧ out.length ≤ k + 1) := by
          refine ⟨?_, c5, ?_⟩
          · rw [HE.out.1, hd, editsP, if_neg hb]
          · have := HE.out.2.2
            omega
        have hb1 : ¬ ((i : Int) < (p : Int)) := by omega
        have hb2 : ¬ ((j : Int) < (q : Int)) := by omega
        have HO2 : Hid ((wr.alloc (.cells #[.int .i64 (p : Int), .int .i64 (q : Int)] 68)).ownsRow W2.heap.size 41 3 u8 out.length (rangeV out) ∧ Below W2.heap.size W2 (wr.alloc (.cells #[.int .i64 (p : Int), .int .i64 (q : Int)] 68))) := ⟨HO.out.1.alloc _, HO.out.2.alloc HO.out.2.size _⟩
        clear HE hd hx c5 hb HO
        go_wp2
        go_quiet (fail)
        obtain ⟨V, hV⟩ : ∃ V, V = (wr.alloc (.cells #[.int .i64 (p : Int), .int .i64 (q : Int)] 68)).drewN nq := ⟨_, rfl⟩
        have HV : Hid (V.ownsRow W2.heap.size 41 3 u8 out.length (rangeV out) ∧ Below W2.heap.size W2 V) := by rw [hV]; exact ⟨owns_below HO2.out.1 (below_drewN (Below.refl _ _) nq), below_drewN HO2.out.2 nq⟩
        rw [← hV]
        clear hV
        go_wp2
        go_roundg (L.length - k)
        case measure => omega
        case rel => exact ⟨p + 1, q + 1, k + 1, out, by first | rfl | go_num, by first | rfl | go_num, by first | rfl | go_num, by omega, by omega, by omega, by omega, HN, HV⟩
    · obtain rfl : k = L.length := by omega
      have HF : Hid (wr.ownsRow W2.heap.size 41 3 u8 (editsP L 0 0).length (rangeV (editsP L 0 0)) ∧ Below W2.heap.size W2 wr) := by
        have := HE.out.1
        rw [List.drop_length] at this
        rw [this]
        show _ ∧ _
        rw [show out ++ editsP [] i j = out from List.append_nil out]
        exact HO.out
      clear HE HO HC
      go_wp2
      go_ret2
      have hLL := HEL.out
      refine ⟨l, _, rfl, HIP.out, HL.out, ?_, HB2.out.trans (HF.out.2.mono HB2.out.size)⟩
      rw [hLL]
      exact owns_base HF.out.1 HB2.out.size
end Go.Proofs.Ytgpopploimeeaaa
