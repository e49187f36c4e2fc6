/-
  PROVED HERE: the document's own Rows of two documents of at most 200 tokens each.
-/
import Derived.Test.YtgpopploimeeaaaCR23
import Derived.Test.YtgpopploimeeaaaCR24
import Derived.Test.YtgpopploimeeaaaCR15
namespace Go.Proofs.Ytgpopploimeeaaa
open Go.RowKit

/-- Blocks as the document's own text holds them. -/
def RBlks (w : World) (a : Option Addr) (c : Nat) (l : List Tok) (d : Option Addr) (len : Nat) : Prop :=
  (tops l).length = len ∧ (len = 0 ∨ ∃ g, d = some ⟨g, 0, none⟩ ∧ g < w.heap.size ∧ ∀ (i k : Nat), (tops l)[i]? = some k → w.cell? ⟨g, i, none⟩ = some (.slice (partA a c k) (endE l k - k) (c - k)))
theorem RBlks.below {w W : World} {a : Option Addr} {c : Nat} {l : List Tok} {d : Option Addr} {len : Nat} (h : RBlks w a c l d len) (hB : Below w.heap.size w W) : RBlks W a c l d len := by
  obtain ⟨h1, h2⟩ := h
  refine ⟨h1, ?_⟩
  rcases h2 with h2 | ⟨g, rfl, hg, hc⟩
  · exact .inl h2
  · exact .inr ⟨g, rfl, Nat.lt_of_lt_of_le hg hB.size, fun i k hk => (hB.cell (p := ⟨g, _, none⟩) hg).trans (hc i k hk)⟩
theorem RBlks.at {w : World} {a : Option Addr} {c : Nat} {l : List Tok} {d : Option Addr} {len : Nat} (h : RBlks w a c l d len) {i : Nat} (hi : i < len) :
    ∃ g k, d = some ⟨g, 0, none⟩ ∧ g < w.heap.size ∧ (tops l)[i]? = some k ∧ ∀ W : World, Below w.heap.size w W → W.cell? ⟨g, i, none⟩ = some (.slice (partA a c k) (endE l k - k) (c - k)) := by
  obtain ⟨h1, h2⟩ := h
  rcases h2 with h2 | ⟨g, rfl, hg, hc⟩
  · omega
  · have hk : (tops l)[i]? = some ((tops l)[i]'(by omega)) := List.getElem?_eq_getElem (by omega)
    exact ⟨g, _, rfl, hg, hk, fun W hB => (hB.cell (p := ⟨g, _, none⟩) hg).trans (hc i _ hk)⟩
theorem RBlks_of_owns {W : World} {base : Nat} {v : Value} {a : Option Addr} {c : Nat} {l : List Tok} (h : W.ownsRow base 22 1 v (tops l).length (rblkV a c l (tops l))) : ∃ d e, v = .slice d (tops l).length e ∧ RBlks W a c l d (tops l).length := by
  rcases Nat.eq_zero_or_pos (tops l).length with h0 | h0
  · rw [h0] at h
    obtain ⟨d, e, rfl⟩ := owns_none h
    rw [h0]
    exact ⟨d, e, rfl, h0, .inl rfl⟩
  · obtain ⟨g, cap, rfl, hg, hc⟩ := owns_cell h h0
    refine ⟨_, cap, rfl, rfl, .inr ⟨g, rfl, hg, fun i k hk => ?_⟩⟩
    have hi : i < (tops l).length := (List.getElem?_eq_some_iff.1 hk).1
    have := hc i (.slice (partA a c k) (endE l k - k) (c - k)) (by omega) (by unfold rblkV; rw [List.getElem?_map, hk]; rfl)
    rw [Nat.zero_add] at this
    exact this

theorem Lj.same {like : Nat → Nat → Bool} {w W W' : World} {n m k j : Nat} (h : Lj like w W n m k j) (hB : Below W.heap.size W W') (e : W'.heap = W.heap) : Lj like w W' n m k j :=
  ⟨by rw [e]; exact h.top, fun p hp => by rw [e]; exact h.row p hp, by rw [e]; exact h.now, by rw [e]; exact h.size, h.b.trans (hB.mono h.b.size)⟩
theorem Lj.set0 {like : Nat → Nat → Bool} {w W : World} {n m k j : Nat} (h : Lj like w W n m k j) (hj : j < m) : Lj like w (W.setCell ⟨w.heap.size + 1 + k, j, none⟩ (.bool (like k j))) n m k (j + 1) := by
  have h2 := h.set hj
  exact ⟨h2.top, h2.row, h2.now, h2.size, h.b.setCell (by show w.heap.size ≤ w.heap.size + 1 + k; omega) _⟩

theorem info_rrow : (Try.prog.info? 60).map (fun i => (i.zero, i.size, i.bytes)) = some (some (.agg #[.int .i64 0, .int .i64 0, .int .i64 0]), 3, 24) := by kernel_rfl
/-- One row more. -/
theorem append_rrow {W0 W : World} {v : Value} {rs : List (Int × Int × Int)} (hown : W.ownsRow W0.heap.size 60 3 v rs.length (rowV rs)) (hB : Below W0.heap.size W0 W) (hl : rs.length ≤ 3000) (r : Int × Int × Int) :
    ∃ v' W1, (Builtin.append_ #[50, 50] 50 #[v, .slice (some ⟨W.heap.size, 0, none⟩) 1 1]).run Try.prog (W.alloc (.cells #[.int .i64 r.1, .int .i64 r.2.1, .int .i64 r.2.2] 60)) = .ok v' W1 ∧
      Hid (W1.ownsRow W0.heap.size 60 3 v' (rs ++ [r]).length (rowV (rs ++ [r])) ∧ Below W0.heap.size W0 W1) := by
  obtain ⟨i0, hi, hz⟩ := Option.map_eq_some_iff.1 info_rrow
  simp only [Prod.mk.injEq] at hz
  obtain ⟨hz0, hz1, hz2⟩ := hz
  have hbase := hB.size
  have hown2 := hown.alloc (.cells #[.int .i64 r.1, .int .i64 r.2.1, .int .i64 r.2.2] 60)
  have hB2 := hB.alloc hbase (.cells #[.int .i64 r.1, .int .i64 r.2.1, .int .i64 r.2.2] 60)
  have hsz := World.size_alloc W (.cells #[.int .i64 r.1, .int .i64 r.2.1, .int .i64 r.2.2] 60)
  have hnew := World.alloc_heap_new W (.cells #[.int .i64 r.1, .int .i64 r.2.1, .int .i64 r.2.2] 60)
  generalize W.alloc (.cells #[.int .i64 r.1, .int .i64 r.2.1, .int .i64 r.2.2] 60) = V at *
  have q0 : V.cell? ⟨W.heap.size, 0, none⟩ = some (.int .i64 r.1) := by simp only [World.cell?]; rw [hnew]; rfl
  have q1 : V.cell? ⟨W.heap.size, 1, none⟩ = some (.int .i64 r.2.1) := by simp only [World.cell?]; rw [hnew]; rfl
  have q2 : V.cell? ⟨W.heap.size, 2, none⟩ = some (.int .i64 r.2.2) := by simp only [World.cell?]; rw [hnew]; rfl
  obtain ⟨v', W1, hrun, r1, r2, _, _⟩ := run_append_own_at (P := Try.prog) V W0.heap.size 50 50 60 i0 (.agg #[.int .i64 0, .int .i64 0, .int .i64 0]) 3 24 Try.underlying50 hi hz0 hz1 hz2 rfl (by decide) v rs.length _ hown2 ⟨W.heap.size, 0, none⟩ 1 1 [.int .i64 r.1, .int .i64 r.2.1, .int .i64 r.2.2] (by simp) (fun j u hj => by
    match j, hj with
    | 0, hj => cases hj; exact q0
    | 1, hj => cases hj; exact q1
    | 2, hj => cases hj; exact q2
    | j + 3, hj => simp at hj) (by simp [Value.oneCell']) (by unfold maxLen; omega) (by omega) (by omega)
  refine ⟨v', W1, hrun, ?_, hB2.grown r2 (by omega) (fun j e => (World.ownsRow.lt hown2 _ e).1)⟩
  rw [rowV_add, List.length_append]
  exact r1
theorem append_rrowD {W0 W : World} {v : Value} {rs : List (Int × Int × Int)} (hown : W.ownsRow W0.heap.size 60 3 v rs.length (rowV rs)) (hB : Below W0.heap.size W0 W) (hl : rs.length ≤ 3000) (r : Int × Int × Int) :
    ∃ v' W1, (Builtin.append_ #[50, 50] 50 #[v, .slice (some ⟨W.heap.size, 0, none⟩) 1 1]).run Try.prog (W.alloc (.cells #[.int .i64 r.1, .int .i64 r.2.1, .int .i64 r.2.2] 60)).drew = .ok v' W1 ∧
      Hid (W1.ownsRow W0.heap.size 60 3 v' (rs ++ [r]).length (rowV (rs ++ [r])) ∧ Below W0.heap.size W0 W1) :=
  append_rrow (W := W.drew) hown.drew hB.drew hl r

/-- Where the telling of the rows stands: ahead of pair k, or behind all. -/
def StR (l1 l2 : List Tok) (like : Nat → Nat → Bool) (n m : Nat) (P : List (Nat × Nat)) (rs : List (Int × Int × Int)) (k i j : Nat) : Prop :=
  (k ≤ P.length ∧ rs ++ rowsP (tops l1) (tops l2) (P.drop k) i j = rowsP (tops l1) (tops l2) P 0 0 ∧ IsPairs like n m i j (P.drop k) ∧ rs.length ≤ i + j ∧ i ≤ n ∧ j ≤ m) ∨ (k = P.length + 1 ∧ rs = rowsP (tops l1) (tops l2) P 0 0)
theorem StR.fin {l1 l2 : List Tok} {like : Nat → Nat → Bool} {n m : Nat} {P : List (Nat × Nat)} {rs : List (Int × Int × Int)} {k i j : Nat} (h : StR l1 l2 like n m P rs k i j) (hk : P.length < k) : rs = rowsP (tops l1) (tops l2) P 0 0 := by
  rcases h with ⟨h1, _⟩ | ⟨_, h2⟩
  · omega
  · exact h2
theorem StR.step {l1 l2 : List Tok} {like : Nat → Nat → Bool} {n m : Nat} {P : List (Nat × Nat)} {rs : List (Int × Int × Int)} {k i j : Nat} {x : Nat × Nat} (h : StR l1 l2 like n m P rs k i j) (hk : k ≤ P.length) (hx : (P ++ [(n, m)])[k]? = some x) (hn : (tops l1).length = n) (hm : (tops l2).length = m) :
    i ≤ x.1 ∧ j ≤ x.2 ∧ x.1 ≤ n ∧ x.2 ≤ m ∧ (rs.length ≤ i + j ∧ (k < P.length → x.1 < n ∧ x.2 < m)) ∧
    (k < P.length → ∀ y1 y2, (tops l1).getD x.1 0 = y1 → (tops l2).getD x.2 0 = y2 → Hid (StR l1 l2 like n m P (rs ++ goA (tops l1) i (x.1 - i) ++ goB (tops l2) j (x.2 - j) ++ [(0, ((y1 : Nat) : Int), ((y2 : Nat) : Int))]) (k + 1) (x.1 + 1) (x.2 + 1))) ∧
    (P.length ≤ k → Hid (StR l1 l2 like n m P (rs ++ goA (tops l1) i (x.1 - i) ++ goB (tops l2) j (x.2 - j)) (k + 1) (x.1 + 1) (x.2 + 1))) := by
  rcases h with ⟨_, h2, h3, h4, h5, h6⟩ | ⟨h1, _⟩
  · by_cases hlt : k < P.length
    · rw [List.getElem?_append_left hlt] at hx
      have hd : P.drop k = x :: P.drop (k + 1) := by
        rw [List.drop_eq_getElem_cons hlt]
        rw [List.getElem?_eq_getElem hlt] at hx
        rw [Option.some.inj hx]
      rw [hd] at h2 h3
      obtain ⟨_, hnx, hr⟩ := h3
      have a1 := hnx.ip
      have a2 := hnx.pn
      have a3 := hnx.jq
      have a4 := hnx.qm
      refine ⟨a1, a3, by omega, by omega, ⟨h4, fun _ => ⟨a2, a4⟩⟩, fun _ y1 y2 e1 e2 => .inl ⟨hlt, ?_, hr, ?_, a2, a4⟩, fun hh => by omega⟩
      · rw [← h2, rowsP, e1, e2]
        simp only [List.append_assoc, List.singleton_append]
      · rw [List.length_append, List.length_append, List.length_append, goA_length, goB_length, List.length_singleton]
        omega
    · obtain rfl : k = P.length := by omega
      rw [List.getElem?_append_right (Nat.le_refl _), Nat.sub_self] at hx
      obtain rfl : (n, m) = x := by simpa using hx
      rw [List.drop_length, rowsP, hn, hm] at h2
      refine ⟨h5, h6, Nat.le_refl _, Nat.le_refl _, ⟨h4, fun hh => by omega⟩, fun hh => by omega, fun _ => .inr ⟨rfl, ?_⟩⟩
      rw [← h2, List.append_assoc]
  · omega

set_option maxRecDepth 100000 in
set_option maxHeartbeats 16000000 in
theorem rrows_calls (a1 a2 : Option Addr) (n m c1 c2 : Nat) (l1 l2 : List Tok) (w : World) (h1 : Toks w a1 n l1) (h2 : Toks w a2 m l2) (hn : n ≤ 200) (hm : m ≤ 200) (hc1 : n ≤ c1) (hc2 : m ≤ c2) (hb : bothP l1 l2 = 0) :
    Calls Try.prog 20 #[.slice a1 n c1, .slice a2 m c2] w fun e w' => ∃ P v, e = .returned (.tuple #[v, .int .i64 0]) ∧ IsPairs (likeB l1 l2) (tops l1).length (tops l2).length 0 0 P ∧
      w'.ownsRow w.heap.size 60 3 v (rowsP (tops l1) (tops l2) P 0 0).length (rowV (rowsP (tops l1) (tops l2) P 0 0)) ∧ Below w.heap.size w w' := by
  have HC := both_calls a1 a2 n m c1 c2 l1 l2 w h1 h2 (by omega) (by omega)
  rw [hb] at HC
  obtain ⟨g1, g2, _, _⟩ := bothP_ok hb
  have D1 : Hid (Doc w a1 n c1 l1) := ⟨h1, g1, by omega, hc1⟩
  have D2 : Hid (Doc w a2 m c2 l2) := ⟨h2, g2, by omega, hc2⟩
  obtain ⟨N, hN⟩ : ∃ N, (tops l1).length = N := ⟨_, rfl⟩
  obtain ⟨M, hM⟩ : ∃ M, (tops l2).length = M := ⟨_, rfl⟩
  have t1 : N ≤ 200 := by have := topsL_length l1 l1.length 0; have := h1.1; unfold tops at hN; omega
  have t2 : M ≤ 200 := by have := topsL_length l2 l2.length 0; have := h2.1; unfold tops at hM; omega
  have i1 : ¬ ((200 : Int) < (N : Int)) := by omega
  have i2 : ¬ ((200 : Int) < (M : Int)) := by omega
  have i3 : (N : Int) ≤ 200 := by omega
  have i4 : (M : Int) ≤ 200 := by omega
  have hmk1 : ∀ W : World, (Instr.makeSlice 65 (.int .i64 (N : Int)) (.int .i64 (N : Int))).run Try.prog W = .ok (.slice (some ⟨W.heap.size, 0, none⟩) N N) (W.alloc (.cells (madeCells #[.slice none 0 0] N) 66)) := fun W => run_make_row' (P := Try.prog) 65 66 (.slice none 0 0) 24 Try.underlying65 info_bools rfl .i64 .i64 N (by omega) (by omega) W
  have hmk2 : ∀ W : World, (Instr.makeSlice 66 (.int .i64 (M : Int)) (.int .i64 (M : Int))).run Try.prog W = .ok (.slice (some ⟨W.heap.size, 0, none⟩) M M) (W.alloc (.cells (madeCells #[.bool false] M) 4)) := fun W => run_make_row' (P := Try.prog) 66 4 (.bool false) 1 Try.underlying66 info_bool rfl .i64 .i64 M (by omega) (by omega) W
  clear h1 h2 g1 g2 hb
  go_enter Try.func20, Try.ntmps20
  go_wp2_with fail
  refine HC.mono ?_
  rintro e W1 ⟨rfl, b1⟩
  have B1 := hide_ b1
  clear b1 HC
  go_wp2_with fail
  refine (rblocks_calls a1 n c1 l1 W1 (D1.out.below B1.out).1 D1.out.2.1 (by omega) hc1).mono ?_
  rintro e W2 ⟨v1, rfl, o1, b2⟩
  obtain ⟨d1, e1, rfl, B1s⟩ := RBlks_of_owns o1
  rw [hN] at B1s
  have B2 := hide_ (B1.out.trans (b2.mono B1.out.size))
  have X1 := hide_ B1s
  clear b2 B1 o1 B1s
  rw [hN]
  go_wp2_with fail
  refine (rblocks_calls a2 m c2 l2 W2 (D2.out.below B2.out).1 D2.out.2.1 (by omega) hc2).mono ?_
  rintro e W3 ⟨v2, rfl, o2, b3⟩
  obtain ⟨d2, e2, rfl, B2s⟩ := RBlks_of_owns o2
  rw [hM] at B2s
  have B3 := hide_ (B2.out.trans (b3.mono B2.out.size))
  have X13 := hide_ (X1.out.below b3)
  have X2 := hide_ B2s
  clear b3 B2 o2 B2s X1
  rw [hM]
  have HK1 := kids_calls a1 n c1 l1 (-1) W3 (D1.out.below B3.out).1 (by omega) (by omega)
  rw [kids_tops D1.out.2.1, List.length_map, hN] at HK1
  go_wp2_with fail
  refine HK1.mono ?_
  rintro e W4 ⟨ax, cx, rfl, hRx, b4⟩
  have B4 := hide_ (B3.out.trans (b4.mono B3.out.size))
  have RX := hide_ hRx
  have X14 := hide_ (X13.out.below b4)
  have X24 := hide_ (X2.out.below b4)
  clear b4 hRx HK1 X13 X2 B3
  have HK2 := kids_calls a2 m c2 l2 (-1) W4 (D2.out.below B4.out).1 (by omega) (by omega)
  rw [kids_tops D2.out.2.1, List.length_map, hM] at HK2
  go_wp2_with fail
  refine HK2.mono ?_
  rintro e W6 ⟨ay, cy, rfl, hRy, b5⟩
  have B6 := hide_ (B4.out.trans (b5.mono B4.out.size))
  have RY := hide_ hRy
  have RX6 := hide_ (RX.out.below b5)
  have X16 := hide_ (X14.out.below b5)
  have X26 := hide_ (X24.out.below b5)
  clear b5 hRy HK2 RX X14 X24 B4
  go_wp2
  clear hmk1
  go_loopg [12] (N + 1) (fun gk u wr => ∃ i : Nat, u = .int .i64 (i : Int) ∧ i ≤ N ∧ N < i + gk ∧ Hid (Lk (likeB l1 l2) W6 wr N M i))
  case atStart =>
    refine ⟨0, rfl, Nat.zero_le _, by omega, ?_, fun p hp => by omega, by rw [World.size_alloc], (Below.refl _ W6).alloc (Nat.le_refl _) _⟩
    rw [topC_zero]
    exact World.alloc_heap_new W6 _
  case round =>
    obtain ⟨i, rfl, hi, hgk, HR⟩ := hrel
    have hi0 : (0 : Int) ≤ (i : Int) := by omega
    by_cases hiN : i < N
    · have hiNI : (i : Int) < (N : Int) := by omega
      have HO := hide_ HR.out.open
      have hsz : wr.heap.size = W6.heap.size + 1 + i := HR.out.size
      clear HR
      go_wp2
      clear hmk2
      go_loopg [14] (M + 1) (fun gk2 u2 WQ => ∃ j : Nat, u2 = .int .i64 (j : Int) ∧ j ≤ M ∧ M < j + gk2 ∧ Hid (Lj (likeB l1 l2) W6 WQ N M i j))
      case atStart => exact ⟨0, rfl, Nat.zero_le _, by omega, HO.out⟩
      case round =>
        obtain ⟨j, rfl, hj, hgk2, HJ⟩ := hrel
        clear HO
        have hj0 : (0 : Int) ≤ (j : Int) := by omega
        by_cases hjM : j < M
        · have hjMI : (j : Int) < (M : Int) := by omega
          obtain ⟨bo, x, rfl, hbl, hx, hc⟩ := X16.out.at hiN
          obtain ⟨bo2, y, rfl, hbl2, hy, hc2'⟩ := X26.out.at hjM
          have hlk : likeB l1 l2 i j = eqL (blkAt l1 x) (blkAt l2 y) := by unfold likeB; rw [hx, hy]
          have ex := tops_in D1.out.2.1 hx
          have ey := tops_in D2.out.2.1 hy
          have HS4 := fun X (hX : Below W6.heap.size W6 X) => same4_calls (partA a1 c1 x) (partA a2 c2 y) (endE l1 x - x) (endE l2 y - y) (c1 - x) (c2 - y) (blkAt l1 x) (blkAt l2 y) X ((D1.out.below (B6.out.trans (hX.mono B6.out.size))).1.partA hc1 x (endE l1 x - x) (by have := D1.out.1.1; omega)) ((D2.out.below (B6.out.trans (hX.mono B6.out.size))).1.partA hc2 y (endE l2 y - y) (by have := D2.out.1.1; omega)) (by have := D1.out.1.1; omega) (by have := D2.out.1.1; omega)
          have HCC : Hid (∀ X, Below W6.heap.size W6 X → X.cell? ⟨bo, i, none⟩ = some (.slice (partA a1 c1 x) (endE l1 x - x) (c1 - x)) ∧ X.cell? ⟨bo2, j, none⟩ = some (.slice (partA a2 c2 y) (endE l2 y - y) (c2 - y))) := fun X hX => ⟨hc X hX, hc2' X hX⟩
          clear hc hc2' hx hy ex ey
          generalize eqL (blkAt l1 x) (blkAt l2 y) = dd at *
          generalize partA a1 c1 x = pp1 at *
          generalize partA a2 c2 y = pp2 at *
          generalize endE l1 x - x = mm1 at *
          generalize endE l2 y - y = mm2 at *
          go_wp2_with fail
          refine wp_region_held_drew (S := fun X => Below W6.heap.size W6 X) hmx HJ.out.b.drew (fun hS => ?_)
          refine takeD 0 (some 60) (v := ?_) rfl rfl (by kernel_rfl) (by kernel_rfl) (by kernel_rfl) (fun _ _ _ h => h) (Or.inl ⟨by rfl, ?_⟩) hS ?_
          rotate_left
          · intro w hSw
            try go_simp
            with_reducible rfl
          try simp only [Act.put, List.setIfInBounds_toArray, List.set_cons_zero, List.set_cons_succ]
          refine takeD 1 (some 61) (v := ?_) rfl rfl (by kernel_rfl) (by kernel_rfl) (by kernel_rfl) (fun _ _ _ h => h) (Or.inl ⟨by rfl, ?_⟩) hS ?_
          rotate_left
          · intro w hSw
            try go_simp
            with_reducible rfl
          try simp only [Act.put, List.setIfInBounds_toArray, List.set_cons_zero, List.set_cons_succ]
          refine takeD 2 (some 62) (v := ?_) rfl rfl (by kernel_rfl) (by kernel_rfl) (by kernel_rfl) (fun _ _ _ h => h) (Or.inl ⟨by rfl, ?_⟩) hS ?_
          rotate_left
          · intro w hSw
            try go_simp
            with_reducible rfl
          try simp only [Act.put, List.setIfInBounds_toArray, List.set_cons_zero, List.set_cons_succ]
          refine takeD 3 (some 63) (v := ?_) rfl rfl (by kernel_rfl) (by kernel_rfl) (by kernel_rfl) (fun _ _ _ h => h) (Or.inl ⟨by rfl, ?_⟩) hS ?_
          rotate_left
          · intro w hSw
            try go_simp
            with_reducible rfl
          try simp only [Act.put, List.setIfInBounds_toArray, List.set_cons_zero, List.set_cons_succ]
          refine takeD 4 (some 64) (v := ?_) rfl rfl (by kernel_rfl) (by kernel_rfl) (by kernel_rfl) (fun _ _ _ h => h) (Or.inl ⟨by rfl, ?_⟩) hS ?_
          rotate_left
          · intro w hSw
            go_simp
            with_reducible rfl
          try simp only [Act.put, List.setIfInBounds_toArray, List.set_cons_zero, List.set_cons_succ]
          refine takeD 5 (some 65) (v := ?_) rfl rfl (by kernel_rfl) (by kernel_rfl) (by kernel_rfl) (fun _ _ _ h => h) (Or.inl ⟨by rfl, ?_⟩) hS ?_
          rotate_left
          · intro w hSw
            obtain ⟨c0, c1⟩ := HCC.out _ hSw
            go_simp
            with_reducible rfl
          try simp only [Act.put, List.setIfInBounds_toArray, List.set_cons_zero, List.set_cons_succ]
          refine takeD 6 (some 66) (v := ?_) rfl rfl (by kernel_rfl) (by kernel_rfl) (by kernel_rfl) (fun _ _ _ h => h) (Or.inl ⟨by rfl, ?_⟩) hS ?_
          rotate_left
          · intro w hSw
            try go_simp
            with_reducible rfl
          try simp only [Act.put, List.setIfInBounds_toArray, List.set_cons_zero, List.set_cons_succ]
          refine takeD 7 (some 67) (v := ?_) rfl rfl (by kernel_rfl) (by kernel_rfl) (by kernel_rfl) (fun _ _ _ h => h) (Or.inl ⟨by rfl, ?_⟩) hS ?_
          rotate_left
          · intro w hSw
            try go_simp
            with_reducible rfl
          try simp only [Act.put, List.setIfInBounds_toArray, List.set_cons_zero, List.set_cons_succ]
          refine takeD 8 (some 68) (v := ?_) rfl rfl (by kernel_rfl) (by kernel_rfl) (by kernel_rfl) (fun _ _ _ h => h) (Or.inl ⟨by rfl, ?_⟩) hS ?_
          rotate_left
          · intro w hSw
            go_simp
            with_reducible rfl
          try simp only [Act.put, List.setIfInBounds_toArray, List.set_cons_zero, List.set_cons_succ]
          refine takeD 9 (some 69) (v := ?_) rfl rfl (by kernel_rfl) (by kernel_rfl) (by kernel_rfl) (fun _ _ _ h => h) (Or.inl ⟨by rfl, ?_⟩) hS ?_
          rotate_left
          · intro w hSw
            obtain ⟨c0, c1⟩ := HCC.out _ hSw
            go_simp
            with_reducible rfl
          try simp only [Act.put, List.setIfInBounds_toArray, List.set_cons_zero, List.set_cons_succ]
          refine callD 10 (by kernel_rfl) rfl (fun K hK => ?_)
          rw [if_pos (by rfl)]
          go_simp
          refine (HS4 _ hS).mono ?_
          rintro e Y ⟨rfl, bY, eY⟩
          have hY := hS.trans (bY.mono hS.size)
          have HLJ := HJ.out.same (show Below wr.heap.size wr Y from (Below.refl _ wr).drew.trans bY) eY
          have hcell : Y.cell? ⟨W6.heap.size + 1 + i, j, none⟩ = some (.bool false) := by
            simp only [World.cell?]
            rw [HLJ.now]
            show (rowC _ _ _ _)[j]? = _
            rw [rowC_at _ _ _ _ _ hjM, if_neg (Nat.lt_irrefl _)]
          have hfro : Y.frozen? ⟨W6.heap.size + 1 + i, j, none⟩ = false := by simp [World.frozen?, HLJ.now]
          have HNX := HLJ.set0 hjM
          rw [hlk] at HNX
          have hZ := HNX.b
          clear bY eY HLJ
          refine hK.out _ _ hY (fun _ => ?_)
          clear hK K
          try simp only [Act.put, List.setIfInBounds_toArray, List.set_cons_zero, List.set_cons_succ]
          refine takeD 11 (some 71) (v := ?_) rfl rfl (by kernel_rfl) (by kernel_rfl) (by kernel_rfl) (fun _ _ _ h => h) (Or.inl ⟨by rfl, ?_⟩) hY ?_
          rotate_left
          · intro w hSw
            go_simp
            with_reducible rfl
          try simp only [Act.put, List.setIfInBounds_toArray, List.set_cons_zero, List.set_cons_succ]
          refine callD 12 (by kernel_rfl) rfl (fun K hK => ?_)
          rw [if_pos (by rfl)]
          go_simp
          refine hK.out _ _ hZ (fun _ => ?_)
          clear hK K
          try simp only [Act.put, List.setIfInBounds_toArray]
          refine wpAnyH_done (by kernel_rfl) ?_ _
          have HN := hide_ HNX
          clear hS hY hZ HNX hcell hfro HCC HS4 HJ
          go_wp2
          go_roundg (M - j)
          case measure => omega
          case rel => exact ⟨j + 1, by first | rfl | go_num, by omega, by omega, HN.out⟩
        · obtain rfl : j = M := by omega
          have hcell : wr.cell? ⟨W6.heap.size, i, none⟩ = some (.slice none 0 0) := by
            simp only [World.cell?]
            rw [HJ.out.top]
            show (topC _ _ _ _)[i]? = _
            rw [topC_at _ _ _ _ _ hiN, if_neg (by omega)]
          have hfro : wr.frozen? ⟨W6.heap.size, i, none⟩ = false := by simp [World.frozen?, HJ.out.top]
          have HN := hide_ (HJ.out.close hiN)
          clear HJ
          go_wp2
          go_roundg (N - i)
          case measure => omega
          case rel => exact ⟨i + 1, by first | rfl | go_num, by omega, by omega, HN.out⟩
    · obtain rfl : i = N := by omega
      have HG := hide_ HR.out.grid
      have HB := hide_ HR.out.b
      have HP := hide_ (pairs_calls (likeB l1 l2) W6.heap.size W6.heap.size i M i (fun p => W6.heap.size + 1 + p) (by omega) (by omega) wr HG.out)
      clear HR hmk2 HG
      go_wp2_with fail
      refine HP.out.mono ?_
      rintro e W7 ⟨P, v, rfl, hip, hPl, hown, b7⟩
      have HIP := hide_ hip
      have hB7 := HB.out.trans (b7.mono HB.out.size)
      have hown7 := owns_base hown HB.out.size
      have HX : Hid (∃ v' W8, (Builtin.append_ #[26, 26] 26 #[v, .slice (some ⟨W7.heap.size, 0, none⟩) 1 1]).run Try.prog (W7.alloc (.cells #[.int .i64 (i : Int), .int .i64 (M : Int)] 68)) = .ok v' W8 ∧
          W8.ownsRow W6.heap.size 68 2 v' (P ++ [(i, M)]).length (pairV (P ++ [(i, M)])) ∧ Below W6.heap.size W6 W8) := by
        have hown2 := hown7.alloc (.cells #[.int .i64 (i : Int), .int .i64 (M : Int)] 68)
        have hB2 := hB7.alloc hB7.size (.cells #[.int .i64 (i : Int), .int .i64 (M : Int)] 68)
        have hsz := World.size_alloc W7 (.cells #[.int .i64 (i : Int), .int .i64 (M : Int)] 68)
        have hnew := World.alloc_heap_new W7 (.cells #[.int .i64 (i : Int), .int .i64 (M : Int)] 68)
        have hws := hB7.size
        generalize W7.alloc (.cells #[.int .i64 (i : Int), .int .i64 (M : Int)] 68) = V at *
        have z0 : V.cell? ⟨W7.heap.size, 0, none⟩ = some (.int .i64 (i : Int)) := by simp only [World.cell?]; rw [hnew]; rfl
        have z1 : V.cell? ⟨W7.heap.size, 1, none⟩ = some (.int .i64 (M : Int)) := by simp only [World.cell?]; rw [hnew]; rfl
        obtain ⟨v', W8, h1, h2, h3, h4⟩ := append_pair W6.heap.size v P V hown2 (by omega) (by omega) W7.heap.size i M z0 z1
        exact ⟨v', W8, h1, h2, hB2.grown h3 (by omega) (fun j e => (World.ownsRow.lt hown2 _ e).1)⟩
      obtain ⟨v', W8, hrun, hown8, hB8⟩ := HX.out
      have hL0 : 0 < (P ++ [(i, M)]).length := by rw [List.length_append, List.length_singleton]; omega
      obtain ⟨gL, capL, rfl, hg1, hg2, hcells⟩ := pair_cells hown8 hL0
      have HLC := hide_ hcells
      have HRUN8 := hide_ hrun
      have RX8 := RX6.out.below hB8
      have RY8 := RY.out.below hB8
      have HXK : Hid (∀ {t : Nat}, t < i → ∃ b o k, ax = some ⟨b, o, none⟩ ∧ b < W8.heap.size ∧ (tops l1)[t]? = some k ∧ ∀ W' : World, Below W8.heap.size W8 W' → ∀ (j k' : Nat), (tops l1)[j]? = some k' → W'.cell? ⟨b, o + j, none⟩ = some (.int .i64 (k' : Int))) := fun ht => RX8.at ht
      have HYK : Hid (∀ {t : Nat}, t < M → ∃ b o k, ay = some ⟨b, o, none⟩ ∧ b < W8.heap.size ∧ (tops l2)[t]? = some k ∧ ∀ W' : World, Below W8.heap.size W8 W' → ∀ (j k' : Nat), (tops l2)[j]? = some k' → W'.cell? ⟨b, o + j, none⟩ = some (.int .i64 (k' : Int))) := fun ht => RY8.at ht
      have HB8 := hide_ (B6.out.trans (hB8.mono B6.out.size))
      obtain ⟨L, hL⟩ : ∃ L, P ++ [(i, M)] = L := ⟨_, rfl⟩
      have hLl : L.length = P.length + 1 := by rw [← hL, List.length_append, List.length_singleton]
      have HLL := hide_ hL
      rw [hL] at HLC HRUN8
      clear HP HX hrun hip hown hown7 hown8 hB7 hB8 b7 hcells RX8 RY8 RX6 RY X16 X26 HB hL hL0
      go_wp2_with (first | (at_builtin; refine wpList_run_append rfl (.tmp 82) (.tmp 88) 26 rfl _ _ _ _ rfl rfl HRUN8.out ?_) | fail)
      clear HRUN8
      have hIP0 : IsPairs (likeB l1 l2) i M 0 0 P := HIP.out
      have HEQ : Hid ((tops l1).length = i ∧ (tops l2).length = M ∧ L = P ++ [(i, M)]) := ⟨hN, hM, HLL.out.symm⟩
      have hP200 : P.length ≤ 200 := by omega
      clear hN hM HLL
      obtain ⟨N, hNN⟩ : ∃ N, i = N := ⟨_, rfl⟩
      subst hNN
      go_wp2
      go_loopg [16, 17, 18, 19] (L.length + 1) (fun gk v u1 u2 u3 WT => ∃ (rs : List (Int × Int × Int)) (k i' j : Nat), u1 = .int .i64 (i' : Int) ∧ u2 = .int .i64 (j : Int) ∧ u3 = .int .i64 (k : Int) ∧ k ≤ L.length ∧ L.length < k + gk ∧ i' ≤ i + 1 ∧ j ≤ M + 1 ∧
        Hid (StR l1 l2 (likeB l1 l2) i M P rs k i' j) ∧ Hid (WT.ownsRow W8.heap.size 60 3 v rs.length (rowV rs) ∧ Below W8.heap.size W8 WT))
      case atStart => exact ⟨[], 0, 0, 0, rfl, rfl, rfl, Nat.zero_le _, by omega, by omega, by omega, .inl ⟨Nat.zero_le _, rfl, hIP0, Nat.zero_le _, Nat.zero_le _, Nat.zero_le _⟩, ⟨rfl, .inl ⟨rfl, rfl⟩⟩, Below.refl _ _⟩
      case round =>
        obtain ⟨rs, k, i', j, rfl, rfl, rfl, hk, hgk, hi', hj', HE, HO⟩ := hrel
        have hi0' : (0 : Int) ≤ (i' : Int) := by omega
        have hj0' : (0 : Int) ≤ (j : Int) := by omega
        have hk0' : (0 : Int) ≤ (k : Int) := by omega
        rcases Nat.lt_or_ge k L.length with hlt | hge
        · have hltI : (k : Int) < (L.length : Int) := by omega
          obtain ⟨x, hx⟩ : ∃ x, L[k]? = some x := ⟨_, List.getElem?_eq_getElem hlt⟩
          have hcx := HLC.out k x hx
          obtain ⟨p, q⟩ := x
          have hst := HE.out.step (by omega) (by rw [← HEQ.out.2.2]; exact hx) HEQ.out.1 HEQ.out.2.1
          obtain ⟨s1, s2, s3, s4, s5, HE1', HE2'⟩ := hst
          simp only at hcx
          have HCL : Hid (∀ X, Below W8.heap.size W8 X → X.cell? ⟨gL, k * 2, none⟩ = some (.int .i64 (p : Int)) ∧ X.cell? ⟨gL, k * 2 + 1, none⟩ = some (.int .i64 (q : Int))) := fun X hX => hcx X hX
          have HE1 := HE1'
          have HE2 := HE2'
          clear hcx hx HE1' HE2' HE hIP0
          obtain ⟨q0, q1⟩ := HCL.out wr HO.out.2
          go_wp2
          clear q0 q1
          go_loopg [16, 17] (p - i' + 1) (fun gk v u WT => ∃ d : Nat, u = .int .i64 ((i' + d : Nat) : Int) ∧ i' + d ≤ p ∧ p < i' + d + gk ∧ Hid (WT.ownsRow W8.heap.size 60 3 v (rs ++ goA (tops l1) i' d).length (rowV (rs ++ goA (tops l1) i' d)) ∧ Below W8.heap.size W8 WT))
          case atStart => exact ⟨0, rfl, by omega, by omega, by rw [goA, List.append_nil]; exact HO.out⟩
          case round =>
            obtain ⟨d, rfl, hd, hgk5, HR5⟩ := hrel
            clear HO
            obtain ⟨q0, q1⟩ := HCL.out wr HR5.out.2
            have hlim : (p : Int) ≤ 400 := by omega
            have hD0 : (0 : Int) ≤ ((i' + d : Nat) : Int) := by omega
            by_cases hlt5 : i' + d < p
            · have hltI : ((i' + d : Nat) : Int) < (p : Int) := by omega
              obtain ⟨b5, o5, k5, hb5, _, hk5, hc5⟩ := HXK.out (show i' + d < i by omega)
              cases hb5
              have c5 := hc5 wr HR5.out.2 (i' + d) k5 hk5
              have hr5 : (tops l1).getD (i' + d) 0 = k5 := by rw [List.getD_eq_getElem?_getD, hk5]; rfl
              obtain ⟨v6, W9, hrun, HW9⟩ := append_rrow HR5.out.1 HR5.out.2 (by rw [List.length_append, goA_length]; omega) (1, ((((tops l1).getD (i' + d) 0 : Nat)) : Int), -1)
              rw [hr5] at hrun
              have HRUN := hide_ hrun
              have HN5 : Hid (W9.ownsRow W8.heap.size 60 3 v6 (rs ++ goA (tops l1) i' (d + 1)).length (rowV (rs ++ goA (tops l1) i' (d + 1))) ∧ Below W8.heap.size W8 W9) := by
                rw [goA, ← List.append_assoc]
                exact HW9.out
              have hlt6 : ((i' + d : Nat) : Int) < (i : Int) := by omega
              clear hc5 hk5 hrun HW9 HR5 hr5
              generalize hDD : i' + d = D at *
              go_wp2_with (first | (at_builtin; refine wpList_run_append rfl (.tmp 103) (.tmp 109) 50 rfl _ _ _ _ rfl rfl HRUN.out ?_) | fail)
              go_roundg (p - D)
              case measure => omega
              case rel => exact ⟨d + 1, by rw [show i' + (d + 1) = D + 1 by omega]; first | rfl | go_num, by omega, by omega, HN5⟩
            · have hltI : ¬ (((i' + d : Nat) : Int) < (p : Int)) := by omega
              obtain rfl : d = p - i' := by omega
              have HF := HR5
              clear HR5
              rw [show i' + (p - i') = p by omega]
              rw [show i' + (p - i') = p by omega] at hD0 hltI
              go_wp2
              clear q0 q1
              go_loopg [16, 18] (q - j + 1) (fun gk v u WT => ∃ d : Nat, u = .int .i64 ((j + d : Nat) : Int) ∧ j + d ≤ q ∧ q < j + d + gk ∧ Hid (WT.ownsRow W8.heap.size 60 3 v (rs ++ goA (tops l1) i' (p - i') ++ goB (tops l2) j d).length (rowV (rs ++ goA (tops l1) i' (p - i') ++ goB (tops l2) j d)) ∧ Below W8.heap.size W8 WT))
              case atStart => exact ⟨0, rfl, by omega, by omega, by rw [goB, List.append_nil]; exact HF.out⟩
              case round =>
                obtain ⟨d, rfl, hd, hgk5, HR5⟩ := hrel
                clear HF
                obtain ⟨q0, q1⟩ := HCL.out wr HR5.out.2
                have hlim : (q : Int) ≤ 400 := by omega
                have hD0 : (0 : Int) ≤ ((j + d : Nat) : Int) := by omega
                by_cases hlt5 : j + d < q
                · have hltI : ((j + d : Nat) : Int) < (q : Int) := by omega
                  obtain ⟨b5, o5, k5, hb5, _, hk5, hc5⟩ := HYK.out (show j + d < M by omega)
                  cases hb5
                  have c5 := hc5 wr HR5.out.2 (j + d) k5 hk5
                  have hr5 : (tops l2).getD (j + d) 0 = k5 := by rw [List.getD_eq_getElem?_getD, hk5]; rfl
                  obtain ⟨v6, W9, hrun, HW9⟩ := append_rrow HR5.out.1 HR5.out.2 (by rw [List.length_append, List.length_append, goA_length, goB_length]; omega) (2, -1, ((((tops l2).getD (j + d) 0 : Nat)) : Int))
                  rw [hr5] at hrun
                  have HRUN := hide_ hrun
                  have HN5 : Hid (W9.ownsRow W8.heap.size 60 3 v6 (rs ++ goA (tops l1) i' (p - i') ++ goB (tops l2) j (d + 1)).length (rowV (rs ++ goA (tops l1) i' (p - i') ++ goB (tops l2) j (d + 1))) ∧ Below W8.heap.size W8 W9) := by
                    rw [goB, ← List.append_assoc]
                    exact HW9.out
                  have hlt6 : ((j + d : Nat) : Int) < (M : Int) := by omega
                  clear hc5 hk5 hrun HW9 HR5 hr5
                  generalize hDD : j + d = D at *
                  go_wp2_with (first | (at_builtin; refine wpList_run_append rfl (.tmp 120) (.tmp 126) 50 rfl _ _ _ _ rfl rfl HRUN.out ?_) | fail)
                  go_roundg (q - D)
                  case measure => omega
                  case rel => exact ⟨d + 1, by rw [show j + (d + 1) = D + 1 by omega]; first | rfl | go_num, by omega, by omega, HN5⟩
                · have hltI : ¬ (((j + d : Nat) : Int) < (q : Int)) := by omega
                  obtain rfl : d = q - j := by omega
                  have HF := HR5
                  clear HR5
                  rw [show j + (q - j) = q by omega]
                  rw [show j + (q - j) = q by omega] at hD0 hltI
                  by_cases hkP : k < P.length
                  · have hkI : (k : Int) < (P.length : Int) := by omega
                    have hkL : (k : Int) < (L.length : Int) - 1 := by omega
                    obtain ⟨b5, o5, k5, hb5, _, hk5, hc5⟩ := HXK.out (show p < i by omega)
                    cases hb5
                    obtain ⟨b6, o6, k6, hb6, _, hk6, hc6⟩ := HYK.out (show q < M by omega)
                    cases hb6
                    have hr5 : (tops l1).getD p 0 = k5 := by rw [List.getD_eq_getElem?_getD, hk5]; rfl
                    have hr6 : (tops l2).getD q 0 = k6 := by rw [List.getD_eq_getElem?_getD, hk6]; rfl
                    obtain ⟨v6, W9, hrun, HW9⟩ := append_rrowD HF.out.1 HF.out.2 (by rw [List.length_append, List.length_append, goA_length, goB_length]; omega) (0, (k5 : Int), (k6 : Int))
                    have HRUN := hide_ hrun
                    have hB9 := HF.out.2
                    have hA : Below W8.heap.size W8 (wr.alloc (.cells #[.int .i64 0, .int .i64 (k5 : Int), .int .i64 (k6 : Int)] 60)).drew := (hB9.alloc hB9.size _).drew
                    have hW2 := HW9.out.2
                    have HCC : Hid (∀ X, Below W8.heap.size W8 X → X.cell? ⟨b5, o5 + p, none⟩ = some (.int .i64 (k5 : Int)) ∧ X.cell? ⟨b6, o6 + q, none⟩ = some (.int .i64 (k6 : Int))) := fun X hX => ⟨hc5 X hX p k5 hk5, hc6 X hX q k6 hk6⟩
                    have HN := HW9
                    have hpI : (p : Int) < (i : Int) := by omega
                    have hqI : (q : Int) < (M : Int) := by omega
                    have HNE := HE1 hkP k5 k6 hr5 hr6
                    clear hc5 hc6 hk5 hk6 hr5 hr6 hrun HW9 HF HE1 HE2
                    go_wp2_with fail
                    clear q0 q1
                    refine wp_region_held_drew (S := fun X => Below W8.heap.size W8 X) hmx hB9.drew (fun hS => ?_)
                    refine takeD 0 (some 135) (v := ?_) rfl rfl (by kernel_rfl) (by kernel_rfl) (by kernel_rfl) (fun _ _ _ h => h) (Or.inl ⟨by rfl, ?_⟩) hS ?_
                    rotate_left
                    · intro w hSw
                      try go_simp
                      with_reducible rfl
                    try simp only [Act.put, List.setIfInBounds_toArray, List.set_cons_zero, List.set_cons_succ]
                    refine takeD 1 (some 136) (v := ?_) rfl rfl (by kernel_rfl) (by kernel_rfl) (by kernel_rfl) (fun _ _ _ h => h) (Or.inl ⟨by rfl, ?_⟩) hS ?_
                    rotate_left
                    · intro w hSw
                      try go_simp
                      with_reducible rfl
                    try simp only [Act.put, List.setIfInBounds_toArray, List.set_cons_zero, List.set_cons_succ]
                    refine takeD 2 (some 137) (v := ?_) rfl rfl (by kernel_rfl) (by kernel_rfl) (by kernel_rfl) (fun _ _ _ h => h) (Or.inl ⟨by rfl, ?_⟩) hS ?_
                    rotate_left
                    · intro w hSw
                      try go_simp
                      with_reducible rfl
                    try simp only [Act.put, List.setIfInBounds_toArray, List.set_cons_zero, List.set_cons_succ]
                    refine takeD 3 (some 138) (v := ?_) rfl rfl (by kernel_rfl) (by kernel_rfl) (by kernel_rfl) (fun _ _ _ h => h) (Or.inl ⟨by rfl, ?_⟩) hS ?_
                    rotate_left
                    · intro w hSw
                      go_simp
                      with_reducible rfl
                    try simp only [Act.put, List.setIfInBounds_toArray, List.set_cons_zero, List.set_cons_succ]
                    refine takeD 4 (some 139) (v := ?_) rfl rfl (by kernel_rfl) (by kernel_rfl) (by kernel_rfl) (fun _ _ _ h => h) (Or.inl ⟨by rfl, ?_⟩) hS ?_
                    rotate_left
                    · intro w hSw
                      obtain ⟨c0, c1⟩ := HCC.out _ hSw
                      go_simp
                      with_reducible rfl
                    try simp only [Act.put, List.setIfInBounds_toArray, List.set_cons_zero, List.set_cons_succ]
                    refine takeD 5 (some 140) (v := ?_) rfl rfl (by kernel_rfl) (by kernel_rfl) (by kernel_rfl) (fun _ _ _ h => h) (Or.inl ⟨by rfl, ?_⟩) hS ?_
                    rotate_left
                    · intro w hSw
                      try go_simp
                      with_reducible rfl
                    try simp only [Act.put, List.setIfInBounds_toArray, List.set_cons_zero, List.set_cons_succ]
                    refine takeD 6 (some 141) (v := ?_) rfl rfl (by kernel_rfl) (by kernel_rfl) (by kernel_rfl) (fun _ _ _ h => h) (Or.inl ⟨by rfl, ?_⟩) hS ?_
                    rotate_left
                    · intro w hSw
                      try go_simp
                      with_reducible rfl
                    try simp only [Act.put, List.setIfInBounds_toArray, List.set_cons_zero, List.set_cons_succ]
                    refine takeD 7 (some 142) (v := ?_) rfl rfl (by kernel_rfl) (by kernel_rfl) (by kernel_rfl) (fun _ _ _ h => h) (Or.inl ⟨by rfl, ?_⟩) hS ?_
                    rotate_left
                    · intro w hSw
                      go_simp
                      with_reducible rfl
                    try simp only [Act.put, List.setIfInBounds_toArray, List.set_cons_zero, List.set_cons_succ]
                    refine takeD 8 (some 143) (v := ?_) rfl rfl (by kernel_rfl) (by kernel_rfl) (by kernel_rfl) (fun _ _ _ h => h) (Or.inl ⟨by rfl, ?_⟩) hS ?_
                    rotate_left
                    · intro w hSw
                      obtain ⟨c0, c1⟩ := HCC.out _ hSw
                      go_simp
                      with_reducible rfl
                    try simp only [Act.put, List.setIfInBounds_toArray, List.set_cons_zero, List.set_cons_succ]
                    refine takeD 9 (some 144) (v := ?_) rfl rfl (by kernel_rfl) (by kernel_rfl) (by kernel_rfl) (fun _ _ _ h => h) (Or.inl ⟨by rfl, ?_⟩) hS ?_
                    rotate_left
                    · intro w hSw
                      go_simp
                      with_reducible rfl
                    try simp only [Act.put, List.setIfInBounds_toArray, List.set_cons_zero, List.set_cons_succ]
                    refine callD 10 (by kernel_rfl) rfl (fun K hK => ?_)
                    rw [if_pos (by rfl)]
                    go_simp
                    refine hK.out _ _ hA (fun _ => ?_)
                    clear hK K
                    try simp only [Act.put, List.setIfInBounds_toArray, List.set_cons_zero, List.set_cons_succ]
                    refine callD 11 (by kernel_rfl) rfl (fun K hK => ?_)
                    refine step_run_append rfl (.tmp 135) (.tmp 145) 50 rfl _ _ _ _ (by simp [Act.eval]) (by simp [Act.eval]) HRUN.out ?_
                    refine hK.out _ _ hW2 (fun _ => ?_)
                    clear hK K
                    try simp only [Act.put, List.setIfInBounds_toArray]
                    refine takeD 12 (some 16) (v := ?_) rfl rfl (by kernel_rfl) (by kernel_rfl) (by kernel_rfl) (fun _ _ _ h => h) (Or.inl ⟨by rfl, ?_⟩) hW2 ?_
                    rotate_left
                    · intro w hSw
                      try go_simp
                      with_reducible rfl
                    try simp only [Act.put]
                    refine wpAnyH_done (by kernel_rfl) ?_ _
                    clear hS hA hW2 HRUN HCC hB9
                    go_wp2
                    go_roundg (L.length - k)
                    case measure => omega
                    case rel => exact ⟨_, k + 1, p + 1, q + 1, by first | rfl | go_num, by first | rfl | go_num, by first | rfl | go_num, by omega, by omega, by omega, by omega, HNE, HN⟩
                  · have hkL : ¬ ((k : Int) < (L.length : Int) - 1) := by omega
                    have HNE := HE2 (by omega)
                    clear HE1 HE2
                    go_wp2
                    go_roundg (L.length - k)
                    case measure => omega
                    case rel => exact ⟨_, k + 1, p + 1, q + 1, by first | rfl | go_num, by first | rfl | go_num, by first | rfl | go_num, by omega, by omega, by omega, by omega, HNE, HF⟩
        · obtain rfl : k = L.length := by omega
          have hltI : ¬ ((L.length : Int) < (L.length : Int)) := by omega
          have hfin := HE.out.fin (by omega)
          rw [hfin] at HO
          clear hfin HE
          go_wp2
          go_ret2
          refine ⟨P, _, rfl, ?_, owns_base HO.out.1 HB8.out.size, HB8.out.trans (HO.out.2.mono HB8.out.size)⟩
          rw [HEQ.out.1, HEQ.out.2.1]
          exact HIP.out
end Go.Proofs.Ytgpopploimeeaaa
