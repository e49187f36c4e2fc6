/-
  PROVED HERE: quad.Get at any bytes and any place: the number that begins there and the place behind it, or the error and its place; nothing that lay before has turned.
-/
import Derived.Test.YtppiklgkpicfeaaQNum
namespace Go.Proofs.Ytppiklgkpicfeaa
open Go.RowKit Go.Shelf
attribute [local go_sem] Oper.semAt_some

set_option maxRecDepth 100000 in
set_option maxHeartbeats 2000000 in
theorem get_in (a : Option Addr) (len cap : Nat) (bs : List Int) (p : Int) (w : World) (hrow : Row .u8 w a len bs) (hbs : Bytes bs) (hlen : len ≤ 140737488355328) (hp0 : 0 ≤ p) (hp1 : p ≤ len) :
    CallsIn Fence.wide 6 Try.prog 37 #[.slice a len cap, .int .i64 p] w fun e w' => e = .returned (.tuple #[.int .u64 (getL (bs.drop p.toNat) 0 p 0).1, .int .i64 (getL (bs.drop p.toNat) 0 p 0).2.1, .int .i64 (getL (bs.drop p.toNat) 0 p 0).2.2]) ∧ Below w.heap.size w w' := by
  have hN : p.toNat + (len - p.toNat) = bs.length := by rw [hrow.1]; omega
  have HG : ∀ g : Int × Int × Int, getL (bs.drop p.toNat) 0 p 0 = g → (getL (bs.drop p.toNat) 0 p 0).1 = g.1 ∧ (getL (bs.drop p.toNat) 0 p 0).2.1 = g.2.1 ∧ (getL (bs.drop p.toNat) 0 p 0).2.2 = g.2.2 := fun g h => by rw [h]; exact ⟨rfl, rfl, rfl⟩
  have hlenM : len ≤ maxLen := by unfold maxLen; omega
  have h22 : Fence.wide.fn 45 := trivial
  have h23 : Fence.wide.fn 46 := trivial
  refine callsIn_of_wp_marks Try.func37 rfl trivial ?_ rfl
  simp only [Try.ntmps37, List.size_toArray, List.length_cons, List.length_nil, Nat.reduceAdd, Nat.reduceSub, Array.replicate_succ, Array.replicate_zero, List.push_toArray, List.append_toArray, List.nil_append, List.cons_append]
  have d0 : decide (p < 0) = false := by simpa using hp0
  have d1 : decide ((len : Int) < p) = false := by simpa using hp1
  have n0 : ¬ p < 0 := by omega
  have n1 : ¬ (len : Int) < p := by omega
  gi_wp2_with (gi_at_call 45; refine (bytesFrom_in Fence.wide 5 trivial rfl _ _ _ _ _).mono ?_; rintro e w' ⟨rfl, rfl⟩)
  have b0 := Boxed.new w 3 (.int .i64 p)
  have b1 := Boxed.new (w.alloc (.cells #[.int .i64 p] 3)) 38 (.int .u64 0)
  have b2 := Boxed.new ((w.alloc (.cells #[.int .i64 p] 3)).alloc (.cells #[.int .u64 0] 38)) 3 (.int .i64 0)
  have b3 := Boxed.new (((w.alloc (.cells #[.int .i64 p] 3)).alloc (.cells #[.int .u64 0] 38)).alloc (.cells #[.int .i64 0] 3)) 23 (.int .i64 0)
  have b4 := Boxed.new ((((w.alloc (.cells #[.int .i64 p] 3)).alloc (.cells #[.int .u64 0] 38)).alloc (.cells #[.int .i64 0] 3)).alloc (.cells #[.int .i64 0] 23)) 38 (.int .u64 0)
  have b5 := Boxed.new (((((w.alloc (.cells #[.int .i64 p] 3)).alloc (.cells #[.int .u64 0] 38)).alloc (.cells #[.int .i64 0] 3)).alloc (.cells #[.int .i64 0] 23)).alloc (.cells #[.int .u64 0] 38)) 22 (.slice a len cap)
  have b6 := Boxed.new ((((((w.alloc (.cells #[.int .i64 p] 3)).alloc (.cells #[.int .u64 0] 38)).alloc (.cells #[.int .i64 0] 3)).alloc (.cells #[.int .i64 0] 23)).alloc (.cells #[.int .u64 0] 38)).alloc (.cells #[.slice a len cap] 22)) 3 (.int .i64 p)
  simp only [World.size_alloc] at b0 b1 b2 b3 b4 b5 b6
  have hB0 : Below w.heap.size w ((((((((w.alloc (.cells #[.int .i64 p] 3)).alloc (.cells #[.int .u64 0] 38)).alloc (.cells #[.int .i64 0] 3)).alloc (.cells #[.int .i64 0] 23)).alloc (.cells #[.int .u64 0] 38)).alloc (.cells #[.slice a len cap] 22)).alloc (.cells #[.int .i64 p] 3))) :=
    (((((((Below.refl _ w).alloc (Nat.le_refl _) _).alloc (by simp) _).alloc (by simp; omega) _).alloc (by simp; omega) _).alloc (by simp; omega) _).alloc (by simp; omega) _).alloc (by simp; omega) _
  refine wpIn_rangeFunc_ownG rfl (by omega) (gf := 49) (lb := #[.pointer (some ⟨w.heap.size + 1 + 1 + 1 + 1 + 1 + 1, 0, none⟩), .pointer (some ⟨w.heap.size + 1 + 1 + 1 + 1 + 1, 0, none⟩)]) rfl trivial (enters_of Try.func49 (by kernel_rfl) rfl)
    (bytesFrom_stops Fence.wide 5 trivial rfl (by omega) (w.heap.size + 1 + 1 + 1 + 1 + 1) w.heap.size a len cap bs p hp0 hp1 hlenM _ (by simp) (b5.alloc _).cell b6.cell ?row1 (hrow.below hB0)) (fun h k => h.trans k) ?keepb (Below.refl _ _) (fun _ => rfl)
    (fun pre W' => (Boxed W' w.heap.size 3 (.int .i64 p) ∧ Boxed W' (w.heap.size + 1) 38 (.int .u64 0) ∧ Boxed W' (w.heap.size + 1 + 1) 3 (.int .i64 0) ∧ Boxed W' (w.heap.size + 1 + 1 + 1) 23 (.int .i64 0) ∧ Boxed W' (w.heap.size + 1 + 1 + 1 + 1) 38 (.int .u64 (acc bs p pre))) ∧ Went bs p pre ∧ Below w.heap.size w W')
    (fun c pre W' => (∃ (pre' : List (Fin (len - p.toNat))) (i : Fin (len - p.toNat)) (x y z : Int), c = .ret ∧ pre = pre' ++ [i] ∧ Went bs p pre' ∧ Out bs p pre' i x y z ∧ Boxed W' (w.heap.size + 1) 38 (.int .u64 x) ∧ Boxed W' (w.heap.size + 1 + 1) 3 (.int .i64 y) ∧ Boxed W' (w.heap.size + 1 + 1 + 1) 23 (.int .i64 z)) ∧ Below w.heap.size w W')
    ?ownI ?ownX
    ⟨⟨(((((b0.alloc _).alloc _).alloc _).alloc _).alloc _).alloc _, ((((b1.alloc _).alloc _).alloc _).alloc _).alloc _, (((b2.alloc _).alloc _).alloc _).alloc _, ((b3.alloc _).alloc _).alloc _, (b4.alloc _).alloc _⟩, by simp [Went], hB0⟩
    (fun i => { tmps := #[.slice a len cap, .int .i64 p, undef,
      .pointer (some ⟨w.heap.size, 0, none⟩), .pointer (some ⟨w.heap.size + 1, 0, none⟩), .pointer (some ⟨w.heap.size + 1 + 1, 0, none⟩), .pointer (some ⟨w.heap.size + 1 + 1 + 1, 0, none⟩),
      .pointer (some ⟨w.heap.size + 1 + 1 + 1 + 1, 0, none⟩), .int .i64 (p + (i.val : Int)), .int .u8 (byteAt bs p i.val), undef,
      .int .i64 p, .bool false, .bool false, .int .i64 p,
      .slice a len cap, .int .i64 (len : Int), .bool false, .bool false,
      .slice a len cap, .int .i64 p, .func (.func 49) #[] #[.pointer (some ⟨w.heap.size + 1 + 1 + 1 + 1 + 1 + 1, 0, none⟩), .pointer (some ⟨w.heap.size + 1 + 1 + 1 + 1 + 1, 0, none⟩)],
      .int .i64 (p + (i.val : Int)), .int .u8 (byteAt bs p i.val), undef, undef, undef, undef,
      undef, undef, undef, undef, undef, undef, undef, undef, undef, undef, undef, undef, undef, undef, undef,
      undef, undef, undef, undef, undef], defers := [] }) ?assign ?body ?done ?stop
  case row1 =>
    rintro hpos b o rfl
    rcases hrow.2 with h | ⟨b', o', e, hb, _⟩
    · omega
    · cases e
      exact hb
  case keepb =>
    intro V l o o' hl _ _ _ k hk
    simp at hl
    exact World.putObj_heap_other (by omega)
  case ownI =>
    refine OwnFrom.and (Own.from ?_ _) (OwnFrom.and (ownFrom_pure _ _) (ownFrom_below (Nat.le_refl _) (by simp; omega)))
    intro s A B row hs hg hr
    exact ⟨boxed_own (β := Unit) _ _ (fun _ => _) () A B row hs.1 hg hr, boxed_own (β := Unit) _ _ (fun _ => _) () A B row hs.2.1 hg hr, boxed_own (β := Unit) _ _ (fun _ => _) () A B row hs.2.2.1 hg hr, boxed_own (β := Unit) _ _ (fun _ => _) () A B row hs.2.2.2.1 hg hr, boxed_own (β := Unit) _ _ (fun _ => _) () A B row hs.2.2.2.2 hg hr⟩
  case ownX =>
    intro c
    refine OwnFrom.and (Own.from ?_ _) (ownFrom_below (Nat.le_refl _) (by simp; omega))
    rintro s A B row ⟨pre', i, x, y, z, h1, h2, h3, h4, k1, k2, k3⟩ hg hr
    exact ⟨pre', i, x, y, z, h1, h2, h3, h4, boxed_own (β := Unit) _ _ (fun _ => _) () A B row k1 hg hr, boxed_own (β := Unit) _ _ (fun _ => _) () A B row k2 hg hr, boxed_own (β := Unit) _ _ (fun _ => _) () A B row k3 hg hr⟩
  case assign =>
    intro l i W' K hK
    unfold qstep
    gi_wp2
    exact hK
  case body =>
    rintro l pre i W' ⟨⟨c0, c1, c2, c3, c4⟩, hwent, hB⟩ hlt
    obtain ⟨i, hi⟩ := i
    dsimp only
    have e0 := c0.cell
    have e1 := c1.cell
    have e2 := c2.cell
    have e3 := c3.cell
    have e4 := c4.cell
    have f1 := c1.frozen
    have f2 := c2.frozen
    have f3 := c3.frozen
    have f4 := c4.frozen
    have hi' : p + (i : Int) < len := by omega
    have hsub : p + (i : Int) - p = (i : Int) := by omega
    by_cases hgo : goesB (i : Int) (byteAt bs p i) = true
    · gi_wp2_with (gi_at_call 46; refine (CallsIn.inRound l (callsIn_wide.2 (goesOn_calls (i : Int) (byteAt bs p i) _))).mono ?_; rintro e w' ⟨rfl, rfl⟩)
      have hmx : Try.prog.follows .mixedOrders = true := by kernel_rfl
      have hbyte := byteAt_byte hbs p i
      have hand := andNot128 _ hbyte
      have hand2 := and128 _ hbyte
      have hsh := shift_any (byteAt bs p i) i
      have hw7 : IntKind.i64.wrap (7 * (i : Int)) = 7 * (i : Int) := by rw [IntKind.wrap_i64]; omega
      have hwu : IntKind.u64.wrap (byteAt bs p i % 128) = byteAt bs p i % 128 := by rw [IntKind.wrap_u64]; omega
      refine wpIn_mono (Q := fun e a' W2 => e = .normal ∧ a' = { tmps := #[.slice a len cap, .int .i64 p, undef,
          .pointer (some ⟨w.heap.size, 0, none⟩), .pointer (some ⟨w.heap.size + 1, 0, none⟩), .pointer (some ⟨w.heap.size + 1 + 1, 0, none⟩), .pointer (some ⟨w.heap.size + 1 + 1 + 1, 0, none⟩),
          .pointer (some ⟨w.heap.size + 1 + 1 + 1 + 1, 0, none⟩), .int .i64 (p + (i : Int)), .int .u8 (byteAt bs p i), .int .i64 (i : Int),
          .int .i64 p, .bool false, .bool false, .int .i64 p,
          .slice a len cap, .int .i64 (len : Int), .bool false, .bool false,
          .slice a len cap, .int .i64 p, .func (.func 49) #[] #[.pointer (some ⟨w.heap.size + 1 + 1 + 1 + 1 + 1 + 1, 0, none⟩), .pointer (some ⟨w.heap.size + 1 + 1 + 1 + 1 + 1, 0, none⟩)],
          .int .i64 (p + (i : Int)), .int .u8 (byteAt bs p i), .int .i64 (p + (i : Int)), .int .i64 p, .int .i64 (i : Int), .int .i64 (i : Int),
          .int .u8 (byteAt bs p i), .bool true, .bool false, undef,
          .int .u64 (acc bs p pre), .int .u8 (byteAt bs p i), .int .u8 (byteAt bs p i % 128), .int .u64 (byteAt bs p i % 128),
          .int .i64 (i : Int), .int .i64 (7 * (i : Int)), .int .u64 (shlv (byteAt bs p i) i), .int .u64 (bits BinOp.or IntKind.u64 (acc bs p pre) (shlv (byteAt bs p i) i)),
          undef, undef, undef, undef, undef, undef, undef, undef], defers := [] } ∧
          W2 = (w'.setCell ⟨w.heap.size + 1 + 1 + 1 + 1, 0, none⟩ (.int .u64 (bits BinOp.or IntKind.u64 (acc bs p pre) (shlv (byteAt bs p i) i)))).drew) ?_ ?_
      · clear hwent hand2
        gi_region_with_o (fail)
        all_goals exact ⟨rfl, rfl, rfl⟩
      · rintro e a' W2 ⟨rfl, rfl, rfl⟩
        rw [← acc_snoc bs p pre ⟨i, hi⟩]
        generalize hN : acc bs p (pre ++ [⟨i, hi⟩]) = N at *
        have HN : Hid (acc bs p (pre ++ [⟨i, hi⟩]) = N) := hN
        clear hN
        have g4 := c4.set (.int .u64 N)
        have g1 := c1.other (B' := w.heap.size + 1 + 1 + 1 + 1) (by omega) (.int .u64 N)
        have g2 := c2.other (B' := w.heap.size + 1 + 1 + 1 + 1) (by omega) (.int .u64 N)
        have g3 := c3.other (B' := w.heap.size + 1 + 1 + 1 + 1) (by omega) (.int .u64 N)
        have g0 := c0.other (B' := w.heap.size + 1 + 1 + 1 + 1) (by omega) (.int .u64 N)
        clear e0 e1 e2 e3 e4 f1 f2 f3 f4
        have hB2 : Below w.heap.size w (w'.setCell ⟨w.heap.size + 1 + 1 + 1 + 1, 0, none⟩ (.int .u64 N)) := hB.setCell (p := ⟨w.heap.size + 1 + 1 + 1 + 1, 0, none⟩) (by show w.heap.size ≤ w.heap.size + 1 + 1 + 1 + 1; omega) _
        have hK2 : KeepsOthers w' (w'.setCell ⟨w.heap.size + 1 + 1 + 1 + 1, 0, none⟩ (.int .u64 N)) := KeepsOthers.setCell _ _ _
        have hKp : Keep w.heap.size (w.heap.size + 1 + 1 + 1 + 1 + 1) w' (w'.setCell ⟨w.heap.size + 1 + 1 + 1 + 1, 0, none⟩ (.int .u64 N)) := fun k hk => Below.heap_setCell _ _ _ k (by show k ≠ w.heap.size + 1 + 1 + 1 + 1; omega)
        generalize w'.setCell ⟨w.heap.size + 1 + 1 + 1 + 1, 0, none⟩ (.int .u64 N) = W2 at *
        have e1 := g1.cell
        have e2 := g2.cell
        have e3 := g3.cell
        have e4 := g4.cell
        have f1 := g1.frozen
        have f2 := g2.frozen
        have f3 := g3.frozen
        by_cases h128 : byteAt bs p i < 128
        · rw [if_pos h128] at hand2
          gi_wp2
          obtain ⟨r1, r2, r3, r4, r5⟩ := three g1 g2 g3 (.int .u64 N) (.int .i64 (p + (i : Int) + 1)) (.int .i64 0)
          exact ⟨((hK2.trans r4).trans (KeepsOthers.drew _)).from _, ⟨pre, ⟨i, hi⟩, N, p + (i : Int) + 1, 0, rfl, rfl, hwent, .inr ⟨hgo, h128, HN.out.symm, rfl, rfl⟩, r1, r2, r3⟩, (r5 w hB2).drew⟩
        · rw [if_neg h128] at hand2
          gi_wp2
          exact ⟨(hK2.trans (KeepsOthers.drew _)).from _, hKp, ⟨⟨g0, g1, g2, g3, by rw [HN.out]; exact g4⟩, went_snoc hwent hgo (by omega), hB2.drew⟩⟩
    · have hgo' : goesB (i : Int) (byteAt bs p i) = false := by simpa using hgo
      clear hgo
      gi_wp2_with (gi_at_call 46; refine (CallsIn.inRound l (callsIn_wide.2 (goesOn_calls (i : Int) (byteAt bs p i) _))).mono ?_; rintro e w' ⟨rfl, rfl⟩)
      obtain ⟨r1, r2, r3, r4, r5⟩ := three c1 c2 c3 (.int .u64 0) (.int .i64 (p + (i : Int))) (.int .i64 4)
      exact ⟨r4.from _, ⟨pre, ⟨i, hi⟩, 0, p + (i : Int), 4, rfl, rfl, hwent, .inl ⟨hgo', rfl, rfl, rfl⟩, r1, r2, r3⟩, r5 w hB⟩
  case done =>
    rintro D ys W' hD rfl ⟨⟨c0, c1, c2, c3, c4⟩, hwent, hB⟩ hK
    have hfin := getL_done hp0 hN hwent
    rw [hrow.1] at hfin
    have HF : Hid (getL (bs.drop p.toNat) 0 p 0 = (0, (len : Int), 3)) := hfin
    clear hfin HG
    have e1 := c1.cell
    have e2 := c2.cell
    have e3 := c3.cell
    have f1 := c1.frozen
    have f2 := c2.frozen
    have f3 := c3.frozen
    gi_wp2
    obtain ⟨r1, r2, r3, r4, r5⟩ := three c1 c2 c3 (.int .u64 0) (.int .i64 (len : Int)) (.int .i64 3)
    have hK' := r4.same D _ hK rfl
    have hB' := r5 w hB
    refine ⟨by simp, .inl ⟨_, _, rfl, run_takeDeferred hK', ?_⟩⟩
    have q1 := cell_kept r1.cell (grownBy_putObj' _ D (.deferred none)) (fun r e => by cases e; exact ⟨_, hK', rfl⟩)
    have q2 := cell_kept r2.cell (grownBy_putObj' _ D (.deferred none)) (fun r e => by cases e; exact ⟨_, hK', rfl⟩)
    have q3 := cell_kept r3.cell (grownBy_putObj' _ D (.deferred none)) (fun r e => by cases e; exact ⟨_, hK', rfl⟩)
    refine ⟨.tuple #[.int .u64 0, .int .i64 (len : Int), .int .i64 3], ?_, by rw [HF.out], hB'.trans (belowK_b (w := w) (Nat.le_refl _) _ D _ _ (by simp at hD; omega) hK' rfl rfl)⟩
    simp [results, Try.f37, go_sem, q1, q2, q3]
  case stop =>
    rintro D c pre W' hD hpre ⟨⟨pre', i, x, y, z, rfl, rfl, hwent, hout, c1, c2, c3⟩, hB⟩ hK
    have hfin := getL_stop hN hbs hpre hwent hout
    have HF : Hid (getL (bs.drop p.toNat) 0 p 0 = (x, y, z)) := hfin
    clear hfin HG
    gi_wp2
    refine ⟨by simp, .inl ⟨_, _, rfl, run_takeDeferred hK, ?_⟩⟩
    have q1 := cell_kept c1.cell (grownBy_putObj' _ D (.deferred none)) (fun r e => by cases e; exact ⟨_, hK, rfl⟩)
    have q2 := cell_kept c2.cell (grownBy_putObj' _ D (.deferred none)) (fun r e => by cases e; exact ⟨_, hK, rfl⟩)
    have q3 := cell_kept c3.cell (grownBy_putObj' _ D (.deferred none)) (fun r e => by cases e; exact ⟨_, hK, rfl⟩)
    refine ⟨.tuple #[.int .u64 x, .int .i64 y, .int .i64 z], ?_, by rw [HF.out], hB.trans (belowK_b (w := w) (Nat.le_refl _) _ D _ _ (by simp at hD; omega) hK rfl rfl)⟩
    simp [results, Try.f37, go_sem, q1, q2, q3]

set_option maxRecDepth 100000 in
set_option maxHeartbeats 2000000 in
theorem get_bad (a : Option Addr) (len cap : Nat) (p : Int) (w : World) (hp : p < 0 ∨ (len : Int) < p) :
    CallsIn Fence.wide 6 Try.prog 37 #[.slice a len cap, .int .i64 p] w fun e w' => e = .returned (.tuple #[.int .u64 0, .int .i64 0, .int .i64 1]) ∧ Below w.heap.size w w' := by
  have b1 := Boxed.new (w.alloc (.cells #[.int .i64 p] 3)) 38 (.int .u64 0)
  have b2 := Boxed.new ((w.alloc (.cells #[.int .i64 p] 3)).alloc (.cells #[.int .u64 0] 38)) 3 (.int .i64 0)
  have b3 := Boxed.new (((w.alloc (.cells #[.int .i64 p] 3)).alloc (.cells #[.int .u64 0] 38)).alloc (.cells #[.int .i64 0] 3)) 23 (.int .i64 1)
  simp only [World.size_alloc] at b1 b2 b3
  have hB0 : Below w.heap.size w ((((w.alloc (.cells #[.int .i64 p] 3)).alloc (.cells #[.int .u64 0] 38)).alloc (.cells #[.int .i64 0] 3)).alloc (.cells #[.int .i64 1] 23)) :=
    ((((Below.refl _ w).alloc (Nat.le_refl _) _).alloc (by simp) _).alloc (by simp; omega) _).alloc (by simp; omega) _
  have q1 := ((b1.alloc (.cells #[.int .i64 0] 3)).alloc (.cells #[.int .i64 1] 23)).cell
  have q2 := (b2.alloc (.cells #[.int .i64 1] 23)).cell
  have q3 := b3.cell
  refine callsIn_of_wp_marks Try.func37 rfl trivial ?_ rfl
  simp only [Try.ntmps37, List.size_toArray, List.length_cons, List.length_nil, Nat.reduceAdd, Nat.reduceSub, Array.replicate_succ, Array.replicate_zero, List.push_toArray, List.append_toArray, List.nil_append, List.cons_append]
  by_cases h0 : p < 0
  · have d0 : decide (p < 0) = true := by simpa using h0
    clear hp b1 b2 b3
    gi_wp2
    refine ⟨.tuple #[.int .u64 0, .int .i64 0, .int .i64 1], ?_, rfl, hB0⟩
    simp [results, Try.f37, go_sem, q1, q2, q3]
  · have h1 : (len : Int) < p := by omega
    have d0 : decide (p < 0) = false := by simpa using h0
    have d1 : decide ((len : Int) < p) = true := by simpa using h1
    clear hp b1 b2 b3
    gi_wp2
    refine ⟨.tuple #[.int .u64 0, .int .i64 0, .int .i64 1], ?_, rfl, hB0⟩
    simp [results, Try.f37, go_sem, q1, q2, q3]

/-- quad.Get. -/
theorem get_calls (a : Option Addr) (len cap : Nat) (bs : List Int) (p : Int) (w : World) (hrow : Row .u8 w a len bs) (hbs : Bytes bs) (hlen : len ≤ 140737488355328) :
    Calls Try.prog 37 #[.slice a len cap, .int .i64 p] w fun e w' => e = .returned (.tuple #[.int .u64 (getA bs p).1, .int .i64 (getA bs p).2.1, .int .i64 (getA bs p).2.2]) ∧ Below w.heap.size w w' := by
  by_cases h : p < 0 ∨ (len : Int) < p
  · have e : getA bs p = (0, 0, 1) := by unfold getA; rw [hrow.1, if_pos h]
    rw [e]
    exact callsIn_wide.1 (get_bad a len cap p w h)
  · have e : getA bs p = getL (bs.drop p.toNat) 0 p 0 := by unfold getA; rw [hrow.1, if_neg h]
    rw [e]
    exact callsIn_wide.1 (get_in a len cap bs p w hrow hbs hlen (by omega) (by omega))
end Go.Proofs.Ytppiklgkpicfeaa
