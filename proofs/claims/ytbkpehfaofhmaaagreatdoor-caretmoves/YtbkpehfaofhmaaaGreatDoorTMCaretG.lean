/-
  PROVED HERE: caret.Move: where it goes; nothing that lay before is turned.
-/
import Derived.Test.YtbkpehfaofhmaaaGreatDoorCB35
import Derived.Test.YtbkpehfaofhmaaaGreatDoorTMCaretV
import Derived.Test.YtbkpehfaofhmaaaGreatDoorCB3
import Derived.WalkMore
import Derived.RegionIn
namespace Go.Proofs.YtbkpehfaofhmaaaGreatDoor
open Go.RowKit Go.Shelf
attribute [local go_sem] Oper.semAt_some

def stepQ (y : Int) (s : Int × Int) (q : Int × Bool) : Int × Int := if s.2 = 0 then s else if q.2 = true then (q.1, s.2 - y) else s
theorem foldQ (F : Int → Bool) (y : Int) (k : Nat) (p : Int) (s : Int × Int) : (beyL F y k p).foldl (stepQ y) s = (beyR y k p).foldl (stepM F y) s := by
  unfold beyL
  rw [List.foldl_map]
  rfl
theorem foldQ_zero (y : Int) : ∀ (l : List (Int × Bool)) (a : Int), l.foldl (stepQ y) (a, 0) = (a, 0)
  | [], _ => rfl
  | x :: l, a => by rw [List.foldl_cons, show stepQ y (a, 0) x = (a, 0) from by simp [stepQ], foldQ_zero y l a]
def moveD (F : Int → Bool) (n : Nat) (a b : Int) : Int := moveW F n a (wayD b) b
/-- What Move answers. -/
def moveR (F : Int → Bool) (E : Int) (n : Nat) (p b : Int) : Int × Int := if chkE E n p = 0 then (moveD F n p b, 0) else (0, chkE E n p)
/-- Numbers on their way to 0. -/
def Left (y b : Int) : Prop := (y = 1 ∧ 0 ≤ b ∧ b ≤ 9223372036854775807) ∨ (y = -1 ∧ -9223372036854775808 ≤ b ∧ b ≤ 0)
/-- What holds between two rounds of Move. -/
def MoveI (y : Int) (w : World) (m : Nat) (s0 : Int × Int) (pre : List (Int × Bool)) (W : World) : Prop :=
  W.heap[w.heap.size]? = some (.cells #[.int .i64 (pre.foldl (stepQ y) s0).1] 3 (0, 0)) ∧ W.heap[w.heap.size + 1]? = some (.cells #[.int .i64 (pre.foldl (stepQ y) s0).2] 3 (0, 0)) ∧ W.heap[m]? = some (.cells #[.int .i64 y] 3 (0, 0)) ∧ Left y (pre.foldl (stepQ y) s0).2 ∧ Below w.heap.size w W
def MoveX (y : Int) (w : World) (s0 : Int × Int) (c : Code) (pre : List (Int × Bool)) (W : World) : Prop :=
  c = .exit 0 ∧ (pre.foldl (stepQ y) s0).2 = 0 ∧ W.heap[w.heap.size]? = some (.cells #[.int .i64 (pre.foldl (stepQ y) s0).1] 3 (0, 0)) ∧ Below w.heap.size w W
set_option maxRecDepth 100000 in
set_option maxHeartbeats 4000000 in
theorem move_calls {w : World} {B : Nat} {a : Option Addr} {len cap : Nat} {l : List Tok} {A E : Int} {F : Int → Bool} (h : CheckH w B a len cap A E) (hm : MayH w B a len cap F) (hT : Toks w a len l) (hsame : E = 0 → ∀ (i : Nat) (x : Tok), l[i]? = some x → x.k = 0 → F ((i : Int) + 1) = F (i : Int)) (hlen : (len : Int) ≤ 9223372036854775807) (hE : E = 0 → len ≤ 2048) (p b : Int) (hb1 : -9223372036854775808 ≤ b) (hb2 : b ≤ 9223372036854775807) :
    Calls Tryz.prog 15 #[.pointer (some ⟨B, 0, none⟩), .slice a len cap, .int .i64 p, .int .i64 b] w fun e X' => e = .returned (.tuple #[.int .i64 (moveR F E len p b).1, .int .i64 (moveR F E len p b).2]) ∧ Below w.heap.size w X' := by
  obtain ⟨W1, hW1⟩ : ∃ W1, (w.alloc (.cells #[.int .i64 p] 3)).alloc (.cells #[.int .i64 b] 3) = W1 := ⟨_, rfl⟩
  have hs1 : W1.heap.size = w.heap.size + 2 := by rw [← hW1]; simp
  have hb1' : Below w.heap.size w W1 := by rw [← hW1]; exact ((Below.refl _ w).alloc (Nat.le_refl _) _).alloc (by simp) _
  obtain ⟨m0, m1⟩ := laid2 w (.cells #[.int .i64 p] 3) (.cells #[.int .i64 b] 3)
  rw [hW1] at m0 m1
  have HW1 := hidC hW1
  have HC := hidC (ccheck_calls h hlen p W1 hb1')
  have HI : Hid (∀ X, Below W1.heap.size W1 X → X.heap[w.heap.size]? = some (.cells #[.int .i64 p] 3 (0, 0)) ∧ X.heap[w.heap.size + 1]? = some (.cells #[.int .i64 b] 3 (0, 0)) ∧ Below w.heap.size w X) := fun X hX => ⟨(hX.block _ (by omega)).trans m0, (hX.block _ (by omega)).trans m1, hb1'.trans (hX.mono hb1'.size)⟩
  obtain ⟨c0, c1⟩ : W1.cell? ⟨w.heap.size, 0, none⟩ = some (.int .i64 p) ∧ W1.cell? ⟨w.heap.size + 1, 0, none⟩ = some (.int .i64 b) := ⟨(cells1 m0).1, (cells1 m1).1⟩
  have g0 : ((w.alloc (.cells #[.int .i64 p] 3)).alloc (.cells #[.int .i64 b] 3)).cell? ⟨w.heap.size, 0, none⟩ = some (.int .i64 p) := by rw [hW1]; exact c0
  clear hW1 m0 m1
  unfold moveR
  by_cases hq : chkE E len p = 0
  · rw [if_pos hq]
    rw [hq] at HC
    obtain ⟨rfl, hpl⟩ := chkE_zero.1 hq
    have hl48 := hE rfl
    have hp' := isPl_iff.1 hpl
    have HM := hidC (And.intro hm (And.intro hT (hsame rfl)))
    clear hm hT hsame h hE
    have hy := wayD_or b
    have HWY : Hid (∀ X : World, CallsIn Fence.wide 5 Tryz.prog 28 #[.int .i64 b] X fun e w' => e = .returned (.int .i64 (wayD b)) ∧ w' = X) := fun X => callsIn_wide.2 (wayof_calls b X)
    have hLb : Left (wayD b) b := by
      unfold Left wayD
      by_cases hb0 : b < 0
      · rw [if_pos hb0]; exact .inr ⟨rfl, hb1, by omega⟩
      · rw [if_neg hb0]; exact .inl ⟨rfl, by omega, hb2⟩
    unfold moveD
    generalize wayD b = y at *
    refine (callsIn_wide (n := 6)).1 ?_
    refine callsIn_of_wp_marks Tryz.func15 rfl trivial ?_ rfl
    simp only [Tryz.ntmps15, List.size_toArray, List.length_cons, List.length_nil, Nat.reduceAdd, Nat.reduceSub, Array.replicate_succ, Array.replicate_zero, List.push_toArray, List.append_toArray, List.nil_append, List.cons_append]
    have hfc : Fence.wide.fn 23 := trivial
    have hfw : Fence.wide.fn 28 := trivial
    have hfb : Fence.wide.fn 29 := trivial
    gi_wp2
    refine wpIn_wide.2 ?_
    apply wp_scope_straight
    refine (wpIn_wide (n := 6)).1 ?_
    gi_wp2_with (first | (gi_at_call 23; rw [HW1.out]; refine (callsIn_wide.2 HC.out).mono ?_; rintro e X ⟨rfl, hX⟩; obtain ⟨x0, x1, _⟩ := HI.out X hX; have d0 := (cells1 x0).1; have d1 := (cells1 x1).1) | (gi_at_call 28; refine (HWY.out _).mono ?_; rintro e X' ⟨rfl, rfl⟩) | (gi_at_call 29; fail))
    obtain ⟨V, hV⟩ : ∃ V, X'.alloc (.cells #[.int .i64 y] 3) = V := ⟨_, rfl⟩
    rw [hV]
    have hsX : w.heap.size + 2 ≤ X'.heap.size := by rw [← hs1]; exact hX.size
    have hsV : V.heap.size = X'.heap.size + 1 := by rw [← hV]; simp
    have hVX : Below X'.heap.size X' V := by rw [← hV]; exact (Below.refl _ _).alloc (Nat.le_refl _) _
    have vy : V.heap[X'.heap.size]? = some (.cells #[.int .i64 y] 3 (0, 0)) := by rw [← hV]; exact World.alloc_heap_new X' _
    have vyc := (cells1 vy).1
    have hVB : Below W1.heap.size W1 V := hX.trans (hVX.mono hX.size)
    obtain ⟨w0, w1, hwV⟩ := HI.out V hVB
    have w0c := (cells1 w0).1
    clear hV d0 d1 x0 x1
    refine wpIn_label ?_
    gi_wp2_with (gi_at_call 29; refine (beyond_in Fence.wide 5 trivial rfl _ _ _ _ _ _ _).mono ?_; rintro e X5 ⟨rfl, hX5⟩)
    have hv5 : VarsB X5 (X'.heap.size + 1) B a len cap p y := by rw [hX5, ← hsV]; exact laid4 V ..
    have hs5 : X5.heap.size = X'.heap.size + 5 := by rw [hX5]; simp [hsV]
    have hB5 : Below V.heap.size V X5 := by rw [hX5]; exact ((((Below.refl _ V).alloc (Nat.le_refl _) _).alloc (by simp) _).alloc (by simp; omega) _).alloc (by simp; omega) _
    obtain ⟨n0, n1, hw5⟩ := HI.out X5 (hVB.trans (hB5.mono hVB.size))
    have ny := (hB5.block _ (by omega)).trans vy
    rw [← hX5]
    generalize hMM : X'.heap.size = M at *
    have hI5 : MoveI y w M (p, b) [] X5 := ⟨n0, n1, ny, hLb, hw5⟩
    have hown : OwnFrom X5.heap.size (MoveI y w M (p, b)) := by
      rintro pre W W' row ⟨i0, i1, i2, i3, i4⟩ hg hrr
      exact ⟨grown_cells hg hrr i0, grown_cells hg hrr i1, grown_cells hg hrr i2, i3, grown_belowP i4 hg hrr (by omega) i4.size⟩
    have hownX : ∀ c, OwnFrom X5.heap.size (MoveX y w (p, b) c) := by
      rintro c pre W W' row ⟨h1, h2, h3, h4⟩ hg hrr
      exact ⟨h1, h2, grown_cells hg hrr h3, grown_belowP h4 hg hrr (by omega) h4.size⟩
    refine wpIn_rangeFunc_ownH rfl (by omega) (gf := 59) (lb := #[.pointer (some ⟨M + 1, 0, none⟩), .pointer (some ⟨M + 1 + 1, 0, none⟩), .pointer (some ⟨M + 1 + 1 + 1, 0, none⟩), .pointer (some ⟨M + 1 + 1 + 1 + 1, 0, none⟩)]) rfl trivial (enters_of Tryz.func59 (by kernel_rfl) rfl)
      (encs := fun q : Int × Bool => #[.int .i64 q.1, .bool q.2]) (Kp := KpD w.heap.size (M + 1)) (S := fun ys => ys = beyL F y (beyN len p y) p) (Sp := fun pre => pre <+: beyL F y (beyN len p y) p) (N := len + 1) (w0 := X5)
      (fun li J Jx W hW hJ _ hY h0 => beyond1_in 5 (by omega) li (M + 1) B a len cap l p y hy hp' hl48 F w HM.out.1 HM.out.2.1 HM.out.2.2 J Jx W hJ hY (hw5.trans (hW.mono hw5.size)) (hv5.kp (fun k h1 h2 => hW.block k (by omega))) h0)
      (fun h k => ⟨h.1.trans k.1, fun i h1 h2 => (k.2 i h1 h2).trans (h.2 i h1 h2)⟩) (fun W li o o' hl h1 h2 h3 => ⟨belowK_b (w := w) (Nat.le_refl _) W li o o' (by omega) h1 h2 h3, fun k h4 h5 => World.putObj_heap_other (by omega)⟩) (Below.refl _ _) (fun _ => rfl)
      (MoveI y w M (p, b)) (MoveX y w (p, b)) hown hownX hI5
      (fun q a' W => a' = { tmps := #[.pointer (some ⟨B, 0, none⟩), .slice a len cap, .int .i64 p, .int .i64 b, undef, undef, .pointer (some ⟨w.heap.size, 0, none⟩), .pointer (some ⟨w.heap.size + 1, 0, none⟩), .int .i64 0, .int .i64 0, .int .i64 0, .pointer (some ⟨M, 0, none⟩), .int .i64 q.1, .bool q.2, .pointer (some ⟨B, 0, none⟩), .slice a len cap, .int .i64 p, .int .i64 0, .int .i64 0, .bool false, undef, .int .i64 b, .int .i64 y, .pointer (some ⟨B, 0, none⟩), .slice a len cap, .int .i64 p, .int .i64 y, .func (.func 59) #[] #[.pointer (some ⟨M + 1, 0, none⟩), .pointer (some ⟨M + 1 + 1, 0, none⟩), .pointer (some ⟨M + 1 + 1 + 1, 0, none⟩), .pointer (some ⟨M + 1 + 1 + 1 + 1, 0, none⟩)], .int .i64 q.1, .bool q.2, undef, undef, undef, undef, undef, undef, undef, undef, undef, undef], defers := [] }) ?hax ?assign ?body ?done ?stop
    case hax =>
      rintro q a' _ W W' row h hg hrr
      exact h
    case assign =>
      rintro li pre q W K hi hK
      have HK := hidC hK
      clear hK
      gi_wp2
      exact HK.out _ _ (KeepsFrom.refl _ _) ⟨Below.refl _ _, fun _ _ _ => rfl⟩ hi rfl
    case body =>
      rintro li pre ⟨q, ok⟩ a' W hli ⟨r, hrec⟩ ⟨i0, i1, i2, i3, i4⟩ rfl hlt
      have HST := hidC (show (pre ++ [(q, ok)]).foldl (stepQ y) (p, b) = stepQ y (pre.foldl (stepQ y) (p, b)) (q, ok) from by rw [List.foldl_append]; rfl)
      generalize hst : pre.foldl (stepQ y) (p, b) = st at *
      have e0 := (cells1 i0).1
      have e1 := (cells1 i1).1
      have e2 := (cells1 i2).1
      have HII := hidC (And.intro i0 (And.intro i1 (And.intro i2 (And.intro i3 i4))))
      have HSZ := hidC (And.intro hs5 hsX)
      clear i0 i1 i2 i4 hown hownX hI5 hv5 hlt hrec n0 n1 ny hw5 hB5 w0 w1 hwV vy vyc w0c
      by_cases hz : st.2 = 0
      · have hbz : (st.2 == 0) = true := by simpa using hz
        have HFX := hidC (show stepQ y st (q, ok) = st from by unfold stepQ; rw [if_pos hz])
        gi_wp2
        obtain ⟨j0, _, _, _, j4⟩ := HII.out
        exact ⟨KeepsFrom.refl _ _, rfl, by rw [HST.out, HFX.out]; exact hz, by rw [HST.out, HFX.out]; exact j0, j4⟩
      · have hbz : (st.2 == 0) = false := by simpa using hz
        cases ok with
        | false =>
          have HFX := hidC (show stepQ y st (q, false) = st from by unfold stepQ; rw [if_neg hz, if_neg (by simp)])
          gi_wp2
          obtain ⟨j0, j1, j2, j3, j4⟩ := HII.out
          exact ⟨KeepsFrom.refl _ _, ⟨Below.refl _ _, fun _ _ _ => rfl⟩, by rw [HST.out, HFX.out]; exact j0, by rw [HST.out, HFX.out]; exact j1, j2, by rw [HST.out, HFX.out]; exact j3, j4⟩
        | true =>
          have HFX := hidC (show stepQ y st (q, true) = (q, st.2 - y) from by unfold stepQ; rw [if_neg hz, if_pos rfl])
          have hrng : (-9223372036854775808 ≤ st.2 - y ∧ st.2 - y ≤ 9223372036854775807) ∧ Left y (st.2 - y) := by
            unfold Left at *
            rcases i3 with ⟨rfl, g1, g2⟩ | ⟨rfl, g1, g2⟩
            · exact ⟨by omega, .inl ⟨rfl, by omega, by omega⟩⟩
            · exact ⟨by omega, .inr ⟨rfl, by omega, by omega⟩⟩
          obtain ⟨⟨hr1, hr2⟩, hLn⟩ := hrng
          have HLN := hidC hLn
          clear hLn
          obtain ⟨j0, j1, j2, j3, j4⟩ := HII.out
          obtain ⟨k0, k1⟩ := put_two j0 j1 (by omega) (.int .i64 q) (.int .i64 (st.2 - y))
          have f0 := (cells1 j0).2
          have f1 : ∀ v, (W.setCell ⟨w.heap.size, 0, none⟩ v).frozen? ⟨w.heap.size + 1, 0, none⟩ = false := fun v => (cells1 ((Below.heap_setCell W _ v (w.heap.size + 1) (by show w.heap.size + 1 ≠ w.heap.size; omega)).trans j1)).2
          have hwr : IntKind.i64.wrap (st.2 - y) = st.2 - y := by rw [IntKind.wrap_i64]; omega
          have hz2 := HSZ.out
          have hKF : KeepsFrom X5.heap.size W ((W.setCell ⟨w.heap.size, 0, none⟩ (.int .i64 q)).setCell ⟨w.heap.size + 1, 0, none⟩ (.int .i64 (st.2 - y))) := (KeepsFrom.of_grownBy (grownBy_setCell' W _ _) (fun j e => by cases e; omega)).trans (KeepsFrom.of_grownBy (grownBy_setCell' _ _ _) (fun j e => by cases e; omega))
          have hKP : KpD w.heap.size (M + 1) W ((W.setCell ⟨w.heap.size, 0, none⟩ (.int .i64 q)).setCell ⟨w.heap.size + 1, 0, none⟩ (.int .i64 (st.2 - y))) := by
            refine ⟨((Below.refl _ W).setCell (p := ⟨w.heap.size, 0, none⟩) (Nat.le_refl _) _).setCell (p := ⟨w.heap.size + 1, 0, none⟩) (Nat.le_succ _) _, fun k h1 h2 => ?_⟩
            rw [Below.heap_setCell _ _ _ k (by show k ≠ w.heap.size + 1; omega), Below.heap_setCell _ _ _ k (by show k ≠ w.heap.size; omega)]
          have k2 : ((W.setCell ⟨w.heap.size, 0, none⟩ (.int .i64 q)).setCell ⟨w.heap.size + 1, 0, none⟩ (.int .i64 (st.2 - y))).heap[M]? = some (.cells #[.int .i64 y] 3 (0, 0)) := by
            rw [Below.heap_setCell _ _ _ M (by show M ≠ w.heap.size + 1; omega), Below.heap_setCell _ _ _ M (by show M ≠ w.heap.size; omega)]
            exact j2
          have k4 := (j4.setCell (p := ⟨w.heap.size, 0, none⟩) (Nat.le_refl _) (.int .i64 q)).setCell (p := ⟨w.heap.size + 1, 0, none⟩) (Nat.le_succ _) (.int .i64 (st.2 - y))
          have hMI : MoveI y w M (p, b) (pre ++ [(q, true)]) ((W.setCell ⟨w.heap.size, 0, none⟩ (.int .i64 q)).setCell ⟨w.heap.size + 1, 0, none⟩ (.int .i64 (st.2 - y))).drew := by
            unfold MoveI
            rw [HST.out, HFX.out]
            exact ⟨k0, k1, k2, HLN.out, k4.drew⟩
          have HFIN := hidC (And.intro (KeepsFrom.mk (W' := ((W.setCell ⟨w.heap.size, 0, none⟩ (.int .i64 q)).setCell ⟨w.heap.size + 1, 0, none⟩ (.int .i64 (st.2 - y))).drew) hKF.size hKF.same) (And.intro (show KpD w.heap.size (M + 1) W ((W.setCell ⟨w.heap.size, 0, none⟩ (.int .i64 q)).setCell ⟨w.heap.size + 1, 0, none⟩ (.int .i64 (st.2 - y))).drew from ⟨hKP.1.drew, hKP.2⟩) hMI))
          clear j0 j1 j2 j3 j4 k0 k1 k2 k4 hKF hKP hMI
          gi_wp2_with fail
          have E1 : ∀ v, (W.setCell ⟨w.heap.size, 0, none⟩ v).cell? ⟨w.heap.size + 1, 0, none⟩ = some (.int .i64 st.2) := fun v => (World.cell?_setCell_far W ⟨w.heap.size, 0, none⟩ ⟨w.heap.size + 1, 0, none⟩ v (by show w.heap.size ≠ w.heap.size + 1; omega)).trans e1
          have E2 : ∀ v, (W.setCell ⟨w.heap.size, 0, none⟩ v).cell? ⟨M, 0, none⟩ = some (.int .i64 y) := fun v => (World.cell?_setCell_far W ⟨w.heap.size, 0, none⟩ ⟨M, 0, none⟩ v (by show w.heap.size ≠ M; omega)).trans e2
          refine wpIn_round_held (S := fun _ => True) mixed (by kernel_rfl) trivial (fun hS => ?_)
          refine takeF 0 (some 35) (v := ?_) hS ?_ ?_
          rotate_left
          · intro w hSw
            try go_simp
            with_reducible rfl
          try simp only [lay4]
          refine wpAnyH_ready (rs := [1, 2, 4]) (by kernel_rfl) (by simp) (AllReadyH.cons (i := 1) rfl (fun K hK => ?_) (AllReadyH.cons (i := 2) rfl (fun K hK => ?_) (AllReadyH.cons (i := 4) rfl (fun K hK => ?_) AllReadyH.nil)))
          · skip
            rw [if_pos (by rfl)]
            go_simp
            refine hK.out _ _ trivial (fun hS => ?_)
            clear hK K
            try simp only [lay4]
            refine wpAnyH_ready (rs := [2, 4]) (by kernel_rfl) (by simp) (AllReadyH.cons (i := 2) rfl (fun K hK => ?_) (AllReadyH.cons (i := 4) rfl (fun K hK => ?_) AllReadyH.nil))
            · skip
              rw [if_pos (by rfl)]
              go_simp
              refine hK.out _ _ trivial (fun hS => ?_)
              clear hK K
              try simp only [lay4]
              refine takeF 3 (some 38) (v := ?_) hS ?_ ?_
              rotate_left
              · intro w hSw
                try go_simp
                with_reducible rfl
              try simp only [lay4]
              refine callD 4 (by kernel_rfl) rfl (fun K hK => ?_)
              rw [if_pos (by rfl)]
              go_simp
              refine hK.out _ _ trivial (fun hS => ?_)
              clear hK K
              try simp only [lay4]
              refine callD 5 (by kernel_rfl) rfl (fun K hK => ?_)
              rw [if_pos (by rfl)]
              go_simp
              refine hK.out _ _ trivial (fun hS => ?_)
              clear hK K
              try simp only [lay4]
              refine wpAnyH_done (by kernel_rfl) ?_ _
              exact HFIN.out
            · skip
              rw [if_pos (by rfl)]
              go_simp
              refine hK.out _ _ trivial (fun hS => ?_)
              clear hK K
              try simp only [lay4]
              refine callD 2 (by kernel_rfl) rfl (fun K hK => ?_)
              rw [if_pos (by rfl)]
              go_simp
              refine hK.out _ _ trivial (fun hS => ?_)
              clear hK K
              try simp only [lay4]
              refine takeF 3 (some 38) (v := ?_) hS ?_ ?_
              rotate_left
              · intro w hSw
                try go_simp
                with_reducible rfl
              try simp only [lay4]
              refine callD 5 (by kernel_rfl) rfl (fun K hK => ?_)
              rw [if_pos (by rfl)]
              go_simp
              refine hK.out _ _ trivial (fun hS => ?_)
              clear hK K
              try simp only [lay4]
              refine wpAnyH_done (by kernel_rfl) ?_ _
              exact HFIN.out
          · skip
            rw [if_pos (by rfl)]
            go_simp
            refine hK.out _ _ trivial (fun hS => ?_)
            clear hK K
            try simp only [lay4]
            refine wpAnyH_ready (rs := [1, 4]) (by kernel_rfl) (by simp) (AllReadyH.cons (i := 1) rfl (fun K hK => ?_) (AllReadyH.cons (i := 4) rfl (fun K hK => ?_) AllReadyH.nil))
            · skip
              rw [if_pos (by rfl)]
              go_simp
              refine hK.out _ _ trivial (fun hS => ?_)
              clear hK K
              try simp only [lay4]
              refine takeF 3 (some 38) (v := ?_) hS ?_ ?_
              rotate_left
              · intro w hSw
                try go_simp
                with_reducible rfl
              try simp only [lay4]
              refine callD 4 (by kernel_rfl) rfl (fun K hK => ?_)
              rw [if_pos (by rfl)]
              go_simp
              refine hK.out _ _ trivial (fun hS => ?_)
              clear hK K
              try simp only [lay4]
              refine callD 5 (by kernel_rfl) rfl (fun K hK => ?_)
              rw [if_pos (by rfl)]
              go_simp
              refine hK.out _ _ trivial (fun hS => ?_)
              clear hK K
              try simp only [lay4]
              refine wpAnyH_done (by kernel_rfl) ?_ _
              exact HFIN.out
            · skip
              rw [if_pos (by rfl)]
              go_simp
              refine hK.out _ _ trivial (fun hS => ?_)
              clear hK K
              try simp only [lay4]
              refine callD 1 (by kernel_rfl) rfl (fun K hK => ?_)
              rw [if_pos (by rfl)]
              go_simp
              refine hK.out _ _ trivial (fun hS => ?_)
              clear hK K
              try simp only [lay4]
              refine takeF 3 (some 38) (v := ?_) hS ?_ ?_
              rotate_left
              · intro w hSw
                try go_simp
                with_reducible rfl
              try simp only [lay4]
              refine callD 5 (by kernel_rfl) rfl (fun K hK => ?_)
              rw [if_pos (by rfl)]
              go_simp
              refine hK.out _ _ trivial (fun hS => ?_)
              clear hK K
              try simp only [lay4]
              refine wpAnyH_done (by kernel_rfl) ?_ _
              exact HFIN.out
          · skip
            rw [if_pos (by rfl)]
            go_simp
            refine hK.out _ _ trivial (fun hS => ?_)
            clear hK K
            try simp only [lay4]
            refine wpAnyH_ready (rs := [1, 2]) (by kernel_rfl) (by simp) (AllReadyH.cons (i := 1) rfl (fun K hK => ?_) (AllReadyH.cons (i := 2) rfl (fun K hK => ?_) AllReadyH.nil))
            · skip
              rw [if_pos (by rfl)]
              go_simp
              refine hK.out _ _ trivial (fun hS => ?_)
              clear hK K
              try simp only [lay4]
              refine callD 2 (by kernel_rfl) rfl (fun K hK => ?_)
              rw [if_pos (by rfl)]
              go_simp
              refine hK.out _ _ trivial (fun hS => ?_)
              clear hK K
              try simp only [lay4]
              refine takeF 3 (some 38) (v := ?_) hS ?_ ?_
              rotate_left
              · intro w hSw
                try go_simp
                with_reducible rfl
              try simp only [lay4]
              refine callD 5 (by kernel_rfl) rfl (fun K hK => ?_)
              rw [if_pos (by rfl)]
              go_simp
              refine hK.out _ _ trivial (fun hS => ?_)
              clear hK K
              try simp only [lay4]
              refine wpAnyH_done (by kernel_rfl) ?_ _
              exact HFIN.out
            · skip
              rw [if_pos (by rfl)]
              go_simp
              refine hK.out _ _ trivial (fun hS => ?_)
              clear hK K
              try simp only [lay4]
              refine callD 1 (by kernel_rfl) rfl (fun K hK => ?_)
              rw [if_pos (by rfl)]
              go_simp
              refine hK.out _ _ trivial (fun hS => ?_)
              clear hK K
              try simp only [lay4]
              refine takeF 3 (some 38) (v := ?_) hS ?_ ?_
              rotate_left
              · intro w hSw
                try go_simp
                with_reducible rfl
              try simp only [lay4]
              refine callD 5 (by kernel_rfl) rfl (fun K hK => ?_)
              rw [if_pos (by rfl)]
              go_simp
              refine hK.out _ _ trivial (fun hS => ?_)
              clear hK K
              try simp only [lay4]
              refine wpAnyH_done (by kernel_rfl) ?_ _
              exact HFIN.out
    case done =>
      rintro D ys W hD rfl ⟨i0, _, _, _, i4⟩ hK
      have e0 := (cells1 i0).1
      have HF := hidC (show ((beyL F y (beyN len p y) p).foldl (stepQ y) (p, b)).1 = moveW F len p y b from by rw [foldQ]; rfl)
      rw [HF.out] at e0
      have HQ := hidC (And.intro hK (And.intro i4 (And.intro hD (And.intro hs5 hsX))))
      clear i0 i4 hown hownX hI5 hv5 hD hK n0 n1 ny hw5 hB5 w0 w1 hwV vy vyc w0c
      gi_wp2
      try rw [Exit.noGoto_ret]
      obtain ⟨q2, q3, hD, hs5, hsX⟩ := HQ.out
      refine ⟨by simp, .inl ⟨_, _, rfl, run_takeDeferred q2, ?_⟩⟩
      exact ⟨_, results_tmp2 rfl _ _ _, rfl, q3.trans (belowK_b (w := w) (Nat.le_refl _) _ D _ _ (by omega) q2 rfl rfl)⟩
    case stop =>
      rintro D c pre W hD hpre ⟨rfl, hz, i0, i4⟩ hK
      have e0 := (cells1 i0).1
      have HF := hidC (show (pre.foldl (stepQ y) (p, b)).1 = moveW F len p y b from by
        obtain ⟨r, hr⟩ := hpre
        show _ = ((beyR y (beyN len p y) p).foldl (stepM F y) (p, b)).1
        rw [← foldQ, ← hr, List.foldl_append]
        generalize pre.foldl (stepQ y) (p, b) = st at *
        obtain ⟨u, v⟩ := st
        simp only at hz
        subst hz
        rw [foldQ_zero])
      rw [HF.out] at e0
      have HQ := hidC (And.intro hK (And.intro i4 (And.intro hD (And.intro hs5 hsX))))
      clear i0 i4 hown hownX hI5 hv5 hD hK n0 n1 ny hw5 hB5 w0 w1 hwV vy vyc w0c
      gi_wp2
      try rw [Exit.noGoto_ret]
      obtain ⟨q2, q3, hD, hs5, hsX⟩ := HQ.out
      refine ⟨by simp, .inl ⟨_, _, rfl, run_takeDeferred q2, ?_⟩⟩
      exact ⟨_, results_tmp2 rfl _ _ _, rfl, q3.trans (belowK_b (w := w) (Nat.le_refl _) _ D _ _ (by omega) q2 rfl rfl)⟩
  · rw [if_neg hq]
    generalize chkE E len p = q at *
    have hd : (q != 0) = true := by simpa using hq
    go_enter Tryz.func15, Tryz.ntmps15
    go_wp2
    go_step3
    go_wp2_with fail
    rw [HW1.out]
    refine HC.out.mono ?_
    rintro e X ⟨rfl, hX⟩
    obtain ⟨_, _, hB⟩ := HI.out X hX
    have HBX := hidC hB
    clear hX hB
    go_wp2
    try rw [Exit.noGoto_ret]
    go_ret2
    exact ⟨rfl, HBX.out⟩
end Go.Proofs.YtbkpehfaofhmaaaGreatDoor
