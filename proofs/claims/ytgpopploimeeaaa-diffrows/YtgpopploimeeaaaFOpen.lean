/-
  PROVED HERE: flat.openAt at every slice of tokens and every number: what it returns; nothing that lay before is turned.
-/
import Derived.Test.YtgpopploimeeaaaFCheck
namespace Go.Proofs.Ytgpopploimeeaaa
open Go.RowKit

/-- How a slice lies. -/
def Lies (a : Option Addr) (len cap : Nat) : Prop := len ≤ cap ∧ cap ≤ 9223372036854775807 ∧ (a = none → cap = 0) ∧ (∀ x, a = some x → 0 < cap → x.spot = none)
/-- The cells of an empty stack. -/
def zeros : Array Value := #[.int .i64 0, .int .i64 0, .int .i64 0, .int .i64 0, .int .i64 0, .int .i64 0, .int .i64 0, .int .i64 0, .int .i64 0, .int .i64 0, .int .i64 0, .int .i64 0, .int .i64 0, .int .i64 0, .int .i64 0, .int .i64 0, .int .i64 0, .int .i64 0, .int .i64 0, .int .i64 0, .int .i64 0, .int .i64 0, .int .i64 0, .int .i64 0, .int .i64 0, .int .i64 0, .int .i64 0, .int .i64 0, .int .i64 0, .int .i64 0, .int .i64 0, .int .i64 0, .slice none 0 0, .int .i64 0]
theorem zeros_cells : StkCells (.slice none 0 0) [] zeros := by
  obtain ⟨_, _, cs, hg, hc⟩ := stk_new default
  have := heap_alloc_new (default : World) (.cells zeros 80)
  rw [show (default : World).alloc (.cells zeros 80) = (default : World).alloc (.cells #[.int .i64 0, .int .i64 0, .int .i64 0, .int .i64 0, .int .i64 0, .int .i64 0, .int .i64 0, .int .i64 0, .int .i64 0, .int .i64 0, .int .i64 0, .int .i64 0, .int .i64 0, .int .i64 0, .int .i64 0, .int .i64 0, .int .i64 0, .int .i64 0, .int .i64 0, .int .i64 0, .int .i64 0, .int .i64 0, .int .i64 0, .int .i64 0, .int .i64 0, .int .i64 0, .int .i64 0, .int .i64 0, .int .i64 0, .int .i64 0, .int .i64 0, .int .i64 0, .slice none 0 0, .int .i64 0] 80) from rfl, hg] at this
  rw [← (Obj.cells.inj (Option.some.inj this)).1]
  exact hc
theorem StkCells.one {v : Value} {R : List Int} {cs : Array Value} (h : StkCells v R cs) {a : Option Addr} {n c : Nat} (hv : v = .slice a n c) : cs.all (·.oneCell') = true := by
  obtain ⟨h0, h1, h2, h3, h4⟩ := h
  rw [Array.all_eq_true]
  intro i hi
  by_cases e : i < 32
  · obtain ⟨z, hz⟩ := h2 i e
    rw [Array.getElem?_eq_getElem hi] at hz
    rw [Option.some.inj hz]
    rfl
  · by_cases e2 : i = 32
    · subst e2
      rw [Array.getElem?_eq_getElem hi] at h3
      rw [Option.some.inj h3, hv]
      rfl
    · obtain rfl : i = 33 := by omega
      rw [Array.getElem?_eq_getElem hi] at h4
      rw [Option.some.inj h4]
      rfl
theorem info47 : (Try.prog.info? 80).map (·.size) = some 34 := by kernel_rfl
theorem wpList_put_row {P : Program} {ops : Array Oper} {rest : List Oper} {o : Oper} {a : Act} {w : World} {Q : Exit → Act → World → Prop} (hgd : o.guard = none) (ty : TypeId) (x y : Operand) (ho : o.op = .store ty x y)
    (g : Nat) (cells : Array Value) (hx : a.eval x = .pointer (some ⟨g, 0, none⟩)) (hy : a.eval y = .agg cells) (t : TypeId) (old : Array Value) (hg : w.heap[g]? = some (.cells old t (0, 0))) (hi : (P.info? ty).map (·.size) = some cells.size)
    (hold : old.size = cells.size) (h1 : cells.all (·.oneCell') = true) (h : wpList P ops Q rest (a.put o.dst undef) (w.setRow g cells)) : wpList P ops Q (o :: rest) a w :=
  wpList_plain hgd fun _ hK => wp_store_row ty x y ho g cells hx hy t old hg hi hold h1 (hK _ _ h)

theorem own_mono {w : World} {b b' : Nat} {e : TypeId} {v : Value} {n : Nat} {xs : List Value} (h : w.ownsRow b e 1 v n xs) (hb : b' ≤ b) : w.ownsRow b' e 1 v n xs := by
  obtain ⟨h1, h2 | ⟨g, cap, cur, h3, h4, h5⟩⟩ := h
  · exact ⟨h1, .inl h2⟩
  · exact ⟨h1, .inr ⟨g, cap, cur, h3, by omega, h5⟩⟩
/-- What openAt leaves. -/
theorem open_leaves {w wr : World} {v : Value} {R : List Int} (hS : Stk wr (w.heap.size + 1) (w.heap.size + 1) v R) (hB : Below (w.heap.size + 1) (w.alloc (.cells zeros 80)) wr) :
    ∃ cs, wr.heap[w.heap.size + 1]? = some (.cells cs 80 (0, 0)) ∧ wr.heap[w.heap.size]? = some (.cells zeros 80 (0, 0)) ∧ cs.size = 34 ∧ StkCells v R cs ∧ cs.all (·.oneCell') = true ∧
      (wr.setRow w.heap.size cs).ownsRow w.heap.size 3 1 v (R.length - 32) ((R.drop 32).map (Value.int .i64)) ∧ Below w.heap.size w (wr.setRow w.heap.size cs) ∧ (wr.setRow w.heap.size cs).heap[w.heap.size]? = some (.cells cs 80 (0, 0)) ∧ (wr.setRow w.heap.size cs).heap[w.heap.size + 1]? = some (.cells cs 80 (0, 0)) := by
  obtain ⟨_, h1, cs, h2, h3⟩ := hS
  have hz : wr.heap[w.heap.size]? = some (.cells zeros 80 (0, 0)) := (hB.block w.heap.size (by omega)).trans (heap_alloc_new w _)
  obtain ⟨a, c, hv⟩ := own_slice h1
  refine ⟨cs, h2, hz, h3.1, h3, h3.one hv, ?_, ?_, ?_, ?_⟩
  · have h4 := own_mono h1 (show w.heap.size ≤ w.heap.size + 1 by omega)
    obtain ⟨k1, k2 | ⟨g, cap, cur, rfl, hb, hg, k3⟩⟩ := h1
    · exact ⟨k1, .inl k2⟩
    · refine ⟨k1, .inr ⟨g, cap, cur, rfl, by omega, ?_, k3⟩⟩
      rw [setRow_other _ _ _ _ (by omega)]
      exact hg
  · have h5 : Below w.heap.size w wr := ((Below.refl _ w).alloc (Nat.le_refl _) _).trans (hB.mono (by omega))
    exact ⟨h5.os, h5.tape, h5.output, by simpa using h5.size, fun k hk => by rw [setRow_other _ _ _ _ (by omega)]; exact h5.block k hk⟩
  · exact setRow_heap _ _ _ _ _ _ hz
  · rw [setRow_other _ _ _ _ (by omega)]
    exact h2

/-- What openAt returns. -/
def Opened (w : World) (R : List Int) (e : Ending) (w' : World) : Prop := ∃ cs v, e = .returned (.agg cs) ∧ StkCells v R cs ∧ w'.ownsRow w.heap.size 3 1 v (R.length - 32) ((R.drop 32).map (Value.int .i64)) ∧ Below w.heap.size w w'

set_option maxRecDepth 100000 in
set_option maxHeartbeats 2000000 in
theorem fopen_none (a : Option Addr) (len cap : Nat) (p : Int) (w : World) (hp : p < 0 ∨ (len : Int) < p) : Calls Try.prog 51 #[.slice a len cap, .int .i64 p] w (Opened w []) := by
  have hS : Stk ((w.alloc (.cells zeros 80)).alloc (.cells zeros 80)) (w.heap.size + 1) (w.heap.size + 1) (.slice none 0 0) [] := by
    have := stk_new (w.alloc (.cells zeros 80))
    simp only [World.size_alloc] at this
    exact this
  have hB : Below (w.heap.size + 1) (w.alloc (.cells zeros 80)) ((w.alloc (.cells zeros 80)).alloc (.cells zeros 80)) := (Below.refl _ _).alloc (by simp) _
  obtain ⟨cs, g1, g2, hz, hc, h1, ho, hbel, g3, g4⟩ := open_leaves hS hB
  clear hS hB
  have hd : p < 0 ∨ (decide (p < 0) = false ∧ (len : Int) < p) := by
    by_cases h : p < 0
    · exact .inl h
    · exact .inr ⟨by simpa using h, by omega⟩
  unfold zeros at *
  rcases hd with hd | ⟨hd, hd2⟩
  all_goals
    go_enter Try.func51, Try.ntmps51
    go_wp2_with (first | refine wpList_load_row rfl 80 _ rfl (w.heap.size + 1) rfl 80 cs (0, 0) _ g1 Try.underlying80 rfl (by rw [hz]; exact info47) ?_ | refine wpList_put_row rfl 80 _ _ rfl w.heap.size cs rfl rfl 80 _ g2 (by rw [hz]; exact info47) (by rw [hz]; rfl) h1 ?_)
    refine bodyPost_ret (results_cell_row rfl _ _ w.heap.size 80 cs (0, 0) _ rfl g3 Try.underlying80 rfl (by rw [hz]; exact info47)) rfl ?_
    exact ⟨cs, _, rfl, hc, ho, hbel⟩

set_option maxRecDepth 100000 in
set_option maxHeartbeats 4000000 in
theorem fopen_some (a : Option Addr) (len cap : Nat) (l : List Tok) (n : Nat) (w : World) (hl : Toks w a len l) (hsz : len ≤ 4398046511104) (hlie : Lies a len cap) (hn : n ≤ len) : Calls Try.prog 51 #[.slice a len cap, .int .i64 (n : Int)] w (Opened w (opened l n)) := by
  obtain ⟨hc1, hc2, ha, hspot⟩ := hlie
  have hS0 : Hid (Stk ((w.alloc (.cells zeros 80)).alloc (.cells zeros 80)) (w.heap.size + 1) (w.heap.size + 1) (.slice none 0 0) []) := by
    have := stk_new (w.alloc (.cells zeros 80))
    simp only [World.size_alloc] at this
    exact this
  have hB0 : Hid (Below (w.heap.size + 1) (w.alloc (.cells zeros 80)) ((w.alloc (.cells zeros 80)).alloc (.cells zeros 80))) := (Below.refl _ _).alloc (by simp) _
  have HO : Hid (openL ((l.take n).drop 0) 0 [] = opened l n) := by
    show _ = _
    unfold opened
    rw [if_pos (by rw [hl.1]; omega), Int.toNat_natCast, List.drop_zero]
  have e0 : decide ((n : Int) < 0) = false := by simp
  have e1 : decide (len < n) = false := by simpa using hn
  generalize hTT : opened l n = T at *
  clear hTT
  rcases Nat.eq_zero_or_pos cap with h0 | h0
  · subst h0
    obtain rfl : len = 0 := by omega
    obtain rfl : n = 0 := by omega
    cases a with
    | none =>
      go_enter Try.func51, Try.ntmps51
      go_wp2
      go_loopw [21] (fun i w' => ∃ (k : Nat) (v : Value) (R : List Int), k ≤ 0 ∧ i = .int .i64 (k : Int) ∧ R.length ≤ k ∧ Stk w' (w.heap.size + 1) (w.heap.size + 1) v R ∧ openL ((l.take 0).drop k) k R = T ∧ Below (w.heap.size + 1) (w.alloc (.cells zeros 80)) w') (fun i _ => 0 - (intOf i).toNat)
      case atStart => exact ⟨0, _, [], Nat.zero_le _, rfl, by simp, hS0.out, HO.out, hB0.out⟩
      case round =>
        obtain ⟨k, v, R, hk, rfl, hR, hS, hT, hB⟩ := hrel
        have HZ := hB.size
        rw [World.size_alloc] at HZ
        by_cases hlt : k < 0
        · omega
        · obtain rfl : k = 0 := by omega
          rw [List.drop_eq_nil_of_le (by rw [List.length_take]; omega), openL] at hT
          obtain ⟨cs, g1, g2, hz, hc, h1, ho, hbel, g3, g4⟩ := open_leaves hS hB
          rw [hT] at hc ho
          clear hS hB hT HO
          unfold zeros at *
          go_wp2_with (first | refine wpList_load_row rfl 80 _ rfl (w.heap.size + 1) rfl 80 cs (0, 0) _ g1 Try.underlying80 rfl (by rw [hz]; exact info47) ?_ | refine wpList_put_row rfl 80 _ _ rfl w.heap.size cs rfl rfl 80 _ g2 (by rw [hz]; exact info47) (by rw [hz]; rfl) h1 ?_)
          refine bodyPost_ret (results_cell_row rfl _ _ w.heap.size 80 cs (0, 0) _ rfl g3 Try.underlying80 rfl (by rw [hz]; exact info47)) rfl ?_
          exact ⟨cs, _, rfl, hc, ho, hbel⟩
    | some x =>
      go_enter Try.func51, Try.ntmps51
      go_wp2
      go_loopw [21] (fun i w' => ∃ (k : Nat) (v : Value) (R : List Int), k ≤ 0 ∧ i = .int .i64 (k : Int) ∧ R.length ≤ k ∧ Stk w' (w.heap.size + 1) (w.heap.size + 1) v R ∧ openL ((l.take 0).drop k) k R = T ∧ Below (w.heap.size + 1) (w.alloc (.cells zeros 80)) w') (fun i _ => 0 - (intOf i).toNat)
      case atStart => exact ⟨0, _, [], Nat.zero_le _, rfl, by simp, hS0.out, HO.out, hB0.out⟩
      case round =>
        obtain ⟨k, v, R, hk, rfl, hR, hS, hT, hB⟩ := hrel
        have HZ := hB.size
        rw [World.size_alloc] at HZ
        by_cases hlt : k < 0
        · omega
        · obtain rfl : k = 0 := by omega
          rw [List.drop_eq_nil_of_le (by rw [List.length_take]; omega), openL] at hT
          obtain ⟨cs, g1, g2, hz, hc, h1, ho, hbel, g3, g4⟩ := open_leaves hS hB
          rw [hT] at hc ho
          clear hS hB hT HO
          unfold zeros at *
          go_wp2_with (first | refine wpList_load_row rfl 80 _ rfl (w.heap.size + 1) rfl 80 cs (0, 0) _ g1 Try.underlying80 rfl (by rw [hz]; exact info47) ?_ | refine wpList_put_row rfl 80 _ _ rfl w.heap.size cs rfl rfl 80 _ g2 (by rw [hz]; exact info47) (by rw [hz]; rfl) h1 ?_)
          refine bodyPost_ret (results_cell_row rfl _ _ w.heap.size 80 cs (0, 0) _ rfl g3 Try.underlying80 rfl (by rw [hz]; exact info47)) rfl ?_
          exact ⟨cs, _, rfl, hc, ho, hbel⟩
  · cases a with
    | none => exact absurd (ha rfl) (by omega)
    | some x =>
      obtain ⟨b, o, sp⟩ := x
      obtain rfl : sp = none := hspot _ rfl h0
      go_enter Try.func51, Try.ntmps51
      go_wp2
      go_loopw [21] (fun i w' => ∃ (k : Nat) (v : Value) (R : List Int), k ≤ n ∧ i = .int .i64 (k : Int) ∧ R.length ≤ k ∧ Stk w' (w.heap.size + 1) (w.heap.size + 1) v R ∧ openL ((l.take n).drop k) k R = T ∧ Below (w.heap.size + 1) (w.alloc (.cells zeros 80)) w') (fun i _ => n - (intOf i).toNat)
      case atStart => exact ⟨0, _, [], Nat.zero_le _, rfl, by simp, hS0.out, HO.out, hB0.out⟩
      case round =>
        obtain ⟨k, v, R, hk, rfl, hR, hS, hT, hB⟩ := hrel
        have HZ := hB.size
        rw [World.size_alloc] at HZ
        by_cases hlt : k < n
        · obtain ⟨x, hx, hst⟩ := openL_step (l := l) (N := n) hlt (by rw [hl.1]; exact hn) R
          obtain ⟨b', o', x', eb, hbl, hx', hc⟩ := hl.token (k := k) (by omega)
          cases eb
          rw [hx] at hx'
          obtain rfl := Option.some.inj hx'
          have hBw : Below w.heap.size w wr := ((Below.refl _ w).alloc (Nat.le_refl _) _).trans (hB.mono (by omega))
          obtain ⟨c0, c1, c2, c3⟩ := hc wr hBw
          rw [hst] at hT
          have HT : Hid (openL ((l.take n).drop (k + 1)) (k + 1) (turn x k R) = T) := hT
          have HP : Hid (∀ o, Calls Try.prog 36 #[.pointer (some ⟨w.heap.size + 1, 0, none⟩), .int .i64 (k : Int), tokV x] (wr.alloc o) fun e w' => e = .returned (.tuple #[]) ∧ ∃ v', Stk w' (w.heap.size + 1) (w.heap.size + 1) v' (turn x k R) ∧ Below (w.heap.size + 1) (wr.alloc o) w') := by
            intro o
            have hSo := hS.alloc o
            refine (fpass_calls (w.heap.size + 1) (w.heap.size + 1) v R k x _ hSo (by simp; omega) (by omega)).mono ?_
            rintro e w' ⟨e1, v', e2, e3, _⟩
            exact ⟨e1, v', e2, e3.below (Nat.le_refl _) (fun j hj => (own_base hSo.2.1 j hj).1) (by simp; omega)⟩
          have HTL : Hid ((turn x k R).length ≤ k + 1) := by
            show (turn x k R).length ≤ k + 1
            unfold turn
            split <;> (try split) <;> first | omega | (simp; omega)
          clear hT hst hx hc hl hS HO hBw
          generalize turn x k R = R' at *
          obtain ⟨xk, xt, xn, xm⟩ := x
          simp only [tokV] at *
          go_wp2_with fail
          refine (HP.out _).mono ?_
          rintro e W2 ⟨rfl, v', hS2, hB4⟩
          have hB5 := (hB.alloc (by omega) _).trans hB4
          go_wp2
          go_roundw
          case rel => exact ⟨k + 1, v', R', by omega, rfl, HTL.out, hS2, HT.out, hB5⟩
          case measure => simp [intOf]; omega
        · obtain rfl : k = n := by omega
          rw [List.drop_eq_nil_of_le (by rw [List.length_take]; omega), openL] at hT
          obtain ⟨cs, g1, g2, hz, hc, h1, ho, hbel, g3, g4⟩ := open_leaves hS hB
          rw [hT] at hc ho
          clear hS hB hT HO
          unfold zeros at *
          go_wp2_with (first | refine wpList_load_row rfl 80 _ rfl (w.heap.size + 1) rfl 80 cs (0, 0) _ g1 Try.underlying80 rfl (by rw [hz]; exact info47) ?_ | refine wpList_put_row rfl 80 _ _ rfl w.heap.size cs rfl rfl 80 _ g2 (by rw [hz]; exact info47) (by rw [hz]; rfl) h1 ?_)
          refine bodyPost_ret (results_cell_row rfl _ _ w.heap.size 80 cs (0, 0) _ rfl g3 Try.underlying80 rfl (by rw [hz]; exact info47)) rfl ?_
          exact ⟨cs, _, rfl, hc, ho, hbel⟩
end Go.Proofs.Ytgpopploimeeaaa
