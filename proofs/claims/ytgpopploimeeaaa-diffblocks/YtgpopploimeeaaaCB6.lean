/-
  PROVED HERE: what the texts FOpen, FDeep, End say (each has its own words below).
-/
import Derived.Test.YtgpopploimeeaaaCB5
import Derived.Deep.WholeRow
import Derived.Test.YtgpopploimeeaaaCB3
/- FOpen: flat.openAt at every slice of tokens and every number: what it returns; nothing that lay before is turned. -/
namespace Go.Proofs.Ytgpopploimeeaaa
open Go.RowKit

/-- How a slice lies. -/
def Lies (a : Option Addr) (len cap : Nat) : Prop := len ≤ cap ∧ cap ≤ 9223372036854775807 ∧ (a = none → cap = 0) ∧ (∀ x, a = some x → 0 < cap → x.spot = none)
/-- The cells of an empty stack. -/
def zeros : Array Value := #[.int .i64 0, .int .i64 0, .int .i64 0, .int .i64 0, .int .i64 0, .int .i64 0, .int .i64 0, .int .i64 0, .int .i64 0, .int .i64 0, .int .i64 0, .int .i64 0, .int .i64 0, .int .i64 0, .int .i64 0, .int .i64 0, .int .i64 0, .int .i64 0, .int .i64 0, .int .i64 0, .int .i64 0, .int .i64 0, .int .i64 0, .int .i64 0, .int .i64 0, .int .i64 0, .int .i64 0, .int .i64 0, .int .i64 0, .int .i64 0, .int .i64 0, .int .i64 0, .slice none 0 0, .int .i64 0]
theorem zeros_cells : StkCells (.slice none 0 0) [] zeros := by
  obtain ⟨_, _, cs, hg, hc⟩ := stk_new default
  have := heap_alloc_new (default : World) (.cells zeros 80)
  rw [show (default : World).alloc (.cells zeros 80) = (default : World).alloc (.cells #[.int .i64 0, .int .i64 0, .int .i64 0, .int .i64 0, .int .i64 0, .int .i64 0, .int .i64 0, .int .i64 0, .int .i64 0, .int .i64 0, .int .i64 0, .int .i64 0, .int .i64 0, .int .i64 0, .int .i64 0, .int .i64 0, .int .i64 0, .int .i64 0, .int .i64 0, .int .i64 0, .int .i64 0, .int .i64 0, .int .i64 0, .int .i64 0, .int .i64 0, .int .i64 0, .int .i64 0, .int .i64 0, .int .i64 0, .int .i64 0, .int .i64 0, .int .i64 0, .slice none 0 0, .int .i64 0] 80) from rfl, hg] at this
  rw [← (Obj.cells.inj (Option.some.inj this)).1]
  exact hc
theorem StkCells.one {v : Value} {R : List Int} {cs : Array Value} (h : StkCells v R cs) {a : Option Addr} {n c : Nat} (hv : v = .slice a n c) : cs.all (·.oneCell') = true := by
  obtain ⟨h0, h1, h2, h3, h4⟩ := h
  rw [Array.all_eq_true]
  intro i hi
  by_cases e : i < 32
  · obtain ⟨z, hz⟩ := h2 i e
    rw [Array.getElem?_eq_getElem hi] at hz
    rw [Option.some.inj hz]
    rfl
  · by_cases e2 : i = 32
    · subst e2
      rw [Array.getElem?_eq_getElem hi] at h3
      rw [Option.some.inj h3, hv]
      rfl
    · obtain rfl : i = 33 := by omega
      rw [Array.getElem?_eq_getElem hi] at h4
      rw [Option.some.inj h4]
      rfl
theorem info47 : (Try.prog.info? 80).map (·.size) = some 34 := by kernel_rfl
theorem wpList_put_row {P : Program} {ops : Array Oper} {rest : List Oper} {o : Oper} {a : Act} {w : World} {Q : Exit → Act → World → Prop} (hgd : o.guard = none) (ty : TypeId) (x y : Operand) (ho : o.op = .store ty x y)
    (g : Nat) (cells : Array Value) (hx : a.eval x = .pointer (some ⟨g, 0, none⟩)) (hy : a.eval y = .agg cells) (t : TypeId) (old : Array Value) (hg : w.heap[g]? = some (.cells old t (0, 0))) (hi : (P.info? ty).map (·.size) = some cells.size)
    (hold : old.size = cells.size) (h1 : cells.all (·.oneCell') = true) (h : wpList P ops Q rest (a.put o.dst undef) (w.setRow g cells)) : wpList P ops Q (o :: rest) a w :=
  wpList_plain hgd fun _ hK => wp_store_row ty x y ho g cells hx hy t old hg hi hold h1 (hK _ _ h)

theorem own_mono {w : World} {b b' : Nat} {e : TypeId} {v : Value} {n : Nat} {xs : List Value} (h : w.ownsRow b e 1 v n xs) (hb : b' ≤ b) : w.ownsRow b' e 1 v n xs := by
  obtain ⟨h1, h2 | ⟨g, cap, cur, h3, h4, h5⟩⟩ := h
  · exact ⟨h1, .inl h2⟩
  · exact ⟨h1, .inr ⟨g, cap, cur, h3, by omega, h5⟩⟩
/-- What openAt leaves. -/
theorem open_leaves {w wr : World} {v : Value} {R : List Int} (hS : Stk wr (w.heap.size + 1) (w.heap.size + 1) v R) (hB : Below (w.heap.size + 1) (w.alloc (.cells zeros 80)) wr) :
    ∃ cs, wr.heap[w.heap.size + 1]? = some (.cells cs 80 (0, 0)) ∧ wr.heap[w.heap.size]? = some (.cells zeros 80 (0, 0)) ∧ cs.size = 34 ∧ StkCells v R cs ∧ cs.all (·.oneCell') = true ∧
      (wr.setRow w.heap.size cs).ownsRow w.heap.size 3 1 v (R.length - 32) ((R.drop 32).map (Value.int .i64)) ∧ Below w.heap.size w (wr.setRow w.heap.size cs) ∧ (wr.setRow w.heap.size cs).heap[w.heap.size]? = some (.cells cs 80 (0, 0)) ∧ (wr.setRow w.heap.size cs).heap[w.heap.size + 1]? = some (.cells cs 80 (0, 0)) := by
  obtain ⟨_, h1, cs, h2, h3⟩ := hS
  have hz : wr.heap[w.heap.size]? = some (.cells zeros 80 (0, 0)) := (hB.block w.heap.size (by omega)).trans (heap_alloc_new w _)
  obtain ⟨a, c, hv⟩ := own_slice h1
  refine ⟨cs, h2, hz, h3.1, h3, h3.one hv, ?_, ?_, ?_, ?_⟩
  · have h4 := own_mono h1 (show w.heap.size ≤ w.heap.size + 1 by omega)
    obtain ⟨k1, k2 | ⟨g, cap, cur, rfl, hb, hg, k3⟩⟩ := h1
    · exact ⟨k1, .inl k2⟩
    · refine ⟨k1, .inr ⟨g, cap, cur, rfl, by omega, ?_, k3⟩⟩
      rw [setRow_other _ _ _ _ (by omega)]
      exact hg
  · have h5 : Below w.heap.size w wr := ((Below.refl _ w).alloc (Nat.le_refl _) _).trans (hB.mono (by omega))
    exact ⟨h5.os, h5.tape, h5.output, by simpa using h5.size, fun k hk => by rw [setRow_other _ _ _ _ (by omega)]; exact h5.block k hk⟩
  · exact setRow_heap _ _ _ _ _ _ hz
  · rw [setRow_other _ _ _ _ (by omega)]
    exact h2

/-- What openAt returns. -/
def Opened (w : World) (R : List Int) (e : Ending) (w' : World) : Prop := ∃ cs v, e = .returned (.agg cs) ∧ StkCells v R cs ∧ w'.ownsRow w.heap.size 3 1 v (R.length - 32) ((R.drop 32).map (Value.int .i64)) ∧ Below w.heap.size w w'

set_option maxRecDepth 100000 in
set_option maxHeartbeats 2000000 in
theorem fopen_none (a : Option Addr) (len cap : Nat) (p : Int) (w : World) (hp : p < 0 ∨ (len : Int) < p) : Calls Try.prog 51 #[.slice a len cap, .int .i64 p] w (Opened w []) := by
  have hS : Stk ((w.alloc (.cells zeros 80)).alloc (.cells zeros 80)) (w.heap.size + 1) (w.heap.size + 1) (.slice none 0 0) [] := by
    have := stk_new (w.alloc (.cells zeros 80))
    simp only [World.size_alloc] at this
    exact this
  have hB : Below (w.heap.size + 1) (w.alloc (.cells zeros 80)) ((w.alloc (.cells zeros 80)).alloc (.cells zeros 80)) := (Below.refl _ _).alloc (by simp) _
  obtain ⟨cs, g1, g2, hz, hc, h1, ho, hbel, g3, g4⟩ := open_leaves hS hB
  clear hS hB
  have hd : p < 0 ∨ (decide (p < 0) = false ∧ (len : Int) < p) := by
    by_cases h : p < 0
    · exact .inl h
    · exact .inr ⟨by simpa using h, by omega⟩
  unfold zeros at *
  rcases hd with hd | ⟨hd, hd2⟩
  all_goals
    go_enter Try.func51, Try.ntmps51
    go_wp2_with (first | refine wpList_load_row rfl 80 _ rfl (w.heap.size + 1) rfl 80 cs (0, 0) _ g1 Try.underlying80 rfl (by rw [hz]; exact info47) ?_ | refine wpList_put_row rfl 80 _ _ rfl w.heap.size cs rfl rfl 80 _ g2 (by rw [hz]; exact info47) (by rw [hz]; rfl) h1 ?_)
    refine bodyPost_ret (results_cell_row rfl _ _ w.heap.size 80 cs (0, 0) _ rfl g3 Try.underlying80 rfl (by rw [hz]; exact info47)) rfl ?_
    exact ⟨cs, _, rfl, hc, ho, hbel⟩

set_option maxRecDepth 100000 in
set_option maxHeartbeats 4000000 in
theorem fopen_some (a : Option Addr) (len cap : Nat) (l : List Tok) (n : Nat) (w : World) (hl : Toks w a len l) (hsz : len ≤ 4398046511104) (hlie : Lies a len cap) (hn : n ≤ len) : Calls Try.prog 51 #[.slice a len cap, .int .i64 (n : Int)] w (Opened w (opened l n)) := by
  obtain ⟨hc1, hc2, ha, hspot⟩ := hlie
  have hS0 : Hid (Stk ((w.alloc (.cells zeros 80)).alloc (.cells zeros 80)) (w.heap.size + 1) (w.heap.size + 1) (.slice none 0 0) []) := by
    have := stk_new (w.alloc (.cells zeros 80))
    simp only [World.size_alloc] at this
    exact this
  have hB0 : Hid (Below (w.heap.size + 1) (w.alloc (.cells zeros 80)) ((w.alloc (.cells zeros 80)).alloc (.cells zeros 80))) := (Below.refl _ _).alloc (by simp) _
  have HO : Hid (openL ((l.take n).drop 0) 0 [] = opened l n) := by
    show _ = _
    unfold opened
    rw [if_pos (by rw [hl.1]; omega), Int.toNat_natCast, List.drop_zero]
  have e0 : decide ((n : Int) < 0) = false := by simp
  have e1 : decide (len < n) = false := by simpa using hn
  generalize hTT : opened l n = T at *
  clear hTT
  rcases Nat.eq_zero_or_pos cap with h0 | h0
  · subst h0
    obtain rfl : len = 0 := by omega
    obtain rfl : n = 0 := by omega
    cases a with
    | none =>
      go_enter Try.func51, Try.ntmps51
      go_wp2
      go_loopw [21] (fun i w' => ∃ (k : Nat) (v : Value) (R : List Int), k ≤ 0 ∧ i = .int .i64 (k : Int) ∧ R.length ≤ k ∧ Stk w' (w.heap.size + 1) (w.heap.size + 1) v R ∧ openL ((l.take 0).drop k) k R = T ∧ Below (w.heap.size + 1) (w.alloc (.cells zeros 80)) w') (fun i _ => 0 - (intOf i).toNat)
      case atStart => exact ⟨0, _, [], Nat.zero_le _, rfl, by simp, hS0.out, HO.out, hB0.out⟩
      case round =>
        obtain ⟨k, v, R, hk, rfl, hR, hS, hT, hB⟩ := hrel
        have HZ := hB.size
        rw [World.size_alloc] at HZ
        by_cases hlt : k < 0
        · omega
        · obtain rfl : k = 0 := by omega
          rw [List.drop_eq_nil_of_le (by rw [List.length_take]; omega), openL] at hT
          obtain ⟨cs, g1, g2, hz, hc, h1, ho, hbel, g3, g4⟩ := open_leaves hS hB
          rw [hT] at hc ho
          clear hS hB hT HO
          unfold zeros at *
          go_wp2_with (first | refine wpList_load_row rfl 80 _ rfl (w.heap.size + 1) rfl 80 cs (0, 0) _ g1 Try.underlying80 rfl (by rw [hz]; exact info47) ?_ | refine wpList_put_row rfl 80 _ _ rfl w.heap.size cs rfl rfl 80 _ g2 (by rw [hz]; exact info47) (by rw [hz]; rfl) h1 ?_)
          refine bodyPost_ret (results_cell_row rfl _ _ w.heap.size 80 cs (0, 0) _ rfl g3 Try.underlying80 rfl (by rw [hz]; exact info47)) rfl ?_
          exact ⟨cs, _, rfl, hc, ho, hbel⟩
    | some x =>
      go_enter Try.func51, Try.ntmps51
      go_wp2
      go_loopw [21] (fun i w' => ∃ (k : Nat) (v : Value) (R : List Int), k ≤ 0 ∧ i = .int .i64 (k : Int) ∧ R.length ≤ k ∧ Stk w' (w.heap.size + 1) (w.heap.size + 1) v R ∧ openL ((l.take 0).drop k) k R = T ∧ Below (w.heap.size + 1) (w.alloc (.cells zeros 80)) w') (fun i _ => 0 - (intOf i).toNat)
      case atStart => exact ⟨0, _, [], Nat.zero_le _, rfl, by simp, hS0.out, HO.out, hB0.out⟩
      case round =>
        obtain ⟨k, v, R, hk, rfl, hR, hS, hT, hB⟩ := hrel
        have HZ := hB.size
        rw [World.size_alloc] at HZ
        by_cases hlt : k < 0
        · omega
        · obtain rfl : k = 0 := by omega
          rw [List.drop_eq_nil_of_le (by rw [List.length_take]; omega), openL] at hT
          obtain ⟨cs, g1, g2, hz, hc, h1, ho, hbel, g3, g4⟩ := open_leaves hS hB
          rw [hT] at hc ho
          clear hS hB hT HO
          unfold zeros at *
          go_wp2_with (first | refine wpList_load_row rfl 80 _ rfl (w.heap.size + 1) rfl 80 cs (0, 0) _ g1 Try.underlying80 rfl (by rw [hz]; exact info47) ?_ | refine wpList_put_row rfl 80 _ _ rfl w.heap.size cs rfl rfl 80 _ g2 (by rw [hz]; exact info47) (by rw [hz]; rfl) h1 ?_)
          refine bodyPost_ret (results_cell_row rfl _ _ w.heap.size 80 cs (0, 0) _ rfl g3 Try.underlying80 rfl (by rw [hz]; exact info47)) rfl ?_
          exact ⟨cs, _, rfl, hc, ho, hbel⟩
  · cases a with
    | none => exact absurd (ha rfl) (by omega)
    | some x =>
      obtain ⟨b, o, sp⟩ := x
      obtain rfl : sp = none := hspot _ rfl h0
      go_enter Try.func51, Try.ntmps51
      go_wp2
      go_loopw [21] (fun i w' => ∃ (k : Nat) (v : Value) (R : List Int), k ≤ n ∧ i = .int .i64 (k : Int) ∧ R.length ≤ k ∧ Stk w' (w.heap.size + 1) (w.heap.size + 1) v R ∧ openL ((l.take n).drop k) k R = T ∧ Below (w.heap.size + 1) (w.alloc (.cells zeros 80)) w') (fun i _ => n - (intOf i).toNat)
      case atStart => exact ⟨0, _, [], Nat.zero_le _, rfl, by simp, hS0.out, HO.out, hB0.out⟩
      case round =>
        obtain ⟨k, v, R, hk, rfl, hR, hS, hT, hB⟩ := hrel
        have HZ := hB.size
        rw [World.size_alloc] at HZ
        by_cases hlt : k < n
        · obtain ⟨x, hx, hst⟩ := openL_step (l := l) (N := n) hlt (by rw [hl.1]; exact hn) R
          obtain ⟨b', o', x', eb, hbl, hx', hc⟩ := hl.token (k := k) (by omega)
          cases eb
          rw [hx] at hx'
          obtain rfl := Option.some.inj hx'
          have hBw : Below w.heap.size w wr := ((Below.refl _ w).alloc (Nat.le_refl _) _).trans (hB.mono (by omega))
          obtain ⟨c0, c1, c2, c3⟩ := hc wr hBw
          rw [hst] at hT
          have HT : Hid (openL ((l.take n).drop (k + 1)) (k + 1) (turn x k R) = T) := hT
          have HP : Hid (∀ o, Calls Try.prog 36 #[.pointer (some ⟨w.heap.size + 1, 0, none⟩), .int .i64 (k : Int), tokV x] (wr.alloc o) fun e w' => e = .returned (.tuple #[]) ∧ ∃ v', Stk w' (w.heap.size + 1) (w.heap.size + 1) v' (turn x k R) ∧ Below (w.heap.size + 1) (wr.alloc o) w') := by
            intro o
            have hSo := hS.alloc o
            refine (fpass_calls (w.heap.size + 1) (w.heap.size + 1) v R k x _ hSo (by simp; omega) (by omega)).mono ?_
            rintro e w' ⟨e1, v', e2, e3, _⟩
            exact ⟨e1, v', e2, e3.below (Nat.le_refl _) (fun j hj => (own_base hSo.2.1 j hj).1) (by simp; omega)⟩
          have HTL : Hid ((turn x k R).length ≤ k + 1) := by
            show (turn x k R).length ≤ k + 1
            unfold turn
            split <;> (try split) <;> first | omega | (simp; omega)
          clear hT hst hx hc hl hS HO hBw
          generalize turn x k R = R' at *
          obtain ⟨xk, xt, xn, xm⟩ := x
          simp only [tokV] at *
          go_wp2_with fail
          refine (HP.out _).mono ?_
          rintro e W2 ⟨rfl, v', hS2, hB4⟩
          have hB5 := (hB.alloc (by omega) _).trans hB4
          go_wp2
          go_roundw
          case rel => exact ⟨k + 1, v', R', by omega, rfl, HTL.out, hS2, HT.out, hB5⟩
          case measure => simp [intOf]; omega
        · obtain rfl : k = n := by omega
          rw [List.drop_eq_nil_of_le (by rw [List.length_take]; omega), openL] at hT
          obtain ⟨cs, g1, g2, hz, hc, h1, ho, hbel, g3, g4⟩ := open_leaves hS hB
          rw [hT] at hc ho
          clear hS hB hT HO
          unfold zeros at *
          go_wp2_with (first | refine wpList_load_row rfl 80 _ rfl (w.heap.size + 1) rfl 80 cs (0, 0) _ g1 Try.underlying80 rfl (by rw [hz]; exact info47) ?_ | refine wpList_put_row rfl 80 _ _ rfl w.heap.size cs rfl rfl 80 _ g2 (by rw [hz]; exact info47) (by rw [hz]; rfl) h1 ?_)
          refine bodyPost_ret (results_cell_row rfl _ _ w.heap.size 80 cs (0, 0) _ rfl g3 Try.underlying80 rfl (by rw [hz]; exact info47)) rfl ?_
          exact ⟨cs, _, rfl, hc, ho, hbel⟩
end Go.Proofs.Ytgpopploimeeaaa

/- FDeep: flat.openAt, flat.Deep and flat.Around at every slice of tokens and every number: what they return; nothing that lay before is turned. -/
namespace Go.Proofs.Ytgpopploimeeaaa
open Go.RowKit

theorem fopen_calls (a : Option Addr) (len cap : Nat) (l : List Tok) (p : Int) (w : World) (hl : Toks w a len l) (hsz : len ≤ 4398046511104) (hlie : Lies a len cap) : Calls Try.prog 51 #[.slice a len cap, .int .i64 p] w (Opened w (opened l p)) := by
  by_cases hp : p < 0 ∨ (len : Int) < p
  · rw [show opened l p = [] from by
      unfold opened
      rw [hl.1]
      split
      · rw [show p.toNat = 0 from by omega]
        rfl
      · rfl]
    exact fopen_none a len cap p w hp
  · obtain ⟨n, rfl⟩ := Int.eq_ofNat_of_zero_le (show 0 ≤ p by omega)
    exact fopen_some a len cap l n w hl hsz hlie (by omega)
/-- A stack that was handed back, laid into a new block. -/
theorem stk_laid {w W : World} {cs : Array Value} {v : Value} {R : List Int} (hc : StkCells v R cs) (ho : W.ownsRow w.heap.size 3 1 v (R.length - 32) ((R.drop 32).map (Value.int .i64))) (hB : Below w.heap.size w W) : Stk (W.alloc (.cells cs 80)) w.heap.size W.heap.size v R :=
  ⟨hB.size, ho.alloc _, cs, heap_alloc_new W _, hc⟩

set_option maxRecDepth 100000 in
set_option maxHeartbeats 1000000 in
theorem faround_calls (a : Option Addr) (len cap : Nat) (l : List Tok) (p : Int) (w : World) (hl : Toks w a len l) (hsz : len ≤ 4398046511104) (hlie : Lies a len cap) :
    Calls Try.prog 38 #[.slice a len cap, .int .i64 p] w fun e w' => e = .returned (.int .i64 (around l p)) ∧ Below w.heap.size w w' := by
  have h1 := fopen_calls a len cap l p w hl hsz hlie
  have hq := opened_length l p
  rw [hl.1] at hq
  unfold around
  generalize opened l p = R at *
  obtain ⟨y, hy⟩ : ∃ y, R.getLast?.getD (-1) = y := ⟨_, rfl⟩
  rw [hy]
  go_enter Try.func38, Try.ntmps38
  go_wp2_with fail
  refine h1.mono ?_
  rintro e W ⟨cs, v, rfl, hc, ho, hB⟩
  have ht := ftop_calls _ _ _ _ _ (stk_laid hc ho hB) (by omega)
  obtain ⟨a', c', hv⟩ := own_slice ho
  have h1c := hc.one hv
  have hz := hc.1
  have hB2 := hB.alloc hB.size (.cells cs 80)
  rw [hy] at ht
  clear hc ho h1 hy
  go_wp2_with (first | (refine wpList_put_row rfl 80 _ _ rfl W.heap.size cs rfl rfl 80 _ (heap_alloc_new W _) (by rw [hz]; exact info47) (by rw [hz]; rfl) h1c ?_; rw [World.setRow_alloc_new]) | (go_at_call 34; refine ht.mono ?_; rintro e W2 ⟨rfl, q, rfl⟩))
  go_ret
  exact ⟨rfl, below_drewN hB2 _⟩
end Go.Proofs.Ytgpopploimeeaaa

/- End: plain facts on tokens: what is open from a TOpen on, step by step, till it is ended; no program in it. -/
namespace Go.Proofs.Ytgpopploimeeaaa

/-- What is open from the TOpen at i on. -/
def Since (l : List Tok) (i k : Nat) (S : List Int) : Prop :=
  (k = i ∧ S = []) ∨ (i < k ∧ ∃ S', S = (i : Int) :: S' ∧ (∀ x ∈ S', (i : Int) < x) ∧ opened l k = opened l i ++ S)
theorem since_around {l : List Tok} {i k : Nat} {S : List Int} (h : Since l i k S) (hk : i < k) : around l k = S.getLast?.getD (-1) ∧ (around l k = i ↔ S = [(i : Int)]) := by
  rcases h with ⟨rfl, _⟩ | ⟨_, S', rfl, h1, h2⟩
  · omega
  · have h3 : around l k = ((i : Int) :: S').getLast?.getD (-1) := by
      unfold around
      rw [h2, List.getLast?_append]
      cases h4 : ((i : Int) :: S').getLast? with
      | none => simp at h4
      | some y => simp
    refine ⟨h3, ?_⟩
    rw [h3]
    constructor
    · intro h4
      cases S' with
      | nil => rfl
      | cons y r =>
        have h5 : ((i : Int) :: y :: r).getLast? = (y :: r).getLast? := by simp [List.getLast?_cons]
        rw [h5] at h4
        cases h6 : (y :: r).getLast? with
        | none => simp at h6
        | some z =>
          rw [h6] at h4
          have := h1 z (List.mem_of_getLast? h6)
          simp at h4
          omega
    · intro h4
      rw [h4]
      rfl
theorem turn_one {x : Tok} {k : Nat} {S : List Int} (h : x.k = 1) : turn x k S = S ++ [(k : Int)] := by unfold turn; rw [if_pos h]
theorem turn_two {x : Tok} {k : Nat} {S : List Int} (h : x.k = 2) : turn x k S = S.dropLast := by unfold turn; rw [if_neg (by omega), if_pos h]
theorem turn_else {x : Tok} {k : Nat} {S : List Int} (h1 : x.k ≠ 1) (h2 : x.k ≠ 2) : turn x k S = S := by unfold turn; rw [if_neg h1, if_neg h2]
/-- One token on. -/
theorem since_step {l : List Tok} {i k : Nat} {S : List Int} {x : Tok} (h : Since l i k S) (hik : i ≤ k) (hx : l[k]? = some x) (hi : kindAt l i = 1) :
    (turn x k S = [] ∧ i < k ∧ x.k = 2 ∧ S = [(i : Int)]) ∨ (turn x k S ≠ [] ∧ Since l i (k + 1) (turn x k S) ∧ (i < k → ¬ (x.k = 2 ∧ S = [(i : Int)]))) := by
  have hs := opened_succ l k x hx
  rcases h with ⟨rfl, rfl⟩ | ⟨h0, S', rfl, h1, h2⟩
  · rw [kindAt_some hx] at hi
    rw [turn_one hi] at hs ⊢
    refine .inr ⟨by simp, .inr ⟨by omega, [], rfl, by simp, hs⟩, fun h => by omega⟩
  · by_cases k1 : x.k = 1
    · rw [turn_one k1] at hs ⊢
      refine .inr ⟨by simp, .inr ⟨by omega, S' ++ [(k : Int)], rfl, fun y hy => ?_, ?_⟩, fun _ h => by omega⟩
      · rcases List.mem_append.1 hy with hy | hy
        · exact h1 y hy
        · obtain rfl : y = (k : Int) := by simpa using hy
          omega
      · rw [hs, h2]
        simp
    · by_cases k2 : x.k = 2
      · rw [turn_two k2] at hs ⊢
        cases S' with
        | nil => exact .inl ⟨rfl, h0, k2, rfl⟩
        | cons y r =>
          refine .inr ⟨by simp, .inr ⟨by omega, (y :: r).dropLast, rfl, fun z hz => h1 z (List.dropLast_subset _ hz), ?_⟩, fun _ h => by simp at h⟩
          rw [hs, h2, List.dropLast_append_of_ne_nil (by simp)]
      · rw [turn_else k1 k2] at hs ⊢
        exact .inr ⟨by simp, .inr ⟨by omega, S', rfl, h1, by rw [hs, h2]⟩, fun _ h => k2 h.1⟩

/-- How the partner of a TOpen is looked for. -/
def Seeks (l : List Tok) (i k : Nat) (P : Int) : Prop := (k = i ∧ P = seek l i (i + 1) (l.length - (i + 1))) ∨ (i < k ∧ P = seek l i k (l.length - k))
theorem end_step {l : List Tok} {i k : Nat} {S : List Int} {x : Tok} {P : Int} (h : Since l i k S) (hik : i ≤ k) (hk : k < l.length) (hx : l[k]? = some x) (hi : kindAt l i = 1) (hP : Seeks l i k P) :
    (turn x k S = [] ∧ P = k) ∨ (turn x k S ≠ [] ∧ Since l i (k + 1) (turn x k S) ∧ Seeks l i (k + 1) P) := by
  have hst := since_step h hik hx hi
  rcases hP with ⟨rfl, hP⟩ | ⟨hlt, hP⟩
  · rcases hst with ⟨_, h2, _⟩ | ⟨h1, h2, _⟩
    · omega
    · exact .inr ⟨h1, h2, .inr ⟨by omega, hP⟩⟩
  · have ha := (since_around h hlt).2
    rw [show l.length - k = (l.length - (k + 1)) + 1 from by omega, seek, kindAt_some hx] at hP
    rcases hst with ⟨h1, _, h3, h4⟩ | ⟨h1, h2, h3⟩
    · rw [if_pos ⟨h3, ha.2 h4⟩] at hP
      exact .inl ⟨h1, hP⟩
    · rw [if_neg (fun h => h3 hlt ⟨h.1, ha.1 h.2⟩)] at hP
      exact .inr ⟨h1, h2, .inr ⟨by omega, hP⟩⟩
theorem end_none {l : List Tok} {i : Nat} {P : Int} (hi : i < l.length) (hP : Seeks l i l.length P) : P = -1 := by
  rcases hP with ⟨h, _⟩ | ⟨_, h⟩
  · omega
  · rw [Nat.sub_self, seek] at h
    exact h

/-- How what stands just in a place is gathered. -/
def Gathers (l : List Tok) (i : Int) (k : Nat) (out K : List Int) : Prop := (i = k ∧ out = [] ∧ K = kidsL l i (k + 1) (l.length - (k + 1)) []) ∨ (i < k ∧ K = kidsL l i k (l.length - k) out)
/-- What is kept of what stands at k. -/
def kept (i : Int) (x : Tok) (k : Nat) (S out : List Int) : List Int := if S.getLast?.getD (-1) = i ∧ (x.k = 0 ∨ x.k = 1 ∨ x.k = 3) then out ++ [(k : Int)] else out
theorem kids_step {l : List Tok} {i k : Nat} {S out K : List Int} {x : Tok} (h : Since l i k S) (hik : i ≤ k) (hk : k < l.length) (hx : l[k]? = some x) (hi : kindAt l i = 1) (hP : Gathers l i k out K) :
    (turn x k S = [] ∧ K = kept i x k S out) ∨ (turn x k S ≠ [] ∧ Since l i (k + 1) (turn x k S) ∧ Gathers l i (k + 1) (kept i x k S out) K) := by
  have hst := since_step h hik hx hi
  rcases hP with ⟨e, rfl, hP⟩ | ⟨hlt, hP⟩
  · obtain rfl : i = k := by omega
    rcases hst with ⟨_, h2, _⟩ | ⟨h1, h2, _⟩
    · omega
    · refine .inr ⟨h1, h2, .inr ⟨by omega, ?_⟩⟩
      rcases h with ⟨_, rfl⟩ | ⟨h, _⟩
      · unfold kept
        rw [if_neg (by simp), hP]
      · omega
  · have hlt' : i < k := by omega
    obtain ⟨ha1, ha⟩ := since_around h hlt'
    have hkp : kept i x k S out = if x.k ≠ 2 ∧ 0 ≤ x.k ∧ x.k ≤ 3 ∧ around l k = i then out ++ [(k : Int)] else out := by
      unfold kept
      rw [← ha1]
      by_cases c : around l k = i ∧ (x.k = 0 ∨ x.k = 1 ∨ x.k = 3)
      · rw [if_pos c, if_pos (by omega)]
      · rw [if_neg c, if_neg (by omega)]
    rw [show l.length - k = (l.length - (k + 1)) + 1 from by omega, kidsL, kindAt_some hx, ← hkp] at hP
    rcases hst with ⟨h1, _, h3, h4⟩ | ⟨h1, h2, h3⟩
    · rw [if_pos ⟨h3, ha.2 h4, by omega⟩] at hP
      refine .inl ⟨h1, ?_⟩
      rw [hP, hkp, if_neg (by omega)]
    · rw [if_neg (fun h => h3 hlt' ⟨h.1, ha.1 h.2.1⟩)] at hP
      exact .inr ⟨h1, h2, .inr ⟨by omega, hP⟩⟩
theorem kids_none {l : List Tok} {i : Int} {out K : List Int} (hi : i < l.length) (hP : Gathers l i l.length out K) : K = out := by
  rcases hP with ⟨h, _⟩ | ⟨_, h⟩
  · omega
  · rw [Nat.sub_self, kidsL] at h
    exact h
/-- In nothing. -/
theorem kids_out {l : List Tok} {k : Nat} {out K : List Int} {x : Tok} (hk : k < l.length) (hx : l[k]? = some x) (hP : Gathers l (-1) k out K) : Gathers l (-1) (k + 1) (kept (-1) x k (opened l k) out) K := by
  rcases hP with ⟨e, _⟩ | ⟨_, hP⟩
  · omega
  · refine .inr ⟨by omega, ?_⟩
    have hkp : kept (-1) x k (opened l k) out = if x.k ≠ 2 ∧ 0 ≤ x.k ∧ x.k ≤ 3 ∧ around l k = -1 then out ++ [(k : Int)] else out := by
      unfold kept
      rw [show (opened l k).getLast?.getD (-1) = around l k from rfl]
      by_cases c : around l k = -1 ∧ (x.k = 0 ∨ x.k = 1 ∨ x.k = 3)
      · rw [if_pos c, if_pos (by omega)]
      · rw [if_neg c, if_neg (by omega)]
    rw [show l.length - k = (l.length - (k + 1)) + 1 from by omega, kidsL, kindAt_some hx, ← hkp, if_neg (by omega)] at hP
    exact hP
end Go.Proofs.Ytgpopploimeeaaa
