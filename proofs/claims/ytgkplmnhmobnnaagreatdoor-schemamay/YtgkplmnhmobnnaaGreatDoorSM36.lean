/-
  PROVED HERE: what the texts FOpen, FDeep, Txt, Doc say (each has its own words below).
-/
import Derived.Test.YtgkplmnhmobnnaaGreatDoorSM34
import Derived.Deep.WholeRow
import Derived.Test.YtgkplmnhmobnnaaGreatDoorSM31
import Derived.Test.YtgkplmnhmobnnaaGreatDoorSM32
/- FOpen: flat.openAt at every slice of tokens and every number: what it returns; nothing that lay before is turned. -/
namespace Go.Proofs.YtgkplmnhmobnnaaGreatDoor
open Go.RowKit

/-- How a slice lies. -/
def Lies (a : Option Addr) (len cap : Nat) : Prop := len ≤ cap ∧ cap ≤ 9223372036854775807 ∧ (a = none → cap = 0) ∧ (∀ x, a = some x → 0 < cap → x.spot = none)
/-- The cells of an empty stack. -/
def zeros : Array Value := #[.int .i64 0, .int .i64 0, .int .i64 0, .int .i64 0, .int .i64 0, .int .i64 0, .int .i64 0, .int .i64 0, .int .i64 0, .int .i64 0, .int .i64 0, .int .i64 0, .int .i64 0, .int .i64 0, .int .i64 0, .int .i64 0, .int .i64 0, .int .i64 0, .int .i64 0, .int .i64 0, .int .i64 0, .int .i64 0, .int .i64 0, .int .i64 0, .int .i64 0, .int .i64 0, .int .i64 0, .int .i64 0, .int .i64 0, .int .i64 0, .int .i64 0, .int .i64 0, .slice none 0 0, .int .i64 0]
theorem zeros_cells : StkCells (.slice none 0 0) [] zeros := by
  obtain ⟨_, _, cs, hg, hc⟩ := stk_new default
  have := heap_alloc_new (default : World) (.cells zeros 97)
  rw [show (default : World).alloc (.cells zeros 97) = (default : World).alloc (.cells #[.int .i64 0, .int .i64 0, .int .i64 0, .int .i64 0, .int .i64 0, .int .i64 0, .int .i64 0, .int .i64 0, .int .i64 0, .int .i64 0, .int .i64 0, .int .i64 0, .int .i64 0, .int .i64 0, .int .i64 0, .int .i64 0, .int .i64 0, .int .i64 0, .int .i64 0, .int .i64 0, .int .i64 0, .int .i64 0, .int .i64 0, .int .i64 0, .int .i64 0, .int .i64 0, .int .i64 0, .int .i64 0, .int .i64 0, .int .i64 0, .int .i64 0, .int .i64 0, .slice none 0 0, .int .i64 0] 97) from rfl, hg] at this
  rw [← (Obj.cells.inj (Option.some.inj this)).1]
  exact hc
theorem StkCells.one {v : Value} {R : List Int} {cs : Array Value} (h : StkCells v R cs) {a : Option Addr} {n c : Nat} (hv : v = .slice a n c) : cs.all (·.oneCell') = true := by
  obtain ⟨h0, h1, h2, h3, h4⟩ := h
  rw [Array.all_eq_true]
  intro i hi
  by_cases e : i < 32
  · obtain ⟨z, hz⟩ := h2 i e
    rw [Array.getElem?_eq_getElem hi] at hz
    rw [Option.some.inj hz]
    rfl
  · by_cases e2 : i = 32
    · subst e2
      rw [Array.getElem?_eq_getElem hi] at h3
      rw [Option.some.inj h3, hv]
      rfl
    · obtain rfl : i = 33 := by omega
      rw [Array.getElem?_eq_getElem hi] at h4
      rw [Option.some.inj h4]
      rfl
theorem info47 : (Tryz.prog.info? 97).map (·.size) = some 34 := by kernel_rfl
theorem wpList_put_row {P : Program} {ops : Array Oper} {rest : List Oper} {o : Oper} {a : Act} {w : World} {Q : Exit → Act → World → Prop} (hgd : o.guard = none) (ty : TypeId) (x y : Operand) (ho : o.op = .store ty x y)
    (g : Nat) (cells : Array Value) (hx : a.eval x = .pointer (some ⟨g, 0, none⟩)) (hy : a.eval y = .agg cells) (t : TypeId) (old : Array Value) (hg : w.heap[g]? = some (.cells old t (0, 0))) (hi : (P.info? ty).map (·.size) = some cells.size)
    (hold : old.size = cells.size) (h1 : cells.all (·.oneCell') = true) (h : wpList P ops Q rest (a.put o.dst undef) (w.setRow g cells)) : wpList P ops Q (o :: rest) a w :=
  wpList_plain hgd fun _ hK => wp_store_row ty x y ho g cells hx hy t old hg hi hold h1 (hK _ _ h)

theorem own_mono {w : World} {b b' : Nat} {e : TypeId} {v : Value} {n : Nat} {xs : List Value} (h : w.ownsRow b e 1 v n xs) (hb : b' ≤ b) : w.ownsRow b' e 1 v n xs := by
  obtain ⟨h1, h2 | ⟨g, cap, cur, h3, h4, h5⟩⟩ := h
  · exact ⟨h1, .inl h2⟩
  · exact ⟨h1, .inr ⟨g, cap, cur, h3, by omega, h5⟩⟩
/-- What openAt leaves. -/
theorem open_leaves {w wr : World} {v : Value} {R : List Int} (hS : Stk wr (w.heap.size + 1) (w.heap.size + 1) v R) (hB : Below (w.heap.size + 1) (w.alloc (.cells zeros 97)) wr) :
    ∃ cs, wr.heap[w.heap.size + 1]? = some (.cells cs 97 (0, 0)) ∧ wr.heap[w.heap.size]? = some (.cells zeros 97 (0, 0)) ∧ cs.size = 34 ∧ StkCells v R cs ∧ cs.all (·.oneCell') = true ∧
      (wr.setRow w.heap.size cs).ownsRow w.heap.size 3 1 v (R.length - 32) ((R.drop 32).map (Value.int .i64)) ∧ Below w.heap.size w (wr.setRow w.heap.size cs) ∧ (wr.setRow w.heap.size cs).heap[w.heap.size]? = some (.cells cs 97 (0, 0)) ∧ (wr.setRow w.heap.size cs).heap[w.heap.size + 1]? = some (.cells cs 97 (0, 0)) := by
  obtain ⟨_, h1, cs, h2, h3⟩ := hS
  have hz : wr.heap[w.heap.size]? = some (.cells zeros 97 (0, 0)) := (hB.block w.heap.size (by omega)).trans (heap_alloc_new w _)
  obtain ⟨a, c, hv⟩ := own_slice h1
  refine ⟨cs, h2, hz, h3.1, h3, h3.one hv, ?_, ?_, ?_, ?_⟩
  · have h4 := own_mono h1 (show w.heap.size ≤ w.heap.size + 1 by omega)
    obtain ⟨k1, k2 | ⟨g, cap, cur, rfl, hb, hg, k3⟩⟩ := h1
    · exact ⟨k1, .inl k2⟩
    · refine ⟨k1, .inr ⟨g, cap, cur, rfl, by omega, ?_, k3⟩⟩
      rw [setRow_other _ _ _ _ (by omega)]
      exact hg
  · have h5 : Below w.heap.size w wr := ((Below.refl _ w).alloc (Nat.le_refl _) _).trans (hB.mono (by omega))
    exact ⟨h5.os, h5.tape, h5.output, by simpa using h5.size, fun k hk => by rw [setRow_other _ _ _ _ (by omega)]; exact h5.block k hk⟩
  · exact setRow_heap _ _ _ _ _ _ hz
  · rw [setRow_other _ _ _ _ (by omega)]
    exact h2

/-- What openAt returns. -/
def Opened (w : World) (R : List Int) (e : Ending) (w' : World) : Prop := ∃ cs v, e = .returned (.agg cs) ∧ StkCells v R cs ∧ w'.ownsRow w.heap.size 3 1 v (R.length - 32) ((R.drop 32).map (Value.int .i64)) ∧ Below w.heap.size w w'

set_option maxRecDepth 100000 in
set_option maxHeartbeats 2000000 in
theorem fopen_none (a : Option Addr) (len cap : Nat) (p : Int) (w : World) (hp : p < 0 ∨ (len : Int) < p) : Calls Tryz.prog 68 #[.slice a len cap, .int .i64 p] w (Opened w []) := by
  have hS : Stk ((w.alloc (.cells zeros 97)).alloc (.cells zeros 97)) (w.heap.size + 1) (w.heap.size + 1) (.slice none 0 0) [] := by
    have := stk_new (w.alloc (.cells zeros 97))
    simp only [World.size_alloc] at this
    exact this
  have hB : Below (w.heap.size + 1) (w.alloc (.cells zeros 97)) ((w.alloc (.cells zeros 97)).alloc (.cells zeros 97)) := (Below.refl _ _).alloc (by simp) _
  obtain ⟨cs, g1, g2, hz, hc, h1, ho, hbel, g3, g4⟩ := open_leaves hS hB
  clear hS hB
  have hd : p < 0 ∨ (decide (p < 0) = false ∧ (len : Int) < p) := by
    by_cases h : p < 0
    · exact .inl h
    · exact .inr ⟨by simpa using h, by omega⟩
  unfold zeros at *
  rcases hd with hd | ⟨hd, hd2⟩
  all_goals
    go_enter Tryz.func68, Tryz.ntmps68
    go_wp2_with (first | refine wpList_load_row rfl 97 _ rfl (w.heap.size + 1) rfl 97 cs (0, 0) _ g1 Tryz.underlying97 rfl (by rw [hz]; exact info47) ?_ | refine wpList_put_row rfl 97 _ _ rfl w.heap.size cs rfl rfl 97 _ g2 (by rw [hz]; exact info47) (by rw [hz]; rfl) h1 ?_)
    refine bodyPost_ret (results_cell_row rfl _ _ w.heap.size 97 cs (0, 0) _ rfl g3 Tryz.underlying97 rfl (by rw [hz]; exact info47)) rfl ?_
    exact ⟨cs, _, rfl, hc, ho, hbel⟩

set_option maxRecDepth 100000 in
set_option maxHeartbeats 4000000 in
theorem fopen_some (a : Option Addr) (len cap : Nat) (l : List Tok) (n : Nat) (w : World) (hl : Toks w a len l) (hsz : len ≤ 4398046511104) (hlie : Lies a len cap) (hn : n ≤ len) : Calls Tryz.prog 68 #[.slice a len cap, .int .i64 (n : Int)] w (Opened w (opened l n)) := by
  obtain ⟨hc1, hc2, ha, hspot⟩ := hlie
  have hS0 : Hid (Stk ((w.alloc (.cells zeros 97)).alloc (.cells zeros 97)) (w.heap.size + 1) (w.heap.size + 1) (.slice none 0 0) []) := by
    have := stk_new (w.alloc (.cells zeros 97))
    simp only [World.size_alloc] at this
    exact this
  have hB0 : Hid (Below (w.heap.size + 1) (w.alloc (.cells zeros 97)) ((w.alloc (.cells zeros 97)).alloc (.cells zeros 97))) := (Below.refl _ _).alloc (by simp) _
  have HO : Hid (openL ((l.take n).drop 0) 0 [] = opened l n) := by
    show _ = _
    unfold opened
    rw [if_pos (by rw [hl.1]; omega), Int.toNat_natCast, List.drop_zero]
  have e0 : decide ((n : Int) < 0) = false := by simp
  have e1 : decide (len < n) = false := by simpa using hn
  generalize hTT : opened l n = T at *
  clear hTT
  rcases Nat.eq_zero_or_pos cap with h0 | h0
  · subst h0
    obtain rfl : len = 0 := by omega
    obtain rfl : n = 0 := by omega
    cases a with
    | none =>
      go_enter Tryz.func68, Tryz.ntmps68
      go_wp2
      go_loopw [21] (fun i w' => ∃ (k : Nat) (v : Value) (R : List Int), k ≤ 0 ∧ i = .int .i64 (k : Int) ∧ R.length ≤ k ∧ Stk w' (w.heap.size + 1) (w.heap.size + 1) v R ∧ openL ((l.take 0).drop k) k R = T ∧ Below (w.heap.size + 1) (w.alloc (.cells zeros 97)) w') (fun i _ => 0 - (intOf i).toNat)
      case atStart => exact ⟨0, _, [], Nat.zero_le _, rfl, by simp, hS0.out, HO.out, hB0.out⟩
      case round =>
        obtain ⟨k, v, R, hk, rfl, hR, hS, hT, hB⟩ := hrel
        have HZ := hB.size
        rw [World.size_alloc] at HZ
        by_cases hlt : k < 0
        · omega
        · obtain rfl : k = 0 := by omega
          rw [List.drop_eq_nil_of_le (by rw [List.length_take]; omega), openL] at hT
          obtain ⟨cs, g1, g2, hz, hc, h1, ho, hbel, g3, g4⟩ := open_leaves hS hB
          rw [hT] at hc ho
          clear hS hB hT HO
          unfold zeros at *
          go_wp2_with (first | refine wpList_load_row rfl 97 _ rfl (w.heap.size + 1) rfl 97 cs (0, 0) _ g1 Tryz.underlying97 rfl (by rw [hz]; exact info47) ?_ | refine wpList_put_row rfl 97 _ _ rfl w.heap.size cs rfl rfl 97 _ g2 (by rw [hz]; exact info47) (by rw [hz]; rfl) h1 ?_)
          refine bodyPost_ret (results_cell_row rfl _ _ w.heap.size 97 cs (0, 0) _ rfl g3 Tryz.underlying97 rfl (by rw [hz]; exact info47)) rfl ?_
          exact ⟨cs, _, rfl, hc, ho, hbel⟩
    | some x =>
      go_enter Tryz.func68, Tryz.ntmps68
      go_wp2
      go_loopw [21] (fun i w' => ∃ (k : Nat) (v : Value) (R : List Int), k ≤ 0 ∧ i = .int .i64 (k : Int) ∧ R.length ≤ k ∧ Stk w' (w.heap.size + 1) (w.heap.size + 1) v R ∧ openL ((l.take 0).drop k) k R = T ∧ Below (w.heap.size + 1) (w.alloc (.cells zeros 97)) w') (fun i _ => 0 - (intOf i).toNat)
      case atStart => exact ⟨0, _, [], Nat.zero_le _, rfl, by simp, hS0.out, HO.out, hB0.out⟩
      case round =>
        obtain ⟨k, v, R, hk, rfl, hR, hS, hT, hB⟩ := hrel
        have HZ := hB.size
        rw [World.size_alloc] at HZ
        by_cases hlt : k < 0
        · omega
        · obtain rfl : k = 0 := by omega
          rw [List.drop_eq_nil_of_le (by rw [List.length_take]; omega), openL] at hT
          obtain ⟨cs, g1, g2, hz, hc, h1, ho, hbel, g3, g4⟩ := open_leaves hS hB
          rw [hT] at hc ho
          clear hS hB hT HO
          unfold zeros at *
          go_wp2_with (first | refine wpList_load_row rfl 97 _ rfl (w.heap.size + 1) rfl 97 cs (0, 0) _ g1 Tryz.underlying97 rfl (by rw [hz]; exact info47) ?_ | refine wpList_put_row rfl 97 _ _ rfl w.heap.size cs rfl rfl 97 _ g2 (by rw [hz]; exact info47) (by rw [hz]; rfl) h1 ?_)
          refine bodyPost_ret (results_cell_row rfl _ _ w.heap.size 97 cs (0, 0) _ rfl g3 Tryz.underlying97 rfl (by rw [hz]; exact info47)) rfl ?_
          exact ⟨cs, _, rfl, hc, ho, hbel⟩
  · cases a with
    | none => exact absurd (ha rfl) (by omega)
    | some x =>
      obtain ⟨b, o, sp⟩ := x
      obtain rfl : sp = none := hspot _ rfl h0
      go_enter Tryz.func68, Tryz.ntmps68
      go_wp2
      go_loopw [21] (fun i w' => ∃ (k : Nat) (v : Value) (R : List Int), k ≤ n ∧ i = .int .i64 (k : Int) ∧ R.length ≤ k ∧ Stk w' (w.heap.size + 1) (w.heap.size + 1) v R ∧ openL ((l.take n).drop k) k R = T ∧ Below (w.heap.size + 1) (w.alloc (.cells zeros 97)) w') (fun i _ => n - (intOf i).toNat)
      case atStart => exact ⟨0, _, [], Nat.zero_le _, rfl, by simp, hS0.out, HO.out, hB0.out⟩
      case round =>
        obtain ⟨k, v, R, hk, rfl, hR, hS, hT, hB⟩ := hrel
        have HZ := hB.size
        rw [World.size_alloc] at HZ
        by_cases hlt : k < n
        · obtain ⟨x, hx, hst⟩ := openL_step (l := l) (N := n) hlt (by rw [hl.1]; exact hn) R
          obtain ⟨b', o', x', eb, hbl, hx', hc⟩ := hl.token (k := k) (by omega)
          cases eb
          rw [hx] at hx'
          obtain rfl := Option.some.inj hx'
          have hBw : Below w.heap.size w wr := ((Below.refl _ w).alloc (Nat.le_refl _) _).trans (hB.mono (by omega))
          obtain ⟨c0, c1, c2, c3⟩ := hc wr hBw
          rw [hst] at hT
          have HT : Hid (openL ((l.take n).drop (k + 1)) (k + 1) (turn x k R) = T) := hT
          have HP : Hid (∀ o, Calls Tryz.prog 60 #[.pointer (some ⟨w.heap.size + 1, 0, none⟩), .int .i64 (k : Int), tokV x] (wr.alloc o) fun e w' => e = .returned (.tuple #[]) ∧ ∃ v', Stk w' (w.heap.size + 1) (w.heap.size + 1) v' (turn x k R) ∧ Below (w.heap.size + 1) (wr.alloc o) w') := by
            intro o
            have hSo := hS.alloc o
            refine (fpass_calls (w.heap.size + 1) (w.heap.size + 1) v R k x _ hSo (by simp; omega) (by omega)).mono ?_
            rintro e w' ⟨e1, v', e2, e3, _⟩
            exact ⟨e1, v', e2, e3.below (Nat.le_refl _) (fun j hj => (own_base hSo.2.1 j hj).1) (by simp; omega)⟩
          have HTL : Hid ((turn x k R).length ≤ k + 1) := by
            show (turn x k R).length ≤ k + 1
            unfold turn
            split <;> (try split) <;> first | omega | (simp; omega)
          clear hT hst hx hc hl hS HO hBw
          generalize turn x k R = R' at *
          obtain ⟨xk, xt, xn, xm⟩ := x
          simp only [tokV] at *
          go_wp2_with fail
          refine (HP.out _).mono ?_
          rintro e W2 ⟨rfl, v', hS2, hB4⟩
          have hB5 := (hB.alloc (by omega) _).trans hB4
          go_wp2
          go_roundw
          case rel => exact ⟨k + 1, v', R', by omega, rfl, HTL.out, hS2, HT.out, hB5⟩
          case measure => simp [intOf]; omega
        · obtain rfl : k = n := by omega
          rw [List.drop_eq_nil_of_le (by rw [List.length_take]; omega), openL] at hT
          obtain ⟨cs, g1, g2, hz, hc, h1, ho, hbel, g3, g4⟩ := open_leaves hS hB
          rw [hT] at hc ho
          clear hS hB hT HO
          unfold zeros at *
          go_wp2_with (first | refine wpList_load_row rfl 97 _ rfl (w.heap.size + 1) rfl 97 cs (0, 0) _ g1 Tryz.underlying97 rfl (by rw [hz]; exact info47) ?_ | refine wpList_put_row rfl 97 _ _ rfl w.heap.size cs rfl rfl 97 _ g2 (by rw [hz]; exact info47) (by rw [hz]; rfl) h1 ?_)
          refine bodyPost_ret (results_cell_row rfl _ _ w.heap.size 97 cs (0, 0) _ rfl g3 Tryz.underlying97 rfl (by rw [hz]; exact info47)) rfl ?_
          exact ⟨cs, _, rfl, hc, ho, hbel⟩
end Go.Proofs.YtgkplmnhmobnnaaGreatDoor

/- FDeep: flat.openAt, flat.Deep and flat.Around at every slice of tokens and every number: what they return; nothing that lay before is turned. -/
namespace Go.Proofs.YtgkplmnhmobnnaaGreatDoor
open Go.RowKit

theorem fopen_calls (a : Option Addr) (len cap : Nat) (l : List Tok) (p : Int) (w : World) (hl : Toks w a len l) (hsz : len ≤ 4398046511104) (hlie : Lies a len cap) : Calls Tryz.prog 68 #[.slice a len cap, .int .i64 p] w (Opened w (opened l p)) := by
  by_cases hp : p < 0 ∨ (len : Int) < p
  · rw [show opened l p = [] from by
      unfold opened
      rw [hl.1]
      split
      · rw [show p.toNat = 0 from by omega]
        rfl
      · rfl]
    exact fopen_none a len cap p w hp
  · obtain ⟨n, rfl⟩ := Int.eq_ofNat_of_zero_le (show 0 ≤ p by omega)
    exact fopen_some a len cap l n w hl hsz hlie (by omega)
/-- A stack that was handed back, laid into a new block. -/
theorem stk_laid {w W : World} {cs : Array Value} {v : Value} {R : List Int} (hc : StkCells v R cs) (ho : W.ownsRow w.heap.size 3 1 v (R.length - 32) ((R.drop 32).map (Value.int .i64))) (hB : Below w.heap.size w W) : Stk (W.alloc (.cells cs 97)) w.heap.size W.heap.size v R :=
  ⟨hB.size, ho.alloc _, cs, heap_alloc_new W _, hc⟩

set_option maxRecDepth 100000 in
set_option maxHeartbeats 1000000 in
theorem faround_calls (a : Option Addr) (len cap : Nat) (l : List Tok) (p : Int) (w : World) (hl : Toks w a len l) (hsz : len ≤ 4398046511104) (hlie : Lies a len cap) :
    Calls Tryz.prog 36 #[.slice a len cap, .int .i64 p] w fun e w' => e = .returned (.int .i64 (around l p)) ∧ Below w.heap.size w w' := by
  have h1 := fopen_calls a len cap l p w hl hsz hlie
  have hq := opened_length l p
  rw [hl.1] at hq
  unfold around
  generalize opened l p = R at *
  obtain ⟨y, hy⟩ : ∃ y, R.getLast?.getD (-1) = y := ⟨_, rfl⟩
  rw [hy]
  go_enter Tryz.func36, Tryz.ntmps36
  go_wp2_with fail
  refine h1.mono ?_
  rintro e W ⟨cs, v, rfl, hc, ho, hB⟩
  have ht := ftop_calls _ _ _ _ _ (stk_laid hc ho hB) (by omega)
  obtain ⟨a', c', hv⟩ := own_slice ho
  have h1c := hc.one hv
  have hz := hc.1
  have hB2 := hB.alloc hB.size (.cells cs 97)
  rw [hy] at ht
  clear hc ho h1 hy
  go_wp2_with (first | (refine wpList_put_row rfl 97 _ _ rfl W.heap.size cs rfl rfl 97 _ (heap_alloc_new W _) (by rw [hz]; exact info47) (by rw [hz]; rfl) h1c ?_; rw [World.setRow_alloc_new]) | (go_at_call 69; refine ht.mono ?_; rintro e W2 ⟨rfl, q, rfl⟩))
  go_ret
  exact ⟨rfl, below_drewN hB2 _⟩
end Go.Proofs.YtgkplmnhmobnnaaGreatDoor

/- Txt: the bytes of code points and of tokens, as plain data. -/
namespace Go.Proofs.YtgkplmnhmobnnaaGreatDoor
open Go.RowKit

/-- The bytes of a code point. -/
def enc (n : Int) : List Int :=
  if n < 128 then [n]
  else if n < 2048 then [192 + n / 64, 128 + n % 64]
  else if n < 65536 then [224 + n / 4096, 128 + n / 64 % 64, 128 + n % 64]
  else [240 + n / 262144, 128 + n / 4096 % 64, 128 + n / 64 % 64, 128 + n % 64]
/-- The bytes of all right TRunes. -/
def text (l : List Tok) : List Int := l.flatMap fun x => if (x.k == 0 && rightT x) = true then enc x.n else []

theorem enc_length (n : Int) : 1 ≤ (enc n).length ∧ (enc n).length ≤ 4 := by unfold enc; split <;> (try split) <;> (try split) <;> simp
theorem text_take (l : List Tok) (k : Nat) (x : Tok) (h : l[k]? = some x) : text (l.take (k + 1)) = text (l.take k) ++ (if (x.k == 0 && rightT x) = true then enc x.n else []) := by
  rw [List.take_add_one, h]
  simp [text, List.flatMap_append]
theorem rightT_point {x : Tok} (h : rightT x = true) (h0 : x.k = 0) : 0 ≤ x.n ∧ x.n ≤ 1114111 := by
  unfold rightT at h
  rw [if_pos h0] at h
  simp only [Bool.and_eq_true, point, decide_eq_true_eq] at h
  omega
end Go.Proofs.YtgkplmnhmobnnaaGreatDoor

/- Doc: plain facts on tokens: what is open, step by step; the text of parts; two documents, one behind the other, and one within a TOpen and a TClose; no program in it. -/
namespace Go.Proofs.YtgkplmnhmobnnaaGreatDoor


theorem openL_append (l m : List Tok) (i : Nat) (s : List Int) : openL (l ++ m) i s = openL m (i + l.length) (openL l i s) := by
  induction l generalizing i s with
  | nil => simp [openL]
  | cons x r ih =>
    rw [List.cons_append, openL, openL, ih, List.length_cons, show i + 1 + r.length = i + (r.length + 1) from by omega]
theorem opened_nat (l : List Tok) (k : Nat) (h : k ≤ l.length) : opened l k = openL (l.take k) 0 [] := by
  unfold opened
  rw [if_pos (by omega), Int.toNat_natCast]
theorem opened_zero (l : List Tok) : opened l 0 = [] := by
  have := opened_nat l 0 (Nat.zero_le _)
  simpa [openL] using this
theorem opened_succ (l : List Tok) (k : Nat) (x : Tok) (h : l[k]? = some x) : opened l ((k + 1 : Nat) : Int) = turn x k (opened l k) := by
  have hk : k < l.length := (List.getElem?_eq_some_iff.1 h).1
  rw [opened_nat l (k + 1) hk, opened_nat l k (by omega), List.take_add_one, h, openL_append]
  rw [List.length_take, show 0 + min k l.length = k from by omega]
  rfl
theorem around_neg (l : List Tok) (p : Int) : decide (around l p < 0) = decide ((opened l p).length = 0) := by
  unfold around
  cases h : (opened l p).getLast? with
  | none => simp [List.getLast?_eq_none_iff.1 h]
  | some x =>
    have h1 := opened_fits l p x (List.mem_of_getLast? h)
    have h2 : opened l p ≠ [] := by intro e; rw [e] at h; cases h
    simp only [Option.getD_some, List.length_eq_zero_iff, h2, decide_false, decide_eq_false_iff_not]
    omega

theorem text_append (a b : List Tok) : text (a ++ b) = text a ++ text b := by simp [text, List.flatMap_append]
theorem cut_low (l : List Tok) (k : Nat) (h : k ≤ l.length) : cut l 0 k = l.take k ∧ cutE l 0 k = 0 := by
  unfold cut cutE
  rw [if_neg (by omega), if_neg (by omega)]
  simp
theorem cut_high (l : List Tok) (k : Nat) (h : k ≤ l.length) : cut l k l.length = l.drop k ∧ cutE l k l.length = 0 := by
  unfold cut cutE
  rw [if_neg (by omega), if_neg (by omega)]
  refine ⟨?_, rfl⟩
  rw [Int.toNat_natCast, List.take_of_length_le]
  rw [List.length_drop]
  omega

/-- How deep it is behind the tokens, d open ahead of them; none, where Check tells an error. -/
def deeper (x : Tok) (d : Int) : Int := if x.k = 1 then d + 1 else if x.k = 2 then d - 1 else d
def wrong (x : Tok) (d : Int) : Bool := !rightT x || (x.k == 2 && d == 0)
def goes : List Tok → Int → Option Int
  | [], d => some d
  | x :: r, d => if wrong x d = true then none else if 32 < deeper x d then none else goes r (deeper x d)
theorem checkL_cons (x : Tok) (r : List Tok) (i : Nat) (d : Int) : checkL (x :: r) i d = if wrong x d = true then ((i : Int), 4) else if 32 < deeper x d then ((i : Int), 8) else checkL r (i + 1) (deeper x d) := rfl
theorem deeper_nonneg {x : Tok} {d : Int} (h : 0 ≤ d) (hw : wrong x d = false) : 0 ≤ deeper x d := by
  unfold deeper
  unfold wrong at hw
  split
  · omega
  · split
    · rename_i h2
      simp [h2] at hw
      omega
    · exact h
theorem goes_append (a b : List Tok) (d : Int) : goes (a ++ b) d = (goes a d).bind (goes b) := by
  induction a generalizing d with
  | nil => rfl
  | cons x r ih =>
    rw [List.cons_append, goes, goes]
    split
    · rfl
    · split
      · rfl
      · exact ih _
theorem checkL_goes (l : List Tok) (i : Nat) (d : Int) (h : 0 ≤ d) : ((checkL l i d).2 = 0 ↔ goes l d = some 0) ∧ (goes l d = some 0 → checkL l i d = (((i + l.length : Nat) : Int), 0)) := by
  induction l generalizing i d with
  | nil =>
    rw [checkL, goes]
    split
    · exact ⟨⟨fun h => by simp at h, fun h => by simp at h; omega⟩, fun h => by simp at h; omega⟩
    · exact ⟨⟨fun _ => by simp; omega, fun _ => rfl⟩, fun _ => by simp⟩
  | cons x r ih =>
    rw [checkL_cons, goes]
    cases hw : wrong x d with
    | true => simp
    | false =>
      simp only [Bool.false_eq_true, if_false]
      split
      · simp
      · have := ih (i + 1) (deeper x d) (deeper_nonneg h hw)
        refine ⟨this.1, fun e => ?_⟩
        rw [this.2 e, List.length_cons, show i + 1 + r.length = i + (r.length + 1) from by omega]
theorem check_ok (l : List Tok) : (check l).2 = 0 ↔ l.length ≤ 2048 ∧ goes l 0 = some 0 := by
  unfold check
  split
  · constructor
    · intro h; exact absurd h (by decide)
    · intro h; omega
  · rw [(checkL_goes l 0 0 (by omega)).1]
    constructor
    · intro h; exact ⟨by omega, h⟩
    · intro h; exact h.2
theorem check_done (l : List Tok) (h : (check l).2 = 0) : check l = ((l.length : Int), 0) := by
  obtain ⟨h1, h2⟩ := (check_ok l).1 h
  unfold check
  rw [if_neg (by omega), (checkL_goes l 0 0 (by omega)).2 h2]
  simp
/-- Two documents, one behind the other. -/
theorem check_joins (a b : List Tok) (ha : (check a).2 = 0) (hb : (check b).2 = 0) (hl : (a ++ b).length ≤ 2048) : (check (a ++ b)).2 = 0 := by
  rw [check_ok] at *
  refine ⟨hl, ?_⟩
  rw [goes_append, ha.2]
  exact hb.2

/-- The greatest depth at any place, d open at the first. -/
def deepest : List Tok → Int → Int
  | [], d => d
  | x :: r, d => max d (deepest r (deeper x d))
theorem deepest_ge (l : List Tok) (d : Int) : d ≤ deepest l d := by
  cases l with
  | nil => exact Int.le_refl _
  | cons x r => rw [deepest]; omega
theorem deeper_succ (x : Tok) (d : Int) : deeper x (d + 1) = deeper x d + 1 := by unfold deeper; split <;> (try split) <;> omega
theorem goes_cons {x : Tok} {r : List Tok} {d e : Int} (h : goes (x :: r) d = some e) : wrong x d = false ∧ deeper x d ≤ 32 ∧ goes r (deeper x d) = some e := by
  rw [goes] at h
  cases hw : wrong x d with
  | true => rw [hw] at h; simp at h
  | false =>
    rw [hw] at h
    simp only [Bool.false_eq_true, if_false] at h
    split at h
    · cases h
    · exact ⟨rfl, by omega, h⟩
theorem wrong_succ {x : Tok} {d : Int} (h : 0 ≤ d) (hw : wrong x d = false) : wrong x (d + 1) = false := by
  unfold wrong at *
  have : (d + 1 == 0) = false := by
    simp only [beq_eq_false_iff_ne]
    omega
  simp only [this, Bool.and_false, Bool.or_false]
  cases hr : rightT x with
  | true => rfl
  | false => rw [hr] at hw; simp at hw
/-- One deeper: as well, or too deep. -/
theorem goes_within (l : List Tok) (d e : Int) (h0 : 0 ≤ d) (h1 : d < 32) (h : goes l d = some e) : (deepest l d < 32 → goes l (d + 1) = some (e + 1)) ∧ (32 ≤ deepest l d → ∀ (t : List Tok) (i : Nat), (checkL (l ++ t) i (d + 1)).2 = 8) := by
  induction l generalizing d with
  | nil =>
    rw [goes] at h
    obtain rfl := Option.some.inj h
    exact ⟨fun _ => rfl, fun h => by rw [deepest] at h; omega⟩
  | cons x r ih =>
    obtain ⟨hw, hd, hg⟩ := goes_cons h
    have hn := deeper_nonneg h0 hw
    have hw' := wrong_succ h0 hw
    rw [deepest]
    by_cases h32 : deeper x d = 32
    · have := deepest_ge r (deeper x d)
      refine ⟨fun h => by omega, fun _ t i => ?_⟩
      rw [List.cons_append, checkL_cons, hw', deeper_succ]
      simp only [Bool.false_eq_true, if_false]
      rw [if_pos (by omega)]
    · obtain ⟨i1, i2⟩ := ih (deeper x d) hn (by omega) hg
      refine ⟨fun h => ?_, fun h t i => ?_⟩
      · rw [goes, hw', deeper_succ]
        simp only [Bool.false_eq_true, if_false]
        rw [if_neg (by omega)]
        exact i1 (by omega)
      · rw [List.cons_append, checkL_cons, hw', deeper_succ]
        simp only [Bool.false_eq_true, if_false]
        rw [if_neg (by omega)]
        exact i2 (by omega) t (i + 1)

/-- The greatest depth at the first k places. -/
def mx (l : List Tok) : Nat → Int
  | 0 => 0
  | k + 1 => max (mx l k) ((opened l k).length : Int)
theorem mx_nonneg (l : List Tok) (k : Nat) : 0 ≤ mx l k := by
  induction k with
  | zero => exact Int.le_refl _
  | succ k ih => rw [mx]; omega
theorem turn_length {x : Tok} {i : Nat} {s : List Int} (hw : wrong x s.length = false) : ((turn x i s).length : Int) = deeper x s.length := by
  unfold turn deeper
  split
  · simp
  · split
    · rename_i h2
      unfold wrong at hw
      simp [h2] at hw
      have : s.length ≠ 0 := by
        intro e
        exact hw.2 (List.length_eq_zero_iff.1 e)
      rw [List.length_dropLast]
      omega
    · rfl
theorem mx_step (l : List Tok) (k : Nat) (hk : k ≤ l.length) (h : goes l 0 = some 0) : max (mx l k) (deepest (l.drop k) (opened l k).length) = deepest l 0 ∧ goes (l.drop k) (opened l k).length = some 0 := by
  induction k with
  | zero =>
    have h0 := opened_zero l
    rw [show ((0 : Nat) : Int) = 0 from rfl, h0, mx]
    have := deepest_ge l 0
    simp only [List.drop_zero, List.length_nil]
    exact ⟨by rw [show ((0 : Nat) : Int) = 0 from rfl]; omega, h⟩
  | succ k ih =>
    obtain ⟨i1, i2⟩ := ih (by omega)
    obtain ⟨x, hx, hd⟩ := drop_getD (l := l) (k := k) (by omega)
    rw [hd] at i1 i2
    obtain ⟨hw, _, hg⟩ := goes_cons i2
    rw [opened_succ l k x hx, turn_length hw, mx]
    rw [deepest] at i1
    exact ⟨by omega, hg⟩
theorem mx_all (l : List Tok) (h : goes l 0 = some 0) : mx l l.length = deepest l 0 := by
  obtain ⟨i1, i2⟩ := mx_step l l.length (Nat.le_refl _) h
  rw [List.drop_length] at i1 i2
  rw [goes] at i2
  rw [deepest, Option.some.inj i2] at i1
  have := mx_nonneg l l.length
  omega
/-- A document within a TOpen and a TClose. -/
theorem check_within (l : List Tok) (t : Int) (ht : 1 ≤ t ∧ t ≤ 15) (h : (check l).2 = 0) (hl : l.length ≤ 2046) :
    (check ((⟨1, t, 0, 0⟩ :: l) ++ [⟨2, 0, 0, 0⟩])).2 = if mx l l.length < 32 then 0 else 8 := by
  obtain ⟨_, hg⟩ := (check_ok l).1 h
  rw [mx_all l hg]
  have hr : rightT ⟨1, t, 0, 0⟩ = true := by
    unfold rightT
    simp
    omega
  have hw : wrong ⟨1, t, 0, 0⟩ 0 = false := by unfold wrong; rw [hr]; rfl
  have hd : deeper ⟨1, t, 0, 0⟩ 0 = 1 := rfl
  obtain ⟨g1, g2⟩ := goes_within l 0 0 (by omega) (by omega) hg
  split
  · rename_i h32
    rw [check_ok]
    refine ⟨by simp; omega, ?_⟩
    rw [goes_append, goes, hw, hd]
    simp only [Bool.false_eq_true, if_false]
    rw [if_neg (by omega), show (1 : Int) = 0 + 1 from rfl, g1 h32]
    decide
  · rename_i h32
    have := g2 (by omega) [⟨2, 0, 0, 0⟩] 1
    unfold check
    rw [if_neg (by simp; omega), List.cons_append, checkL_cons, hw, hd]
    simp only [Bool.false_eq_true, if_false]
    rw [if_neg (by omega)]
    exact this
end Go.Proofs.YtgkplmnhmobnnaaGreatDoor
