/-
  PROVED HERE: what Append, Cut, Crash of the document do to its disk, in all cases.
-/
import Derived.Test.YtgbpfbpfoobhhaaDRef
namespace Go.Proofs.Ytgbpfbpfoobhhaa
open Go.RowKit

theorem rapp_calls (base c : Nat) (u : Value) (bs : List Int) (s m : Int) (a' : Option Addr) (n cap' : Nat) (xs : List Int) (w : World) (h : Rk w base c u bs s m) (hr : Row .u8 w a' n xs) (hx : Bytes xs) (hc : a' = none → cap' = 0) :
    Calls Try.prog 11 #[.pointer (some ⟨c, 0, none⟩), .slice a' n cap'] w fun e w' => e = .returned (.int .i64 (appE bs xs m)) ∧ DoneR w w' base c u (appL bs xs m) s m := by
  have hl := hr.1
  unfold appE appL
  rw [hl]
  by_cases hn : m - (bs.length : Int) < (n : Int)
  · rw [if_pos hn, if_pos hn]
    exact rapp_bad base c u bs s m a' n cap' w h hn
  · rw [if_neg hn, if_neg hn]
    exact rapp_good base c u bs s m a' n cap' xs w h hn hr hx hc

set_option maxRecDepth 100000 in
set_option maxHeartbeats 1000000 in
theorem rcut_bad (base c : Nat) (u : Value) (bs : List Int) (s m n : Int) (w : World) (h : Rk w base c u bs s m) (hn : n < 0 ∨ (bs.length : Int) < n) :
    Calls Try.prog 17 #[.pointer (some ⟨c, 0, none⟩), .int .i64 n] w fun e w' => e = .returned (.int .i64 1) ∧ w' = w := by
  have c0 := h.cell0
  obtain ⟨a, cap, rfl, hcap, hcm, _, _⟩ := h.row
  clear h
  generalize bs.length = k at *
  by_cases h0 : n < 0
  · clear hn
    go_enter Try.func17, Try.ntmps17
    go_wp2
    go_ret
    exact ⟨rfl, rfl⟩
  · have h1 : (k : Int) < n := hn.resolve_left h0
    clear hn
    go_enter Try.func17, Try.ntmps17
    go_wp2
    go_ret
    exact ⟨rfl, rfl⟩

theorem rk_cut {w W1 : World} {base c : Nat} {u v' : Value} {bs : List Int} {s m : Int} {j : Nat} (h : Rk w base c u bs s m) (n : Nat) (hn : n ≤ bs.length) (hB : Below w.heap.size w W1) (ho : W1.ownsRow w.heap.size 5 1 v' j ((bs.take n).map (Value.int .u8))) :
    DoneR w ((W1.setCell ⟨c, 0, none⟩ v').setCell ⟨c, 1, none⟩ (.int .i64 (n : Int))) base c u (bs.take n) (n : Int) m := by
  have hm := h.m0
  have hlt := h.lt
  have hl : (bs.take n).length = n := by rw [List.length_take]; omega
  have hj : (bs.take n).length = j := by have := ho.1; simpa using this
  have e1 := heap_setCell_row W1 c 0 _ _ v' ((hB.block c hlt).trans h.blk)
  have e2 := heap_setCell_row _ c 1 _ _ (.int .i64 (n : Int)) e1
  subst hj
  refine ⟨v', ⟨by rw [e2]; rfl, owns_base (base := w.heap.size) (owns_later ho (fun k e => ?_)) (fun k e => ?_), h.ge, fun x hx => h.byt x (List.mem_of_mem_take hx), by omega, by omega, by omega, h.m1⟩, ?_, fun k e => .inr (World.ownsRow.lt ho k e).1⟩
  · have := (World.ownsRow.lt ho k e).1
    rw [Below.heap_setCell _ _ _ _ (by show k ≠ c; omega), Below.heap_setCell _ _ _ _ (by show k ≠ c; omega)]
  · have := (World.ownsRow.lt ho k e).1
    have := h.ge
    omega
  · exact ((But.of_below (D := (· = c)) hB (fun _ h _ => h)).trans (But.setCell (· = c) W1 ⟨c, 0, none⟩ v' rfl) (fun _ _ e => e)).trans (But.setCell (· = c) _ ⟨c, 1, none⟩ _ rfl) (fun _ _ e => e)

set_option maxRecDepth 100000 in
set_option maxHeartbeats 2000000 in
theorem rcut_good (base c : Nat) (u : Value) (bs : List Int) (s m : Int) (n : Nat) (w : World) (h : Rk w base c u bs s m) (hn : n ≤ bs.length) :
    Calls Try.prog 17 #[.pointer (some ⟨c, 0, none⟩), .int .i64 (n : Int)] w fun e w' => e = .returned (.int .i64 0) ∧ DoneR w w' base c u (bs.take n) (n : Int) m := by
  have c0 := h.cell0
  have c1 := h.cell1
  have f0 := h.frozen 0
  have f1 := h.frozen 1
  have m1 := h.m1
  have m0 := h.m0
  have hlt := h.lt
  obtain ⟨a, cap, rfl, hcap, hcm, hrow, hca⟩ := h.row
  have hcm' : cap ≤ 9223372036854775807 := by unfold maxLen at hcm; omega
  have HCA := hide_ hca
  have HRW := hide_ (row_take hrow n hn)
  have HD : Hid (∀ W1 v' j, Below w.heap.size w W1 → W1.ownsRow w.heap.size 5 1 v' j ((bs.take n).map (Value.int .u8)) → DoneR w ((W1.setCell ⟨c, 0, none⟩ v').setCell ⟨c, 1, none⟩ (.int .i64 (n : Int))) base c (.slice a bs.length cap) (bs.take n) (n : Int) m) := fun W1 v' j hB ho => rk_cut h n hn hB ho
  have hc0 : ∀ (o : Obj), (w.alloc o).cell? ⟨c, 0, none⟩ = some (.slice a bs.length cap) := fun o => (((Below.refl w.heap.size w)).alloc (Nat.le_refl _) o |>.cell (p := ⟨c, 0, none⟩) hlt).trans c0
  have hnc : n ≤ cap := by omega
  clear h hca hrow hcm
  generalize bs.take n = X at *
  generalize bs.length = k at *
  have h0 : ¬ ((n : Int) < 0) := by omega
  have h1 : ¬ ((k : Int) < (n : Int)) := by omega
  go_enter Try.func17, Try.ntmps17
  go_wp2_with (at_builtin; refine wpList_append_bytes rfl _ _ rfl rfl w.heap.size (.slice (some ⟨w.heap.size, 0, none⟩) 0 0) 0 [] rfl (owned_nil5 w w.heap.size (Nat.le_refl _)) (by simp) a n cap X rfl (HRW.out.below ((Below.refl _ w).alloc (Nat.le_refl _) _)) HCA.out (by omega) ?_; intro v2 W2 p1 p2 p3; have hb2 : Below w.heap.size w W2 := ((Below.refl _ w).alloc (Nat.le_refl _) _).grown p2 (by simp) (fun j e => by cases e; exact Nat.le_refl _); clear p2 p3; rw [List.nil_append, Nat.zero_add] at p1; obtain ⟨a2, cap2, rfl, _, _, _, _⟩ := row_any p1; have d0 : W2.cell? ⟨c, 0, none⟩ = some (.slice a k cap) := (hb2.cell (p := ⟨c, 0, none⟩) hlt).trans c0; have d1 : W2.cell? ⟨c, 1, none⟩ = some (.int .i64 s) := (hb2.cell (p := ⟨c, 1, none⟩) hlt).trans c1; have g0 : W2.frozen? ⟨c, 0, none⟩ = false := (hb2.frozen (p := ⟨c, 0, none⟩) hlt).trans f0; have g1 : W2.frozen? ⟨c, 1, none⟩ = false := (hb2.frozen (p := ⟨c, 1, none⟩) hlt).trans f1; have HE := hide_ (HD.out W2 _ _ hb2 p1); clear p1 hb2)
  go_ret
  exact ⟨rfl, HE.out⟩

theorem rcut_calls (base c : Nat) (u : Value) (bs : List Int) (s m n : Int) (w : World) (h : Rk w base c u bs s m) :
    Calls Try.prog 17 #[.pointer (some ⟨c, 0, none⟩), .int .i64 n] w fun e w' => e = .returned (.int .i64 (cutE bs n)) ∧ DoneR w w' base c u (cutL bs n) (cutS bs s n) m := by
  by_cases hn : n < 0 ∨ (bs.length : Int) < n
  · refine (rcut_bad base c u bs s m n w h hn).mono ?_
    rintro e W1 ⟨rfl, rfl⟩
    unfold cutE cutL cutS
    rw [if_pos hn, if_pos hn, if_pos hn]
    exact ⟨rfl, .same h⟩
  · have e : n = (n.toNat : Int) := by omega
    have := rcut_good base c u bs s m n.toNat w h (by omega)
    rw [← e] at this
    refine this.mono ?_
    rintro e W1 ⟨rfl, hD⟩
    unfold cutE cutL cutS
    rw [if_neg hn, if_neg hn, if_neg hn]
    exact ⟨rfl, hD⟩

set_option maxRecDepth 100000 in
set_option maxHeartbeats 1000000 in
theorem rcrash_bad (base c : Nat) (u : Value) (bs : List Int) (s m keep : Int) (w : World) (_h : Rk w base c u bs s m) (hn : keep < 0) :
    Calls Try.prog 15 #[.pointer (some ⟨c, 0, none⟩), .int .i64 keep] w fun e w' => e = .returned (.int .i64 1) ∧ w' = w := by
  clear _h
  go_enter Try.func15, Try.ntmps15
  go_wp2
  go_ret
  exact ⟨rfl, rfl⟩

set_option maxRecDepth 100000 in
set_option maxHeartbeats 4000000 in
theorem rcrash_good (base c : Nat) (u : Value) (bs : List Int) (s m keep : Int) (w : World) (h : Rk w base c u bs s m) (hn : ¬ keep < 0) (hk : keep ≤ 9223372036854775807) :
    Calls Try.prog 15 #[.pointer (some ⟨c, 0, none⟩), .int .i64 keep] w fun e w' => e = .returned (.int .i64 0) ∧ DoneR w w' base c u (bs.take (crashN bs s keep).toNat) (crashN bs s keep) m := by
  have hs0 := h.s0
  have hs1 := h.s1
  have c0 := h.cell0
  have c1 := h.cell1
  have f0 := h.frozen 0
  have f1 := h.frozen 1
  have m1 := h.m1
  have m0 := h.m0
  have hlt := h.lt
  have hN : ∃ n : Nat, crashN bs s keep = (n : Int) ∧ n ≤ bs.length := ⟨(crashN bs s keep).toNat, by unfold crashN; omega, by unfold crashN; omega⟩
  have HE0 : Hid (crashN bs s keep = s + min keep ((bs.length : Int) - s)) := rfl
  obtain ⟨n, hNn, hn1⟩ := hN
  rw [hNn] at HE0 ⊢
  rw [Int.toNat_natCast]
  obtain ⟨a, cap, rfl, hcap, hcm, hrow, hca⟩ := h.row
  have hcm' : cap ≤ 9223372036854775807 := by unfold maxLen at hcm; omega
  have HCA := hide_ hca
  have HRW := hide_ (row_take hrow n hn1)
  have HD : Hid (∀ W1 v' j, Below w.heap.size w W1 → W1.ownsRow w.heap.size 5 1 v' j ((bs.take n).map (Value.int .u8)) → DoneR w ((W1.setCell ⟨c, 0, none⟩ v').setCell ⟨c, 1, none⟩ (.int .i64 (n : Int))) base c (.slice a bs.length cap) (bs.take n) (n : Int) m) := fun W1 v' j hB ho => rk_cut h n hn1 hB ho
  have hc0 : ∀ (q : Nat) (o : Obj), ((w.drewN q).alloc o).cell? ⟨c, 0, none⟩ = some (.slice a bs.length cap) := fun q o => (((below_drewN (Below.refl w.heap.size w) q).alloc (Nat.le_refl _) o).cell (p := ⟨c, 0, none⟩) hlt).trans c0
  have hnc : n ≤ cap := by omega
  clear h hca hrow hcm hNn
  generalize bs.take n = X at *
  generalize bs.length = k at *
  have hw1 : IntKind.i64.wrap ((k : Int) - s) = (k : Int) - s := by rw [IntKind.wrap_i64]; omega
  have hw2 : IntKind.i64.wrap (s + min keep ((k : Int) - s)) = (n : Int) := by have := HE0.out; rw [IntKind.wrap_i64]; omega
  have hw3 : s + min keep ((k : Int) - s) = (n : Int) := HE0.out.symm
  go_enter Try.func15, Try.ntmps15
  go_wp2_with first | go_quiet (fail) | (at_builtin; refine wpList_append_bytes rfl _ _ rfl rfl w.heap.size (.slice (some ⟨w.heap.size, 0, none⟩) 0 0) 0 [] rfl (owned_nil5 (w.drewN nq) w.heap.size (Nat.le_refl _)) (by simp) a n cap X rfl (HRW.out.below ((below_drewN (Below.refl _ w) nq).alloc (Nat.le_refl _) _)) HCA.out (by omega) ?_; intro v2 W2 p1 p2 p3; have hb2 : Below w.heap.size w W2 := ((below_drewN (Below.refl _ w) nq).alloc (Nat.le_refl _) _).grown p2 (by simp) (fun j e => by cases e; exact Nat.le_refl _); clear p2 p3; rw [List.nil_append, Nat.zero_add] at p1; obtain ⟨a2, cap2, rfl, _, _, _, _⟩ := row_any p1; have d0 : W2.cell? ⟨c, 0, none⟩ = some (.slice a k cap) := (hb2.cell (p := ⟨c, 0, none⟩) hlt).trans c0; have d1 : W2.cell? ⟨c, 1, none⟩ = some (.int .i64 s) := (hb2.cell (p := ⟨c, 1, none⟩) hlt).trans c1; have g0 : W2.frozen? ⟨c, 0, none⟩ = false := (hb2.frozen (p := ⟨c, 0, none⟩) hlt).trans f0; have g1 : W2.frozen? ⟨c, 1, none⟩ = false := (hb2.frozen (p := ⟨c, 1, none⟩) hlt).trans f1; have HE := hide_ (HD.out W2 _ _ hb2 p1); clear p1 hb2)
  go_ret
  exact ⟨rfl, HE.out⟩

theorem rcrash_calls (base c : Nat) (u : Value) (bs : List Int) (s m keep : Int) (w : World) (h : Rk w base c u bs s m) (hk : keep ≤ 9223372036854775807) :
    Calls Try.prog 15 #[.pointer (some ⟨c, 0, none⟩), .int .i64 keep] w fun e w' => e = .returned (.int .i64 (crashE keep)) ∧ DoneR w w' base c u (crashL bs s keep) (crashS bs s keep) m := by
  unfold crashE crashL crashS
  by_cases hn : keep < 0
  · refine (rcrash_bad base c u bs s m keep w h hn).mono ?_
    rintro e W1 ⟨rfl, rfl⟩
    rw [if_pos hn, if_pos hn, if_pos hn]
    exact ⟨rfl, .same h⟩
  · rw [if_neg hn, if_neg hn, if_neg hn]
    exact rcrash_good base c u bs s m keep w h hn hk
end Go.Proofs.Ytgbpfbpfoobhhaa
