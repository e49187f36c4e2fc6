/-
  PROVED HERE: the iterator that quad.bytesFrom hands back gives each place from 'at' on with the byte that lies there, to whatever loop body that keeps the bytes; quad.goesOn's answer.
-/
import Derived.Test.YtppiklgkpicfeaaQStr
namespace Go.Proofs.Ytppiklgkpicfeaa
open Go.RowKit Go.Shelf
attribute [local go_sem] Oper.semAt_some

/-- May a number have c as its byte of that group? -/
def goesB (g c : Int) : Bool := !(g == 9 && decide (1 < c)) && (g == 0 || !(c == 0))

set_option maxHeartbeats 400000 in
theorem goesOn_calls (g c : Int) (w : World) : Calls Try.prog 46 #[.int .i64 g, .int .u8 c] w fun e w' => e = .returned (.bool (goesB g c)) ∧ w' = w := by
  have e : ∀ b : Bool, goesB g c = b → (Calls Try.prog 46 #[.int .i64 g, .int .u8 c] w fun e w' => e = .returned (.bool b) ∧ w' = w) → Calls Try.prog 46 #[.int .i64 g, .int .u8 c] w fun e w' => e = .returned (.bool (goesB g c)) ∧ w' = w := fun b h k => by rw [h]; exact k
  by_cases h9 : g = 9
  · subst h9
    by_cases h1 : 1 < c
    · refine e false (by simp [goesB, h1]) ?_
      go_enter Try.func46, Try.ntmps46
      go_wp2
      go_ret
      exact ⟨rfl, rfl⟩
    · by_cases h0 : c = 0
      · subst h0
        refine e false (by simp [goesB]) ?_
        go_enter Try.func46, Try.ntmps46
        go_wp2
        go_ret
        exact ⟨rfl, rfl⟩
      · refine e true (by simp [goesB, h1, h0]) ?_
        have h0' : (c == 0) = false := by simpa using h0
        have h0'' : (c != 0) = true := by simpa using h0
        go_enter Try.func46, Try.ntmps46
        go_wp2
        go_ret
        exact ⟨rfl, rfl⟩
  · have h9' : (g == 9) = false := by simpa using h9
    by_cases hg : g = 0
    · subst hg
      refine e true (by simp [goesB]) ?_
      go_enter Try.func46, Try.ntmps46
      go_wp2
      go_ret
      exact ⟨rfl, rfl⟩
    · have hg' : (g == 0) = false := by simpa using hg
      by_cases h0 : c = 0
      · subst h0
        refine e false (by simp [goesB, hg]) ?_
        go_enter Try.func46, Try.ntmps46
        go_wp2
        go_ret
        exact ⟨rfl, rfl⟩
      · refine e true (by simp [goesB, h9, h0]) ?_
        have h0' : (c == 0) = false := by simpa using h0
        have h0'' : (c != 0) = true := by simpa using h0
        go_enter Try.func46, Try.ntmps46
        go_wp2
        go_ret
        exact ⟨rfl, rfl⟩

set_option maxHeartbeats 1000000 in
theorem bytesFrom_in (F : Fence) (n : Nat) (h22 : F.fn 45) (hro : F.round = none) (a : Option Addr) (l c : Nat) (p : Int) (w : World) :
    CallsIn F n Try.prog 45 #[.slice a l c, .int .i64 p] w fun e w' => e = .returned (.func (.func 49) #[] #[.pointer (some ⟨w.heap.size + 1, 0, none⟩), .pointer (some ⟨w.heap.size, 0, none⟩)]) ∧
      w' = (w.alloc (.cells #[.slice a l c] 22)).alloc (.cells #[.int .i64 p] 3) := by
  refine callsIn_of_wp Try.func45 rfl h22 ?_ hro
  simp only [Try.ntmps45, List.size_toArray, List.length_cons, List.length_nil, Nat.reduceAdd, Nat.reduceSub, Array.replicate_succ, Array.replicate_zero, List.push_toArray, List.append_toArray, List.nil_append, List.cons_append]
  gi_wp2
  go_ret
  exact ⟨rfl, rfl⟩

/-- What the loop's body keeps: what lay below n₀, and the two blocks m and m + 1. -/
def Keep (n₀ m : Nat) (W W' : World) : Prop := ∀ k, k < n₀ ∨ k = m ∨ k = m + 1 → W'.heap[k]? = W.heap[k]?

theorem Keep.refl (n₀ m : Nat) (W : World) : Keep n₀ m W W := fun _ _ => rfl
theorem Keep.trans {n₀ m : Nat} {A B C : World} (h : Keep n₀ m A B) (k : Keep n₀ m B C) : Keep n₀ m A C := fun i hi => (k i hi).trans (h i hi)
theorem Keep.cell {n₀ m : Nat} {W W' : World} (h : Keep n₀ m W W') {p : Addr} (hp : p.block < n₀ ∨ p.block = m ∨ p.block = m + 1) : W'.cell? p = W.cell? p := World.cell?_of_block (w := W) (h p.block hp)

/-- The byte that lies i behind p. -/
def byteAt (bs : List Int) (p : Int) (i : Nat) : Int := bs.getD (p.toNat + i) 0

/-- The place and the byte of each round. -/
def qstep {N : Nat} (bs : List Int) (p : Int) (i : Fin N) : Array Value := #[.int .i64 (p + (i.val : Int)), .int .u8 (byteAt bs p i.val)]

theorem take_fin {N k : Nat} (h : k < N) : (List.finRange N).take (k + 1) = (List.finRange N).take k ++ [⟨k, h⟩] := by
  rw [List.take_succ_eq_append_getElem (by simpa using h)]
  simp

set_option maxRecDepth 100000 in
set_option maxHeartbeats 1000000 in
theorem bytesFrom1_in (F : Fence) (n : Nat) (h25 : F.fn 49) (hro : F.round = none) (hn : 1 ≤ n) (l m n₀ : Nat) (a : Option Addr) (len cap : Nat) (bs : List Int) (p : Int) (hp0 : 0 ≤ p) (hp1 : p ≤ len) (hlen : len ≤ maxLen)
    (J Jx : List (Fin (len - p.toNat)) → World → Prop)
    (hY : ∀ pre i W, J pre W → pre.length < len - p.toNat → YieldAt F (n - 1) Try.prog l (qstep bs p i) W fun e W' =>
      (e = .returned (.bool true) ∧ J (pre ++ [i]) W' ∧ Keep n₀ m W W') ∨ (e = .returned (.bool false) ∧ Jx (pre ++ [i]) W'))
    (W : World) (hm : W.cell? ⟨m, 0, none⟩ = some (.slice a len cap)) (hm1 : W.cell? ⟨m + 1, 0, none⟩ = some (.int .i64 p)) (hr : 0 < len → ∀ b o, a = some ⟨b, o, none⟩ → b < n₀) (hrow : Row .u8 W a len bs) (h0 : J [] W) :
    CallsIn F n Try.prog 49 #[.func (.yield l) #[] #[], .pointer (some ⟨m + 1, 0, none⟩), .pointer (some ⟨m, 0, none⟩)] W fun e W' => (∃ v, e = .returned v) ∧
      ((∃ ys, ys = List.finRange (len - p.toNat) ∧ J ys W') ∨ (∃ pre, pre <+: List.finRange (len - p.toNat) ∧ Jx pre W')) := by
  unfold maxLen at hlen
  refine callsIn_of_wp Try.func49 rfl h25 ?_ hro
  simp only [Try.ntmps49, List.size_toArray, List.length_cons, List.length_nil, Nat.reduceAdd, Nat.reduceSub, Array.replicate_succ, Array.replicate_zero, List.push_toArray, List.append_toArray, List.nil_append, List.cons_append]
  gi_wp2
  gi_loopw [4] (fun q wr => ∃ k : Nat, k ≤ len - p.toNat ∧ q = .int .i64 (p + (k : Int)) ∧ J ((List.finRange (len - p.toNat)).take k) wr ∧ Keep n₀ m W wr)
    (fun q _ => len - (intOf q).toNat)
  case atStart =>
    exact ⟨0, by omega, by simp, h0, Keep.refl _ _ _⟩
  case round =>
    obtain ⟨k, hk, rfl, hJs, hkeep⟩ := hrel
    have hmr := (hkeep.cell (p := ⟨m, 0, none⟩) (by simp)).trans hm
    by_cases hlt : k < len - p.toNat
    · obtain ⟨b, o, rfl, hc⟩ : ∃ b o, a = some ⟨b, o, none⟩ ∧ ∀ i, i < len → W.cell? ⟨b, o + i, none⟩ = some (.int .u8 (bs.getD i 0)) := by
        rcases hrow.2 with h | ⟨b, o, h1, _, h2⟩
        · omega
        · exact ⟨b, o, h1, h2⟩
      have hbn := hr (by omega) b o rfl
      have hck : wr.cell? ⟨b, o + (p.toNat + k), none⟩ = some (.int .u8 (byteAt bs p k)) := (hkeep.cell (p := ⟨b, o + (p.toNat + k), none⟩) (.inl hbn)).trans (hc _ (by omega))
      have hpk : (p + (k : Int)).toNat = p.toNat + k := by omega
      have hle1 : p + (k : Int) < len := by omega
      have hle0 : 0 ≤ p + (k : Int) := by omega
      obtain ⟨fn, tmps, assign, body, hy, hR⟩ := hY _ ⟨k, hlt⟩ wr hJs (by simp; omega)
      unfold qstep at hy
      dsimp only at hy
      clear hc hrow hY
      generalize byteAt bs p k = c at hck hy
      gi_wp2
      refine hR.mono ?_
      rintro e W3 (⟨rfl, hJ3, hk3⟩ | ⟨rfl, hJx3⟩)
      · gi_wp2
        go_roundw
        case rel => exact ⟨k + 1, by omega, by go_num, by rw [take_fin hlt]; exact hJ3, hkeep.trans hk3⟩
        case measure => simp [intOf]; omega
      · gi_wp2
        refine bodyPost_ret (results_none rfl _ _ _) rfl ?_
        exact ⟨⟨_, rfl⟩, .inr ⟨_, by rw [← take_fin hlt]; exact List.take_prefix _ _, hJx3⟩⟩
    · have hge : ¬ (p + (k : Int) < len) := by omega
      clear hY hrow
      gi_wp2
      go_end0
      rw [List.take_of_length_le (by simp; omega)] at hJs
      exact ⟨⟨_, rfl⟩, Or.inl hJs⟩

theorem bytesFrom_stops (F : Fence) (n : Nat) (h25 : F.fn 49) (hro : F.round = none) (hn : 1 ≤ n) (m n₀ : Nat) (a : Option Addr) (len cap : Nat) (bs : List Int) (p : Int) (hp0 : 0 ≤ p) (hp1 : p ≤ len) (hlen : len ≤ maxLen) (w : World)
    (hm1 : m + 1 < w.heap.size) (hc : w.cell? ⟨m, 0, none⟩ = some (.slice a len cap)) (hc1 : w.cell? ⟨m + 1, 0, none⟩ = some (.int .i64 p)) (hr : 0 < len → ∀ b o, a = some ⟨b, o, none⟩ → b < n₀) (hrow : Row .u8 w a len bs) :
    SeqStopsK F n Try.prog 49 #[.pointer (some ⟨m + 1, 0, none⟩), .pointer (some ⟨m, 0, none⟩)] (qstep (N := len - p.toNat) bs p) (Keep n₀ m) (fun ys => ys = List.finRange (len - p.toNat)) (fun pre => pre <+: List.finRange (len - p.toNat)) (len - p.toNat) w := fun l J Jx W hW _ _ hY h0 =>
  bytesFrom1_in F n h25 hro hn l m n₀ a len cap bs p hp0 hp1 hlen J Jx hY W ((hW.cell (p := ⟨m, 0, none⟩) (by show m < _; omega)).trans hc) ((hW.cell (p := ⟨m + 1, 0, none⟩) hm1).trans hc1) hr (hrow.below hW) h0
end Go.Proofs.Ytppiklgkpicfeaa
