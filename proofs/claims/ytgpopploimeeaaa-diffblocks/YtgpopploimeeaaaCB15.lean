/-
  PROVED HERE: what the texts LRanges, LOwns say (each has its own words below).
-/
import Derived.Test.YtgpopploimeeaaaCB9
import Derived.Laws.StructEq
import Derived.ChangeKeysEq
import Derived.Test.YtgpopploimeeaaaCBREdits
import Derived.Test.YtgpopploimeeaaaCB14
/- LRanges: two ranges compared; the law's own comparison of lists of them: what it returns; nothing that lay before is turned. -/
namespace Go.Proofs.Ytgpopploimeeaaa
open Go.RowKit

def RgV (x : Nat × Nat × Nat) : Value := .agg #[.int .i64 (x.1 : Int), .int .i64 (x.2.1 : Int), .int .i64 (x.2.2 : Int)]
theorem Rg_eqGuard (op : BinOp) (x y : Operand) (xs ys : Array Value) (W : World) : (eqGuard op 41 x y (.agg xs) (.agg ys)).run Try.prog W = .ok () W := run_eqGuard_agg W op 41 x y xs ys (by kernel_rfl)
theorem Rg_equal (x y : Nat × Nat × Nat) (W : World) : (Op.equalIn 10000 41 (RgV x) (RgV y)).run Try.prog W = .ok (decide (x = y)) W := by
  have u3 := Try.underlying3
  have a3 := Try.isAgg3
  have z3 := Try.sizeOf3
  have hS : Try.prog.underlying 41 = some (.struct (Try.prog.fieldsOf 41)) := by kernel_rfl
  have hp : Try.prog.stoodInHeld 41 = false := by kernel_rfl
  obtain ⟨a, b, c⟩ := x
  obtain ⟨a', b', c'⟩ := y
  simp only [RgV]
  rw [show (10000 : Nat) = 9999 + 1 from rfl, run_equalIn_agg W 9999 41 _ _ hS hp]
  simp only [Program.fieldsOf, Try.underlying41]
  go_simp
  by_cases h1 : a = a' <;> by_cases h2 : b = b' <;> by_cases h3 : c = c' <;> (simp [h1, h2, h3] <;> omega)
theorem Rg_neq (x y : Nat × Nat × Nat) (W : World) : (binOp .neq 41 (RgV x) (RgV y)).run Try.prog W = .ok (.bool (!decide (x = y))) W := by
  have h := Rg_equal x y W
  simp only [RgV] at h ⊢
  rw [run_neq_struct, h]
  rfl

/-- A slice's elements. -/
def Rgs (w : World) (a : Option Addr) (len : Nat) (l : List (Nat × Nat × Nat)) : Prop :=
  l.length = len ∧ (len = 0 ∨ ∃ b o, a = some ⟨b, o, none⟩ ∧ b < w.heap.size ∧ ∀ i x, l[i]? = some x → w.cell? ⟨b, o + i * 3, none⟩ = some (.int .i64 (x.1 : Int)) ∧ w.cell? ⟨b, o + i * 3 + 1, none⟩ = some (.int .i64 (x.2.1 : Int)) ∧ w.cell? ⟨b, o + i * 3 + 2, none⟩ = some (.int .i64 (x.2.2 : Int)))
theorem Rgs.at {w : World} {a : Option Addr} {len : Nat} {l : List (Nat × Nat × Nat)} (h : Rgs w a len l) {k : Nat} (hk : k < len) : ∃ b o x, a = some ⟨b, o, none⟩ ∧ b < w.heap.size ∧ l[k]? = some x ∧ ∀ W : World, Below w.heap.size w W → W.cell? ⟨b, o + k * 3, none⟩ = some (.int .i64 (x.1 : Int)) ∧ W.cell? ⟨b, o + k * 3 + 1, none⟩ = some (.int .i64 (x.2.1 : Int)) ∧ W.cell? ⟨b, o + k * 3 + 2, none⟩ = some (.int .i64 (x.2.2 : Int)) := by
  obtain ⟨h1, h2 | ⟨b, o, rfl, hlt, hc⟩⟩ := h
  · omega
  · have hx : l[k]? = some (l[k]'(by omega)) := List.getElem?_eq_getElem (by omega)
    refine ⟨b, o, _, rfl, hlt, hx, fun W hb => ?_⟩
    obtain ⟨c0, c1, c2⟩ := hc k _ hx
    exact ⟨(hb.cell (p := ⟨b, _, none⟩) hlt).trans c0, (hb.cell (p := ⟨b, _, none⟩) hlt).trans c1, (hb.cell (p := ⟨b, _, none⟩) hlt).trans c2⟩
theorem Rgs.below {w w' : World} {a : Option Addr} {len : Nat} {l : List (Nat × Nat × Nat)} (h : Rgs w a len l) (hb : Below w.heap.size w w') : Rgs w' a len l := by
  obtain ⟨h1, h2⟩ := h
  refine ⟨h1, ?_⟩
  rcases h2 with h2 | ⟨b, o, rfl, hlt, hc⟩
  · exact .inl h2
  · refine .inr ⟨b, o, rfl, Nat.lt_of_lt_of_le hlt hb.size, fun i x hx => ?_⟩
    obtain ⟨c0, c1, c2⟩ := hc i x hx
    exact ⟨(hb.cell (p := ⟨b, _, none⟩) hlt).trans c0, (hb.cell (p := ⟨b, _, none⟩) hlt).trans c1, (hb.cell (p := ⟨b, _, none⟩) hlt).trans c2⟩
theorem Rg_take {l1 l2 : List (Nat × Nat × Nat)} {k : Nat} (h : l1.take k = l2.take k) {x : Nat × Nat × Nat} (h1 : l1[k]? = some x) (h2 : l2[k]? = some x) : l1.take (k + 1) = l2.take (k + 1) := by
  rw [List.take_add_one, List.take_add_one, h, h1, h2]

set_option maxRecDepth 100000 in
set_option maxHeartbeats 2000000 in
theorem lranges_calls (a1 a2 : Option Addr) (n1 n2 c1 c2 : Nat) (l1 l2 : List (Nat × Nat × Nat)) (w : World) (h1 : Rgs w a1 n1 l1) (h2 : Rgs w a2 n2 l2) (hsz : n1 ≤ 35184372088832) (hsz2 : n2 ≤ 35184372088832) :
    Calls Try.prog 15 #[.slice a1 n1 c1, .slice a2 n2 c2] w fun e w' => e = .returned (.bool (decide (l1 = l2))) ∧ Below w.heap.size w w' := by
  by_cases hn : n1 = n2
  · subst hn
    generalize hD : decide (l1 = l2) = D at *
    go_enter Try.func15, Try.ntmps15
    go_wp2
    go_loopg [5] (n1 + 1) (fun gk u wr => ∃ k : Nat, k ≤ n1 ∧ u = .int .i64 (k : Int) ∧ n1 < k + gk ∧ Hid (l1.take k = l2.take k) ∧ Hid (Below w.heap.size w wr))
    case atStart => exact ⟨0, Nat.zero_le _, rfl, by omega, rfl, Below.refl _ _⟩
    case round =>
      obtain ⟨k, hk, rfl, hgk, HT, HB⟩ := hrel
      have hk0 : (0 : Int) ≤ (k : Int) := by omega
      by_cases hlt : k < n1
      · have hlti : (k : Int) < (n1 : Int) := by omega
        obtain ⟨b, o, x, rfl, hbl, hx, hc⟩ := h1.at hlt
        obtain ⟨b', o', y, rfl, hbl', hy, hc'⟩ := h2.at hlt
        obtain ⟨p0, p1, p2⟩ := hc wr HB.out
        obtain ⟨q0, q1, q2⟩ := hc' wr HB.out
        clear hc hc'
        have hg := fun (x y : Operand) (xs ys : Array Value) (W : World) => Rg_eqGuard .neq x y xs ys W
        have hq := fun W => Rg_neq x y W
        have hdd : (decide (x = y) = true ∧ l1.take (k + 1) = l2.take (k + 1)) ∨ (decide (x = y) = false ∧ D = false) := by
          by_cases h : x = y
          · subst h
            exact .inl ⟨decide_eq_true rfl, Rg_take HT.out hx hy⟩
          · refine .inr ⟨decide_eq_false h, ?_⟩
            rw [← hD]
            apply decide_eq_false
            intro e
            rw [e, hy] at hx
            exact h (Option.some.inj hx).symm
        generalize decide (x = y) = d at *
        simp only [RgV] at hq
        obtain ⟨x0, x1, x2⟩ := x
        obtain ⟨y0, y1, y2⟩ := y
        simp only at *
        rcases hdd with ⟨rfl, hts⟩ | ⟨rfl, hd2⟩
        · have HS : Hid (l1.take (k + 1) = l2.take (k + 1)) := hts
          clear hts hx hy hD h1 h2
          go_wp2_with fail
          go_quiet (fail)
          obtain ⟨V, hV⟩ : ∃ V, V = wr.drewN nq := ⟨_, rfl⟩
          have HV : Hid (Below w.heap.size w V) := by rw [hV]; exact below_drewN HB.out nq
          rw [← hV]
          clear hV HB
          go_wp2
          go_roundg (n1 - k)
          case measure => omega
          case rel => exact ⟨k + 1, by omega, by first | rfl | go_num, by omega, HS, HV⟩
        · have HD : Hid (D = false) := hd2
          clear hd2 hx hy hD h1 h2
          go_wp2_with fail
          go_quiet (fail)
          obtain ⟨V, hV⟩ : ∃ V, V = wr.drewN nq := ⟨_, rfl⟩
          have HV : Hid (Below w.heap.size w V) := by rw [hV]; exact below_drewN HB.out nq
          rw [← hV]
          clear hV HB
          go_wp2
          go_ret
          exact ⟨by rw [HD.out]; rfl, HV.out⟩
      · obtain rfl : k = n1 := by omega
        have HD : Hid (D = true) := by
          show D = true
          have := HT.out
          rw [List.take_of_length_le (Nat.le_of_eq h1.1), List.take_of_length_le (Nat.le_of_eq h2.1)] at this
          rw [← hD, this]
          exact decide_eq_true rfl
        clear hD h1 h2
        go_wp2
        go_ret
        exact ⟨by rw [HD.out]; rfl, HB.out⟩
  · have HD : decide (l1 = l2) = false := by
      apply decide_eq_false
      intro e
      exact hn (by rw [← h1.1, ← h2.1, e])
    rw [HD]
    go_enter Try.func15, Try.ntmps15
    go_wp2
    go_ret
    exact ⟨rfl, Below.refl _ _⟩
end Go.Proofs.Ytgpopploimeeaaa

/- LOwns: rows of pairs, of ranges, that the call owns, read as the law's comparisons read them. -/
namespace Go.Proofs.Ytgpopploimeeaaa
open Go.RowKit

theorem rangeV_at : ∀ (l : List (Nat × Nat × Nat)) (k : Nat) (x : Nat × Nat × Nat), l[k]? = some x → (rangeV l)[3 * k]? = some (.int .i64 (x.1 : Int)) ∧ (rangeV l)[3 * k + 1]? = some (.int .i64 (x.2.1 : Int)) ∧ (rangeV l)[3 * k + 2]? = some (.int .i64 (x.2.2 : Int))
  | [], k, x, h => by simp at h
  | y :: l, 0, x, h => by
    obtain rfl : y = x := by simpa using h
    exact ⟨rfl, rfl, rfl⟩
  | y :: l, k + 1, x, h => by
    have := rangeV_at l k x (by simpa using h)
    have e : rangeV (y :: l) = .int .i64 (y.1 : Int) :: .int .i64 (y.2.1 : Int) :: .int .i64 (y.2.2 : Int) :: rangeV l := rfl
    rw [e, show 3 * (k + 1) = 3 * k + 1 + 1 + 1 by omega]
    exact this

/-- A cell of a row that the call owns. -/
theorem owns_cell {W : World} {base : Nat} {e : TypeId} {s n : Nat} {v : Value} {xs : List Value} (h : W.ownsRow base e s v n xs) (hn : 0 < n) :
    ∃ g cap, v = .slice (some ⟨g, 0, none⟩) n cap ∧ g < W.heap.size ∧ ∀ j u, j < n * s → xs[j]? = some u → W.cell? ⟨g, 0 + j, none⟩ = some u := by
  obtain ⟨_, ⟨_, h2⟩ | ⟨g, cap, cur, rfl, hb, hg, hc1, hc2, hc3, hc4⟩⟩ := h
  · omega
  · refine ⟨g, cap, rfl, (Array.getElem?_eq_some_iff.1 hg).1, fun j u hj hu => ?_⟩
    rw [← hc4, List.getElem?_take, if_pos hj] at hu
    rw [Nat.zero_add]
    simp only [World.cell?]
    rw [hg]
    show cur[_]? = _
    rw [← Array.getElem?_toList]
    exact hu
theorem owns_none {W : World} {base : Nat} {e : TypeId} {s : Nat} {v : Value} {xs : List Value} (h : W.ownsRow base e s v 0 xs) : ∃ a cap, v = .slice a 0 cap := by
  obtain ⟨_, ⟨rfl, _⟩ | ⟨g, cap, cur, rfl, _⟩⟩ := h
  · exact ⟨none, 0, rfl⟩
  · exact ⟨_, cap, rfl⟩

theorem Prs_of_owns {W : World} {base : Nat} {v : Value} {l : List (Nat × Nat)} (h : W.ownsRow base 68 2 v l.length (pairV l)) : ∃ a cap, v = .slice a l.length cap ∧ Prs W a l.length l := by
  rcases Nat.eq_zero_or_pos l.length with h0 | h0
  · rw [h0] at h
    obtain ⟨a, cap, rfl⟩ := owns_none h
    exact ⟨a, cap, by rw [h0], rfl, .inl h0⟩
  · obtain ⟨g, cap, rfl, hlt, hc⟩ := owns_cell h h0
    refine ⟨_, cap, rfl, rfl, .inr ⟨g, 0, rfl, hlt, fun i x hx => ?_⟩⟩
    have hi : i < l.length := (List.getElem?_eq_some_iff.1 hx).1
    have hp := pairV_at l i x hx
    rw [Nat.mul_comm] at hp
    exact ⟨hc _ _ (by omega) hp.1, hc _ _ (by omega) hp.2⟩
theorem Rgs_of_owns {W : World} {base : Nat} {v : Value} {l : List (Nat × Nat × Nat)} (h : W.ownsRow base 41 3 v l.length (rangeV l)) : ∃ a cap, v = .slice a l.length cap ∧ Rgs W a l.length l := by
  rcases Nat.eq_zero_or_pos l.length with h0 | h0
  · rw [h0] at h
    obtain ⟨a, cap, rfl⟩ := owns_none h
    exact ⟨a, cap, by rw [h0], rfl, .inl h0⟩
  · obtain ⟨g, cap, rfl, hlt, hc⟩ := owns_cell h h0
    refine ⟨_, cap, rfl, rfl, .inr ⟨g, 0, rfl, hlt, fun i x hx => ?_⟩⟩
    have hi : i < l.length := (List.getElem?_eq_some_iff.1 hx).1
    have hp := rangeV_at l i x hx
    rw [Nat.mul_comm] at hp
    exact ⟨hc _ _ (by omega) hp.1, hc _ _ (by omega) hp.2.1, hc _ _ (by omega) hp.2.2⟩
end Go.Proofs.Ytgpopploimeeaaa
