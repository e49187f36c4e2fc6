/-
  PROVED HERE: the document's own one, Put and Len at every number: the bytes of the number behind what the slice held.
-/
import Derived.Test.YtppiklgkpicfeaaSArgs
import Derived.Laws.BitsAllLaws
namespace Go.Proofs.Ytppiklgkpicfeaa
open Go.RowKit

theorem ref_byte (n : Int) (h0 : 0 ≤ n) (h1 : n ≤ 18446744073709551615) : bits BinOp.or IntKind.u64 (bits BinOp.and IntKind.u64 n 127) 128 = n % 128 + 128 := by
  obtain ⟨m, rfl⟩ := Int.eq_ofNat_of_zero_le h0
  have e1 : bits BinOp.and IntKind.u64 (m : Int) 127 = ((m % 128 : Nat) : Int) := by
    have := u64_and_nat m 127 (by omega) (by omega)
    rw [show m &&& 127 = m % 128 from Nat.and_two_pow_sub_one_eq_mod m 7] at this
    exact this
  have e2 : bits BinOp.or IntKind.u64 ((m % 128 : Nat) : Int) 128 = ((m % 128 + 128 : Nat) : Int) := by
    have := u64_or_nat (m % 128) 128 (by omega) (by omega)
    have h3 : m % 128 ||| 128 = m % 128 + 128 := by
      have h4 := Nat.shiftLeft_add_eq_or_of_lt (b := m % 128) (i := 7) (by omega) 1
      have h7 : 1 <<< 7 = 128 := rfl
      rw [h7] at h4
      rw [Nat.or_comm]
      omega
    rw [h3] at this
    exact this
  rw [e1, e2]
  omega

/-- What lies below stays, where a slice of the call's own is appended to. -/
theorem below_append {base : Nat} {e : TypeId} {W w1 w2 : World} {u : Value} {k : Nat} {ys : List Value} {tmp : Obj} (hB : Below base W w1) (hrow : w1.ownsRow base e 1 u k ys) (hbase : base ≤ w1.heap.size) (hgrow : (w1.alloc tmp).grownBy w2 u.ownBlock) : Below base W w2 := by
  refine (hB.alloc hbase tmp).grown hgrow (by simp; omega) fun j ej => ?_
  rcases hrow.2 with ⟨rfl, _⟩ | ⟨g, cap, cur, rfl, hb, _, _⟩
  · simp [Value.ownBlock] at ej
  · obtain rfl : g = j := by simpa [Value.ownBlock] using ej
    exact hb

set_option maxRecDepth 100000 in
set_option maxHeartbeats 1000000 in
theorem one_calls (base : Nat) (v : Value) (k : Nat) (xs : List Int) (n : Int) (W : World) (hown : W.ownsRow base 5 1 v k (xs.map (Value.int .u8))) (hbase : base ≤ W.heap.size) (h0 : 0 ≤ n) (h1 : n ≤ 18446744073709551615) (hk : k ≤ 70368744177664) :
    Calls Try.prog 36 #[v, .int .u64 n] W fun e W' => ∃ v', e = .returned v' ∧ W'.ownsRow base 5 1 v' (k + (leb n.toNat).length) ((xs ++ leb n.toNat).map (Value.int .u8)) ∧ v' ≠ .slice none 0 0 ∧ Below base W W' := by
  obtain ⟨i0, hi, hz0, hz1, hz2⟩ := info_parts info5
  have hl := leb_length n.toNat (by omega)
  have hq := (qlen_le n h0 h1).2
  have h10 : (leb n.toNat).length ≤ 10 := by omega
  clear hl hq
  go_enter Try.func36, Try.ntmps36
  go_wp2
  go_loopw [0, 1] (fun u m w' => ∃ (ys : List Int) (x : Int), m = .int .u64 x ∧ 0 ≤ x ∧ x ≤ 18446744073709551615 ∧ leb n.toNat = ys ++ leb x.toNat ∧ w'.ownsRow base 5 1 u (k + ys.length) ((xs ++ ys).map (Value.int .u8)) ∧ Below base W w')
    (fun _ m _ => (intOf m).toNat)
  case atStart => exact ⟨[], n, rfl, h0, h1, rfl, by simpa using hown, Below.refl _ _⟩
  case round =>
    obtain ⟨ys, x, rfl, hx0, hx1, hl, hrow, hB⟩ := hrel
    have hyl : ys.length ≤ 9 := by
      have h2 := congrArg List.length hl
      have h3 : 1 ≤ (leb x.toNat).length := by
        by_cases h : x.toNat < 128
        · rw [leb_lt h]; simp
        · rw [leb_ge (by omega)]; simp
      rw [List.length_append] at h2
      omega
    by_cases hlt : x < 128
    · have HL : Hid (leb n.toNat = ys ++ [x]) := by
        show leb n.toNat = ys ++ [x]
        rw [hl, leb_lt (by omega), show ((x.toNat : Nat) : Int) = x from by omega]
      clear hl
      go_wp2_with (at_builtin; refine wpList_append_own _ rfl _ _ 22 rfl base 5 i0 (.int .u8 0) 1 1 Try.underlying22 hi hz0 hz1 hz2 rfl (by decide) _ _ _ rfl (hrow.alloc _) ⟨wr.heap.size, 0, none⟩ 1 1 [.int .u8 x] rfl rfl (cell_one_new _ _ _) (by simp [Value.oneCell']) (by unfold maxLen; omega) (by omega) (by have := hB.size; simp; omega) ?_; intro v2 w2 hown2 hgrow hnil2)
      go_ret
      refine ⟨v2, rfl, ?_, fun e => ?_, below_append hB hrow (Nat.le_trans hbase hB.size) hgrow⟩
      · rw [HL.out, List.length_append, ← List.append_assoc, List.map_append]
        simpa [Nat.add_assoc] using hown2
      · have := (hnil2.1 e).2
        omega
    · have HL : Hid (leb x.toNat = (x % 128 + 128) :: leb (x / 128).toNat) := by
        show leb x.toNat = _
        rw [leb_ge (by omega), show ((x.toNat % 128 + 128 : Nat) : Int) = x % 128 + 128 from by omega, show x.toNat / 128 = (x / 128).toNat from by omega]
      have HX : Hid (leb n.toNat = ys ++ leb x.toNat) := hl
      have hb := ref_byte x hx0 hx1
      clear hl
      have hge : 128 ≤ x := by omega
      go_wp2_with (at_builtin; refine wpList_append_own _ rfl _ _ 22 rfl base 5 i0 (.int .u8 0) 1 1 Try.underlying22 hi hz0 hz1 hz2 rfl (by decide) _ _ _ rfl (hrow.alloc _) ⟨wr.heap.size, 0, none⟩ 1 1 [.int .u8 (x % 128 + 128)] rfl rfl (cell_one_new _ _ _) (by simp [Value.oneCell']) (by unfold maxLen; omega) (by omega) (by have := hB.size; simp; omega) ?_; intro v2 w2 hown2 hgrow hnil2)
      go_roundw
      case rel =>
        refine ⟨ys ++ [x % 128 + 128], x / 128, rfl, by omega, by omega, ?_, ?_, below_append hB hrow (Nat.le_trans hbase hB.size) hgrow⟩
        · rw [HX.out, HL.out]; simp
        · rw [List.length_append, ← List.append_assoc, List.map_append]
          simpa [Nat.add_assoc] using hown2
      case measure => simp [intOf]; omega

set_option maxRecDepth 100000 in
set_option maxHeartbeats 1000000 in
/-- emenderref01.Put. -/
theorem refPut_calls (ab al : Option Addr) (lb cb ll cl : Nat) (bs ls : List Int) (w : World) (hrb : Row .u8 w ab lb bs) (hrl : Row .u64 w al ll ls) (hu : U64 ls) (hsz : lb + 10 * ll ≤ 1099511627776) :
    Calls Try.prog 23 #[.slice ab lb cb, .slice al ll cl] w fun e w' => ∃ v, e = .returned v ∧ w'.ownsRow w.heap.size 5 1 v (bs ++ lebs ls).length ((bs ++ lebs ls).map (Value.int .u8)) ∧ v ≠ .slice none 0 0 ∧ Below w.heap.size w w' := by
  obtain ⟨v0, W1, hrun, hown, hv0, hB1⟩ := clone_own ab lb cb bs w hrb (by omega)
  have hll : ls.length = ll := hrl.1
  have hlb : bs.length = lb := hrb.1
  go_enter Try.func23, Try.ntmps23
  go_wp2_with (at_builtin; refine wpList_append_run rfl _ _ 22 rfl _ _ _ _ rfl rfl hrun ?_)
  clear hrun
  go_loopw [5, 6] (fun u i w' => ∃ j : Nat, j ≤ ll ∧ i = .int .i64 (j : Int) ∧ w'.ownsRow w.heap.size 5 1 u (bs ++ lebs (ls.take j)).length ((bs ++ lebs (ls.take j)).map (Value.int .u8)) ∧ u ≠ .slice none 0 0 ∧ Below w.heap.size w w')
    (fun _ i _ => ll - (intOf i).toNat)
  case atStart => exact ⟨0, Nat.zero_le _, rfl, by simpa [lebs, hlb] using hown, hv0, hB1⟩
  case round =>
    obtain ⟨j, hj, rfl, hrow, hnil, hB⟩ := hrel
    by_cases hlt : j < ll
    · obtain ⟨b, o, rfl, hbl, hcl⟩ : ∃ b o, al = some ⟨b, o, none⟩ ∧ b < w.heap.size ∧ ∀ i, i < ll → w.cell? ⟨b, o + i, none⟩ = some (.int .u64 (ls.getD i 0)) := by
        rcases hrl.2 with h | h
        · omega
        · exact h
      have hck : wr.cell? ⟨b, o + j, none⟩ = some (.int .u64 (ls.getD j 0)) := (hB.cell (p := ⟨b, o + j, none⟩) hbl).trans (hcl j hlt)
      have hxk := hu.get (k := j) (by omega)
      have hlen : (bs ++ lebs (ls.take j)).length ≤ 70368744177664 := by
        have := lebs_length (ls.take j) (hu.take j)
        rw [List.length_take] at this
        rw [List.length_append]
        omega
      have HT : Hid (bs ++ lebs (ls.take (j + 1)) = (bs ++ lebs (ls.take j)) ++ leb (ls.getD j 0).toNat) := by
        show bs ++ lebs (ls.take (j + 1)) = _
        rw [take_snocD ls j (by omega), lebs_snoc, List.append_assoc]
      clear hcl hrl hown hv0
      generalize ls.getD j 0 = x at *
      generalize bs ++ lebs (ls.take j) = f at *
      go_wp2_with fail
      refine (one_calls w.heap.size u5 f.length f x wr hrow hB.size hxk.1 hxk.2 hlen).mono ?_
      rintro e W2 ⟨v2, rfl, hrow2, hnil2, hB2⟩
      go_wp2
      go_roundw
      case rel => exact ⟨j + 1, by omega, by go_num, by rw [HT.out, List.length_append]; exact hrow2, hnil2, hB.trans hB2⟩
      case measure => simp [intOf]; omega
    · rw [show ls.take j = ls from List.take_of_length_le (by omega)] at hrow
      go_wp2
      go_ret
      exact ⟨_, rfl, hrow, hnil, hB⟩
end Go.Proofs.Ytppiklgkpicfeaa
