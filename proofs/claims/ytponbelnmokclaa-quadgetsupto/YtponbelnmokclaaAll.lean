/-
  PROVED HERE: quad.All at any bytes, and the law's own numbers at two slices that hold the same.
-/
import Derived.Test.YtponbelnmokclaaGet
import Derived.Test.YtponbelnmokclaaAllNum
import Derived.Test.YtponbelnmokclaaRefPut
import Derived.Deep.QuietTactic
import Derived.BigQuiet
namespace Go.Proofs.Ytponbelnmokclaa
open Go.RowKit

theorem info25 : (Try.prog.info? 25).map (fun i => (i.zero, i.size, i.bytes)) = some (some (.int .u64 0), 1, 8) := by kernel_rfl

theorem owns_below {w w' : World} {base : Nat} {e : TypeId} {size : Nat} {v : Value} {n : Nat} {xs : List Value} (h : w.ownsRow base e size v n xs) (hb : Below w.heap.size w w') : w'.ownsRow base e size v n xs := by
  obtain ⟨hl, h | ⟨g, cap, cur, h1, h2, h3, h4⟩⟩ := h
  · exact ⟨hl, .inl h⟩
  · exact ⟨hl, .inr ⟨g, cap, cur, h1, h2, (hb.block g (Array.getElem?_eq_some_iff.1 h3).1).trans h3, h4⟩⟩

/-- What a slice owns, read; it may be nil. -/
theorem row_of_owns_any {W : World} {base : Nat} {e : TypeId} {k : IntKind} {v : Value} {n : Nat} {bs : List Int} (h : W.ownsRow base e 1 v n (bs.map (Value.int k))) : ∃ a cap, v = .slice a n cap ∧ Row k W a n bs := by
  by_cases hv : v = .slice none 0 0
  · subst hv
    obtain ⟨hl, ⟨_, h0⟩ | ⟨g, cap, cur, h1, _⟩⟩ := h
    · subst h0
      exact ⟨none, 0, rfl, by simpa using hl, .inl rfl⟩
    · cases h1
  · obtain ⟨g, cap, h1, _, _, _, h2⟩ := row_of_owns h hv
    exact ⟨_, _, h1, h2⟩

set_option maxRecDepth 100000 in
set_option maxHeartbeats 1000000 in
/-- quad.All. -/
theorem all_calls (a : Option Addr) (len cap : Nat) (bs : List Int) (w : World) (hrow : Row .u8 w a len bs) (hbs : Bytes bs) (hlen : len ≤ 1099511627776) :
    Calls Try.prog 16 #[.slice a len cap] w fun e w' => ∃ v, e = .returned (.tuple #[v, .int .i64 (allA bs).2.1, .int .i64 (allA bs).2.2]) ∧ w'.ownsRow w.heap.size 25 1 v (allA bs).1.length ((allA bs).1.map (Value.int .u64)) ∧ Below w.heap.size w w' := by
  obtain ⟨i0, hi, hz0, hz1, hz2⟩ := info_parts info25
  have hl : bs.length = len := hrow.1
  go_enter Try.func16, Try.ntmps16
  go_wp2
  go_loopw [5, 6] (fun u q w' => ∃ (p : Int) (f : Nat) (l : List Int), q = .int .i64 p ∧ 0 ≤ p ∧ p ≤ len ∧ len - p.toNat ≤ f ∧ (l.length : Int) ≤ p ∧ allA bs = allL bs f p l ∧ w'.ownsRow w.heap.size 25 1 u l.length (l.map (Value.int .u64)) ∧ Below w.heap.size w w')
    (fun _ q _ => len - (intOf q).toNat)
  case atStart => exact ⟨0, bs.length, [], rfl, by omega, by omega, by omega, by simp, rfl, World.ownsRow_nil _ _ _ _, Below.refl _ _⟩
  case round =>
    obtain ⟨p, f, l, rfl, hp0, hp1, hf, hll, hA, hown, hB⟩ := hrel
    by_cases hlt : p < len
    · have hG := get_calls a len cap bs p wr (hrow.below hB) hbs (by omega)
      obtain ⟨f, rfl⟩ : ∃ f', f = f' + 1 := ⟨f - 1, by omega⟩
      rw [allL, if_pos (by omega)] at hA
      by_cases he : (getA bs p).2.2 = 0
      · have hfits := getA_fits bs p hbs hp0 (by omega) he
        rw [if_pos he] at hA
        rw [he] at hG
        generalize (getA bs p).1 = x at *
        generalize (getA bs p).2.1 = y at *
        have HA : Hid (allA bs = allL bs f y (l ++ [x])) := hA
        have HG : Hid (Calls Try.prog 14 #[.slice a len cap, .int .i64 p] wr fun e w' => e = .returned (.tuple #[.int .u64 x, .int .i64 y, .int .i64 0]) ∧ Below wr.heap.size wr w') := hG
        clear hA hG he
        go_wp2_with fail
        refine HG.out.mono ?_
        rintro e W2 ⟨rfl, hB2⟩
        have hown2 : W2.ownsRow w.heap.size 25 1 u5 l.length (l.map (Value.int .u64)) := owns_below hown hB2
        have hB' : Below w.heap.size w W2 := hB.trans (hB2.mono hB.size)
        go_wp2_with (at_builtin; refine wpList_append_own _ rfl _ _ 23 rfl w.heap.size 25 i0 (.int .u64 0) 1 8 Try.underlying23 hi hz0 hz1 hz2 rfl (by decide) _ _ _ rfl (hown2.alloc _) ⟨W2.heap.size, 0, none⟩ 1 1 [.int .u64 x] rfl rfl (cell_one_new _ _ _) (by simp [Value.oneCell']) (by unfold maxLen; omega) (by omega) (by have := hB'.size; simp; omega) ?_; intro v2 w2 hown3 hgrow hnil2)
        go_roundw
        case rel =>
          refine ⟨y, f, l ++ [x], rfl, by omega, by omega, by omega, by simp; omega, HA.out, ?_, below_append hB' hown2 hB'.size hgrow⟩
          rw [List.length_append, List.map_append]
          exact hown3
        case measure => simp [intOf]; omega
      · rw [if_neg he] at hA
        generalize (getA bs p).1 = x at *
        generalize (getA bs p).2.1 = y at *
        generalize (getA bs p).2.2 = z at *
        have HA : Hid (allA bs = ([], y, z)) := hA
        have HG : Hid (Calls Try.prog 14 #[.slice a len cap, .int .i64 p] wr fun e w' => e = .returned (.tuple #[.int .u64 x, .int .i64 y, .int .i64 z]) ∧ Below wr.heap.size wr w') := hG
        clear hA hG
        have he' : (z != 0) = true := by simpa using he
        go_wp2_with fail
        refine HG.out.mono ?_
        rintro e W2 ⟨rfl, hB2⟩
        go_wp2
        go_ret3
        rw [HA.out]
        exact ⟨_, rfl, World.ownsRow_nil _ _ _ _, hB.trans (hB2.mono hB.size)⟩
    · have HA : Hid (allA bs = (l, p, 0)) := by
        show allA bs = _
        rw [hA, allL_end bs f p l (by omega)]
      clear hA
      go_wp2
      go_ret3
      rw [HA.out]
      exact ⟨_, rfl, hown, hB⟩

set_option maxRecDepth 100000 in
set_option maxHeartbeats 1000000 in
/-- numbers, where both slices hold the same. -/
theorem numbers_calls (a b : Option Addr) (len ca cb : Nat) (xs : List Int) (w : World) (ha : Row .u64 w a len xs) (hb : Row .u64 w b len xs) (hlen : len ≤ 1099511627776) :
    Calls Try.prog 18 #[.slice a len ca, .slice b len cb] w fun e w' => e = .returned (.bool true) ∧ Below w.heap.size w w' := by
  go_enter Try.func18, Try.ntmps18
  go_wp2
  go_loopw [5] (fun q w' => ∃ k : Nat, k ≤ len ∧ q = .int .i64 (k : Int) ∧ Below w.heap.size w w') (fun q _ => len - (intOf q).toNat)
  case atStart => exact ⟨0, Nat.zero_le _, rfl, Below.refl _ _⟩
  case round =>
    obtain ⟨k, hk, rfl, hB⟩ := hrel
    by_cases hlt : k < len
    · have ha' := ha.below hB
      have hb' := hb.below hB
      obtain ⟨b1, o1, rfl, _, hc1⟩ : ∃ b o, a = some ⟨b, o, none⟩ ∧ b < wr.heap.size ∧ ∀ i, i < len → wr.cell? ⟨b, o + i, none⟩ = some (.int .u64 (xs.getD i 0)) := by
        rcases ha'.2 with h | h
        · omega
        · exact h
      obtain ⟨b2, o2, rfl, _, hc2⟩ : ∃ b' o, b = some ⟨b', o, none⟩ ∧ b' < wr.heap.size ∧ ∀ i, i < len → wr.cell? ⟨b', o + i, none⟩ = some (.int .u64 (xs.getD i 0)) := by
        rcases hb'.2 with h | h
        · omega
        · exact h
      have e1 := hc1 k hlt
      have e2 := hc2 k hlt
      clear hc1 hc2 ha hb ha' hb'
      generalize xs.getD k 0 = x at *
      have hk0 : (0 : Int) ≤ (k : Int) := by omega
      have hk1 : (k : Int) < (len : Int) := by omega
      go_wp2
      go_quiet (fail)
      go_wp2
      exact ⟨⟨k + 1, by omega, by go_num, ⟨hB.os, hB.tape, hB.output, hB.size, hB.block⟩⟩, by simp [intOf]; omega⟩
    · go_wp2
      go_ret
      exact ⟨rfl, hB⟩
end Go.Proofs.Ytponbelnmokclaa
