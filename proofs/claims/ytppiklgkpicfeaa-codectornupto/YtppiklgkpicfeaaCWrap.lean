/-
  PROVED HERE: codec.Wrap and the document's own nums and Wrap at any bytes: the number of the bytes, these, their sum; or the error.
-/
import Derived.Test.YtppiklgkpicfeaaCCon
namespace Go.Proofs.Ytppiklgkpicfeaa
open Go.RowKit

theorem hide_ {p : Prop} (h : p) : Hid p := h

/-- A frame. -/
def frameL (bs : List Int) : List Int := leb bs.length ++ bs ++ be (more 1 bs)
/-- What Wrap answers. -/
def wrapL (bs : List Int) : List Int × Int := if 65536 < bs.length then ([], 2) else (frameL bs, 0)

theorem leb_len10 (n : Nat) (h : n < 18446744073709551616) : (leb n).length ≤ 10 := by
  have h1 := leb_length n h
  have h2 := qlen_le (n : Int) (by omega) (by omega)
  simp at h2
  omega

theorem cells3 (W : World) (t : TypeId) (v0 v1 v2 : Value) : (W.alloc (.cells #[v0, v1, v2] t)).cell? ⟨W.heap.size, 0, none⟩ = some v0 ∧ (W.alloc (.cells #[v0, v1, v2] t)).cell? ⟨W.heap.size, 1, none⟩ = some v1 ∧ (W.alloc (.cells #[v0, v1, v2] t)).cell? ⟨W.heap.size, 2, none⟩ = some v2 := by
  have hg := World.alloc_heap_new W (.cells #[v0, v1, v2] t)
  refine ⟨?_, ?_, ?_⟩ <;> (simp only [World.cell?]; rw [hg]; rfl)

set_option maxRecDepth 100000 in
set_option maxHeartbeats 2000000 in
theorem wrap_calls (a : Option Addr) (len cap : Nat) (bs : List Int) (w : World) (hrow : Row .u8 w a len bs) (hbs : Bytes bs) (hlen : len ≤ 140737488355328) :
    Calls Try.prog 5 #[.slice a len cap] w fun e w' => ∃ a' cap', e = .returned (.tuple #[.slice a' (wrapL bs).1.length cap', .int .i64 (wrapL bs).2]) ∧ Row .u8 w' a' (wrapL bs).1.length (wrapL bs).1 ∧ (wrapL bs).1.length ≤ cap' ∧ cap' ≤ maxLen ∧ Below w.heap.size w w' := by
  have hl : bs.length = len := hrow.1
  by_cases hb : 65536 < len
  · have e : wrapL bs = ([], 2) := by unfold wrapL; rw [hl, if_pos hb]
    rw [e]
    have hb' : (65536 : Int) < (len : Int) := by omega
    go_enter Try.func5, Try.ntmps5
    go_wp2
    go_ret2
    first | exact ⟨none, 0, rfl, row_nil _ _, Nat.zero_le _, Nat.zero_le _, Below.refl _ _⟩ | exact ⟨none, ⟨0, rfl, Nat.zero_le _⟩, row_nil _ _, Below.refl _ _⟩ | exact ⟨none, ⟨0, rfl, Nat.le_refl _, Nat.zero_le _⟩, row_nil _ _, Below.refl _ _⟩
  · have e : wrapL bs = (frameL bs, 0) := by unfold wrapL; rw [hl, if_neg hb]
    rw [e]
    have HF : Hid (frameL bs = cat (fun i => [leb len, bs, be (more 1 bs)].getD i []) 3) := by
      show frameL bs = _
      simp [frameL, cat, hl]
    have h10 := leb_len10 len (by omega)
    have hb' : ¬ (65536 : Int) < (len : Int) := by omega
    have hP := put_one (len : Int) w (by omega) (by omega)
    rw [Int.toNat_natCast] at hP
    clear e
    simp only
    generalize frameL bs = F at *
    go_enter Try.func5, Try.ntmps5
    go_wp2_with fail
    refine hP.mono ?_
    rintro e W1 ⟨g1, c1, rfl, _, _, _, hr1, hb1⟩
    clear hP
    have hrow1 := hrow.below hb1
    go_wp2_with fail
    refine (sumOf_calls a len cap bs W1 hrow1 hbs hlen).mono ?_
    rintro e W2 ⟨g2, rfl, hr2, hb2⟩
    have b2 : Below w.heap.size w W2 := hb1.trans (hb2.mono hb1.size)
    have hrow2 := hrow.below b2
    have hr1' := hr1.below hb2
    obtain ⟨q0, q1, q2⟩ := cells3 W2 22 (.slice (some ⟨g1, 0, none⟩) (leb len).length c1) (.slice a len cap) (.slice (some ⟨g2, 0, none⟩) 4 4)
    have b3 : Below W2.heap.size W2 (W2.alloc (.cells #[.slice (some ⟨g1, 0, none⟩) (leb len).length c1, .slice a len cap, .slice (some ⟨g2, 0, none⟩) 4 4] 22)) := (Below.refl _ _).alloc (Nat.le_refl _) _
    have HC := concat_calls W2.heap.size 3 3 (fun i => [some ⟨g1, 0, none⟩, a, some ⟨g2, 0, none⟩].getD i none) (fun i => [(leb len).length, len, 4].getD i 0) (fun i => [c1, cap, 4].getD i 0) (fun i => [leb len, bs, be (more 1 bs)].getD i [])
      (W2.alloc (.cells #[.slice (some ⟨g1, 0, none⟩) (leb len).length c1, .slice a len cap, .slice (some ⟨g2, 0, none⟩) 4 4] 22)) (by simp) (by omega)
      (fun i hi => by
        have : i = 0 ∨ i = 1 ∨ i = 2 := by omega
        rcases this with rfl | rfl | rfl
        · exact q0
        · exact q1
        · exact q2)
      (fun i hi => by
        have : i = 0 ∨ i = 1 ∨ i = 2 := by omega
        rcases this with rfl | rfl | rfl
        · exact hr1'.below b3
        · exact hrow2.below b3
        · exact hr2.below b3)
      (fun k hk => by
        have : k = 0 ∨ k = 1 ∨ k = 2 ∨ k = 3 := by omega
        rcases this with rfl | rfl | rfl | rfl <;> simp [cat, be_length] <;> omega)
      (by simp [cat, be_length]; omega)
    rw [← HF.out] at HC
    have HC' := hide_ HC
    clear HC q0 q1 q2 hr1 hr2
    go_wp2_with fail
    refine HC'.out.mono ?_
    rintro e W3 ⟨g3, c3, rfl, hr3, hc1, hc2, hb3⟩
    go_wp2
    go_ret2
    have b4 : Below w.heap.size w W3 := (b2.trans (b3.mono b2.size)).trans (hb3.mono (by have := b2.size; simp; omega))
    first | exact ⟨_, c3, rfl, hr3, hc1, hc2, b4⟩ | exact ⟨_, ⟨c3, rfl, hc1, hc2⟩, hr3, b4⟩

set_option maxRecDepth 100000 in
set_option maxHeartbeats 1000000 in
theorem nums_one (x : Int) (W : World) (h0 : 0 ≤ x) (h1 : x ≤ 9223372036854775807) :
    Calls Try.prog 13 #[.slice none 0 0, .slice (some ⟨W.heap.size, 0, none⟩) 1 1] (W.alloc (.cells #[.int .i64 x] 3)) fun e w' => ∃ v, e = .returned v ∧ w'.ownsRow W.heap.size 5 1 v (leb x.toNat).length ((leb x.toNat).map (Value.int .u8)) ∧ v ≠ .slice none 0 0 ∧ Below W.heap.size W w' := by
  have hb0 : Below W.heap.size W (W.alloc (.cells #[.int .i64 x] 3)) := (Below.refl _ _).alloc (Nat.le_refl _) _
  have hc := (Boxed.new W 3 (.int .i64 x)).cell
  have hs : (W.alloc (.cells #[.int .i64 x] 3)).heap.size = W.heap.size + 1 := by simp
  generalize hV : W.alloc (.cells #[.int .i64 x] 3) = V at *
  clear hV
  have HS : Hid (V.heap.size = W.heap.size + 1) := hs
  clear hs
  go_enter Try.func13, Try.ntmps13
  go_wp2
  go_loopw [0, 5] (fun u i w' => (i = .int .i64 ((0 : Nat) : Int) ∧ u = .slice none 0 0 ∧ w' = V) ∨ (i = .int .i64 ((1 : Nat) : Int) ∧ w'.ownsRow W.heap.size 5 1 u (leb x.toNat).length ((leb x.toNat).map (Value.int .u8)) ∧ u ≠ .slice none 0 0 ∧ Below W.heap.size W w'))
    (fun _ i _ => 1 - (intOf i).toNat)
  case atStart => exact .inl ⟨rfl, rfl, rfl⟩
  case round =>
    rcases hrel with ⟨rfl, rfl, rfl⟩ | ⟨rfl, hown, hv, hb⟩
    · have hP := refPut_calls none (some ⟨wr.heap.size, 0, none⟩) 0 0 1 1 [] [x] (wr.alloc (.cells #[.int .u64 x] 38)) (row_nil _ _) (row_new wr 38 x) (fun y hy => by simp at hy; subst hy; omega) (by omega)
      rw [List.nil_append, lebs_one] at hP
      have HP := hide_ hP
      clear hP
      go_wp2_with fail
      refine HP.out.mono ?_
      rintro e W2 ⟨v2, rfl, hown2, hv2, hb2⟩
      have hb3 : Below W.heap.size W W2 := (hb0.alloc hb0.size (.cells #[.int .u64 x] 38)).trans (hb2.mono (by have := hb0.size; simp; omega))
      have hown3 : W2.ownsRow W.heap.size 5 1 v2 (leb x.toNat).length ((leb x.toNat).map (Value.int .u8)) := by
        obtain ⟨k1, ⟨k2, k3⟩ | ⟨g, cp, cur, k2, k3, k4⟩⟩ := hown2
        · exact absurd k2 hv2
        · exact ⟨k1, .inr ⟨g, cp, cur, k2, Nat.le_trans (by have := hb0.size; simp; omega) k3, k4⟩⟩
      go_wp2
      go_roundw
      case rel => exact .inr ⟨by go_num, hown3, hv2, hb3⟩
      case measure => simp [intOf]
    · go_wp2
      go_ret
      exact ⟨_, rfl, hown, hv, hb⟩

theorem owns_below {W W' : World} {base e : Nat} {v : Value} {n : Nat} {ys : List Value} (h : W.ownsRow base e 1 v n ys) (hb : Below W.heap.size W W') : W'.ownsRow base e 1 v n ys := by
  obtain ⟨k1, k2 | ⟨g, cp, cur, k2, k3, k4, k5⟩⟩ := h
  · exact ⟨k1, .inl k2⟩
  · refine ⟨k1, .inr ⟨g, cp, cur, k2, k3, ?_, k5⟩⟩
    rw [← k4]
    exact hb.block g ((Array.getElem?_eq_some_iff.1 k4).1)

set_option maxRecDepth 100000 in
set_option maxHeartbeats 2000000 in
theorem refWrap_calls (a : Option Addr) (len cap : Nat) (bs : List Int) (w : World) (hrow : Row .u8 w a len bs) (hbs : Bytes bs) (hlen : len ≤ 140737488355328) :
    Calls Try.prog 6 #[.slice a len cap] w fun e w' => ∃ a' cap', e = .returned (.tuple #[.slice a' (wrapL bs).1.length cap', .int .i64 (wrapL bs).2]) ∧ Row .u8 w' a' (wrapL bs).1.length (wrapL bs).1 ∧ Below w.heap.size w w' := by
  have hl : bs.length = len := hrow.1
  by_cases hb : 65536 < len
  · have e : wrapL bs = ([], 2) := by unfold wrapL; rw [hl, if_pos hb]
    rw [e]
    have hb' : (65536 : Int) < (len : Int) := by omega
    go_enter Try.func6, Try.ntmps6
    go_wp2
    go_ret2
    first | exact ⟨none, 0, rfl, row_nil _ _, Below.refl _ _⟩ | exact ⟨none, ⟨0, rfl⟩, row_nil _ _, Below.refl _ _⟩
  · have e : wrapL bs = (frameL bs, 0) := by unfold wrapL; rw [hl, if_neg hb]
    rw [e]
    have hb' : ¬ (65536 : Int) < (len : Int) := by omega
    have h10 := leb_len10 len (by omega)
    have hN := nums_one (len : Int) w (by omega) (by omega)
    rw [Int.toNat_natCast] at hN
    have HF : Hid (frameL bs = leb len ++ bs ++ be (more 1 bs)) := by
      show frameL bs = _
      rw [frameL, hl]
    clear e
    simp only
    generalize frameL bs = F at *
    go_enter Try.func6, Try.ntmps6
    go_wp2_with fail
    refine hN.mono ?_
    rintro e W1 ⟨v1, rfl, hown1, hv1, hb1⟩
    clear hN
    obtain ⟨v2, W2, hrun, hown2, hv2, hb2⟩ := append_own w.heap.size v1 (leb len).length (leb len) W1 hown1 hv1 hb1.size a len cap bs (hrow.below hb1) (by omega)
    have b2 : Below w.heap.size w W2 := hb1.trans hb2
    have hO := refOf_calls a len cap bs W2 (hrow.below b2) hbs hlen
    obtain ⟨m0, m1⟩ := more_fits 1 bs
    generalize more 1 bs = s at *
    go_wp2_with (at_builtin; refine wpList_append_run rfl _ _ 22 rfl _ _ _ _ rfl rfl hrun ?_)
    refine hO.mono ?_
    rintro e W3 ⟨rfl, hb3⟩
    have b3 : Below w.heap.size w W3 := b2.trans (hb3.mono b2.size)
    have hown3 := owns_below hown2 hb3
    have b4 : Below W3.heap.size W3 (W3.alloc (.cells #[.int .u8 (s / 16777216), .int .u8 (s / 65536 % 256), .int .u8 (s / 256 % 256), .int .u8 (s % 256)] 5)) := (Below.refl _ _).alloc (Nat.le_refl _) _
    obtain ⟨v4, W4, hrun4, hown4, hv4, hb4⟩ := append_own w.heap.size v2 _ _ _ (owns_below hown3 b4) hv2 (by have := b3.size; simp; omega) _ 4 4 _ (row_four W3 5 (s / 16777216) (s / 65536 % 256) (s / 256 % 256) (s % 256)) (by omega)
    obtain ⟨g, c, rfl, _, _, _, hr⟩ := row_of_owns hown4 hv4
    have HE : Hid (F.length = (leb len).length + len + 4) := by
      show F.length = _
      rw [HF.out]
      simp [be_length, hl]; omega
    have HR : Hid (Row .u8 W4 (some ⟨g, 0, none⟩) ((leb len).length + len + 4) F) := by
      show Row .u8 W4 (some ⟨g, 0, none⟩) ((leb len).length + len + 4) F
      rw [HF.out]
      exact hr
    clear hr hown1 hown2 hown3 hown4 hO hrun
    go_wp2_with (at_builtin; refine wpList_append_run rfl _ _ 22 rfl _ _ _ _ rfl rfl hrun4 ?_)
    go_ret2
    rw [HE.out]
    have b5 : Below w.heap.size w W4 := (b3.trans (b4.mono b3.size)).trans hb4
    first | exact ⟨_, c, rfl, HR.out, b5⟩ | exact ⟨_, ⟨c, rfl⟩, HR.out, b5⟩
end Go.Proofs.Ytppiklgkpicfeaa
