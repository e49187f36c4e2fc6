/-
  PROVED HERE: flat.Text at every slice of tokens: what it returns; nothing that lay before is turned.
-/
import Derived.Test.YtpcgedcklmdmkaaBld
import Derived.Test.YtpcgedcklmdmkaaFCheck
namespace Go.Proofs.Ytpcgedcklmdmkaa
open Go.RowKit

theorem text_length_le (l : List Tok) : (text l).length ≤ 4 * l.length := by
  induction l with
  | nil => simp [text]
  | cons x r ih =>
    have := enc_length x.n
    rw [show text (x :: r) = (if (x.k == 0 && rightT x) = true then enc x.n else []) ++ text r from rfl, List.length_append, List.length_cons]
    split
    · omega
    · rw [List.length_nil]
      omega
theorem rightT_is_point {x : Tok} (h : rightT x = true) (h0 : x.k = 0) : point x.n = true := by
  unfold rightT at h
  rw [if_pos h0] at h
  simp only [Bool.and_eq_true] at h
  exact h.1.2
theorem conv_i32 (n : Int) (hp : point n = true) : IntKind.i32.wrap n = n := by
  simp only [point, Bool.and_eq_true, Bool.or_eq_true, decide_eq_true_eq] at hp
  simp [IntKind.wrap, IntKind.bits, IntKind.signed]
  omega

theorem isb_below {T : TypeId} {B b : Nat} {bs : List Value} {w W : World} (h : Lib.IsBuilder T 5 B b bs w) (hB : Below w.heap.size w W) : Lib.IsBuilder T 5 B b bs W := by
  have one : ∀ p, Lib.BuilderAt T 5 B b p bs w → Lib.BuilderAt T 5 B b p bs W := by
    rintro p ⟨h0, v, h1, h2, h3⟩
    have hlt := (Array.getElem?_eq_some_iff.1 h1).1
    exact ⟨h0, v, (hB.block b hlt).trans h1, own_below h2 hB (by omega), h3⟩
  rcases h with h | h
  · exact .inl (one _ h)
  · exact .inr (one _ h)

set_option maxRecDepth 100000 in
set_option maxHeartbeats 4000000 in
theorem ftext_calls (a : Option Addr) (len cap : Nat) (l : List Tok) (w : World) (hl : Toks w a len l) (hsz : len ≤ 4398046511104) :
    Calls Try.prog 14 #[.slice a len cap] w fun e w' => e = .returned (.string (strOfNums (text l))) ∧ Below w.heap.size w w' := by
  have HT : Hid (text (l.take len) = text l) := by show text (l.take len) = text l; rw [List.take_of_length_le (Nat.le_of_eq hl.1)]
  have hTb := text_byte l
  generalize hTx : text l = T at *
  clear hTx
  obtain ⟨S, hS⟩ : ∃ S, strOfNums T = S := ⟨_, rfl⟩
  rw [hS]
  have HN : Hid (Lib.IsBuilder 49 5 w.heap.size w.heap.size [] (w.alloc (.cells #[.pointer none, .slice none 0 0] 49))) := Lib.fresh_isBuilder _ _ w
  have HB0 : Hid (∀ o, Below w.heap.size w (w.alloc o)) := fun o => (Below.refl _ w).alloc (Nat.le_refl _) o
  go_enter Try.func14, Try.ntmps14
  go_wp2
  go_loopw [8] (fun i w' => ∃ (k : Nat) (s : List Int), k ≤ len ∧ i = .int .i64 (k : Int) ∧ s = text (l.take k) ∧ Lib.IsBuilder 49 5 w.heap.size w.heap.size (s.map (Value.int .u8)) w' ∧ Below w.heap.size w w') (fun i _ => len - (intOf i).toNat)
  case atStart => exact ⟨0, [], Nat.zero_le _, rfl, rfl, HN.out, HB0.out _⟩
  case round =>
    obtain ⟨k, s, hk, rfl, hs, hbl, hB⟩ := hrel
    clear HN HB0
    by_cases hlt : k < len
    · obtain ⟨b, o, x, rfl, hblk, hx, hc⟩ := hl.token hlt
      have hst := text_take l k x hx
      have hsl := text_length_le (l.take k)
      rw [← hs] at hst hsl
      rw [List.length_take] at hsl
      have hr := fun W => fright_calls x W
      have hpt := rightT_is_point (x := x)
      obtain ⟨c0, c1, c2, c3⟩ := hc wr hB
      have HZ := hB.size
      clear hc hx hl HT hs
      obtain ⟨xk, xt, xn, xm⟩ := x
      simp only [tokV] at *
      generalize rightT ⟨xk, xt, xn, xm⟩ = p at *
      by_cases k0 : xk = 0
      · subst k0
        cases p
        · have HS : Hid (s = text (l.take (k + 1))) := by show s = _; rw [hst]; simp
          clear hst
          go_wp2_with fail
          refine (hr _).mono ?_
          rintro e W1 ⟨rfl, hB1⟩
          obtain ⟨t0, t1, t2, t3, hB2⟩ := tok_kept hB1
          have hB3 := hB.trans (hB2.mono HZ)
          have HI : Hid (Lib.IsBuilder 49 5 w.heap.size w.heap.size (s.map (Value.int .u8)) W1) := isb_below hbl hB2
          clear hB2 hB1 hbl
          go_wp2
          go_roundw
          case rel => exact ⟨k + 1, s, by omega, rfl, HS.out, HI.out, hB3⟩
          case measure => simp [intOf]; omega
        · have HS : Hid (s ++ enc xn = text (l.take (k + 1))) := by show _ = _; rw [hst]; simp
          have hpp := hpt rfl rfl
          have hcv := conv_i32 xn hpp
          have HW : Hid (∀ W, Lib.IsBuilder 49 5 w.heap.size w.heap.size (s.map (Value.int .u8)) W → w.heap.size ≤ W.heap.size → Calls Try.prog 22 #[.pointer (some ⟨w.heap.size, 0, none⟩), .int .i32 xn] W fun e w' => (∃ z, e = .returned (.tuple #[.int .i64 z, .nilIface])) ∧ Lib.IsBuilder 49 5 w.heap.size w.heap.size ((s ++ enc xn).map (Value.int .u8)) w' ∧ Below w.heap.size W w') := by
            intro W h1 h2
            have := bwrite_calls w.heap.size w.heap.size (s.map (Value.int .u8)) xn hpp W h1 (by rw [List.length_map]; omega) h2
            rw [List.map_append]
            exact this
          clear hst hpt hpp
          go_wp2_with fail
          refine (hr _).mono ?_
          rintro e W1 ⟨rfl, hB1⟩
          obtain ⟨t0, t1, t2, t3, hB2⟩ := tok_kept hB1
          have hB3 := hB.trans (hB2.mono HZ)
          have HI : Hid (Lib.IsBuilder 49 5 w.heap.size w.heap.size (s.map (Value.int .u8)) W1) := isb_below hbl hB2
          clear hB2 hB1 hbl
          go_wp2_with fail
          refine (HW.out _ HI.out hB3.size).mono ?_
          rintro e W2 ⟨⟨z, rfl⟩, hbl2, hB4⟩
          have hB5 := hB3.trans hB4
          have HI2 : Hid (Lib.IsBuilder 49 5 w.heap.size w.heap.size ((s ++ enc xn).map (Value.int .u8)) W2) := hbl2
          clear hbl2 HW
          go_wp2
          go_roundw
          case rel => exact ⟨k + 1, s ++ enc xn, by omega, rfl, HS.out, HI2.out, hB5⟩
          case measure => simp [intOf]; omega
      · have e0 : (xk == 0) = false := by simpa using k0
        have HS : Hid (s = text (l.take (k + 1))) := by show s = _; rw [hst, e0]; simp
        have HI : Hid (∀ o, Lib.IsBuilder 49 5 w.heap.size w.heap.size (s.map (Value.int .u8)) (wr.alloc o)) := fun o => isb_below hbl ((Below.refl _ _).alloc (Nat.le_refl _) _)
        have HB1 : Hid (∀ o, Below w.heap.size w (wr.alloc o)) := fun o => hB.alloc HZ o
        clear hst hr hbl
        go_wp2
        go_roundw
        case rel => exact ⟨k + 1, s, by omega, rfl, HS.out, HI.out _, HB1.out _⟩
        case measure => simp [intOf]; omega
    · obtain rfl : k = len := by omega
      rw [HT.out] at hs
      subst hs
      rw [nums_cells _ hTb] at hbl
      have hG := bstring_calls w.heap.size w.heap.size _ wr hbl hB.size
      rw [show (⟨(s.map fun n => UInt8.ofNat n.toNat).toArray⟩ : ByteArray) = strOfNums s from rfl, hS] at hG
      clear hbl HT hS hTb hl
      go_wp2_with fail
      refine hG.mono ?_
      rintro e W1 ⟨rfl, hB1⟩
      go_wp2
      go_ret
      exact ⟨rfl, hB.trans hB1⟩
end Go.Proofs.Ytpcgedcklmdmkaa
