/-
  PROVED HERE: the document's own Get and All at any bytes and any place answer what quad's do.
-/
import Derived.Test.YtppiklgkpicfeaaQNum
namespace Go.Proofs.Ytppiklgkpicfeaa
open Go.RowKit

theorem and127_fin : ∀ r : Fin 256, bits BinOp.and IntKind.u8 (r.val : Int) 127 = (r.val : Int) % 128 := by decide +kernel
theorem and127 (c : Int) (h : 0 ≤ c ∧ c ≤ 255) : bits BinOp.and IntKind.u8 c 127 = c % 128 := by
  have := and127_fin ⟨c.toNat, by omega⟩
  simp only at this
  rwa [show ((c.toNat : Nat) : Int) = c from by omega] at this

theorem ref_bad (i : Nat) (c : Int) (hi : i ≤ 9) (hc : 0 ≤ c) : goesB (i : Int) c = false ↔ (c = 0 ∧ 0 < i) ∨ (i = 9 ∧ 1 < c) := by
  unfold goesB
  by_cases h9 : i = 9
  · subst h9
    simp
    omega
  · have e1 : ((i : Int) == 9) = false := by rw [beq_eq_false_iff_ne]; omega
    rw [e1]
    by_cases h0 : i = 0
    · subst h0
      simp
    · have e2 : ((i : Int) == 0) = false := by rw [beq_eq_false_iff_ne]; omega
      rw [e2]
      simp
      omega

theorem or_zero : bits BinOp.or IntKind.u64 ((0 : Nat) : Int) (0 % 128) = ((0 + (0 % 128 : Int).toNat * 2 ^ (7 * 0) : Nat) : Int) := by decide +kernel
theorem ret3 {x x' y y' z z' : Int} (hx : x = x') (hy : y = y') (hz : z = z') : Ending.returned (.tuple #[.int .u64 x, .int .i64 y, .int .i64 z]) = .returned (.tuple #[.int .u64 x', .int .i64 y', .int .i64 z']) := by rw [hx, hy, hz]

set_option maxRecDepth 100000 in
set_option maxHeartbeats 2000000 in
/-- emenderref01.Get. -/
theorem refGet_in (a : Option Addr) (len cap : Nat) (bs : List Int) (p : Int) (w : World) (hrow : Row .u8 w a len bs) (hbs : Bytes bs) (hlen : len ≤ 140737488355328) (hp0 : 0 ≤ p) (hp1 : p ≤ len) :
    Calls Try.prog 17 #[.slice a len cap, .int .i64 p] w fun e w' => e = .returned (.tuple #[.int .u64 (getL (bs.drop p.toNat) 0 p 0).1, .int .i64 (getL (bs.drop p.toNat) 0 p 0).2.1, .int .i64 (getL (bs.drop p.toNat) 0 p 0).2.2]) ∧ Below w.heap.size w w' := by
  have hl : bs.length = len := hrow.1
  have d0 : decide (p < 0) = false := by simpa using hp0
  have d1 : decide ((len : Int) < p) = false := by simpa using hp1
  have n0 : ¬ p < 0 := by omega
  have n1 : ¬ (len : Int) < p := by omega
  go_enter Try.func17, Try.ntmps17
  go_wp2
  go_loop [7, 8] (fun n i => ∃ k : Nat, k ≤ 9 ∧ p.toNat + k ≤ len ∧ n = .int .u64 (num bs p k : Int) ∧ i = .int .i64 (k : Int) ∧ getL (bs.drop p.toNat) 0 p 0 = getL (bs.drop (p.toNat + k)) k (p + (k : Int)) (num bs p k))
    (fun _ i => 10 - (intOf i).toNat)
  case atStart => exact ⟨0, by omega, by omega, by simp [num], rfl, by simp [num]⟩
  case round =>
    obtain ⟨k, hk, hpk, rfl, rfl, hA⟩ := hrel
    have hk10 : (k : Int) < 10 := by omega
    by_cases hend : p.toNat + k < len
    · have hby := byteAt_byte hbs p k
      have hbad := ref_bad k (byteAt bs p k) hk hby.1
      have hnum : num bs p (k + 1) = num bs p k + (byteAt bs p k % 128).toNat * 2 ^ (7 * k) := rfl
      have hor := or_step (num bs p k) k (byteAt bs p k) (num_lt bs p k) hk
      rw [drop_byte bs p k (by omega), getL] at hA
      obtain ⟨b, o, rfl, hc⟩ : ∃ b o, a = some ⟨b, o, none⟩ ∧ ∀ i, i < len → w.cell? ⟨b, o + i, none⟩ = some (.int .u8 (bs.getD i 0)) := by
        rcases hrow.2 with h | ⟨b, o, h1, _, h2⟩
        · omega
        · exact ⟨b, o, h1, h2⟩
      have hck : w.cell? ⟨b, o + (p.toNat + k), none⟩ = some (.int .u8 (byteAt bs p k)) := hc (p.toNat + k) (by omega)
      have hpk' : (p + (k : Int)).toNat = p.toNat + k := by omega
      have hle1 : p + (k : Int) < len := by omega
      have hle0 : 0 ≤ p + (k : Int) := by omega
      have hand := and127 _ hby
      have hsh := shift_any (byteAt bs p k) k
      have hwu : IntKind.u64.wrap (byteAt bs p k % 128) = byteAt bs p k % 128 := by rw [IntKind.wrap_u64]; omega
      have HN : Hid (num bs p (k + 1) = num bs p k + (byteAt bs p k % 128).toNat * 2 ^ (7 * k)) := hnum
      have hng : ¬ (len : Int) ≤ p + (k : Int) := by omega
      clear hc hrow hnum
      generalize byteAt bs p k = c at *
      have hc0 := hby.1
      have hc1 := hby.2
      by_cases hg : goesB (k : Int) c = false
      · rw [if_pos hg] at hA
        have HA : Hid (getL (bs.drop p.toNat) 0 p 0 = (0, p + (k : Int), 4)) := hA
        have hb' := hbad.1 hg
        clear hA hbad hg hor hsh hand hwu
        by_cases hcz : c = 0 ∧ 0 < k
        · have e1 : (c == 0) = true := by rw [beq_iff_eq]; exact hcz.1
          have e2 : (0 : Int) < (k : Int) := by omega
          clear hcz hb'
          go_wp2
          go_ret3
          exact ⟨ret3 (by rw [HA.out]) (by rw [HA.out]) (by rw [HA.out]), Below.refl _ _⟩
        · obtain ⟨h9, h1⟩ : k = 9 ∧ 1 < c := by
            rcases hb' with h | h
            · exact absurd h hcz
            · exact h
          have e1 : (c == 0) = false := by rw [beq_eq_false_iff_ne]; omega
          have e2 : ((k : Int) == 9) = true := by rw [beq_iff_eq]; omega
          clear hcz hb' h9
          go_wp2
          go_ret3
          exact ⟨ret3 (by rw [HA.out]) (by rw [HA.out]) (by rw [HA.out]), Below.refl _ _⟩
      · have hng2 := fun h => hg (hbad.2 h)
        rw [if_neg hg] at hA
        have hor' := hor (fun h9 => by
          have : ¬ 1 < c := fun h1 => hng2 (.inr ⟨h9, h1⟩)
          omega)
        have HO : Hid (bits BinOp.or IntKind.u64 (num bs p k : Int) (IntKind.u64.wrap (c % 128 * 2 ^ (7 * k))) = ((num bs p k + (c % 128).toNat * 2 ^ (7 * k) : Nat) : Int)) := by
          unfold shlv at hor'
          rw [show min (7 * k) 64 = 7 * k from by omega] at hor'
          exact hor'
        clear hbad hor hor' hg
        by_cases h128 : c < 128
        · rw [if_pos h128] at hA
          have HA : Hid (getL (bs.drop p.toNat) 0 p 0 = (((num bs p k + (c % 128).toNat * 2 ^ (7 * k) : Nat) : Int), p + (k : Int) + 1, 0)) := by
            show getL (bs.drop p.toNat) 0 p 0 = _
            rw [hA, show c % 128 = c from by omega]
          clear hA
          by_cases hcz : c = 0
          · have hk0 : k = 0 := by
              rcases Nat.eq_zero_or_pos k with h | h
              · exact h
              · exact absurd (.inl ⟨hcz, h⟩) hng2
            have e1 : (c == 0) = true := by rw [beq_iff_eq]; exact hcz
            have e2 : ¬ (0 : Int) < (k : Int) := by omega
            have e3 : ((k : Int) == 9) = false := by rw [beq_eq_false_iff_ne]; omega
            have e4 : decide ((0 : Int) < (k : Int)) = false := by simpa using e2
            have HK : Hid (k = 0) := hk0
            have HC : Hid (c = 0) := hcz
            clear hng2 hcz hk0
            go_wp2
            go_ret3
            exact ⟨ret3 (by rw [HA.out, HK.out, HC.out]; exact or_zero) (by rw [HA.out, HK.out]; simp) (by rw [HA.out]), Below.refl _ _⟩
          · have e1 : (c == 0) = false := by rw [beq_eq_false_iff_ne]; exact hcz
            by_cases hk9 : k = 9
            · have hc2 : ¬ 1 < c := fun h1 => hng2 (.inr ⟨hk9, h1⟩)
              have e2 : ((k : Int) == 9) = true := by rw [beq_iff_eq]; omega
              have e3 : decide (1 < c) = false := by simpa using hc2
              clear hng2 hk9 hcz
              go_wp2
              go_ret3
              exact ⟨ret3 (by rw [HA.out]; exact HO.out) (by rw [HA.out]) (by rw [HA.out]), Below.refl _ _⟩
            · have e2 : ((k : Int) == 9) = false := by rw [beq_eq_false_iff_ne]; omega
              clear hng2 hk9 hcz
              go_wp2
              go_ret3
              exact ⟨ret3 (by rw [HA.out]; exact HO.out) (by rw [HA.out]) (by rw [HA.out]), Below.refl _ _⟩
        · rw [if_neg h128] at hA
          have hk9 : k ≠ 9 := fun h9 => hng2 (.inr ⟨h9, by omega⟩)
          have e1 : (c == 0) = false := by rw [beq_eq_false_iff_ne]; omega
          have e2 : ((k : Int) == 9) = false := by rw [beq_eq_false_iff_ne]; omega
          have HA : Hid (getL (bs.drop p.toNat) 0 p 0 = getL (bs.drop (p.toNat + (k + 1))) (k + 1) (p + ((k + 1 : Nat) : Int)) (num bs p (k + 1))) := by
            show getL (bs.drop p.toNat) 0 p 0 = _
            rw [hA, HN.out, show p + (k : Int) + 1 = p + ((k + 1 : Nat) : Int) from by omega]
          clear hA hng2
          go_wp2
          go_round
          case rel => exact ⟨k + 1, by omega, by omega, by rw [HN.out, ← HO.out], by go_num, HA.out⟩
          case measure => simp [intOf]; omega
    · have HA : Hid (getL (bs.drop p.toNat) 0 p 0 = (0, (len : Int), 3)) := by
        show getL (bs.drop p.toNat) 0 p 0 = _
        rw [hA, List.drop_of_length_le (by omega), getL, show p + (k : Int) = (len : Int) from by omega]
      have hge : (len : Int) ≤ p + (k : Int) := by omega
      clear hA
      go_wp2
      go_ret3
      exact ⟨ret3 (by rw [HA.out]) (by rw [HA.out]) (by rw [HA.out]), Below.refl _ _⟩

set_option maxRecDepth 100000 in
set_option maxHeartbeats 2000000 in
theorem refGet_bad (a : Option Addr) (len cap : Nat) (p : Int) (w : World) (hp : p < 0 ∨ (len : Int) < p) :
    Calls Try.prog 17 #[.slice a len cap, .int .i64 p] w fun e w' => e = .returned (.tuple #[.int .u64 0, .int .i64 0, .int .i64 1]) ∧ Below w.heap.size w w' := by
  by_cases h0 : p < 0
  · have d0 : decide (p < 0) = true := by simpa using h0
    clear hp
    go_enter Try.func17, Try.ntmps17
    go_wp2
    go_ret3
    exact ⟨rfl, Below.refl _ _⟩
  · have h1 : (len : Int) < p := by omega
    have d0 : decide (p < 0) = false := by simpa using h0
    have d1 : decide ((len : Int) < p) = true := by simpa using h1
    clear hp
    go_enter Try.func17, Try.ntmps17
    go_wp2
    go_ret3
    exact ⟨rfl, Below.refl _ _⟩

/-- emenderref01.Get. -/
theorem refGet_calls (a : Option Addr) (len cap : Nat) (bs : List Int) (p : Int) (w : World) (hrow : Row .u8 w a len bs) (hbs : Bytes bs) (hlen : len ≤ 140737488355328) :
    Calls Try.prog 17 #[.slice a len cap, .int .i64 p] w fun e w' => e = .returned (.tuple #[.int .u64 (getA bs p).1, .int .i64 (getA bs p).2.1, .int .i64 (getA bs p).2.2]) ∧ Below w.heap.size w w' := by
  by_cases h : p < 0 ∨ (len : Int) < p
  · have e : getA bs p = (0, 0, 1) := by unfold getA; rw [hrow.1, if_pos h]
    rw [e]
    exact refGet_bad a len cap p w h
  · have e : getA bs p = getL (bs.drop p.toNat) 0 p 0 := by unfold getA; rw [hrow.1, if_neg h]
    rw [e]
    exact refGet_in a len cap bs p w hrow hbs hlen (by omega) (by omega)

end Go.Proofs.Ytppiklgkpicfeaa
