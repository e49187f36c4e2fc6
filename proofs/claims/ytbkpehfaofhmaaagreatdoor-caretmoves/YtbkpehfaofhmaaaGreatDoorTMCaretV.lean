/-
  PROVED HERE: the walk of CaretNear.
-/
import Derived.Test.YtbkpehfaofhmaaaGreatDoorCB35
namespace Go.Proofs.YtbkpehfaofhmaaaGreatDoor
open Go.RowKit

theorem nearR_bad {F : Int → Bool} {E : Int} {n : Nat} {p s : Int} (h : (nearR F E n p s).2 ≠ 0) : (nearR F E n p s).1 = 0 := by
  unfold nearR at *
  split
  · rename_i e
    rw [if_pos e] at h
    unfold nearD at *
    split
    · rename_i q hq
      rw [hq] at h
      exact absurd rfl h
    · rfl
  · rfl
theorem chkE_zero {E : Int} {n : Nat} {p : Int} : chkE E n p = 0 ↔ E = 0 ∧ isPl n p = true := by
  unfold chkE
  split
  · rename_i e
    split
    · rename_i h; exact ⟨fun _ => ⟨e, h⟩, fun _ => rfl⟩
    · rename_i h; exact ⟨fun q => absurd q (by decide), fun q => absurd q.2 h⟩
  · rename_i e; exact ⟨fun q => absurd q e, fun q => absurd q.1 e⟩
theorem nearR_ok {F : Int → Bool} {E : Int} {n : Nat} {p s : Int} (h : (nearR F E n p s).2 = 0) : E = 0 ∧ isPl n p = true ∧ isPl n (nearR F E n p s).1 = true ∧ F (nearR F E n p s).1 = true ∧
    ∀ q, isPl n q = true → q - p < max ((nearR F E n p s).1 - p) (p - (nearR F E n p s).1) → p - q < max ((nearR F E n p s).1 - p) (p - (nearR F E n p s).1) → F q = false := by
  have hc : chkE E n p = 0 := by
    unfold nearR at h
    split at h
    · assumption
    · exact h
  obtain ⟨h1, h2⟩ := chkE_zero.1 hc
  have e : nearR F E n p s = nearD F n p (wayD s) := by unfold nearR; rw [if_pos hc]
  rw [e] at h ⊢
  exact ⟨h1, h2, nearD_none_nearer (wayD_or s) h2 h⟩
theorem textD_at {F : Int → Bool} {n : Nat} {p : Int} (h : isPl n p = true) : textD F 0 n p = F p ∧ chkE 0 n p = 0 := by
  have := chkE_zero.2 ⟨rfl, h⟩
  exact ⟨by unfold textD; rw [if_pos this], this⟩
set_option maxRecDepth 100000 in
set_option maxHeartbeats 4000000 in
theorem cnear_walk (a : Option Addr) (len cap : Nat) (l : List Tok) (p s : Int) (w : World) (hl : Toks w a len l) (hlie : Lies a len cap) (hlen : len ≤ 9223372036854775807) (hE : ETy w) :
    Calls Tryz.prog 5 #[.slice a len cap, .int .i64 p, .int .i64 s] w fun e w' => e = .returned (.bool true) ∧ Below w.heap.size w w' := by
  have HH := hidC (house_calls w hE)
  have HA : Hid (∀ X, Below w.heap.size w X → _) := fun X (hX : Below w.heap.size w X) => awakec_calls X (hE.below hX)
  have hli : (len : Int) ≤ 9223372036854775807 := by omega
  clear hE
  by_cases h80 : 80 < len
  · have hd : decide ((80 : Int) < (len : Int)) = true := by simp; omega
    clear hl hlie
    go_enter Tryz.func5, Tryz.ntmps5
    go_wp2_with fail
    refine HH.out.mono ?_
    rintro e X1 ⟨B, rfl, _, hB1⟩
    have HB1 := hidC hB1
    clear hB1 HH
    go_wp2_with fail
    refine (HA.out X1 HB1.out).mono ?_
    rintro e X2 ⟨rfl, hB2⟩
    have HB2 := hidC (HB1.out.trans (hB2.mono HB1.out.size))
    clear hB2
    go_wp2
    go_ret
    exact ⟨rfl, HB2.out⟩
  · have hd : decide ((80 : Int) < (len : Int)) = false := by simp; omega
    have HS : Hid (∀ (X : World) (B : Nat), Below w.heap.size w X → MadeS X B houseW houseL houseG → ∃ A E F, CheckH X B a len cap A E ∧ MayH X B a len cap F) := fun X B hX hm => by
      obtain ⟨g, c, ng, nc, ks, h1, h8, hs⟩ := house_kinds hm
      obtain ⟨c1, c2⟩ := mayH_of h1 (by omega) (hl.below hX) hlie (by omega)
      exact ⟨_, _, _, c1, c2⟩
    clear hl hlie
    go_enter Tryz.func5, Tryz.ntmps5
    go_wp2_with fail
    refine HH.out.mono ?_
    rintro e X1 ⟨B, rfl, hm1, hB1⟩
    obtain ⟨A, E, F, c1, c2⟩ := HS.out X1 B hB1 hm1
    have HN := hidC (near_calls c1 c2 hli (fun _ => by omega) p s)
    have HT : Hid (∀ (q : Int) (X : World), Below X1.heap.size X1 X → _) := fun q X (hX : Below X1.heap.size X1 X) => text_calls c1 c2 hli q X hX
    have HB1 := hidC hB1
    clear hB1 HH HS hm1 c1 c2
    by_cases h0 : (nearR F E len p s).2 = 0
    · obtain ⟨rfl, hpl, hP, hFP, hno⟩ := nearR_ok h0
      rw [h0] at HN
      generalize (nearR F 0 len p s).1 = P at *
      obtain ⟨tP, cP⟩ := textD_at (F := F) hP
      have HTP : Hid (∀ X, Below X1.heap.size X1 X → Calls Tryz.prog 11 #[.pointer (some ⟨B, 0, none⟩), .slice a len cap, .int .i64 P] X fun e X' => e = .returned (.tuple #[.bool true, .int .i64 0]) ∧ Below X.heap.size X X') := fun X hX => by
        have := HT.out P X hX
        rw [tP, cP, hFP] at this
        exact this
      have hp' := isPl_iff.1 hpl
      have hP' := isPl_iff.1 hP
      obtain ⟨d, hdd⟩ : ∃ d, max (P - p) (p - P) = d := ⟨_, rfl⟩
      have hd0 : 0 ≤ d ∧ d ≤ 80 := by omega
      have HTQ : Hid (∀ (q : Int) (X : World), Below X1.heap.size X1 X → 0 ≤ q → q ≤ (len : Int) → q < p + d → p - d < q → Calls Tryz.prog 11 #[.pointer (some ⟨B, 0, none⟩), .slice a len cap, .int .i64 q] X fun e X' => e = .returned (.tuple #[.bool false, .int .i64 0]) ∧ Below X.heap.size X X') := fun q X hX q0 q1 q2 q3 => by
        have hq : isPl len q = true := isPl_iff.2 ⟨q0, q1⟩
        obtain ⟨t, c⟩ := textD_at (F := F) hq
        have := HT.out q X hX
        rw [t, c, hno q hq (by omega) (by omega)] at this
        exact this
      obtain ⟨q0, hq0⟩ : ∃ q0, max (p - d + 1) 0 = q0 := ⟨_, rfl⟩
      have hl80 : (len : Int) ≤ 80 := by omega
      have hq1 : 0 ≤ q0 ∧ p - d < q0 ∧ q0 ≤ 160 := by omega
      clear HT hno hP hpl tP cP hFP h0
      go_wp2_with fail
      refine HN.out.mono ?_
      rintro e X2 ⟨rfl, hB2⟩
      have HB2 := hidC hB2
      clear hB2 HN
      go_wp2_with fail
      refine (HTP.out X2 HB2.out).mono ?_
      rintro e X3 ⟨rfl, hB3⟩
      have HB3 := hidC (HB2.out.trans (hB3.mono HB2.out.size))
      clear hB3 HTP
      go_wp2
      go_loopw [13] (fun v wr => ∃ q : Int, v = .int .i64 q ∧ q0 ≤ q ∧ q ≤ 161 ∧ Below X1.heap.size X1 wr) (fun v _ => (162 - intOf v).toNat)
      case atStart => exact ⟨q0, rfl, Int.le_refl _, by omega, HB3.out⟩
      case round =>
        obtain ⟨q, rfl, g0, g1, hBr⟩ := hrel
        have HBR := hidC hBr
        clear hBr
        by_cases g2 : q < p + d
        · by_cases g3 : q ≤ (len : Int)
          · have HQ := hidC (HTQ.out q wr HBR.out (by omega) g3 g2 (by omega))
            go_wp2_with fail
            refine HQ.out.mono ?_
            rintro e X4 ⟨rfl, hB4⟩
            have HB4 := hidC (HBR.out.trans (hB4.mono HBR.out.size))
            clear hB4 HQ
            go_wp2
            go_roundw
            case rel => exact ⟨q + 1, by go_num, by omega, by omega, HB4.out⟩
            case measure => simp [intOf]; omega
          · go_wp2_with fail
            refine (HA.out _ (HB1.out.trans (HBR.out.mono HB1.out.size))).mono ?_
            rintro e X4 ⟨rfl, hB4⟩
            have HB4 := hidC ((HB1.out.trans (HBR.out.mono HB1.out.size)).trans (hB4.mono (HB1.out.trans (HBR.out.mono HB1.out.size)).size))
            clear hB4
            go_wp2
            go_ret
            exact ⟨rfl, HB4.out⟩
        · go_wp2_with fail
          refine (HA.out _ (HB1.out.trans (HBR.out.mono HB1.out.size))).mono ?_
          rintro e X4 ⟨rfl, hB4⟩
          have HB4 := hidC ((HB1.out.trans (HBR.out.mono HB1.out.size)).trans (hB4.mono (HB1.out.trans (HBR.out.mono HB1.out.size)).size))
          clear hB4
          go_wp2
          go_ret
          exact ⟨rfl, HB4.out⟩
    · have hb := nearR_bad h0
      rw [hb] at HN
      have hne : ((nearR F E len p s).2 != 0) = true := by simpa using h0
      generalize (nearR F E len p s).2 = e2 at *
      clear HT hb h0
      go_wp2_with fail
      refine HN.out.mono ?_
      rintro e X2 ⟨rfl, hB2⟩
      have HB2 := hidC (HB1.out.trans (hB2.mono HB1.out.size))
      clear hB2 HN
      go_wp2_with fail
      refine (HA.out X2 HB2.out).mono ?_
      rintro e X3 ⟨rfl, hB3⟩
      have HB3 := hidC (HB2.out.trans (hB3.mono HB2.out.size))
      clear hB3
      go_wp2
      go_ret
      exact ⟨rfl, HB3.out⟩
end Go.Proofs.YtbkpehfaofhmaaaGreatDoor
