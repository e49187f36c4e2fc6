/-
  PROVED HERE: the body of CodecTorn: at any bytes, any byte and any place it answers true; nothing that lay before has turned.
-/
import Derived.Test.YtppiklgkpicfeaaCToP
import Derived.Test.YtppiklgkpicfeaaCFrW
namespace Go.Proofs.Ytppiklgkpicfeaa
open Go.ChangeShapes Go.WideShapes Go.ChangeAt Go.RowKit

/-- A cell of a row of the call's own is written. -/
theorem row_set {W : World} {g len : Nat} {bs : List Int} (h : Row .u8 W (some ⟨g, 0, none⟩) len bs) (i : Nat) (hi : i < len) (c : Int) :
    Row .u8 (W.setCell ⟨g, i, none⟩ (.int .u8 c)) (some ⟨g, 0, none⟩) len (bs.set i c) := by
  obtain ⟨hl, h0 | ⟨b, o, hbo, hlt, hc⟩⟩ := h
  · omega
  · cases hbo
    refine ⟨by rw [List.length_set]; exact hl, .inr ⟨g, 0, rfl, by simpa [World.setCell] using hlt, fun j hj => ?_⟩⟩
    rw [List.getD_eq_getElem?_getD, List.getElem?_set]
    by_cases e : i = j
    · subst e
      rw [if_pos rfl, if_pos (by omega), Nat.zero_add]
      have := hc i hj
      rw [Nat.zero_add] at this
      exact World.cell?_setCell_same _ _ _ this
    · rw [if_neg e, World.cell?_setCell_other _ _ _ _ (by simp), ← List.getD_eq_getElem?_getD]
      exact hc j hj

theorem row_cell {k : IntKind} {W : World} {b o len : Nat} {bs : List Int} (h : Row k W (some ⟨b, o, none⟩) len bs) (i : Nat) (hi : i < len) : W.cell? ⟨b, o + i, none⟩ = some (.int k (bs.getD i 0)) := by
  obtain ⟨hl, h0 | ⟨b', o', hbo, hlt, hc⟩⟩ := h
  · omega
  · cases hbo
    exact hc i hi

set_option maxRecDepth 100000 in
set_option maxHeartbeats 4000000 in
theorem torn_long (a0 : Option Addr) (len0 cap0 : Nat) (z0 : List Int) (v1 v2 v3 v4 : Value) (w : World) (w0 : Row .u8 w a0 len0 z0) (u0 : Bytes z0) (s0 : len0 ≤ 1048576) (hb : 65536 < len0) :
    Calls Try.prog 4 #[.slice a0 len0 cap0, v1, v2, v3, v4] w fun e w' => e = .returned (.bool true) ∧ Below w.heap.size w w' := by
  have HW := wrap_calls a0 len0 cap0 z0 w w0 u0 (by omega)
  have e : wrapL z0 = ([], 2) := by unfold wrapL; rw [w0.1, if_pos hb]
  rw [e] at HW
  have hb' : (65536 : Int) < (len0 : Int) := by omega
  have HW' := hide_ HW
  clear HW e
  go_enter Try.func4, Try.ntmps4
  go_wp2_with fail
  refine HW'.out.mono ?_
  rintro e W1 ⟨a1, c1, rfl, _, _, _, hB⟩
  go_wp2_with fail
  refine (awake_calls _).mono ?_
  rintro e W6 ⟨rfl, hB6⟩
  go_wp2
  go_ret
  exact ⟨rfl, hB.trans (hB6.mono hB.size)⟩

set_option maxRecDepth 100000 in
set_option maxHeartbeats 8000000 in
theorem torn_walk (a0 : Option Addr) (len0 cap0 : Nat) (z0 : List Int) (a1 : Option Addr) (len1 cap1 : Nat) (z1 : List Int) (a2 : Option Addr) (len2 cap2 : Nat) (z2 : List Int) (a3 a4 : Int) (w : World) (w0 : Row .u8 w a0 len0 z0) (u0 : Bytes z0) (w1 : Row .u8 w a1 len1 z1) (u1 : Bytes z1) (w2 : Row .u8 w a2 len2 z2) (u2 : Bytes z2)
    (w3 : (Lit.int .u16 a3).wf = true) (w4 : (Lit.int .u8 a4).wf = true) (s0 : len0 ≤ 1048576) (s1 : len1 ≤ 1048576) (s2 : len2 ≤ 1048576) :
    Calls Try.prog 4 #[.slice a0 len0 cap0, .slice a1 len1 cap1, .slice a2 len2 cap2, .int .u16 a3, .int .u8 a4] w fun e w' => e = .returned (.bool true) ∧ Below w.heap.size w w' := by
  obtain ⟨p3, q3⟩ := of_wf_u16 w3
  obtain ⟨p4, q4⟩ := of_wf_u8 w4
  by_cases hb : 65536 < len0
  · exact torn_long a0 len0 cap0 z0 _ _ _ _ w w0 u0 s0 hb
  have hl0 : z0.length = len0 := w0.1
  have hl1 : z1.length = len1 := w1.1
  have HW := wrap_calls a0 len0 cap0 z0 w w0 u0 (by omega)
  have e : wrapL z0 = (frameL z0, 0) := by unfold wrapL; rw [hl0, if_neg hb]
  rw [e] at HW
  have yF : Bytes (frameL z0) := by have := bytes_frame z0 u0; rwa [e] at this
  have HP1 := torn_whole z0 z1 z2 (by omega)
  have HP2 := fun k => torn_short z0 k (by omega)
  have HP3 := fun k c => torn_changed z0 k c (by omega) u0
  have hFL := frame_len z0
  have h10 := leb_len10 z0.length (by omega)
  have hF0 : 0 < (frameL z0).length := by omega
  have hF1 : (frameL z0).length ≤ 65550 := by omega
  rw [hl1] at HP1
  clear e hFL h10 w3 w4
  simp only at HW
  generalize frameL z0 = F at *
  obtain ⟨FL, hFL⟩ : ∃ FL, F.length = FL := ⟨_, rfl⟩
  rw [hFL] at HW HP1 HP2 HP3 hF0 hF1
  have HW' := hide_ HW
  have P1 := hide_ HP1
  have P2 := hide_ HP2
  have P3 := hide_ HP3
  clear HW HP1 HP2 HP3
  go_enter Try.func4, Try.ntmps4
  go_wp2_with fail
  refine HW'.out.mono ?_
  rintro e W1 ⟨af, cf, rfl, rf, hcf, hcm, b1⟩
  clear HW'
  unfold maxLen at hcm
  obtain ⟨bf, of, rfl, hbf⟩ : ∃ bf of, af = some ⟨bf, of, none⟩ ∧ bf < W1.heap.size := by
    rcases rf.2 with h | ⟨b, o, h, h2, _⟩
    · omega
    · exact ⟨b, o, h, h2⟩
  obtain ⟨v2, W2, hrun2, own2, hv2, hB2⟩ := clone_own a1 len1 cap1 z1 W1 (w1.below b1) (by omega)
  obtain ⟨v3, W3, hrun3, own3, hv3, hB3⟩ := append_own W1.heap.size v2 len1 z1 W2 own2 hv2 hB2.size (some ⟨bf, of, none⟩) FL cf F (rf.below hB2) (by omega)
  have b3 := hB2.trans hB3
  obtain ⟨v4, W4, hrun4, own4, hv4, hB4⟩ := append_own W1.heap.size v3 (len1 + FL) (z1 ++ F) W3 own3 hv3 b3.size a2 len2 cap2 z2 ((w2.below b1).below b3) (by omega)
  have b4 := b3.trans hB4
  obtain ⟨g4, c4, rfl, _, hc4, hm4, hr4⟩ := row_of_owns own4 hv4
  unfold maxLen at hm4
  have HO1 := open_calls (some ⟨g4, 0, none⟩) (len1 + FL + len2) c4 (z1 ++ F ++ z2) len1 W4 hr4 ((u1.append yF).append u2) (by omega) hc4 (by omega)
  obtain ⟨o1, o2, o3⟩ := P1.out
  rw [o1, o2, o3, hl0] at HO1
  have H1 := hide_ HO1
  have R0 := hide_ (w0.below (b1.trans (b4.mono b1.size)))
  have RF := hide_ (rf.below b4)
  have B4 := hide_ (b1.trans (b4.mono b1.size))
  have hlt4 : bf < W4.heap.size := Nat.lt_of_lt_of_le hbf b4.size
  clear P1 o1 o2 o3 HO1 own2 own3 own4 hv2 hv3 hr4 b4 b3 hB2 hB3 hB4 rf b1
  generalize hm : len1 + FL + len2 = m at *
  have hm' := hide_ hm
  clear hm
  go_wp2_with (at_builtin; first | refine wpList_append_run rfl _ _ 22 rfl _ _ _ _ rfl rfl hrun2 ?_ | refine wpList_append_run rfl _ _ 22 rfl _ _ _ _ rfl rfl hrun3 ?_ | refine wpList_append_run rfl _ _ 22 rfl _ _ _ _ rfl rfl hrun4 ?_)
  clear hrun2 hrun3 hrun4
  refine H1.out.mono ?_
  rintro e W5 ⟨a5, c5, rfl, r5, hB5⟩
  clear H1
  have k1 := conv_row (cap := c5) r5
  have k2 := conv_row (cap := cap0) (R0.out.below hB5)
  have hn1 : ((len1 + FL : Nat) : Int) = (len1 : Int) + (FL : Int) := by omega
  have hFz : ((FL : Int) == 0) = false := by rw [beq_eq_false_iff_ne]; omega
  obtain ⟨i, hi⟩ : ∃ i : Nat, a3 % (FL : Int) = (i : Int) := ⟨(a3 % (FL : Int)).toNat, (Int.toNat_of_nonneg (Int.emod_nonneg _ (by omega))).symm⟩
  have hil : i < FL := by
    have := Int.emod_lt_of_pos a3 (b := (FL : Int)) (by omega)
    omega
  have RF5 := RF.out.below hB5
  have B5 := B4.out.trans (hB5.mono B4.out.size)
  have HO2 := open_calls (some ⟨bf, of, none⟩) i cf (F.take i) 0 W5 (by have := RF5.part 0 i (by omega); simpa using this) (fun c hc => yF c (List.mem_of_mem_take hc)) (by omega) (by omega) (by omega)
  obtain ⟨o1, o2, o3⟩ := P2.out i hil
  rw [o1, o2, o3] at HO2
  have H2 := hide_ HO2
  clear HO2 o1 o2 o3 P2
  rw [hn1]
  have R5 := hide_ RF5
  have B5' := hide_ B5
  have R05 := hide_ (R0.out.below hB5)
  have hlt5 : bf < W5.heap.size := Nat.lt_of_lt_of_le hlt4 hB5.size
  clear RF5 B5 R0 RF B4 r5 hB5
  go_wp2_with fail
  rw [hi]
  refine H2.out.mono ?_
  rintro e W6 ⟨a6, c6, rfl, _, hB6⟩
  clear H2 hi k1 k2
  have RF6 := R5.out.below hB6
  have B6 := B5'.out.trans (hB6.mono B5'.out.size)
  obtain ⟨v7, W7, hrun7, own7, hv7, hB7⟩ := clone_own (some ⟨bf, of, none⟩) FL cf F W6 RF6 (by omega)
  obtain ⟨g7, c7, cur, rfl, hg7, hc7, hm7, hg, r7⟩ := row_of_owns2 own7 hv7
  unfold maxLen at hm7
  have hcx := row_cell r7 i hil
  rw [Nat.zero_add] at hcx
  have hfz : W7.frozen? ⟨g7, i, none⟩ = false := by simp [World.frozen?, hg]
  have B7 := B6.trans (hB7.mono B6.size)
  have hgw : w.heap.size ≤ g7 := Nat.le_trans B6.size hg7
  have B8 : Below w.heap.size w (W7.setCell ⟨g7, i, none⟩ (.int .u8 a4)) := B7.setCell (p := ⟨g7, i, none⟩) hgw _
  have B68 : Below W6.heap.size W6 (W7.setCell ⟨g7, i, none⟩ (.int .u8 a4)) := hB7.setCell (p := ⟨g7, i, none⟩) hg7 _
  have r8 := row_set r7 i hil a4
  have yD : Bytes (F.set i a4) := fun x hx => by
    rcases List.mem_or_eq_of_mem_set hx with h | rfl
    · exact yF x h
    · exact ⟨p4, q4⟩
  have RF8 := RF6.below B68
  have R08 := (R05.out.below hB6).below B68
  have HO3 := open_calls (some ⟨g7, 0, none⟩) FL c7 (F.set i a4) 0 _ r8 yD (by omega) hc7 (by omega)
  have P3' := hide_ (P3.out i a4 ⟨p4, q4⟩ hil)
  have H3 := hide_ HO3
  have HCF := hide_ (row_cell RF8 i hil)
  have hlt8 : bf < (W7.setCell ⟨g7, i, none⟩ (.int .u8 a4)).heap.size := by
    rcases RF8.2 with h | ⟨b, o, h, h2, _⟩
    · omega
    · cases h
      exact h2
  have HR0 := hide_ R08
  have HB8 := hide_ B8
  have yX := bytes_opX (F.set i a4) 0 yD
  clear HO3 P3 own7 hv7 r7 r8 RF8 R08 B8 B7 B6 B68 hB6 hB7 RF6 R5 R05 B5' yD hlt4 hlt5
  generalize opX (F.set i a4) 0 = X at *
  generalize opAt (F.set i a4) 0 = T at *
  generalize opE (F.set i a4) 0 = E at *
  generalize F.getD i 0 = fi at *
  have hiF : (i : Int) < (FL : Int) := by omega
  have hi0 : (0 : Int) ≤ (i : Int) := by omega
  go_wp2_with (at_builtin; refine wpList_append_run rfl _ _ 22 rfl _ _ _ _ rfl rfl hrun7 ?_)
  generalize W7.setCell ⟨g7, i, none⟩ (.int .u8 a4) = W8 at *
  refine H3.out.mono ?_
  rintro e W9 ⟨a9, c9, rfl, r9, hB9⟩
  have hcf9 : W9.cell? ⟨bf, of + i, none⟩ = some (.int .u8 fi) := by
    rw [World.cell?_of_block (w := W8) (hB9.block bf hlt8)]
    exact HCF.out
  have B9 := HB8.out.trans (hB9.mono HB8.out.size)
  have k1 := conv_row (cap := c9) r9
  have k2 := conv_row (cap := cap0) (HR0.out.below hB9)
  have k3 := str_beq yX u0
  clear H3 HCF HR0 HB8 hrun7 hcx hfz hg hB9 r9
  generalize X.length = n9 at *
  by_cases hq : a4 = fi
  · have hq' : (a4 == fi) = true := by rw [beq_iff_eq]; exact hq
    clear hq P3'
    go_wp2_with fail
    refine (awake_calls _).mono ?_
    rintro e W10 ⟨rfl, hB10⟩
    go_wp2
    go_ret
    exact ⟨rfl, B9.trans (hB10.mono B9.size)⟩
  · have hq' : (a4 == fi) = false := beq_eq_false_iff_ne.2 hq
    rcases P3'.out hq with ⟨hE, hT⟩ | ⟨hE, hX⟩
    · have hE' : (E == 0) = false := beq_eq_false_iff_ne.2 hE
      subst hT
      clear hq P3'
      go_wp2_with fail
      refine (awake_calls _).mono ?_
      rintro e W10 ⟨rfl, hB10⟩
      go_wp2
      go_ret
      exact ⟨rfl, B9.trans (hB10.mono B9.size)⟩
    · have hd : decide (X = z0) = false := by simpa using hX
      rw [hd] at k3
      subst hE
      clear hq P3' hX hd
      go_wp2_with fail
      refine (awake_calls _).mono ?_
      rintro e W10 ⟨rfl, hB10⟩
      go_wp2
      go_ret
      exact ⟨rfl, B9.trans (hB10.mono B9.size)⟩
end Go.Proofs.Ytppiklgkpicfeaa
