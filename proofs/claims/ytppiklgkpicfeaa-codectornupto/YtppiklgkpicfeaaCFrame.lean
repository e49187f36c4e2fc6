/-
  PROVED HERE: codec's own reading of a frame: its bytes in memory of their own, the place behind them; or the error that leaves by a panic.
-/
import Derived.Test.YtppiklgkpicfeaaCTake
import Derived.Test.YtppiklgkpicfeaaQAllNum
namespace Go.Proofs.Ytppiklgkpicfeaa
open Go.RowKit

/-- A frame's bytes. -/
def frX (bs : List Int) (p : Int) : List Int := (bs.drop (getA bs p).2.1.toNat).take (getA bs p).1.toNat
/-- A frame's error, or 0. -/
def frE (bs : List Int) (p : Int) : Int :=
  if (getA bs p).2.2 ≠ 0 then (getA bs p).2.2 else if 65536 < (getA bs p).1 then 4 else if (bs.length : Int) < (getA bs p).2.1 + (getA bs p).1 + 4 then 3
  else if (bs.drop ((getA bs p).2.1 + (getA bs p).1).toNat).take 4 = be (more 1 (frX bs p)) then 0 else 10

theorem Rd.drewN1 {w : World} {B : Nat} {a : Option Addr} {len cap : Nat} {p : Int} (h : Rd w B a len cap p) : Rd w.drew B a len cap p := h

set_option maxRecDepth 100000 in
set_option maxHeartbeats 4000000 in
theorem frame_calls (B : Nat) (a : Option Addr) (len cap : Nat) (bs : List Int) (P : Nat) (w0 w : World) (hb : Below w0.heap.size w0 w) (hB : w0.heap.size ≤ B) (hr0 : Rd w B a len cap (P : Int)) (hrow : Row .u8 w0 a len bs) (hbs : Bytes bs) (hlen : len ≤ 140737488355328) (hcap : len ≤ cap) (hcm : cap ≤ 9223372036854775807) (hP : P ≤ len)
    (R : Ending → World → Prop) (ke : ∀ z w', (z ≠ 0 ∧ frE bs P = z) → Below w0.heap.size w0 w' → R (.panicked (pan z)) w')
    (ko : ∀ a' cap' N Q w', (frE bs P = 0 ∧ frX bs P = (bs.drop Q).take N ∧ (getA bs P).2.1 + (getA bs P).1 + 4 = ((Q + N + 4 : Nat) : Int)) → Row .u8 w' a' N ((bs.drop Q).take N) → Rd w' B a len cap ((Q + N + 4 : Nat) : Int) → Below w0.heap.size w0 w' → R (.returned (.slice a' N cap')) w') :
    Calls Try.prog 16 #[.pointer (some ⟨B, 0, none⟩)] w R := by
  have hmx : Try.prog.follows .mixedOrders = true := by kernel_rfl
  have hl : bs.length = len := hrow.1
  have HE := hide_ ke
  have HO := hide_ ko
  clear ke ko
  obtain ⟨x, y, z, hg⟩ : ∃ x y z, getA bs P = (x, y, z) := ⟨_, _, _, rfl⟩
  have HG := hide_ hg
  have HF : Hid (z = 0 → 0 ≤ x ∧ 0 ≤ y ∧ y ≤ len) := by
    intro h
    have := getA_fits bs P hbs (by omega) (by omega) (by rw [hg]; exact h)
    rw [hg, hl] at this
    simp only at this
    omega
  have HZ1 : Hid (z ≠ 0 → z ≠ 0 ∧ frE bs P = z) := by
    intro h
    unfold frE
    rw [hg]
    simp [h]
  have HZ2 : Hid (z = 0 → 65536 < x → (4 : Int) ≠ 0 ∧ frE bs P = 4) := by
    intro h h2
    unfold frE
    rw [hg]
    simp [h, h2]
  have HZ3 : Hid (z = 0 → x ≤ 65536 → (len : Int) < y + x + 4 → (3 : Int) ≠ 0 ∧ frE bs P = 3) := by
    intro h h2 h3
    unfold frE
    rw [hg, hl]
    have : ¬ 65536 < x := by omega
    simp [h, this, h3]
  have HZ4 : Hid (z = 0 → x ≤ 65536 → ¬ (len : Int) < y + x + 4 → (bs.drop (y + x).toNat).take 4 = be (more 1 ((bs.drop y.toNat).take x.toNat)) → frE bs P = 0 ∧ frX bs P = (bs.drop y.toNat).take x.toNat ∧ (getA bs P).2.1 + (getA bs P).1 + 4 = y + x + 4) := by
    intro h h2 h3 h4
    unfold frE frX
    rw [hg, hl]
    have : ¬ 65536 < x := by omega
    simp only at h4 ⊢
    rw [if_neg (by simp [h]), if_neg this, if_neg h3, if_pos h4]
    refine ⟨?_, ?_, ?_⟩ <;> first | rfl | trivial
  have HZ5 : Hid (z = 0 → x ≤ 65536 → ¬ (len : Int) < y + x + 4 → ¬ (bs.drop (y + x).toNat).take 4 = be (more 1 ((bs.drop y.toNat).take x.toNat)) → (10 : Int) ≠ 0 ∧ frE bs P = 10) := by
    intro h h2 h3 h4
    unfold frE frX
    rw [hg, hl]
    have : ¬ 65536 < x := by omega
    simp only at h4 ⊢
    rw [if_neg (by simp [h]), if_neg this, if_neg h3, if_neg h4]
    exact ⟨by decide, rfl⟩
  clear hg
  unfold pan at HE
  go_enter Try.func16, Try.ntmps16
  go_wp2_with fail
  refine wp_region_held_drew (S := fun _ => True) hmx trivial (fun hS => ?_)
  refine takeD 0 (some 4) (v := ?_) rfl rfl (by kernel_rfl) (by kernel_rfl) (by kernel_rfl) (fun _ _ _ h => h) (Or.inl ⟨by rfl, ?_⟩) hS ?_
  rotate_left
  · intro w hSw
    try go_simp
    with_reducible rfl
  try simp only [Act.put, List.setIfInBounds_toArray, List.set_cons_zero, List.set_cons_succ]
  refine takeD 1 (some 5) (v := ?_) rfl rfl (by kernel_rfl) (by kernel_rfl) (by kernel_rfl) (fun _ _ _ h => h) (Or.inl ⟨by rfl, ?_⟩) hS ?_
  rotate_left
  · intro w hSw
    go_simp
    with_reducible rfl
  try simp only [Act.put, List.setIfInBounds_toArray, List.set_cons_zero, List.set_cons_succ]
  refine takeD 2 (some 6) (v := ?_) rfl rfl (by kernel_rfl) (by kernel_rfl) (by kernel_rfl) (fun _ _ _ h => h) (Or.inl ⟨by rfl, ?_⟩) hS ?_
  rotate_left
  · intro w hSw
    go_simp
    with_reducible rfl
  try simp only [Act.put, List.setIfInBounds_toArray, List.set_cons_zero, List.set_cons_succ]
  refine takeD 3 (some 7) (v := ?_) rfl rfl (by kernel_rfl) (by kernel_rfl) (by kernel_rfl) (fun _ _ _ h => h) (Or.inl ⟨by rfl, ?_⟩) hS ?_
  rotate_left
  · intro w hSw
    try go_simp
    with_reducible rfl
  try simp only [Act.put, List.setIfInBounds_toArray, List.set_cons_zero, List.set_cons_succ]
  refine takeD 4 (some 8) (v := ?_) rfl rfl (by kernel_rfl) (by kernel_rfl) (by kernel_rfl) (fun _ _ _ h => h) (Or.inl ⟨by rfl, ?_⟩) hS ?_
  rotate_left
  · intro w hSw
    go_simp
    with_reducible rfl
  try simp only [Act.put, List.setIfInBounds_toArray, List.set_cons_zero, List.set_cons_succ]
  refine takeD 5 (some 9) (v := ?_) rfl rfl (by kernel_rfl) (by kernel_rfl) (by kernel_rfl) (fun _ _ _ h => h) (Or.inl ⟨by rfl, ?_⟩) hS ?_
  rotate_left
  · intro w hSw
    go_simp
    with_reducible rfl
  try simp only [Act.put, List.setIfInBounds_toArray, List.set_cons_zero, List.set_cons_succ]
  refine callD 6 (by kernel_rfl) rfl (fun K hK => ?_)
  rw [if_pos (by rfl)]
  go_simp
  refine number_calls B a len cap bs (P : Int) 65536 x y z _ (hr0.drewN1) (hrow.below hb.drew) hbs hlen (by omega) (by omega) HG.out _ ?_ ?_ ?_
  · intro hz w' hw
    go_simp
    exact ⟨rfl, HE.out z _ (HZ1.out hz) (hb.drew.trans (hw.mono hb.drew.size))⟩
  · intro hz hx w' hw
    go_simp
    exact ⟨rfl, HE.out 4 _ (HZ2.out hz hx) (hb.drew.trans (hw.mono hb.drew.size))⟩
  intro hz hx W1 hW1
  have b1 : Below w0.heap.size w0 W1 := hb.drew.trans (hW1.mono hb.drew.size)
  have hr1 : Rd (W1.setCell ⟨B, 1, none⟩ (.int .i64 y)) B a len cap y := (hr0.drewN1.below hr0.drewN1.lt hW1).set y
  have b2 : Below w0.heap.size w0 (W1.setCell ⟨B, 1, none⟩ (.int .i64 y)) := b1.setCell (p := ⟨B, 1, none⟩) hB _
  have HX1 := hide_ hr1
  have HX2 := hide_ b2
  clear hr1 b2 hW1 b1
  generalize W1.setCell ⟨B, 1, none⟩ (.int .i64 y) = X1 at *
  go_simp
  refine hK.out _ _ trivial (fun _ => ?_)
  clear hK K
  try simp only [Act.put, List.setIfInBounds_toArray, List.set_cons_zero, List.set_cons_succ]
  obtain ⟨hx0, hy0, hy1⟩ := HF.out hz
  obtain ⟨N, hN⟩ := Int.eq_ofNat_of_zero_le hx0
  obtain ⟨Q, hQ⟩ := Int.eq_ofNat_of_zero_le hy0
  have HSH := HZ3.out hz hx
  have HOK := HZ4.out hz hx
  have HBD := HZ5.out hz hx
  subst hN hQ
  clear HZ1 HZ2 HZ3 HZ4 HZ5 HF HG hr0 hb
  refine callD 7 (by kernel_rfl) rfl (fun K hK => ?_)
  rw [if_pos (by rfl)]
  go_simp
  by_cases h1 : len < Q + N
  · refine (take_short B a len cap (Q : Int) (N : Int) X1 HX1.out hlen (by omega) (by omega) (by omega) (by omega) (by omega)).mono ?_
    rintro e w' ⟨rfl, hw⟩
    go_simp
    exact ⟨rfl, HE.out 3 _ (HSH (by omega)) (HX2.out.trans (hw.mono HX2.out.size))⟩
  refine take_calls B a len cap bs Q N X1 HX1.out (hrow.below HX2.out) hlen hcap hcm (by omega) _ ?_
  intro a1 c1 m1 q1 HT1
  have hr2 : Rd (((X1.drewN m1).setCell ⟨B, 1, none⟩ (.int .i64 ((Q : Int) + (N : Int)))).drewN q1) B a len cap ((Q + N : Nat) : Int) := by
    have := ((HX1.out.drewN m1).set ((Q : Int) + (N : Int))).drewN q1
    rwa [show (Q : Int) + (N : Int) = ((Q + N : Nat) : Int) from by omega] at this ⊢
  have b3 : Below w0.heap.size w0 (((X1.drewN m1).setCell ⟨B, 1, none⟩ (.int .i64 ((Q : Int) + (N : Int)))).drewN q1) := below_drewN ((below_drewN HX2.out m1).setCell (p := ⟨B, 1, none⟩) hB _) q1
  have HX3 := hide_ hr2
  have HX4 := hide_ b3
  clear hr2 b3 HX1 HX2
  generalize ((X1.drewN m1).setCell ⟨B, 1, none⟩ (.int .i64 ((Q : Int) + (N : Int)))).drewN q1 = X2 at *
  go_simp
  refine hK.out _ _ trivial (fun _ => ?_)
  clear hK K
  try simp only [Act.put, List.setIfInBounds_toArray, List.set_cons_zero, List.set_cons_succ]
  refine takeD 8 (some 3) (v := ?_) rfl rfl (by kernel_rfl) (by kernel_rfl) (by kernel_rfl) (fun _ _ _ h => h) (Or.inl ⟨by rfl, ?_⟩) hS ?_
  rotate_left
  · intro w hSw
    try go_simp
    with_reducible rfl
  try simp only [Act.put, List.setIfInBounds_toArray, List.set_cons_zero, List.set_cons_succ]
  refine wpAnyH_done (by kernel_rfl) ?_ _
  have HT := hide_ HT1
  clear HT1 hS
  have hx3 : N ≤ 65536 := by omega
  by_cases h2 : len < Q + N + 4
  · go_wp2_with fail
    refine (take_short B a len cap ((Q + N : Nat) : Int) 4 X2 HX3.out hlen (by omega) (by omega) (by omega) (by omega) (by omega)).mono ?_
    rintro e w' ⟨rfl, hw⟩
    go_wp2
    exact ⟨rfl, HE.out 3 _ (HSH (by omega)) (HX4.out.trans (hw.mono HX4.out.size))⟩
  have hOK := hide_ (HOK (by omega))
  have hBD := hide_ (HBD (by omega))
  clear HOK HBD HSH
  go_wp2_with fail
  refine take_calls B a len cap bs (Q + N) 4 X2 HX3.out (hrow.below HX4.out) hlen hcap hcm (by omega) _ ?_
  intro a2 c2 m2 q2 HT2'
  have HT2 := hide_ HT2'
  clear HT2'
  have hr4 : Rd (((X2.drewN m2).setCell ⟨B, 1, none⟩ (.int .i64 (((Q + N : Nat) : Int) + ((4 : Nat) : Int)))).drewN q2) B a len cap ((Q + N + 4 : Nat) : Int) := by
    have := ((HX3.out.drewN m2).set (((Q + N : Nat) : Int) + ((4 : Nat) : Int))).drewN q2
    rwa [show (((Q + N : Nat) : Int) + ((4 : Nat) : Int)) = ((Q + N + 4 : Nat) : Int) from by omega] at this ⊢
  have b4 : Below w0.heap.size w0 (((X2.drewN m2).setCell ⟨B, 1, none⟩ (.int .i64 (((Q + N : Nat) : Int) + ((4 : Nat) : Int)))).drewN q2) := below_drewN ((below_drewN HX4.out m2).setCell (p := ⟨B, 1, none⟩) hB _) q2
  have HX5 := hide_ hr4
  have HX6 := hide_ b4
  clear hr4 b4 HX3 HX4
  generalize ((X2.drewN m2).setCell ⟨B, 1, none⟩ (.int .i64 (((Q + N : Nat) : Int) + ((4 : Nat) : Int)))).drewN q2 = X3 at *
  have hbx : Bytes ((bs.drop Q).take N) := fun c hc => hbs c (List.mem_of_mem_drop (List.mem_of_mem_take hc))
  have hb4 : Bytes ((bs.drop (Q + N)).take 4) := fun c hc => hbs c (List.mem_of_mem_drop (List.mem_of_mem_take hc))
  have HS := hide_ (sumOf_calls a1 N c1 ((bs.drop Q).take N) X3 (HT.out _ (hrow.below HX6.out)) hbx (by omega))
  go_wp2_with fail
  refine HS.out.mono ?_
  rintro e X4 ⟨g, rfl, hg, bg⟩
  have b5 := hide_ (HX6.out.trans (bg.mono HX6.out.size))
  have r5 := hide_ (HX5.out.below HX5.out.lt bg)
  have HQ := hide_ (equal_calls a2 (some ⟨g, 0, none⟩) 4 c2 4 4 ((bs.drop (Q + N)).take 4) (be (more 1 ((bs.drop Q).take N))) X4 (HT2.out _ (hrow.below b5.out)) hg hb4 (bytes_be _ (more_fits 1 _).1 (more_fits 1 _).2))
  clear hg bg HS HX5 HX6
  have HC := hide_ (bclone_calls a1 N c1 ((bs.drop Q).take N) X4 (HT.out _ (hrow.below b5.out)) (by omega))
  by_cases hq : (bs.drop (Q + N)).take 4 = be (more 1 ((bs.drop Q).take N))
  · have hd : decide ((bs.drop (Q + N)).take 4 = be (more 1 ((bs.drop Q).take N))) = true := by simpa using hq
    rw [hd] at HQ
    have H1 := hide_ (hOK.out hq)
    clear hd hq hOK hBD
    go_wp2_with fail
    refine HQ.out.mono ?_
    rintro e w' ⟨rfl, rfl⟩
    go_wp2_with fail
    refine HC.out.mono ?_
    rintro e X5 ⟨a3, c3, rfl, hr3, b6⟩
    go_wp2
    exact HO.out a3 c3 N Q _ H1.out hr3 (r5.out.below r5.out.lt b6) (b5.out.trans (b6.mono b5.out.size))
  · have hd : decide ((bs.drop (Q + N)).take 4 = be (more 1 ((bs.drop Q).take N))) = false := by simpa using hq
    rw [hd] at HQ
    have H1 := hide_ (hBD.out hq)
    clear hd hq hOK hBD
    go_wp2_with fail
    refine HQ.out.mono ?_
    rintro e w' ⟨rfl, rfl⟩
    go_wp2
    exact ⟨rfl, HE.out 10 _ H1.out b5.out⟩
end Go.Proofs.Ytppiklgkpicfeaa
