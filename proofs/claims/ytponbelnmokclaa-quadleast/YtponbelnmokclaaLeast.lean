/-
  PROVED HERE: the statement QuadLeast: for every uint64 and every cut, the number has one byte for each seven bits and one at least, and a part of its bytes is told as short, at its end; no condition.
-/
import Derived.Test.YtponbelnmokclaaRows
import Derived.WalkKit
import Derived.ProofKit
import Derived.OpenShut
import Derived.Below
import Derived.Test.YtponbelnmokclaaGet
namespace Go.Proofs.Ytponbelnmokclaa.quadLeast
open Go.ChangeShapes Go.WideShapes Go.ChangeAt Go.RowKit
set_option linter.unusedVariables false      -- a walk need not use every 'w<i>' (that an integer argument fits its kind)

theorem own : ownKnob Try.prog.godebug = none := by kernel_rfl

/-- Every byte but the last bears 128. -/
theorem leb_more (n : Nat) : ∀ k, k < (leb n).length → ∀ c ∈ (leb n).take k, 128 ≤ c := by
  induction n using Nat.strongRecOn with
  | _ n ih =>
    intro k hk c hc
    by_cases h : n < 128
    · rw [leb_lt h] at hk hc
      simp at hk
      subst hk
      simp at hc
    · rw [leb_ge (by omega)] at hk hc
      cases k with
      | zero => simp at hc
      | succ k =>
        rw [List.take_succ_cons] at hc
        rcases List.mem_cons.1 hc with hc | hc
        · omega
        · exact ih (n / 128) (by omega) k (by simpa using hk) c hc

/-- Bytes that all go on, fewer than ten, are short. -/
theorem getL_short : ∀ (r : List Int) (i : Nat) (p : Int) (n : Nat), (∀ c ∈ r, 128 ≤ c) → i + r.length ≤ 9 → getL r i p n = (0, p + (r.length : Int), 3)
  | [], _, p, _, _, _ => by simp [getL]
  | c :: r, i, p, n, h, hl => by
    have hc := h c (by simp)
    simp at hl
    have hg : goesB (i : Int) c = true := by
      unfold goesB
      have h1 : ((i : Int) == 9) = false := by
        rw [beq_eq_false_iff_ne]
        omega
      have h2 : (c == 0) = false := by
        rw [beq_eq_false_iff_ne]
        omega
      rw [h1, h2]
      simp
    rw [getL, if_neg (by rw [hg]; simp), if_neg (by omega), getL_short r (i + 1) (p + 1) _ (fun x hx => h x (by simp [hx])) (by omega)]
    simp
    omega

theorem getA_short (n k : Nat) (hn : n < 18446744073709551616) (hk : k < (leb n).length) : getA ((leb n).take k) 0 = (0, (k : Int), 3) := by
  have hl : ((leb n).take k).length = k := by rw [List.length_take]; omega
  have h10 : (leb n).length ≤ 10 := by
    have h1 := leb_length n hn
    have h2 := (qlen_le (n : Int) (by omega) (by omega)).2
    rw [Int.toNat_natCast] at h2
    omega
  unfold getA
  rw [hl, if_neg (by omega)]
  have := getL_short ((leb n).take k) 0 0 0 (leb_more n k hk) (by omega)
  rw [hl] at this
  simpa using this

theorem leb_pos (n : Nat) : 1 ≤ (leb n).length := by
  by_cases h : n < 128
  · rw [leb_lt h]; simp
  · rw [leb_ge (by omega)]; simp

/-- The law's own count, on its way: t is what is counted so far, m what is left of the number. -/
def Count (L t : Nat) (m : Int) : Prop := (m = 0 ∧ t = L) ∨ (0 < m ∧ L = t + (leb m.toNat).length)

theorem count_start (n : Int) (h0 : 0 ≤ n) : Count (leb n.toNat).length 1 (n / 128) := by
  by_cases h : n < 128
  · refine .inl ⟨by omega, ?_⟩
    rw [leb_lt (by omega)]; rfl
  · refine .inr ⟨by omega, ?_⟩
    rw [leb_ge (by omega), List.length_cons, show n.toNat / 128 = (n / 128).toNat from by omega]
    omega
theorem count_step {L t : Nat} {m : Int} (h : Count L t m) (hm : 0 < m) : Count L (t + 1) (m / 128) := by
  rcases h with ⟨h, _⟩ | ⟨_, h⟩
  · omega
  · by_cases h1 : m < 128
    · refine .inl ⟨by omega, ?_⟩
      rw [h, leb_lt (by omega)]; rfl
    · refine .inr ⟨by omega, ?_⟩
      rw [h, leb_ge (by omega), List.length_cons, show m.toNat / 128 = (m / 128).toNat from by omega]
      omega
theorem count_le {L t : Nat} {m : Int} (h : Count L t m) : t ≤ L := by
  rcases h with ⟨_, h⟩ | ⟨_, h⟩ <;> omega
theorem count_done {L t : Nat} {m : Int} (h : Count L t m) (hm : ¬ 0 < m) : t = L := by
  rcases h with ⟨_, h⟩ | ⟨h, _⟩
  · exact h
  · omega

theorem row_take {k : IntKind} {w : World} {b o len : Nat} {zs : List Int} (h : Row k w (some ⟨b, o, none⟩) len zs) {j : Nat} (hj : j ≤ len) : Row k w (some ⟨b, o, none⟩) j (zs.take j) := by
  obtain ⟨hl, h0 | ⟨b', o', e, hlt, hc⟩⟩ := h
  · exact ⟨by rw [List.length_take]; omega, .inl (by omega)⟩
  · cases e
    refine ⟨by rw [List.length_take]; omega, .inr ⟨b, o, rfl, hlt, fun i hi => ?_⟩⟩
    rw [hc i (by omega), List.getD_eq_getElem?_getD, List.getD_eq_getElem?_getD, List.getElem?_take, if_pos hi]

set_option maxRecDepth 100000 in
set_option maxHeartbeats 1000000 in
theorem walk (a0 : Int) (a1 : Int) (w0 : (Lit.int .u64 a0).wf = true) (w1 : (Lit.int .u8 a1).wf = true) (w : World) :
    Calls Try.prog 6 #[.int .u64 a0, .int .u8 a1] w fun e w' => e = .returned (.bool true) ∧ Below w.heap.size w w' := by
  obtain ⟨p0, q0⟩ := of_wf_u64 w0
  obtain ⟨p1, q1⟩ := of_wf_u8 w1
  have l1 := leb_length a0.toNat (by omega)
  have m1 := qlen_le a0 p0 q0
  have hs := count_start a0 p0
  have hsh := fun k hk => getA_short a0.toNat k (by omega) hk
  have hq : qlen a0.toNat = (leb a0.toNat).length := l1.symm
  have HQ : Hid (qlen a0.toNat = (leb a0.toNat).length) := hq
  have n1 : 1 ≤ (leb a0.toNat).length := by omega
  have n2 : (leb a0.toNat).length ≤ 10 := by omega
  have HS : Hid (∀ k, k < (leb a0.toNat).length → getA ((leb a0.toNat).take k) 0 = (0, (k : Int), 3)) := hsh
  clear l1 m1 hq hsh
  go_enter Try.func6, Try.ntmps6
  go_wp2
  go_loop [5, 6] (fun t m => ∃ (k : Nat) (x : Int), 0 ≤ x ∧ x ≤ 18446744073709551615 ∧ t = .int .i64 (k : Int) ∧ m = .int .u64 x ∧ Count (leb a0.toNat).length k x) (fun _ m => (intOf m).toNat)
  case atStart => exact ⟨1, a0 / 128, by omega, by omega, rfl, rfl, hs⟩
  case round =>
    obtain ⟨k, x, hx0, hx1, rfl, rfl, hc⟩ := hrel
    have hcl := count_le hc
    by_cases hlt : 0 < x
    · have hcs := count_step hc hlt
      go_wp2
      go_round
      case rel => exact ⟨k + 1, x / 128, by omega, by omega, by go_num, rfl, hcs⟩
      case measure => simp [intOf]; omega
    · have hk := count_done hc hlt
      subst hk
      clear hc hs hcl
      go_wp2_with fail
      refine (put_one a0 w p0 q0).mono ?_
      rintro e W1 ⟨g, c, rfl, hg, hcap, hcm, hr, hb⟩
      generalize hL : (leb a0.toNat).length = L at *
      have HL : Hid ((leb a0.toNat).length = L) := hL
      clear hL
      have b1 : 0 ≤ a1 % (L : Int) := Int.emod_nonneg _ (by omega)
      have b2 : a1 % (L : Int) < (L : Int) := Int.emod_lt_of_pos _ (by omega)
      have b3 : a1 % (L : Int) ≤ (c : Int) := by omega
      go_wp2_with (go_at_call 9; refine (len_calls a0 _ p0 q0).mono ?_; rintro e w' ⟨rfl, rfl⟩; rw [HQ.out])
      refine (get_calls (some ⟨g, 0, none⟩) (a1 % (L : Int)).toNat c ((leb a0.toNat).take (a1 % (L : Int)).toNat) 0 _ (row_take hr (by omega)) (fun y hy => bytes_leb _ y (List.mem_of_mem_take hy)) (by omega)).mono ?_
      rintro e W2 ⟨rfl, hb2⟩
      rw [HS.out (a1 % (L : Int)).toNat (by omega), show (((a1 % (L : Int)).toNat : Nat) : Int) = a1 % (L : Int) from by omega]
      go_wp2
      go_ret
      exact ⟨rfl, hb.trans (hb2.mono hb.size)⟩

set_option maxRecDepth 100000 in
theorem lifted (os : Os) (started : os.Started) (H : Type) (enc : TypeId × Value → H) :
    ReturnsInHanded {} Try.checked os 6 .any (Rows.quadLeastSpec.pre6 enc Try.prog Try.f6 Rows.quadLeastRow.domain false) (Rows.quadLeastSpec.post enc Try.prog Try.f6 false true false false) := by
  refine returnsInHanded_of_change (C := Try.checked) own started (by kernel_rfl) Try.func6
    (ChangeSpec.witness6 (enc := enc) (C := Try.checked) false ⟨#[], #[.int .u64 0, .int .u8 0], []⟩ 8 (by kernel_rfl) (by kernel_rfl) (by kernel_rfl) (by kernel_rfl)) ?_
  intro W base args ds gs before hval0 hW hcnd _
  have hval : ∀ (j : Nat) t v, Try.f6.params[j]? = some t → args[j]? = some v → Value.okWide Try.prog W .any base t v := hval0
  have hW' := hW
  obtain ⟨p, q, hA0, hV, rfl, hfz, hnd⟩ := hW
  have hA : DataW.TrodAll enc Try.prog W 0 (fun _ => true) true Try.f6.params.toList args.toList ds p := hA0
  rw [Try.params6] at hA hval
  obtain ⟨v0, vs0, d0, ds0, p0, q0, hargs, rfl, rfl, h0, r0⟩ := trodAll_cons hA
  obtain ⟨v1, vs1, d1, ds1, p1, q1, rfl, rfl, rfl, h1, r1⟩ := trodAll_cons r0
  obtain ⟨rfl, rfl, rfl⟩ := trodAll_nil r1
  obtain rfl : args = #[v0, v1] := by cases args; simp_all
  obtain ⟨rfl, rfl⟩ := trodVars_none hV
  obtain ⟨a0, rfl, rfl, rfl, w0⟩ := open_int Try.underlying25 (hval 0 25 v0 rfl rfl) h0
  obtain ⟨a1, rfl, rfl, rfl, w1⟩ := open_int Try.underlying5 (hval 1 5 v1 rfl rfl) h1
  clear hA0 hval0
  refine (walk a0 a1 w0 w1 W).mono fun e W' ⟨he, bel⟩ => ?_
  subst he
  exact ⟨_, rfl, _, _, _, [], _, [], hW', trodAll_mk1 (shut_bool Try.underlying4 _), (trodAll_cons_mk (shut_int Try.underlying25 w0) (trodAll_cons_mk (shut_int Try.underlying5 w1) trodAll_mk0)), rfl, bel.frame _, fun h => by cases h⟩

theorem over : Rows.quadLeastRow.holds Try.pinned (OpenSpec.ofChange Rows.quadLeastSpec) :=
  OpenClaim.holds_of_wide 6 Try.f6 rfl rfl rfl rfl rfl rfl rfl ⟨rfl, rfl, rfl, rfl, rfl⟩ rfl rfl rfl rfl rfl (by kernel_rfl) Try.func6 (by kernel_rfl)
    (of_decide_eq_true (by kernel_rfl)) (by unfold Func.isWrapper; first | (rw [if_pos (by decide +kernel)]; kernel_rfl) | (rw [if_neg (by decide +kernel)]; exact ⟨rfl, rfl⟩))
    (fun os started H enc _ => lifted os started H enc)

theorem proved : Rows.QuadLeastSaid :=
  over
#print axioms proved
end Go.Proofs.Ytponbelnmokclaa.quadLeast
namespace Go.Proofs.Ytponbelnmokclaa
theorem QuadLeast_holds : Rows.QuadLeastSaid := quadLeast.proved
end Go.Proofs.Ytponbelnmokclaa
