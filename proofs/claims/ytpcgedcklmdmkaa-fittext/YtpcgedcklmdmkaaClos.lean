/-
  PROVED HERE: fit.Closed at every slice of tokens: what it returns; nothing that lay before is turned.
-/
import Derived.Test.YtpcgedcklmdmkaaRepW
import Derived.Test.YtpcgedcklmdmkaaFitP
namespace Go.Proofs.Ytpcgedcklmdmkaa
open Go.RowKit

/-- Behind all tokens: those that are kept, and what ends the rest. -/
theorem closed_end {l out : List Tok} {D : Nat} (h : out ++ closA (l.drop l.length) D = closed l) : out ++ List.replicate D shutT = closed l := by
  rw [List.drop_length, closA] at h
  exact h
theorem closed_open {l out : List Tok} {k D : Nat} {x : Tok} (h : out ++ closA (l.drop k) D = closed l) (hd : l.drop k = x :: l.drop (k + 1)) (k1 : x.k = 1) : (out ++ [x]) ++ closA (l.drop (k + 1)) (D + 1) = closed l := by
  rw [hd, closA, if_pos k1] at h
  simpa using h
theorem closed_lone {l out : List Tok} {k : Nat} {x : Tok} (h : out ++ closA (l.drop k) 0 = closed l) (hd : l.drop k = x :: l.drop (k + 1)) (k2 : x.k = 2) : out ++ closA (l.drop (k + 1)) 0 = closed l := by
  rw [hd, closA, if_neg (by omega), if_pos k2, if_pos rfl] at h
  exact h
theorem closed_shut {l out : List Tok} {k D : Nat} {x : Tok} (h : out ++ closA (l.drop k) (D + 1) = closed l) (hd : l.drop k = x :: l.drop (k + 1)) (k2 : x.k = 2) : (out ++ [x]) ++ closA (l.drop (k + 1)) D = closed l := by
  rw [hd, closA, if_neg (by omega), if_pos k2, if_neg (by omega), Nat.add_sub_cancel] at h
  simpa using h
theorem closed_part {l out : List Tok} {k D : Nat} {x : Tok} (h : out ++ closA (l.drop k) D = closed l) (hd : l.drop k = x :: l.drop (k + 1)) (k1 : x.k ≠ 1) (k2 : x.k ≠ 2) : (out ++ [x]) ++ closA (l.drop (k + 1)) D = closed l := by
  rw [hd, closA, if_neg k1, if_neg k2] at h
  simpa using h

set_option maxRecDepth 100000 in
set_option maxHeartbeats 2000000 in
theorem fclosed_calls (a : Option Addr) (len cap : Nat) (l : List Tok) (w : World) (hl : Toks w a len l) (hsz : len ≤ 2097152) :
    Calls Try.prog 7 #[.slice a len cap] w fun e w' => ∃ a' cap', e = .returned (.slice a' (closed l).length cap') ∧ Toks w' a' (closed l).length (closed l) ∧ Below w.heap.size w w' := by
  have hL := hl.1
  go_enter Try.func7, Try.ntmps7
  go_wp2
  go_loopw [3, 4, 9] (fun u d i w' => ∃ (k D : Nat) (out : List Tok), k ≤ len ∧ i = .int .i64 (k : Int) ∧ d = .int .i64 (D : Int) ∧ D ≤ k ∧ out.length ≤ k ∧ out ++ closA (l.drop k) D = closed l ∧ w'.ownsRow w.heap.size 35 4 u out.length (flat out) ∧ Below w.heap.size w w') (fun _ _ i _ => len - (intOf i).toNat)
  case atStart => exact ⟨0, 0, [], Nat.zero_le _, rfl, rfl, Nat.le_refl _, Nat.le_refl _, rfl, World.ownsRow_nil _ _ _ _, Below.refl _ _⟩
  case round =>
    obtain ⟨k, D, out, hk, rfl, rfl, hD, hO, hC, hrow, hB⟩ := hrel
    by_cases hlt : k < len
    · obtain ⟨b, o, x, rfl, hbl, hx, hc⟩ := hl.token hlt
      obtain ⟨c0, c1, c2, c3⟩ := hc wr hB
      have hdr : l.drop k = x :: l.drop (k + 1) := by
        obtain ⟨y, hy, e⟩ := drop_getD (l := l) (k := k) (by omega)
        rw [hx] at hy
        cases hy
        exact e
      have HBA : Hid (∀ o, Below w.heap.size w (wr.alloc o)) := fun o => hB.alloc hB.size o
      have HOA : Hid (∀ o, (wr.alloc o).ownsRow w.heap.size 35 4 u3 out.length (flat out)) := fun o => owns_alloc hrow o
      obtain ⟨g, cp, X, hrun, hown, hBX⟩ := app1 (W := wr.alloc (.cells #[.int .i64 x.k, .int .i64 x.t, .int .i64 x.n, .int .i64 x.m] 35)) (HOA.out _) (HBA.out _) (Nat.le_refl _) x (wr.heap.size + 1) (by simp) (by omega)
      have hol : (out ++ [x]).length = out.length + 1 := by simp
      have ho1 := closed_open (x := x) hC hdr
      have ho2 := fun (e : D = 0) => closed_lone (x := x) (by subst e; exact hC) hdr
      have ho3 := fun D' (e : D = D' + 1) => closed_shut (D := D') (x := x) (by subst e; exact hC) hdr
      have ho4 := closed_part (x := x) hC hdr
      have HZ := hB.size
      clear hc hl hx hdr hrow hB
      obtain ⟨xk, xt, xn, xm⟩ := x
      simp only at *
      have HRUN : Hid _ := hrun
      have HOWN : Hid _ := hown
      have HBX : Hid _ := hBX
      clear hrun hown hBX
      by_cases k1 : xk = 1
      · subst k1
        have HC : Hid _ := ho1 rfl
        clear ho1 ho2 ho3 ho4 hC
        have hw : IntKind.i64.wrap ((D : Int) + 1) = (D : Int) + 1 := by rw [IntKind.wrap_i64]; omega
        go_wp2_with (at_builtin; refine wpList_tok_run rfl _ _ 22 rfl _ _ _ _ rfl rfl HRUN.out ?_)
        go_roundw
        case rel => exact ⟨k + 1, D + 1, _, by omega, by go_num, by go_num, by omega, by rw [hol]; omega, HC.out, by rw [hol]; exact HOWN.out, HBX.out⟩
        case measure => simp [intOf]; omega
      · by_cases k2 : xk = 2
        · subst k2
          by_cases hd : D = 0
          · have HC : Hid _ := ho2 hd rfl
            subst hd
            clear ho1 ho2 ho3 ho4 hC HRUN HOWN HBX
            go_wp2
            go_roundw
            case rel => exact ⟨k + 1, 0, out, by omega, by go_num, rfl, by omega, by omega, HC.out, HOA.out _, HBA.out _⟩
            case measure => simp [intOf]; omega
          · obtain ⟨D', hD'⟩ : ∃ D', D = D' + 1 := ⟨D - 1, by omega⟩
            have HC : Hid _ := ho3 D' hD' rfl
            have ed : ((D : Int) == 0) = false := by simpa using hd
            have hw : IntKind.i64.wrap ((D : Int) - 1) = (D' : Int) := by rw [IntKind.wrap_i64]; omega
            have HD : Hid (D = D' + 1) := hD'
            clear ho1 ho2 ho3 ho4 hC hD'
            go_wp2_with (at_builtin; refine wpList_tok_run rfl _ _ 22 rfl _ _ _ _ rfl rfl HRUN.out ?_)
            have hD' := HD.out
            go_roundw
            case rel => exact ⟨k + 1, D', _, by omega, by go_num, by go_num, by omega, by rw [hol]; omega, HC.out, by rw [hol]; exact HOWN.out, HBX.out⟩
            case measure => simp [intOf]; omega
        · have HC : Hid _ := ho4 k1 k2
          have e1 : (xk == 1) = false := by simpa using k1
          have e2 : (xk == 2) = false := by simpa using k2
          clear ho1 ho2 ho3 ho4 hC
          go_wp2_with (at_builtin; refine wpList_tok_run rfl _ _ 22 rfl _ _ _ _ rfl rfl HRUN.out ?_)
          go_roundw
          case rel => exact ⟨k + 1, D, _, by omega, by go_num, by go_num, by omega, by rw [hol]; omega, HC.out, by rw [hol]; exact HOWN.out, HBX.out⟩
          case measure => simp [intOf]; omega
    · obtain rfl : k = len := by omega
      subst hL
      have hE := closed_end hC
      have hEl : out.length + D = (closed l).length := by rw [← hE]; simp
      have hBA : ∀ o, Below w.heap.size w (wr.alloc o) := fun o => hB.alloc hB.size o
      have hR := repeat_calls shutT wr.heap.size 1 D _ (new_toks wr shutT) (by omega)
      have HA : Hid (∀ g W, Below (wr.alloc (.cells #[.int .i64 2, .int .i64 0, .int .i64 0, .int .i64 0] 35)).heap.size (wr.alloc (.cells #[.int .i64 2, .int .i64 0, .int .i64 0, .int .i64 0] 35)) W → Toks W (some ⟨g, 0, none⟩) D (List.replicate D shutT) → ∃ a cap X, (Builtin.append_ #[22, 22] 22 #[u3, .slice (some ⟨g, 0, none⟩) D D]).run Try.prog W = .ok (.slice a (closed l).length cap) X ∧ Toks X a (closed l).length (closed l) ∧ Below w.heap.size w X) := by
        intro g W hW hT
        have := app_all (w := w) (owns_later (owns_alloc hrow (.cells #[.int .i64 2, .int .i64 0, .int .i64 0, .int .i64 0] 35)) hW) ((hBA _).trans (hW.mono (hBA _).size)) (Nat.le_refl _) (c := D) hT (by omega)
        rw [hE, hEl] at this
        exact this
      simp only [shutT] at hR
      clear hC hE hrow hBA hB hl hO hD
      go_wp2_with fail
      refine hR.mono ?_
      rintro e W1 ⟨g, rfl, hT, hW1⟩
      obtain ⟨a', cp, X, hrun, hTX, hBX⟩ := HA.out g W1 hW1 hT
      have HRUN : Hid _ := hrun
      have HTX : Hid (Toks X a' (closed l).length (closed l)) := hTX
      clear HA hrun hTX hT hR hW1
      go_wp2_with (at_builtin; refine wpList_tok_run rfl _ _ 22 rfl _ _ _ _ rfl rfl HRUN.out ?_)
      go_ret
      exact ⟨a', cp, rfl, HTX.out, hBX⟩
end Go.Proofs.Ytpcgedcklmdmkaa
