/-
  PROVED HERE: the document's own Closed at every slice of tokens: what it returns; nothing that lay before is turned.
-/
import Derived.Test.YtpcgedcklmdmkaaClos
namespace Go.Proofs.Ytpcgedcklmdmkaa
open Go.RowKit

set_option maxRecDepth 100000 in
set_option maxHeartbeats 2000000 in
theorem rclosed_calls (a : Option Addr) (len cap : Nat) (l : List Tok) (w : World) (hl : Toks w a len l) (hsz : len ≤ 2097152) :
    Calls Try.prog 8 #[.slice a len cap] w fun e w' => ∃ a' cap', e = .returned (.slice a' (closed l).length cap') ∧ Toks w' a' (closed l).length (closed l) ∧ Below w.heap.size w w' := by
  have hL := hl.1
  go_enter Try.func8, Try.ntmps8
  go_wp2
  go_loopw [3, 4, 5] (fun u d i w' => ∃ (k D : Nat) (out : List Tok), k ≤ len ∧ i = .int .i64 (k : Int) ∧ d = .int .i64 (D : Int) ∧ D ≤ k ∧ out.length ≤ k ∧ out ++ closA (l.drop k) D = closed l ∧ w'.ownsRow w.heap.size 35 4 u out.length (flat out) ∧ Below w.heap.size w w') (fun _ _ i _ => len - (intOf i).toNat)
  case atStart => exact ⟨0, 0, [], Nat.zero_le _, rfl, rfl, Nat.le_refl _, Nat.le_refl _, rfl, World.ownsRow_nil _ _ _ _, Below.refl _ _⟩
  case round =>
    obtain ⟨k, D, out, hk, rfl, rfl, hD, hO, hC, hrow, hB⟩ := hrel
    by_cases hlt : k < len
    · obtain ⟨b, o, x, rfl, hbl, hx, hc⟩ := hl.token hlt
      obtain ⟨c0, c1, c2, c3⟩ := hc wr hB
      have hdr : l.drop k = x :: l.drop (k + 1) := by
        obtain ⟨y, hy, e⟩ := drop_getD (l := l) (k := k) (by omega)
        rw [hx] at hy
        cases hy
        exact e
      obtain ⟨g, cp, X, hrun, hown, hBX⟩ := app1 hrow hB (Nat.le_refl _) x wr.heap.size rfl (by omega)
      have hol : (out ++ [x]).length = out.length + 1 := by simp
      have ho1 := closed_open (x := x) hC hdr
      have ho2 := fun (e : D = 0) => closed_lone (x := x) (by subst e; exact hC) hdr
      have ho3 := fun D' (e : D = D' + 1) => closed_shut (D := D') (x := x) (by subst e; exact hC) hdr
      have ho4 := closed_part (x := x) hC hdr
      have HZ := hB.size
      clear hc hl hx hdr
      obtain ⟨xk, xt, xn, xm⟩ := x
      simp only at *
      have HRUN : Hid _ := hrun
      have HOWN : Hid _ := hown
      have HBX : Hid _ := hBX
      have HROW : Hid _ := hrow
      clear hrun hown hBX hrow
      by_cases k1 : xk = 1
      · subst k1
        have HC : Hid _ := ho1 rfl
        clear ho1 ho2 ho3 ho4 hC
        have hw : IntKind.i64.wrap ((D : Int) + 1) = (D : Int) + 1 := by rw [IntKind.wrap_i64]; omega
        go_wp2_with (at_builtin; refine wpList_tok_run rfl _ _ 22 rfl _ _ _ _ rfl rfl HRUN.out ?_)
        go_roundw
        case rel => exact ⟨k + 1, D + 1, _, by omega, by go_num, by go_num, by omega, by rw [hol]; omega, HC.out, by rw [hol]; exact HOWN.out, HBX.out⟩
        case measure => simp [intOf]; omega
      · by_cases k2 : xk = 2
        · subst k2
          by_cases hd : D = 0
          · have HC : Hid _ := ho2 hd rfl
            subst hd
            clear ho1 ho2 ho3 ho4 hC HRUN HOWN HBX
            go_wp2
            go_roundw
            case rel => exact ⟨k + 1, 0, out, by omega, by go_num, rfl, by omega, by omega, HC.out, HROW.out, hB⟩
            case measure => simp [intOf]; omega
          · obtain ⟨D', hD'⟩ : ∃ D', D = D' + 1 := ⟨D - 1, by omega⟩
            have HC : Hid _ := ho3 D' hD' rfl
            have ed : ((D : Int) == 0) = false := by simpa using hd
            have hw : IntKind.i64.wrap ((D : Int) - 1) = (D' : Int) := by rw [IntKind.wrap_i64]; omega
            have HD : Hid (D = D' + 1) := hD'
            clear ho1 ho2 ho3 ho4 hC hD'
            go_wp2_with (at_builtin; refine wpList_tok_run rfl _ _ 22 rfl _ _ _ _ rfl rfl HRUN.out ?_)
            have hD' := HD.out
            go_roundw
            case rel => exact ⟨k + 1, D', _, by omega, by go_num, by go_num, by omega, by rw [hol]; omega, HC.out, by rw [hol]; exact HOWN.out, HBX.out⟩
            case measure => simp [intOf]; omega
        · have HC : Hid _ := ho4 k1 k2
          have e1 : (xk == 1) = false := by simpa using k1
          have e2 : (xk == 2) = false := by simpa using k2
          clear ho1 ho2 ho3 ho4 hC
          go_wp2_with (at_builtin; refine wpList_tok_run rfl _ _ 22 rfl _ _ _ _ rfl rfl HRUN.out ?_)
          go_roundw
          case rel => exact ⟨k + 1, D, _, by omega, by go_num, by go_num, by omega, by rw [hol]; omega, HC.out, by rw [hol]; exact HOWN.out, HBX.out⟩
          case measure => simp [intOf]; omega
    · obtain rfl : k = len := by omega
      subst hL
      have HE : Hid (out ++ List.replicate D shutT = closed l) := closed_end hC
      have HROW : Hid _ := hrow
      clear hC hrow hl
      go_wp2
      go_loopw [3, 4] (fun u d w' => ∃ (D : Nat) (out : List Tok), d = .int .i64 (D : Int) ∧ out ++ List.replicate D shutT = closed l ∧ out.length + D ≤ 2 * l.length ∧ w'.ownsRow w.heap.size 35 4 u out.length (flat out) ∧ Below w.heap.size w w') (fun _ d _ => (intOf d).toNat)
      case atStart => exact ⟨D, out, rfl, HE.out, by omega, HROW.out, hB⟩
      case round =>
        clear HE HROW hB hO hD hlt
        obtain ⟨D', out', rfl, hE, hL2, hrow, hB⟩ := hrel
        by_cases hd : D' = 0
        · subst hd
          rw [List.replicate_zero, List.append_nil] at hE
          subst hE
          obtain ⟨a', cp, rfl, hT, _⟩ := toks_of_own hrow
          have HT : Hid (Toks wr a' _ _) := hT
          clear hrow hT
          go_wp2
          go_ret
          exact ⟨a', cp, rfl, HT.out, hB⟩
        · obtain ⟨D2, rfl⟩ : ∃ D2, D' = D2 + 1 := ⟨D' - 1, by omega⟩
          obtain ⟨g, cp, X, hrun, hown, hBX⟩ := app1 hrow hB (Nat.le_refl _) shutT wr.heap.size rfl (by omega)
          have HE : Hid ((out' ++ [shutT]) ++ List.replicate D2 shutT = closed l) := by
            show _ = _
            rw [← hE, List.replicate_succ]
            simp
          have hol : (out' ++ [shutT]).length = out'.length + 1 := by simp
          simp only [shutT] at hrun
          have HRUN : Hid _ := hrun
          have HOWN : Hid _ := hown
          have HBX : Hid _ := hBX
          have hp : (0 : Int) < ((D2 + 1 : Nat) : Int) := by omega
          have hw : IntKind.i64.wrap (((D2 + 1 : Nat) : Int) - 1) = (D2 : Int) := by rw [IntKind.wrap_i64]; omega
          generalize hDD : ((D2 + 1 : Nat) : Int) = DD at *
          clear hrun hown hBX hrow hE hB hd
          go_wp2_with (at_builtin; refine wpList_tok_run rfl _ _ 22 rfl _ _ _ _ rfl rfl HRUN.out ?_)
          go_roundw
          case rel => exact ⟨D2, _, by go_num, HE.out, by rw [hol]; omega, by rw [hol]; exact HOWN.out, HBX.out⟩
          case measure => simp [intOf]; omega
end Go.Proofs.Ytpcgedcklmdmkaa
