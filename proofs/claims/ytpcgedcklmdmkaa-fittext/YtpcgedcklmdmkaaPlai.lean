/-
  PROVED HERE: fit.Plain at every slice of tokens and every type: what it returns; nothing that lay before is turned.
-/
import Derived.Test.YtpcgedcklmdmkaaClos
import Derived.Test.YtpcgedcklmdmkaaFCheck
namespace Go.Proofs.Ytpcgedcklmdmkaa
open Go.RowKit

/-- What a type says of itself. -/
structure Spc where
  nm : ByteArray
  ex : ByteArray
  leaf : Bool
  mks : Int
  ls : Int
  ms : Int
  ln : Bool
def spcV (s : Spc) : Value := .agg #[.string s.nm, .string s.ex, .bool s.leaf, .int .i64 s.mks, .int .i64 s.ls, .int .i64 s.ms, .bool s.ln]
def spcO (s : Spc) : Obj := .cells #[.string s.nm, .string s.ex, .bool s.leaf, .int .i64 s.mks, .int .i64 s.ls, .int .i64 s.ms, .bool s.ln] 24

theorem plain1_none {mk : Int} {ln : Bool} {x : Tok} (h : (x.k == 0 && rightT x && (x.n != 10 || ln)) = false) : plain1 mk ln x = [] := by
  unfold plain1
  rw [h]
  rfl
theorem plain1_some {mk : Int} {ln : Bool} {x : Tok} (h : (x.k == 0 && rightT x && (x.n != 10 || ln)) = true) : plain1 mk ln x = [⟨x.k, x.t, x.n, within x.m mk⟩] := by
  unfold plain1
  rw [h]
  rfl
/-- A token's block, one number of it turned. -/
theorem tok_set {W : World} {g : Nat} {k t n m : Int} (h0 : W.cell? ⟨g, 0, none⟩ = some (.int .i64 k)) (h1 : W.cell? ⟨g, 1, none⟩ = some (.int .i64 t)) (h2 : W.cell? ⟨g, 2, none⟩ = some (.int .i64 n)) (h3 : W.cell? ⟨g, 3, none⟩ = some (.int .i64 m)) (m' : Int) :
    (W.setCell ⟨g, 3, none⟩ (.int .i64 m')).cell? ⟨g, 0, none⟩ = some (.int .i64 k) ∧ (W.setCell ⟨g, 3, none⟩ (.int .i64 m')).cell? ⟨g, 1, none⟩ = some (.int .i64 t) ∧ (W.setCell ⟨g, 3, none⟩ (.int .i64 m')).cell? ⟨g, 2, none⟩ = some (.int .i64 n) ∧ (W.setCell ⟨g, 3, none⟩ (.int .i64 m')).cell? ⟨g, 3, none⟩ = some (.int .i64 m') := by
  refine ⟨?_, ?_, ?_, ?_⟩
  · exact (World.cell?_setCell_other W _ _ _ (by simp)).trans h0
  · exact (World.cell?_setCell_other W _ _ _ (by simp)).trans h1
  · exact (World.cell?_setCell_other W _ _ _ (by simp)).trans h2
  · exact World.cell?_setCell_same W _ _ h3
theorem spc_cells {w W : World} {s : Spc} (h : Below (w.alloc (spcO s)).heap.size (w.alloc (spcO s)) W) : W.cell? ⟨w.heap.size, 3, none⟩ = some (.int .i64 s.mks) ∧ W.cell? ⟨w.heap.size, 6, none⟩ = some (.bool s.ln) := by
  have hg := heap_alloc_new w (spcO s)
  have hc := fun j => (h.cell (p := ⟨w.heap.size, j, none⟩) (by simp)).trans (cell_of_row _ w.heap.size j _ _ _ hg)
  exact ⟨hc 3, hc 6⟩
theorem tok_frozen {w W : World} {k t n m : Int} {T : TypeId} (hB : Below (w.alloc (.cells #[.int .i64 k, .int .i64 t, .int .i64 n, .int .i64 m] T)).heap.size (w.alloc (.cells #[.int .i64 k, .int .i64 t, .int .i64 n, .int .i64 m] T)) W) : W.frozen? ⟨w.heap.size, 3, none⟩ = false := by
  have hg := (hB.block w.heap.size (by simp)).trans (heap_alloc_new w (.cells #[.int .i64 k, .int .i64 t, .int .i64 n, .int .i64 m] T))
  simp [World.frozen?, hg]

set_option maxRecDepth 100000 in
set_option maxHeartbeats 2000000 in
theorem fplain_calls (a : Option Addr) (len cap : Nat) (l : List Tok) (s : Spc) (w : World) (hl : Toks w a len l) (hsz : len ≤ 4398046511104) :
    Calls Try.prog 9 #[.slice a len cap, spcV s] w fun e w' => ∃ a' cap', e = .returned (.slice a' (plainL s.mks s.ln l).length cap') ∧ Toks w' a' (plainL s.mks s.ln l).length (plainL s.mks s.ln l) ∧ Below w.heap.size w w' := by
  have hL := hl.1
  have HP : Hid (plainL s.mks s.ln (l.take len) = plainL s.mks s.ln l) := by show _ = _; rw [List.take_of_length_le (Nat.le_of_eq hl.1)]
  obtain ⟨W0, hW0⟩ : ∃ W0, w.alloc (spcO s) = W0 := ⟨_, rfl⟩
  have hB0 : Below w.heap.size w W0 := by rw [← hW0]; exact (Below.refl _ w).alloc (Nat.le_refl _) _
  have hl0 : Toks W0 a len l := hl.below hB0
  have hsp := fun W (h : Below W0.heap.size W0 W) => spc_cells (w := w) (s := s) (W := W) (by rw [hW0]; exact h)
  have hlt0 : w.heap.size < W0.heap.size := by rw [← hW0]; simp
  have HW0 : Hid (w.alloc (spcO s) = W0) := hW0
  obtain ⟨nm, ex, leaf, mks, ls, ms, ln⟩ := s
  simp only [spcO, spcV] at *
  clear hW0 hl
  go_enter Try.func9, Try.ntmps9
  go_wp2
  rw [HW0.out]
  go_loopw [5, 10] (fun u i w' => ∃ (k : Nat) (out : List Tok), k ≤ len ∧ i = .int .i64 (k : Int) ∧ out.length ≤ k ∧ out = plainL mks ln (l.take k) ∧ w'.ownsRow W0.heap.size 35 4 u out.length (flat out) ∧ Below W0.heap.size W0 w') (fun _ i _ => len - (intOf i).toNat)
  case atStart => exact ⟨0, [], Nat.zero_le _, rfl, Nat.le_refl _, rfl, World.ownsRow_nil _ _ _ _, Below.refl _ _⟩
  case round =>
    obtain ⟨k, out, hk, rfl, hO, hC, hrow, hB⟩ := hrel
    by_cases hlt : k < len
    · obtain ⟨b, o, x, rfl, hbl, hx, hc⟩ := hl0.token hlt
      obtain ⟨c0, c1, c2, c3⟩ := hc wr hB
      have hst := plain_take mks ln l k x hx
      rw [← hC] at hst
      have hn1 := plain1_none (mk := mks) (ln := ln) (x := x)
      have hn2 := plain1_some (mk := mks) (ln := ln) (x := x)
      have hr := fun W => fright_calls x W
      have HZ := hB.size
      have HBA : Hid (∀ o, Below W0.heap.size W0 (wr.alloc o)) := fun o => hB.alloc hB.size o
      have HOA : Hid (∀ o, (wr.alloc o).ownsRow W0.heap.size 35 4 u5 out.length (flat out)) := fun o => owns_alloc hrow o
      clear hc hx hl0 hC HP
      obtain ⟨xk, xt, xn, xm⟩ := x
      simp only [tokV] at *
      generalize rightT ⟨xk, xt, xn, xm⟩ = p at *
      by_cases k0 : xk = 0
      · subst k0
        cases p
        · have HS : Hid (out = plainL mks ln (l.take (k + 1))) := by show _ = _; rw [hst, hn1 (by simp)]; simp
          clear hst hn1 hn2
          go_wp2_with fail
          refine (hr _).mono ?_
          rintro e W1 ⟨rfl, hB1⟩
          obtain ⟨t0, t1, t2, t3, hB2⟩ := tok_kept hB1
          have hB3 := hB.trans (hB2.mono HZ)
          have HOW : Hid (W1.ownsRow W0.heap.size 35 4 u5 out.length (flat out)) := owns_later hrow hB2
          clear hB2 hB1 hrow HBA HOA
          go_wp2
          go_roundw
          case rel => exact ⟨k + 1, out, by omega, by go_num, by omega, HS.out, HOW.out, hB3⟩
          case measure => simp [intOf]; omega
        · by_cases hq : xn = 10 ∧ ln = false
          · obtain ⟨rfl, rfl⟩ := hq
            have HS : Hid (out = plainL mks false (l.take (k + 1))) := by show _ = _; rw [hst, hn1 (by simp)]; simp
            clear hst hn1 hn2
            go_wp2_with fail
            refine (hr _).mono ?_
            rintro e W1 ⟨rfl, hB1⟩
            obtain ⟨t0, t1, t2, t3, hB2⟩ := tok_kept hB1
            have hB3 := hB.trans (hB2.mono HZ)
            obtain ⟨s3, s6⟩ := hsp W1 hB3
            have HOW : Hid (W1.ownsRow W0.heap.size 35 4 u5 out.length (flat out)) := owns_later hrow hB2
            clear hB2 hB1 hrow HBA HOA
            go_wp2
            go_roundw
            case rel => exact ⟨k + 1, out, by omega, by go_num, by omega, HS.out, HOW.out, hB3⟩
            case measure => simp [intOf]; omega
          · have hcond : (!(xn == 10) || ln) = true := by
              cases ln
              · simp at hq ⊢; exact hq
              · simp
            have HS : Hid (out ++ [⟨0, xt, xn, within xm mks⟩] = plainL mks ln (l.take (k + 1))) := by show _ = _; rw [hst, hn2 (by simpa [bne] using hcond)]
            have hol : (out ++ [(⟨0, xt, xn, within xm mks⟩ : Tok)]).length = out.length + 1 := by simp
            have hwi := fun W => fwithin_calls xm mks W
            clear hst hn1 hn2
            generalize within xm mks = ym at *
            by_cases h10 : xn = 10
            · obtain rfl : ln = true := by
                cases ln
                · exact absurd ⟨h10, rfl⟩ hq
                · rfl
              subst h10
              clear hcond hq
              go_wp2_with fail
              refine (hr _).mono ?_
              rintro e W1 ⟨rfl, hB1⟩
              obtain ⟨t0, t1, t2, t3, hB2⟩ := tok_kept hB1
              have tf := tok_frozen hB1
              have hB3 := hB.trans (hB2.mono HZ)
              obtain ⟨s3, s6⟩ := hsp W1 hB3
              have hrow1 := owns_later hrow hB2
              have hlt1 : wr.heap.size < W1.heap.size := Nat.lt_of_lt_of_le (by simp) hB1.size
              obtain ⟨q0, q1, q2, q3⟩ := tok_set t0 t1 t2 t3 ym
              have hrow2 : (W1.setCell ⟨wr.heap.size, 3, none⟩ (.int .i64 ym)).ownsRow W0.heap.size 35 4 u5 out.length (flat out) := owns_keep hrow1 fun g hg => Below.heap_setCell _ _ _ _ (by have := (owns_block hrow hg).2.1; simp; omega)
              obtain ⟨g, cp, X, hrun, hown, hBX⟩ := app1 hrow2 (hB3.setCell (p := ⟨wr.heap.size, 3, none⟩) HZ _) (Nat.le_refl _) ⟨0, xt, 10, ym⟩ W1.heap.size (by simp) (by omega)
              have HRUN : Hid _ := hrun
              have HOWN : Hid _ := hown
              have HBX : Hid _ := hBX
              clear hB2 hB1 hrow HBA HOA hrow1 hrow2 hrun hown hBX
              go_wp2_with fail
              refine (hwi _).mono ?_
              rintro e W2 ⟨rfl, rfl⟩
              go_wp2_with (at_builtin; refine wpList_tok_run rfl _ _ 22 rfl _ _ _ _ rfl rfl HRUN.out ?_)
              go_roundw
              case rel => exact ⟨k + 1, _, by omega, by go_num, by rw [hol]; omega, HS.out, by rw [hol]; exact HOWN.out, HBX.out⟩
              case measure => simp [intOf]; omega
            · have e10 : (xn == 10) = false := by simpa using h10
              clear hcond hq
              go_wp2_with fail
              refine (hr _).mono ?_
              rintro e W1 ⟨rfl, hB1⟩
              obtain ⟨t0, t1, t2, t3, hB2⟩ := tok_kept hB1
              have tf := tok_frozen hB1
              have hB3 := hB.trans (hB2.mono HZ)
              obtain ⟨s3, s6⟩ := hsp W1 hB3
              have hrow1 := owns_later hrow hB2
              have hlt1 : wr.heap.size < W1.heap.size := Nat.lt_of_lt_of_le (by simp) hB1.size
              obtain ⟨q0, q1, q2, q3⟩ := tok_set t0 t1 t2 t3 ym
              have hrow2 : (W1.setCell ⟨wr.heap.size, 3, none⟩ (.int .i64 ym)).ownsRow W0.heap.size 35 4 u5 out.length (flat out) := owns_keep hrow1 fun g hg => Below.heap_setCell _ _ _ _ (by have := (owns_block hrow hg).2.1; simp; omega)
              obtain ⟨g, cp, X, hrun, hown, hBX⟩ := app1 hrow2 (hB3.setCell (p := ⟨wr.heap.size, 3, none⟩) HZ _) (Nat.le_refl _) ⟨0, xt, xn, ym⟩ W1.heap.size (by simp) (by omega)
              have HRUN : Hid _ := hrun
              have HOWN : Hid _ := hown
              have HBX : Hid _ := hBX
              clear hB2 hB1 hrow HBA HOA hrow1 hrow2 hrun hown hBX
              go_wp2_with fail
              refine (hwi _).mono ?_
              rintro e W2 ⟨rfl, rfl⟩
              go_wp2_with (at_builtin; refine wpList_tok_run rfl _ _ 22 rfl _ _ _ _ rfl rfl HRUN.out ?_)
              go_roundw
              case rel => exact ⟨k + 1, _, by omega, by go_num, by rw [hol]; omega, HS.out, by rw [hol]; exact HOWN.out, HBX.out⟩
              case measure => simp [intOf]; omega
      · have e0 : (xk == 0) = false := by simpa using k0
        have HS : Hid (out = plainL mks ln (l.take (k + 1))) := by show _ = _; rw [hst, hn1 (by simp [k0])]; simp
        clear hst hn1 hn2 hr hrow
        go_wp2
        go_roundw
        case rel => exact ⟨k + 1, out, by omega, by go_num, by omega, HS.out, HOA.out _, HBA.out _⟩
        case measure => simp [intOf]; omega
    · obtain rfl : k = len := by omega
      rw [HP.out] at hC
      subst hC
      obtain ⟨a', cp, rfl, hT, _⟩ := toks_of_own hrow
      have HT : Hid (Toks wr a' _ _) := hT
      have hBE := hB0.trans (hB.mono hB0.size)
      clear hrow hT
      go_wp2
      go_ret
      exact ⟨a', cp, rfl, HT.out, hBE⟩
end Go.Proofs.Ytpcgedcklmdmkaa
