/-
  PROVED HERE: slices.Repeat at a slice of one token: what it returns; nothing that lay before is turned.
-/
import Derived.Test.YtpcgedcklmdmkaaMul
import Derived.Laws.CopyOwn
import Derived.Deep.RegionLaw
import Derived.OwnWalk
namespace Go.Proofs.Ytpcgedcklmdmkaa
open Go.RowKit

theorem copy4_run (w : World) (ty : TypeId) (g o dLen dCap : Nat) (a : Addr) (sLen sCap : Nat) (cur : Array Value) (t : TypeId) (cs : List Value)
    (hg : w.heap[g]? = some (.cells cur t (0, 0))) (hn : cs.length = Nat.min sLen dLen * 4)
    (hsrc : ∀ j v, cs[j]? = some v → w.cell? (a.add j) = some v) (hfit : o + cs.length ≤ cur.size) (h1 : ∀ v ∈ cs, v.oneCell' = true) :
    (Builtin.copy_ #[22, 22] ty #[.slice (some ⟨g, o, none⟩) dLen dCap, .slice (some a) sLen sCap]).run Try.prog w =
      .ok (goInt (Nat.min sLen dLen)) (w.setRow g (cur.toList.take o ++ cs ++ cur.toList.drop (o + cs.length)).toArray) := by
  have hl := run_loadCells_list (P := Try.prog) w a cs hsrc
  have hst := run_storeCells_at Try.prog g o t cs 0 cur w hg (by simpa using hfit) h1
  obtain ⟨i0, hi, hz0, hz1, hz2⟩ := info_parts info23
  simp [Builtin.copy_, run_underlying Try.underlying22, Builtin.lenOf, Builtin.firstCells, sizeOf, typeInfo, hi, hz1, ← hn, hl, hst]

/-- A row of n tokens, of which the first j are x. -/
def RepI (w : World) (g n j : Nat) (x : Tok) : Prop := ∃ cur : List Value, w.heap[g]? = some (.cells cur.toArray 35 (0, 0)) ∧ cur.length = n * 4 ∧ cur.take (j * 4) = flat (List.replicate j x)

theorem RepI.cells {w : World} {g n j : Nat} {x : Tok} (h : RepI w g n j x) (i : Nat) (v : Value) (hv : (flat (List.replicate j x))[i]? = some v) : w.cell? ⟨g, i, none⟩ = some v := by
  obtain ⟨cur, hg, hl, ht⟩ := h
  have hi : i < j * 4 := by
    have := (List.getElem?_eq_some_iff.1 hv).1
    rw [flat_length, List.length_replicate] at this
    exact this
  rw [← ht, List.getElem?_take, if_pos hi] at hv
  simp [World.cell?, hg, hv]
theorem RepI.toks {w : World} {g n : Nat} {x : Tok} (h : RepI w g n n x) : Toks w (some ⟨g, 0, none⟩) n (List.replicate n x) := by
  have hc := h.cells
  obtain ⟨cur, hg, hl, ht⟩ := h
  refine ⟨List.length_replicate, .inr ⟨g, 0, rfl, (Array.getElem?_eq_some_iff.1 hg).1, fun i y hy => ?_⟩⟩
  obtain ⟨f0, f1, f2, f3⟩ := flat_at _ i y hy
  simp only [Nat.zero_add]
  exact ⟨hc _ _ f0, hc _ _ f1, hc _ _ f2, hc _ _ f3⟩
theorem flat_same (x : Tok) (j m : Nat) (h : m ≤ j) (i : Nat) (v : Value) (hv : (flat (List.replicate m x))[i]? = some v) : (flat (List.replicate j x))[i]? = some v := by
  have e : List.replicate j x = List.replicate m x ++ List.replicate (j - m) x := by rw [List.replicate_append_replicate]; congr 1; omega
  rw [e, flat_append, List.getElem?_append_left (List.getElem?_eq_some_iff.1 hv).1]
  exact hv
/-- m more are copied, from any place that holds them. -/
theorem rep_copy (w : World) (ty : TypeId) (g n j m dCap sLen sCap : Nat) (a : Addr) (x : Tok) (hR : RepI w g n j x) (hj : j + m ≤ n) (hm : m = Nat.min sLen (n - j)) (hsrc : ∀ i v, (flat (List.replicate m x))[i]? = some v → w.cell? (a.add i) = some v) (B : Nat) (w0 : World) (hb : Below B w0 w) (hBg : B ≤ g) :
    ∃ w', (Builtin.copy_ #[22, 22] ty #[.slice (some ⟨g, j * 4, none⟩) (n - j) dCap, .slice (some a) sLen sCap]).run Try.prog w = .ok (goInt m) w' ∧ RepI w' g n (j + m) x ∧ Below B w0 w' := by
  obtain ⟨cur, hg, hl, ht⟩ := hR
  have hfl : (flat (List.replicate m x)).length = m * 4 := by rw [flat_length, List.length_replicate]
  have h := copy4_run w ty g (j * 4) (n - j) dCap a sLen sCap cur.toArray 35 (flat (List.replicate m x)) hg (by rw [hfl, hm]) hsrc (by rw [hfl, List.size_toArray, hl]; omega) (flat_one _)
  rw [← hm] at h
  refine ⟨_, h, ⟨_, setRow_heap w g _ _ _ _ hg, ?_, ?_⟩, below_setRow hb hBg _⟩
  · simp [hfl, hl]
    omega
  · rw [ht, List.append_assoc, ← List.append_assoc, ← flat_append, List.replicate_append_replicate, List.take_append_of_le_length (by rw [flat_length, List.length_replicate]; exact Nat.le_refl _), List.take_of_length_le (by rw [flat_length, List.length_replicate]; exact Nat.le_refl _)]
theorem step_rep {ops : Array Oper} {o : Oper} {a : Act} {w : World} {K : Act → World → Prop} {Q : Exit → Act → World → Prop} {E : Prop} (hgd : o.guard = none) (d s : Operand)
    (ho : o.op = .call { callee := .builtin .copy, args := #[d, s], argTypes := #[22, 22] })
    (dp sp : Option Addr) (dLen dCap sLen sCap : Nat) (hd : a.eval d = .slice dp dLen dCap) (hs : a.eval s = .slice sp sLen sCap)
    (g n j : Nat) (x : Tok) (hR : RepI w g n j x) (hdp : dp = some ⟨g, j * 4, none⟩) (hsp : sp = some ⟨g, 0, none⟩) (h1 : dLen = n - j) (h2 : sLen = j) (hj : j ≤ n) (m : Nat) (hm : m = Nat.min j (n - j)) (B : Nat) (w0 : World) (hb : Below B w0 w) (hBg : B ≤ g)
    (h : ∀ w', Hid (RepI w' g n (j + m) x) → Below B w0 w' → K (a.put o.dst (goInt m)) w') :
    if Region.wanted o (yielded ops a.tmps) = true then Oper.wp Try.prog o a w K Q else E := by
  have hw : Region.wanted o (yielded ops a.tmps) = true := by simp [Region.wanted, hgd]
  rw [if_pos hw]
  subst hdp hsp h1 h2 hm
  have hmn : Nat.min sLen (n - sLen) ≤ sLen ∧ Nat.min sLen (n - sLen) ≤ n - sLen := ⟨Nat.min_le_left _ _, Nat.min_le_right _ _⟩
  obtain ⟨w', hrun, r1, r2⟩ := rep_copy w o.type g n sLen (Nat.min sLen (n - sLen)) dCap sLen sCap ⟨g, 0, none⟩ x hR (by omega) rfl (fun i v hv => by
    rw [show (⟨g, 0, none⟩ : Addr).add i = ⟨g, i, none⟩ from by rw [add_none, Nat.zero_add]]
    exact hR.cells i v (flat_same x _ _ hmn.1 i v hv)) B w0 hb hBg
  unfold Oper.wp
  simp [execOp, ho, resolve, invoke, builtin, hd, hs, hrun, Result.andThen]
  exact h _ r1 r2
theorem wpList_rep {ops : Array Oper} {rest : List Oper} {o : Oper} {a : Act} {w : World} {Q : Exit → Act → World → Prop} (hgd : o.guard = none) (d s : Operand)
    (ho : o.op = .call { callee := .builtin .copy, args := #[d, s], argTypes := #[22, 22] }) (g n dCap sCap g0 : Nat) (hd : a.eval d = .slice (some ⟨g, 0, none⟩) n dCap) (hs : a.eval s = .slice (some ⟨g0, 0, none⟩) 1 sCap)
    (x : Tok) (hR : RepI w g n 0 x) (hT : Toks w (some ⟨g0, 0, none⟩) 1 [x]) (m : Nat) (hm : m = Nat.min 1 n) (B : Nat) (w0 : World) (hb : Below B w0 w) (hBg : B ≤ g)
    (h : ∀ w', Hid (RepI w' g n m x) → Below B w0 w' → wpList Try.prog ops Q rest (a.put o.dst (goInt m)) w') : wpList Try.prog ops Q (o :: rest) a w := by
  subst hm
  refine wpList_plain hgd fun K hK => ?_
  have hmn : Nat.min 1 n ≤ 1 ∧ Nat.min 1 n ≤ n := ⟨Nat.min_le_left _ _, Nat.min_le_right _ _⟩
  have hcx : ∀ i v, (flat [x])[i]? = some v → w.cell? ⟨g0, 0 + i, none⟩ = some v := by
    obtain ⟨_, h | ⟨b, o', e, _, hc⟩⟩ := hT
    · omega
    · cases e
      exact flat_cells [x] 0 hc
  obtain ⟨w', hrun, r1, r2⟩ := rep_copy w o.type g n 0 (Nat.min 1 n) dCap 1 sCap ⟨g0, 0, none⟩ x hR (by omega) rfl (fun i v hv => by
    rw [add_none]
    exact hcx i v (flat_same x 1 _ hmn.1 i v hv)) B w0 hb hBg
  rw [Nat.zero_mul, Nat.sub_zero] at hrun
  rw [Nat.zero_add] at r1
  unfold Oper.wp
  simp [execOp, ho, resolve, invoke, builtin, hd, hs, hrun, Result.andThen]
  exact hK _ _ (h _ r1 r2)
end Go.Proofs.Ytpcgedcklmdmkaa
