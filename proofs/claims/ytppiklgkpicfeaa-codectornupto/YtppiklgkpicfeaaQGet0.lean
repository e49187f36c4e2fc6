/-
  PROVED HERE: what one round of quad.Get's loop makes of the number, and the three stores of a return.
-/
import Derived.Test.YtppiklgkpicfeaaQFrom
namespace Go.Proofs.Ytppiklgkpicfeaa
open Go.RowKit Go.Shelf
attribute [local go_sem] Oper.semAt_some

/-- The byte's seven bits, shifted to their place. -/
def shlv (c : Int) (i : Nat) : Int := IntKind.u64.wrap (c % 128 * 2 ^ (min (7 * i) 64))

theorem shift_any (c : Int) (i : Nat) : Op.shift .shl .u64 (c % 128) .i64 (7 * (i : Int)) = pure (.int .u64 (shlv c i)) := by
  have h : ((7 : Int) * (i : Int)).toNat = 7 * i := by omega
  have hb : IntKind.u64.bits = 64 := rfl
  simp [Op.shift, shlv, h, hb]
  omega

theorem andNot_fin : ∀ r : Fin 256, bits BinOp.andNot IntKind.u8 (r.val : Int) 128 = (r.val : Int) % 128 := by decide +kernel
theorem andNot128 (c : Int) (h : 0 ≤ c ∧ c ≤ 255) : bits BinOp.andNot IntKind.u8 c 128 = c % 128 := by
  have := andNot_fin ⟨c.toNat, by omega⟩
  simp only at this
  rwa [show ((c.toNat : Nat) : Int) = c from by omega] at this
theorem and_fin : ∀ r : Fin 256, bits BinOp.and IntKind.u8 (r.val : Int) 128 = if (r.val : Int) < 128 then 0 else 128 := by decide +kernel
theorem and128 (c : Int) (h : 0 ≤ c ∧ c ≤ 255) : bits BinOp.and IntKind.u8 c 128 = if c < 128 then 0 else 128 := by
  have := and_fin ⟨c.toNat, by omega⟩
  simp only at this
  rwa [show ((c.toNat : Nat) : Int) = c from by omega] at this

/-- What a loop's round makes of the number. -/
def accStep (bs : List Int) (p : Int) (n : Int) (i : Nat) : Int := bits BinOp.or IntKind.u64 n (shlv (byteAt bs p i) i)

theorem byteAt_byte {bs : List Int} (h : Bytes bs) (p : Int) (i : Nat) : 0 ≤ byteAt bs p i ∧ byteAt bs p i ≤ 255 := by
  unfold byteAt
  by_cases hl : p.toNat + i < bs.length
  · rw [List.getD_eq_getElem?_getD, List.getElem?_eq_getElem hl]
    exact h _ (List.getElem_mem hl)
  · rw [List.getD_eq_getElem?_getD, List.getElem?_eq_none (by omega)]
    simp

/-- The number after the rounds pre. -/
def acc {N : Nat} (bs : List Int) (p : Int) (pre : List (Fin N)) : Int := pre.foldl (fun n i => accStep bs p n i.val) 0
theorem acc_snoc {N : Nat} (bs : List Int) (p : Int) (pre : List (Fin N)) (i : Fin N) : acc bs p (pre ++ [i]) = bits BinOp.or IntKind.u64 (acc bs p pre) (shlv (byteAt bs p i.val) i.val) := by simp [acc, accStep]

/-- Every round so far went on: its byte may be there, and another follows. -/
def Went {N : Nat} (bs : List Int) (p : Int) (pre : List (Fin N)) : Prop := ∀ i ∈ pre, goesB (i.val : Int) (byteAt bs p i.val) = true ∧ 128 ≤ byteAt bs p i.val

theorem went_snoc {N : Nat} {bs : List Int} {p : Int} {pre : List (Fin N)} {i : Nat} {hi : i < N} (h : Went bs p pre) (h1 : goesB (i : Int) (byteAt bs p i) = true) (h2 : 128 ≤ byteAt bs p i) : Went bs p (pre ++ [⟨i, hi⟩]) := by
  intro j hj
  rcases List.mem_append.1 hj with hj | hj
  · exact h j hj
  · simp at hj
    subst hj
    exact ⟨h1, h2⟩

/-- The three stores of a return. -/
theorem three {V : World} {n0 : Nat} {v1 v2 v3 : Value} (g1 : Boxed V (n0 + 1) 38 v1) (g2 : Boxed V (n0 + 1 + 1) 3 v2) (g3 : Boxed V (n0 + 1 + 1 + 1) 23 v3) (x y z : Value) :
    Boxed (((V.setCell ⟨n0 + 1, 0, none⟩ x).setCell ⟨n0 + 1 + 1, 0, none⟩ y).setCell ⟨n0 + 1 + 1 + 1, 0, none⟩ z) (n0 + 1) 38 x ∧
    Boxed (((V.setCell ⟨n0 + 1, 0, none⟩ x).setCell ⟨n0 + 1 + 1, 0, none⟩ y).setCell ⟨n0 + 1 + 1 + 1, 0, none⟩ z) (n0 + 1 + 1) 3 y ∧
    Boxed (((V.setCell ⟨n0 + 1, 0, none⟩ x).setCell ⟨n0 + 1 + 1, 0, none⟩ y).setCell ⟨n0 + 1 + 1 + 1, 0, none⟩ z) (n0 + 1 + 1 + 1) 23 z ∧
    KeepsOthers V (((V.setCell ⟨n0 + 1, 0, none⟩ x).setCell ⟨n0 + 1 + 1, 0, none⟩ y).setCell ⟨n0 + 1 + 1 + 1, 0, none⟩ z) ∧
    ∀ w, Below n0 w V → Below n0 w (((V.setCell ⟨n0 + 1, 0, none⟩ x).setCell ⟨n0 + 1 + 1, 0, none⟩ y).setCell ⟨n0 + 1 + 1 + 1, 0, none⟩ z) := by
  refine ⟨((g1.set x).other (by omega) _).other (by omega) _, ((g2.other (by omega) _).set y).other (by omega) _, ((g3.other (by omega) _).other (by omega) _).set z, ((KeepsOthers.setCell _ _ _).trans (KeepsOthers.setCell _ _ _)).trans (KeepsOthers.setCell _ _ _), fun w hB => ?_⟩
  exact ((hB.setCell (p := ⟨n0 + 1, 0, none⟩) (by show n0 ≤ n0 + 1; omega) _).setCell (p := ⟨n0 + 1 + 1, 0, none⟩) (by show n0 ≤ n0 + 1 + 1; omega) _).setCell (p := ⟨n0 + 1 + 1 + 1, 0, none⟩) (by show n0 ≤ n0 + 1 + 1 + 1; omega) _

/-- How a round leaves: with the error's place; or with the number, and the place behind it. -/
def Out {N : Nat} (bs : List Int) (p : Int) (pre : List (Fin N)) (i : Fin N) (x y z : Int) : Prop :=
  (goesB (i.val : Int) (byteAt bs p i.val) = false ∧ x = 0 ∧ y = p + (i.val : Int) ∧ z = 4) ∨
  (goesB (i.val : Int) (byteAt bs p i.val) = true ∧ byteAt bs p i.val < 128 ∧ x = acc bs p (pre ++ [i]) ∧ y = p + (i.val : Int) + 1 ∧ z = 0)

end Go.Proofs.Ytppiklgkpicfeaa
