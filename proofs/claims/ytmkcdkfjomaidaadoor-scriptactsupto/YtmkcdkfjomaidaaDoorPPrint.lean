/-
  PROVED HERE, plain: when the document writes an act, and that the program does just then.
-/
import Derived.Test.YtmkcdkfjomaidaaDoorPBack
namespace Go.Proofs.YtmkcdkfjomaidaaDoor
open Go.RowKit

def InR (z : Int) : Prop := -999999999 ≤ z ∧ z ≤ 999999999

/-- The cells with the numbers of the letters. -/
def setP (a c d n : Int) : Array Value → List UInt8 → Array Value
  | cs, [] => cs
  | cs, l :: L => setP a c d n (cs.setIfInBounds (off (l.toNat : Int)) (.int .i64 (numAt a c d n l))) L

/-- What the document asks of an act that has a shape. -/
def OkR (t : Shp) (k a b c d n : Int) (bl : Nat) : Prop := (∀ l ∈ t.fs.data.toList, InR (numAt a c d n l)) ∧ setP a c d n (actC t.k 0 t.b 0 0 0) t.fs.data.toList = actC k a b c d n ∧ bl = 0

theorem dec_inj {u v : Nat} (h : Lib.decDigits u = Lib.decDigits v) : u = v := by
  have h1 := decFrom_dec u
  rw [h, decFrom_dec v] at h1
  exact (Option.some.inj h1).symm
theorem itoa_inj {u v : Int} (h : Lib.itoa u = Lib.itoa v) : u = v := by
  have pos : ∀ x : Nat, ∀ y : List UInt8, Lib.decDigits x ≠ 45 :: y := fun x y e => by
    obtain ⟨c, r, ec, h1, h2, _⟩ := dec_first x
    rw [ec] at e
    obtain ⟨rfl, _⟩ := List.cons.inj e
    exact absurd h1 (by decide)
  rcases Int.lt_or_le u 0 with hu | hu
  · obtain ⟨x, rfl⟩ : ∃ x : Nat, u = -(x : Int) := ⟨u.natAbs, by omega⟩
    rw [Lib.itoa_neg x (by omega)] at h
    rcases Int.lt_or_le v 0 with hv | hv
    · obtain ⟨y, rfl⟩ : ∃ y : Nat, v = -(y : Int) := ⟨v.natAbs, by omega⟩
      rw [Lib.itoa_neg y (by omega)] at h
      rw [dec_inj (List.cons.inj h).2]
    · obtain ⟨y, rfl⟩ : ∃ y : Nat, v = y := ⟨v.toNat, by omega⟩
      rw [Lib.itoa_nonneg] at h
      exact absurd h.symm (pos y _)
  · obtain ⟨x, rfl⟩ : ∃ x : Nat, u = x := ⟨u.toNat, by omega⟩
    rw [Lib.itoa_nonneg] at h
    rcases Int.lt_or_le v 0 with hv | hv
    · obtain ⟨y, rfl⟩ : ∃ y : Nat, v = -(y : Int) := ⟨v.natAbs, by omega⟩
      rw [Lib.itoa_neg y (by omega)] at h
      exact absurd h (pos x _)
    · obtain ⟨y, rfl⟩ : ∃ y : Nat, v = y := ⟨v.toNat, by omega⟩
      rw [Lib.itoa_nonneg] at h
      rw [dec_inj h]
theorem pnum_itoa (v : Int) : (InR v → pnum (Lib.itoa v) = some v) ∧ (¬ InR v → pnum (Lib.itoa v) = none) := by
  refine ⟨fun h => pnum_iff.2 ⟨rfl, h⟩, fun h => ?_⟩
  cases hp : pnum (Lib.itoa v) with
  | none => rfl
  | some u =>
    obtain ⟨h1, h2⟩ := pnum_iff.1 hp
    rw [itoa_inj h1] at h
    exact absurd h2 h

def itoaB (z : Int) : ByteArray := ⟨(Lib.itoa z).toArray⟩
theorem itoaB_data (z : Int) : (itoaB z).data.toList = Lib.itoa z := rfl

theorem fillP_nums (a c d n : Int) : ∀ (L : List UInt8) (cs : Array Value), (∀ l ∈ L, InR (numAt a c d n l)) → fillP cs L (L.map fun l => itoaB (numAt a c d n l)) = some (setP a c d n cs L)
  | [], cs, _ => rfl
  | l :: L, cs, h => by
    rw [List.map_cons, fillP, itoaB_data, (pnum_itoa _).1 (h l (List.mem_cons_self ..))]
    exact fillP_nums a c d n L _ (fun x hx => h x (List.mem_cons_of_mem _ hx))
theorem fillP_out (a c d n : Int) : ∀ (L : List UInt8) (cs : Array Value), (∃ l ∈ L, ¬ InR (numAt a c d n l)) → fillP cs L (L.map fun l => itoaB (numAt a c d n l)) = none
  | [], _, h => by obtain ⟨l, hl, _⟩ := h; cases hl
  | l :: L, cs, h => by
    rw [List.map_cons, fillP, itoaB_data]
    by_cases hl : InR (numAt a c d n l)
    · rw [(pnum_itoa _).1 hl]
      refine fillP_out a c d n L _ ?_
      obtain ⟨x, hx, hn⟩ := h
      rcases List.mem_cons.1 hx with rfl | hx
      · exact absurd hl hn
      · exact ⟨x, hx, hn⟩
    · rw [(pnum_itoa _).2 hl]

theorem dec_blank (u : Nat) : (32 : UInt8) ∉ Lib.decDigits u := by
  induction u using Nat.strongRecOn with
  | ind u ih =>
    have hd : ∀ m, m < 10 → (32 : UInt8) ≠ UInt8.ofNat (48 + m) := fun m hm e => by
      have := congrArg UInt8.toNat e
      simp at this
      omega
    by_cases h : u < 10
    · rw [Lib.decDigits_one h, List.mem_singleton]
      exact hd u h
    · rw [decDigits_step h, List.mem_append, List.mem_singleton]
      rintro (e | e)
      · exact ih (u / 10) (by omega) e
      · exact hd (u % 10) (by omega) e
theorem itoa_blank (z : Int) : (32 : UInt8) ∉ Lib.itoa z := by
  rcases Int.lt_or_le z 0 with h | h
  · obtain ⟨x, rfl⟩ : ∃ x : Nat, z = -(x : Int) := ⟨z.natAbs, by omega⟩
    rw [Lib.itoa_neg x (by omega), List.mem_cons]
    rintro (e | e)
    · cases e
    · exact dec_blank x e
  · obtain ⟨x, rfl⟩ : ∃ x : Nat, z = x := ⟨z.toNat, by omega⟩
    rw [Lib.itoa_nonneg]
    exact dec_blank x

/-- The words of words joined. -/
theorem split_blanks : ∀ (r : List (List UInt8)) (k : Nat) (w : List UInt8), (32 : UInt8) ∉ w → (∀ x ∈ r, (32 : UInt8) ∉ x) → r.length ≤ k → Lib.splitK [32] 0 k (w ++ blanks r) = w :: r
  | [], 0, w, _, _, _ => by
    rw [show blanks [] = [] from rfl, List.append_nil]
    rfl
  | [], k + 1, w, hw, _, _ => by
    rw [show blanks [] = [] from rfl, List.append_nil, Lib.splitK, index_blank, ib_no w hw]
    rfl
  | x :: r, 0, _, _, _, hl => by simp at hl
  | x :: r, k + 1, w, hw, hr, hl => by
    have ih := split_blanks r k x (hr x (List.mem_cons_self ..)) (fun y hy => hr y (List.mem_cons_of_mem _ hy)) (by simpa using hl)
    rw [show blanks (x :: r) = 32 :: (x ++ blanks r) from rfl, Lib.splitK, index_blank, ib_at w _ hw, if_neg (by first | (simp; done) | (simp; omega))]
    have e1 : (w ++ 32 :: (x ++ blanks r)).take ((w.length : Int).toNat + 0) = w := by simp
    have e2 : (w ++ 32 :: (x ++ blanks r)).drop ((w.length : Int).toNat + [32].length) = x ++ blanks r := by simp
    rw [e1]
    have e3 : ([32] : List UInt8).length = 1 := rfl
    rw [e3] at *
    rw [show (w ++ 32 :: (x ++ blanks r)).drop ((w.length : Int).toNat + 1) = x ++ blanks r by simp, ih]

theorem tail_blanks (a c d n : Int) (fs : List UInt8) : tail a c d n fs = blanks (fs.map fun l => Lib.itoa (numAt a c d n l)) := by
  unfold tail blanks
  induction fs with
  | nil => rfl
  | cons l fs ih => rw [List.flatMap_cons, List.map_cons, List.flatMap_cons, ih]

theorem five_lineS {t : Shp} (h : t ∈ tab) (a c d n : Int) : five (lineS t a c d n) = t.word :: t.fs.data.toList.map fun l => itoaB (numAt a c d n l) := by
  obtain ⟨h1, h2⟩ := tab_blank h
  have h3 := (tab_asc h).2
  have hd := five_data (lineS t a c d n)
  have hl : (lineS t a c d n).data.toList = t.word.data.toList ++ blanks (t.fs.data.toList.map fun l => Lib.itoa (numAt a c d n l)) := by
    show t.word.data.toList ++ tail a c d n t.fs.data.toList = _
    rw [tail_blanks]
  have hk : t.fs.data.toList.length ≤ room (lineS t a c d n) - 1 := by
    have e1 : (lineS t a c d n).size = (lineS t a c d n).data.toList.length := rfl
    have e2 : t.word.data.toList.length = t.word.size := rfl
    have e3 : t.fs.data.toList.length = t.fs.size := rfl
    have e4 : ∀ r : List (List UInt8), r.length ≤ (blanks r).length := by
      intro r
      induction r with
      | nil => exact Nat.le_refl _
      | cons x r ih =>
        show r.length + 1 ≤ ((32 :: x) ++ blanks r).length
        rw [List.length_append, List.length_cons]
        omega
    have e5 := e4 (t.fs.data.toList.map fun l => Lib.itoa (numAt a c d n l))
    rw [List.length_map] at e5
    rw [hl, List.length_append] at e1
    unfold room
    omega
  rw [hl, split_blanks _ _ _ h1 (fun x hx => by obtain ⟨l, _, rfl⟩ := List.mem_map.1 hx; exact itoa_blank _) (by rw [List.length_map]; exact hk)] at hd
  have key : ∀ (xs : List ByteArray) (ys : List ByteArray), xs.map (·.data.toList) = ys.map (·.data.toList) → xs = ys := by
    intro xs
    induction xs with
    | nil => intro ys e; cases ys with
      | nil => rfl
      | cons _ _ => simp at e
    | cons x xs ih => intro ys e; cases ys with
      | nil => simp at e
      | cons y ys =>
        rw [List.map_cons, List.map_cons] at e
        obtain ⟨e1, e2⟩ := List.cons.inj e
        rw [ba_ext e1, ih ys e2]
  apply key
  rw [hd, List.map_cons, List.map_map]
  rfl

theorem setP_act (a c d n : Int) : ∀ (L : List UInt8) (k1 a1 b1 c1 d1 n1 : Int), ∃ a' c' d' n', setP a c d n (actC k1 a1 b1 c1 d1 n1) L = actC k1 a' b1 c' d' n'
  | [], _, a1, _, c1, d1, n1 => ⟨a1, c1, d1, n1, rfl⟩
  | l :: L, k1, a1, b1, c1, d1, n1 => by
    obtain ⟨a2, c2, d2, n2, e, _, _⟩ := numAt_set a1 c1 d1 n1 (numAt a c d n l) l
    rw [setP, e k1 b1]
    exact setP_act a c d n L k1 a2 b1 c2 d2 n2
end Go.Proofs.YtmkcdkfjomaidaaDoor
