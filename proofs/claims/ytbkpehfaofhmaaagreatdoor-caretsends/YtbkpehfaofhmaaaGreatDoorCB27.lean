/-
  PROVED HERE: what the texts DBHouseT, DBRow, DBStk, DBPush say (each has its own words below).
-/
import Derived.Test.YtbkpehfaofhmaaaGreatDoorCB26
import Derived.Test.YtbkpehfaofhmaaaGreatDoorCB7
import Derived.OwnWalkIn
import Derived.Maps.AppendAt
import Derived.ProofKit
import Derived.RegionTactic
import Derived.BigRegion
import Derived.BigQuiet
import Derived.Deep.QuietTactic
import Derived.Laws.Rows
/- DBHouseT: the house's schema: what House makes, at every memory. -/
namespace Go.Proofs.YtbkpehfaofhmaaaGreatDoor
open Go.RowKit
def houseW : ByteArray := ⟨#[98, 108, 111, 99, 107, 43]⟩
def textS : ByteArray := ⟨#[116, 101, 120, 116, 42]⟩
def itemS : ByteArray := ⟨#[105, 116, 101, 109, 43]⟩
def houseL : List SpecD := [⟨⟨#[112, 97, 114, 97]⟩, textS, false, 7, 0, 0, false⟩, ⟨⟨#[104, 101, 97, 100]⟩, textS, false, 7, 1, 6, false⟩, ⟨⟨#[113, 117, 111, 116, 101]⟩, houseW, false, 0, 0, 0, false⟩, ⟨⟨#[99, 111, 100, 101]⟩, textS, false, 0, 0, 0, true⟩, ⟨⟨#[108, 105, 115, 116]⟩, itemS, false, 0, 0, 1, false⟩, ⟨⟨#[105, 116, 101, 109]⟩, houseW, false, 0, 0, 0, false⟩, ⟨⟨#[114, 117, 108, 101]⟩, ⟨#[]⟩, true, 0, 0, 0, false⟩]
def houseG : List Grp := [(⟨#[98, 108, 111, 99, 107]⟩, [1, 2, 3, 4, 5, 7])]
def rightNB (gs : List Grp) : Bool := (List.range gs.length).all fun i => match gs[i]? with
 | some x => letters x.1 && !((gs.take i).any fun y => y.1.toList == x.1.toList)
 | none => false
theorem rightN_of {gs : List Grp} (h : rightNB gs = true) : RightN gs := by
 intro i x hx
 have hi := (List.getElem?_eq_some_iff.1 hx).1
 have h1 := List.all_eq_true.1 h i (List.mem_range.2 hi)
 rw [hx] at h1
 simp only [Bool.and_eq_true, Bool.not_eq_true'] at h1
 refine ⟨h1.1, fun ⟨j, y, h2, h3, h4⟩ => ?_⟩
 have := List.any_eq_false.1 h1.2 y (List.mem_of_getElem? (i := j) (by rw [List.getElem?_take, if_pos h2]; exact h3))
 exact this h4
theorem house_new : newE houseW houseL houseG = 0 := by
 unfold newE
 rw [if_neg (by decide), if_pos ⟨by kernel_rfl, rightN_of (by kernel_rfl)⟩]
 kernel_rfl
theorem specs_house (w : World) (b : Nat) (f : Nat × Nat) (h : w.heap[b]? = some (.cells #[.string ⟨#[112, 97, 114, 97]⟩, .string ⟨#[116, 101, 120, 116, 42]⟩, .bool false, .int .i64 7, .int .i64 0, .int .i64 0, .bool false, .string ⟨#[104, 101, 97, 100]⟩, .string ⟨#[116, 101, 120, 116, 42]⟩, .bool false, .int .i64 7, .int .i64 1, .int .i64 6, .bool false, .string ⟨#[113, 117, 111, 116, 101]⟩, .string ⟨#[98, 108, 111, 99, 107, 43]⟩, .bool false, .int .i64 0, .int .i64 0, .int .i64 0, .bool false, .string ⟨#[99, 111, 100, 101]⟩, .string ⟨#[116, 101, 120, 116, 42]⟩, .bool false, .int .i64 0, .int .i64 0, .int .i64 0, .bool true, .string ⟨#[108, 105, 115, 116]⟩, .string ⟨#[105, 116, 101, 109, 43]⟩, .bool false, .int .i64 0, .int .i64 0, .int .i64 1, .bool false, .string ⟨#[105, 116, 101, 109]⟩, .string ⟨#[98, 108, 111, 99, 107, 43]⟩, .bool false, .int .i64 0, .int .i64 0, .int .i64 0, .bool false, .string ⟨#[114, 117, 108, 101]⟩, .string ⟨#[]⟩, .bool true, .int .i64 0, .int .i64 0, .int .i64 0, .bool false] 56 f)) : Specs w (some ⟨b, 0, none⟩) 7 houseL := by
 have hc := fun j => cell_of_row w b j _ _ _ h
 refine ⟨rfl, by omega, .inr ⟨b, 0, rfl, (Array.getElem?_eq_some_iff.1 h).1, fun i x hx => ?_⟩⟩
 match i, hx with
 | 0, hx => cases hx; exact ⟨hc 0, hc 1, hc 2, hc 3, hc 4, hc 5, hc 6⟩
 | 1, hx => cases hx; exact ⟨hc 7, hc 8, hc 9, hc 10, hc 11, hc 12, hc 13⟩
 | 2, hx => cases hx; exact ⟨hc 14, hc 15, hc 16, hc 17, hc 18, hc 19, hc 20⟩
 | 3, hx => cases hx; exact ⟨hc 21, hc 22, hc 23, hc 24, hc 25, hc 26, hc 27⟩
 | 4, hx => cases hx; exact ⟨hc 28, hc 29, hc 30, hc 31, hc 32, hc 33, hc 34⟩
 | 5, hx => cases hx; exact ⟨hc 35, hc 36, hc 37, hc 38, hc 39, hc 40, hc 41⟩
 | 6, hx => cases hx; exact ⟨hc 42, hc 43, hc 44, hc 45, hc 46, hc 47, hc 48⟩
 | n + 7, hx => simp [houseL] at hx
set_option maxRecDepth 100000 in
set_option maxHeartbeats 400000 in
theorem housetypes_calls (w : World) : Calls Tryz.prog 20 #[] w fun e w' => ∃ b, e = .returned (.slice (some ⟨b, 0, none⟩) 7 7) /\ Specs w' (some ⟨b, 0, none⟩) 7 houseL /\ Below w.heap.size w w' := by
 have HB : Hid (∀ o, Below w.heap.size w (w.alloc o)) := fun o => (Below.refl _ w).alloc (Nat.le_refl _) _
 go_enter Tryz.func20, Tryz.ntmps20
 go_wp2
 go_ret
 exact ⟨w.heap.size, rfl, specs_house _ _ _ (World.alloc_heap_new w _), HB.out _⟩
theorem groups_house (w : World) (b b1 : Nat) (h : w.heap[b]? = some (.cells #[.string ⟨#[98, 108, 111, 99, 107]⟩, .slice (some ⟨b1, 0, none⟩) 6 6] 61 (0, 0))) (h1 : w.heap[b1]? = some (.cells #[.int .i64 1, .int .i64 2, .int .i64 3, .int .i64 4, .int .i64 5, .int .i64 7] 3 (0, 0))) : Groups w (some ⟨b, 0, none⟩) 1 houseG := by
 have hc := fun j => cell_of_row w b j _ _ _ h
 have hd := fun j => cell_of_row w b1 j _ _ _ h1
 refine ⟨rfl, by omega, .inr ⟨b, 0, rfl, (Array.getElem?_eq_some_iff.1 h).1, fun i x hx => ?_⟩⟩
 match i, hx with
 | 0, hx =>
  cases hx
  refine ⟨some ⟨b1, 0, none⟩, 6, 6, hc 0, hc 1, rfl, by omega, .inr ⟨b1, 0, rfl, (Array.getElem?_eq_some_iff.1 h1).1, fun k y hy => ?_⟩⟩
  match k, hy with
  | 0, hy => cases hy; exact hd 0
  | 1, hy => cases hy; exact hd 1
  | 2, hy => cases hy; exact hd 2
  | 3, hy => cases hy; exact hd 3
  | 4, hy => cases hy; exact hd 4
  | 5, hy => cases hy; exact hd 5
  | n + 6, hy => simp at hy
 | n + 1, hx => simp [houseG] at hx
set_option maxRecDepth 100000 in
set_option maxHeartbeats 400000 in
theorem housegroups_calls (w : World) : Calls Tryz.prog 21 #[] w fun e w' => ∃ b, e = .returned (.slice (some ⟨b, 0, none⟩) 1 1) /\ Groups w' (some ⟨b, 0, none⟩) 1 houseG /\ Below w.heap.size w w' := by
 have hB1 : Below w.heap.size w (w.alloc (.cells #[.int .i64 1, .int .i64 2, .int .i64 3, .int .i64 4, .int .i64 5, .int .i64 7] 3)) := (Below.refl _ w).alloc (Nat.le_refl _) _
 have HG : Hid (Groups ((w.alloc (.cells #[.int .i64 1, .int .i64 2, .int .i64 3, .int .i64 4, .int .i64 5, .int .i64 7] 3)).alloc (.cells #[.string ⟨#[98, 108, 111, 99, 107]⟩, .slice (some ⟨w.heap.size, 0, none⟩) 6 6] 61)) (some ⟨w.heap.size + 1, 0, none⟩) 1 houseG /\ Below w.heap.size w ((w.alloc (.cells #[.int .i64 1, .int .i64 2, .int .i64 3, .int .i64 4, .int .i64 5, .int .i64 7] 3)).alloc (.cells #[.string ⟨#[98, 108, 111, 99, 107]⟩, .slice (some ⟨w.heap.size, 0, none⟩) 6 6] 61))) := by
  refine ⟨groups_house _ _ w.heap.size ?_ ?_, hB1.alloc hB1.size _⟩
  ·have := World.alloc_heap_new (w.alloc (.cells #[.int .i64 1, .int .i64 2, .int .i64 3, .int .i64 4, .int .i64 5, .int .i64 7] 3)) (.cells #[.string ⟨#[98, 108, 111, 99, 107]⟩, .slice (some ⟨w.heap.size, 0, none⟩) 6 6] 61)
   rw [World.size_alloc] at this
   exact this
  ·exact (Below.heap_alloc _ _ _ (by rw [World.size_alloc]; omega)).trans (World.alloc_heap_new w _)
 clear hB1
 go_enter Tryz.func21, Tryz.ntmps21
 go_wp2
 go_ret
 exact ⟨w.heap.size + 1, rfl, HG.out⟩
set_option maxRecDepth 100000 in
set_option maxHeartbeats 400000 in
theorem house_calls (w : World) (hE : ETy w) : Calls Tryz.prog 9 #[] w fun e w' => ∃ B, e = .returned (.pointer (some ⟨B, 0, none⟩)) /\ MadeS w' B houseW houseL houseG /\ Below w.heap.size w w' := by
 have HT := Hid.mk_ (housetypes_calls w)
 have HG : Hid (∀ X : World, Calls Tryz.prog 21 #[] X fun e w' => ∃ b, e = .returned (.slice (some ⟨b, 0, none⟩) 1 1) /\ Groups w' (some ⟨b, 0, none⟩) 1 houseG /\ Below X.heap.size X w') := fun X => housegroups_calls X
 have HN : Hid (∀ (X : World) (b1 b2 : Nat), Below w.heap.size w X -> Specs X (some ⟨b1, 0, none⟩) 7 houseL -> Groups X (some ⟨b2, 0, none⟩) 1 houseG -> Calls Tryz.prog 19 #[.string ⟨#[98, 108, 111, 99, 107, 43]⟩, .slice (some ⟨b1, 0, none⟩) 7 7, .slice (some ⟨b2, 0, none⟩) 1 1] X fun e w' => Below X.heap.size X w' /\ ∃ B, e = .returned (.tuple #[.pointer (some ⟨B, 0, none⟩), .int .i64 0]) /\ MadeS w' B houseW houseL houseG) := fun X b1 b2 hX h1 h2 => by
  refine (new_calls houseW (some ⟨b1, 0, none⟩) 7 7 houseL (some ⟨b2, 0, none⟩) 1 1 houseG X (by decide) h1 h2 (by decide) (by decide) (hE.below hX)).mono ?_
  rintro e w' ⟨hB, ⟨hn, _⟩ | ⟨_, B, rfl, hm⟩⟩
  ·exact absurd house_new hn
  ·exact ⟨hB, B, rfl, hm⟩
 clear hE
 go_enter Tryz.func9, Tryz.ntmps9
 go_wp2_with fail
 refine HT.out.mono ?_
 rintro e X1 ⟨b1, rfl, hs1, hB1⟩
 have HS1 : Hid (Specs X1 (some ⟨b1, 0, none⟩) 7 houseL /\ Below w.heap.size w X1) := ⟨hs1, hB1⟩
 clear hs1 hB1 HT
 go_wp2_with fail
 refine (HG.out X1).mono ?_
 rintro e X2 ⟨b2, rfl, hg2, hB2⟩
 have hB02 := HS1.out.2.trans (hB2.mono HS1.out.2.size)
 have HN2 := HN.out X2 b1 b2 hB02 (HS1.out.1.below hB2) hg2
 have HB02 := Hid.mk_ hB02
 clear hg2 hB2 hB02 HN HG HS1
 go_wp2_with fail
 refine HN2.mono ?_
 rintro e X3 ⟨hB3, B, rfl, hm⟩
 have HE : Hid (MadeS X3 B houseW houseL houseG /\ Below w.heap.size w X3) := ⟨hm, HB02.out.trans (hB3.mono HB02.out.size)⟩
 clear hm hB3 HN2
 go_wp2
 go_ret
 exact ⟨B, rfl, HE.out⟩
end Go.Proofs.YtbkpehfaofhmaaaGreatDoor

/- DBRow: rows of integers that a call owns; what is open at a place, as plain data. -/
namespace Go.Proofs.YtbkpehfaofhmaaaGreatDoor
open Go.RowKit
theorem info3 : (Tryz.prog.info? 3).map (fun i => (i.zero, i.size, i.bytes)) = some (some (.int .i64 0), 1, 8) := by kernel_rfl
def Row (k : IntKind) (w : World) (a : Option Addr) (len : Nat) (zs : List Int) : Prop :=
 zs.length = len /\ (len = 0 \/ ∃ b o, a = some ⟨b, o, none⟩ /\ b < w.heap.size /\ ∀ i, i < len -> w.cell? ⟨b, o + i, none⟩ = some (.int k (zs.getD i 0)))
theorem row_of_owns {W : World} {base : Nat} {e : TypeId} {k : IntKind} {v : Value} {n : Nat} {bs : List Int} (h : W.ownsRow base e 1 v n (bs.map (Value.int k))) : ∃ a cap, v = .slice a n cap /\ Row k W a n bs := by
 obtain ⟨hl, ⟨h1, h2⟩ | ⟨g, cap, cur, rfl, hb, hg, hc1, hc2, hc3, hc4⟩⟩ := h
 ·subst h2
  exact ⟨none, 0, h1, by simpa using hl, .inl rfl⟩
 ·have hl' : bs.length = n := by simpa using hl
  refine ⟨_, cap, rfl, hl', ?_⟩
  rcases Nat.eq_zero_or_pos n with h0 | h0
  ·exact .inl h0
  ·refine .inr ⟨g, 0, rfl, (Array.getElem?_eq_some_iff.1 hg).1, fun i hi => ?_⟩
   have : cur.toList[i]? = some (.int k (bs.getD i 0)) := by
    have h2 := congrArg (·[i]?) hc4
    simp only [Nat.mul_one] at h2
    rw [List.getElem?_take, if_pos hi] at h2
    rw [h2, List.getElem?_map, List.getElem?_eq_getElem (by omega), List.getD_eq_getElem?_getD, List.getElem?_eq_getElem (by omega)]
    rfl
   rw [Array.getElem?_toList] at this
   simp [World.cell?, hg, this]
theorem owns_shrink {W : World} {base : Nat} {e : TypeId} {v : Value} {n : Nat} {xs : List Int} (h : W.ownsRow base e 1 v (n + 1) (xs.map (Value.int .i64))) :
  ∃ g cap, v = .slice (some ⟨g, 0, none⟩) (n + 1) cap /\ n + 1 <= cap /\ cap <= maxLen /\ W.ownsRow base e 1 (.slice (some ⟨g, 0, none⟩) n cap) n (xs.dropLast.map (Value.int .i64)) := by
 obtain ⟨hl, ⟨_, h2⟩ | ⟨g, cap, cur, rfl, hb, hg, hc1, hc2, hc3, hc4⟩⟩ := h
 ·omega
 ·refine ⟨g, cap, rfl, hc1, hc2, ?_, .inr ⟨g, cap, cur, rfl, hb, hg, by omega, hc2, hc3, ?_⟩⟩
  ·simp only [List.length_map, List.length_dropLast] at hl ⊢
   omega
  ·have h3 := congrArg (List.take n) hc4
   rw [List.take_take] at h3
   simp only [Nat.mul_one] at h3 ⊢
   rw [show min n (n + 1) = n from by omega] at h3
   simp only [List.length_map, Nat.mul_one] at hl
   rw [h3, <- List.map_take, List.dropLast_eq_take, hl]
   rfl
def openL : List Tok -> Nat -> List Int -> List Int
 | [], _, s => s
 | x :: r, i, s => openL r (i + 1) (if x.k = 1 then s ++ [(i : Int)] else if x.k = 2 then s.dropLast else s)
def opened (l : List Tok) (at' : Int) : List Int := if at' <= l.length then openL (l.take at'.toNat) 0 [] else []
theorem openL_step {l : List Tok} {k N : Nat} (hk : k < N) (hN : N <= l.length) (s : List Int) : ∃ x, l[k]? = some x /\ openL ((l.take N).drop k) k s = openL ((l.take N).drop (k + 1)) (k + 1) (if x.k = 1 then s ++ [(k : Int)] else if x.k = 2 then s.dropLast else s) := by
 refine ⟨l[k], List.getElem?_eq_getElem (by omega), ?_⟩
 rw [List.drop_eq_getElem_cons (l := l.take N) (i := k) (by rw [List.length_take]; omega), openL]
 simp
theorem dropLast_none {s : List Int} (h : s.length = 0) : s.dropLast = s := by rw [List.length_eq_zero_iff.1 h]; rfl
theorem Toks.kind {w : World} {a : Option Addr} {len : Nat} {l : List Tok} (h : Toks w a len l) {k : Nat} {x : Tok} (hx : l[k]? = some x) : ∃ b o, a = some ⟨b, o, none⟩ /\ b < w.heap.size /\ ∀ W : World, Below w.heap.size w W -> W.cell? ⟨b, o + k * 4, none⟩ = some (.int .i64 x.k) := by
 have hk : k < l.length := (List.getElem?_eq_some_iff.1 hx).1
 obtain ⟨h1, h2 | ⟨b, o, rfl, hlt, hc⟩⟩ := h
 ·omega
 ·exact ⟨b, o, rfl, hlt, fun W hW => (hW.cell (p := ⟨b, _, none⟩) hlt).trans (hc k x hx).1⟩
def turn (x : Tok) (i : Nat) (s : List Int) : List Int := if x.k = 1 then s ++ [(i : Int)] else if x.k = 2 then s.dropLast else s
def around (l : List Tok) (p : Int) : Int := (opened l p).getLast?.getD (-1)
def kindAt (l : List Tok) (k : Nat) : Int := (l[k]?.map (·.k)).getD 0
def seek (l : List Tok) (i : Int) : Nat -> Nat -> Int
 | _, 0 => -1
 | k, f + 1 => if kindAt l k = 2 /\ around l k = i then k else seek l i (k + 1) f
def partner (l : List Tok) (i : Int) : Int :=
 if i < 0 \/ (l.length : Int) <= i then -1
 else if kindAt l i.toNat = 2 then around l i
 else if kindAt l i.toNat = 1 then seek l i (i.toNat + 1) (l.length - (i.toNat + 1))
 else -1
def kidsL (l : List Tok) (i : Int) : Nat -> Nat -> List Int -> List Int
 | _, 0, out => out
 | k, f + 1, out => if kindAt l k = 2 /\ around l k = i /\ 0 <= i then out
  else kidsL l i (k + 1) f (if kindAt l k ≠ 2 /\ 0 <= kindAt l k /\ kindAt l k <= 3 /\ around l k = i then out ++ [(k : Int)] else out)
def kids (l : List Tok) (i : Int) : List Int :=
 if i < -1 \/ (l.length : Int) <= i \/ (0 <= i /\ kindAt l i.toNat ≠ 1) then [] else kidsL l i (i + 1).toNat (l.length - (i + 1).toNat) []
theorem kindAt_some {l : List Tok} {k : Nat} {x : Tok} (h : l[k]? = some x) : kindAt l k = x.k := by unfold kindAt; rw [h]; rfl
theorem Toks.kindAt {w : World} {a : Option Addr} {len : Nat} {l : List Tok} (h : Toks w a len l) {k : Nat} (hk : k < len) : ∃ b o, a = some ⟨b, o, none⟩ /\ b < w.heap.size /\ ∀ W : World, Below w.heap.size w W -> W.cell? ⟨b, o + k * 4, none⟩ = some (.int .i64 (YtbkpehfaofhmaaaGreatDoor.kindAt l k)) := by
 obtain ⟨x, hx⟩ : ∃ x, l[k]? = some x := ⟨_, List.getElem?_eq_getElem (by rw [h.1]; exact hk)⟩
 rw [kindAt_some hx]
 exact h.kind hx
theorem openL_fits (l : List Tok) (i : Nat) (s : List Int) (B : Int) (hB : (i : Int) + l.length <= B) (hs : ∀ x ∈ s, 0 <= x /\ x < B) : ∀ x ∈ openL l i s, 0 <= x /\ x < B := by
 induction l generalizing i s with
 | nil => exact hs
 | cons t r ih =>
  rw [openL]
  simp only [List.length_cons] at hB
  refine ih (i + 1) _ (by omega) ?_
  split
  ·intro x hx
   rcases List.mem_append.1 hx with hx | hx
   ·exact hs x hx
   ·obtain rfl : x = (i : Int) := by simpa using hx
    omega
  ·split
   ·intro x hx
    exact hs x (List.dropLast_subset _ hx)
   ·exact hs
theorem openL_length (l : List Tok) (i : Nat) (s : List Int) : (openL l i s).length <= s.length + l.length := by
 induction l generalizing i s with
 | nil => exact Nat.le_refl _
 | cons t r ih =>
  rw [openL]
  refine Nat.le_trans (ih _ _) ?_
  split
  ·simp; omega
  ·split <;> simp <;> omega
theorem opened_length (l : List Tok) (p : Int) : (opened l p).length <= l.length := by
 unfold opened
 split
 ·have h := openL_length (l.take p.toNat) 0 []
  rw [List.length_take, List.length_nil] at h
  omega
 ·simp
theorem last_row {R : List Int} {n : Nat} (h : R.length = n + 1) : R.getLast?.getD (-1) = R.getD n 0 := by
 rw [List.getLast?_eq_getElem?, h, List.getD_eq_getElem?_getD, show n + 1 - 1 = n from rfl, List.getElem?_eq_getElem (by omega)]
 rfl
theorem partner_fits (l : List Tok) (i : Int) (k f : Nat) : seek l i k f = -1 \/ (∃ j : Nat, seek l i k f = j /\ j < k + f) := by
 induction f generalizing k with
 | zero => exact .inl rfl
 | succ f ih =>
  rw [seek]
  split
  ·exact .inr ⟨k, rfl, by omega⟩
  ·rcases ih (k + 1) with h | ⟨j, h, hj⟩
   ·exact .inl h
   ·exact .inr ⟨j, h, by omega⟩
theorem own_below {W W' : World} {base : Nat} {e : TypeId} {v : Value} {n : Nat} {xs : List Value} (h : W.ownsRow base e 1 v n xs) (hB : Below W.heap.size W W') (_hb : base <= W.heap.size) : W'.ownsRow base e 1 v n xs := by
 obtain ⟨hl, h1 | ⟨g, cap, cur, rfl, hb, hg, hc1, hc2, hc3, hc4⟩⟩ := h
 ·exact ⟨hl, .inl h1⟩
 ·refine ⟨hl, .inr ⟨g, cap, cur, rfl, hb, ?_, hc1, hc2, hc3, hc4⟩⟩
  rw [hB.block g (Array.getElem?_eq_some_iff.1 hg).1, hg]
end Go.Proofs.YtbkpehfaofhmaaaGreatDoor

/- DBStk: the stack of flat, push, pop, pass and top of it: what they leave and return; nothing else that lay before is turned. -/
namespace Go.Proofs.YtbkpehfaofhmaaaGreatDoor
open Go.RowKit
def StkCells (v : Value) (R : List Int) (cs : Array Value) : Prop :=
 cs.size = 34 /\ (∀ i, i < 32 -> i < R.length -> cs[i]? = some (.int .i64 (R.getD i 0))) /\ (∀ i, i < 32 -> ∃ z, cs[i]? = some (.int .i64 z)) /\ cs[32]? = some v /\ cs[33]? = some (.int .i64 (R.length : Int))
def Stk (w : World) (base g : Nat) (v : Value) (R : List Int) : Prop :=
 base <= g /\ w.ownsRow base 3 1 v (R.length - 32) ((R.drop 32).map (Value.int .i64)) /\ ∃ cs, w.heap[g]? = some (.cells cs 132 (0, 0)) /\ StkCells v R cs
structure KeptS (g : Nat) (v : Option Nat) (w w' : World) : Prop where
 os : w'.os = w.os
 tape : w'.tape = w.tape
 output : w'.output = w.output
 size : w.heap.size <= w'.heap.size
 block : ∀ k, k < w.heap.size -> k ≠ g -> some k ≠ v -> w'.heap[k]? = w.heap[k]?
theorem KeptS.refl (g : Nat) (v : Option Nat) (w : World) : KeptS g v w w := ⟨rfl, rfl, rfl, Nat.le_refl _, fun _ _ _ _ => rfl⟩
theorem KeptS.drew {g : Nat} {v : Option Nat} {w w' : World} (h : KeptS g v w w') : KeptS g v w w'.drew := ⟨h.os, h.tape, h.output, h.size, h.block⟩
theorem KeptS.alloc {g : Nat} {v : Option Nat} {w w' : World} (h : KeptS g v w w') (o : Obj) : KeptS g v w (w'.alloc o) :=
 ⟨h.os, h.tape, h.output, by have := h.size; simp; omega, fun k h1 h2 h3 => (Below.heap_alloc w' o k (Nat.lt_of_lt_of_le h1 h.size)).trans (h.block k h1 h2 h3)⟩
theorem KeptS.setCell {g : Nat} {v : Option Nat} {w w' : World} (h : KeptS g v w w') (j : Nat) (u : Value) : KeptS g v w (w'.setCell ⟨g, j, none⟩ u) :=
 ⟨h.os, h.tape, h.output, by simpa using h.size, fun k h1 h2 h3 => (Below.heap_setCell w' _ u k h2).trans (h.block k h1 h2 h3)⟩
theorem KeptS.below {g : Nat} {v : Option Nat} {w w' : World} (h : KeptS g v w w') {base : Nat} (hg : base <= g) (hv : ∀ k, v = some k -> base <= k) (hb : base <= w.heap.size) : Below base w w' :=
 ⟨h.os, h.tape, h.output, h.size, fun k hk => h.block k (by omega) (by omega) (fun e => by have := hv k e.symm; omega)⟩
theorem own_base {w : World} {base : Nat} {e : TypeId} {v : Value} {n : Nat} {xs : List Value} (h : w.ownsRow base e 1 v n xs) : ∀ k, v.ownBlock = some k -> base <= k /\ k < w.heap.size /\ ∃ cur, w.heap[k]? = some (.cells cur e (0, 0)) := by
 intro k hk
 rcases h.2 with ⟨rfl, _⟩ | ⟨g, cap, cur, rfl, hb, hg, _⟩
 ·simp [Value.ownBlock] at hk
 ·obtain rfl : g = k := by simpa [Value.ownBlock] using hk
  exact ⟨hb, (Array.getElem?_eq_some_iff.1 hg).1, cur, hg⟩
theorem Stk.apart {w : World} {base g : Nat} {v : Value} {R : List Int} (h : Stk w base g v R) : v.ownBlock ≠ some g := by
 intro e
 obtain ⟨_, h2, cs, h3, _⟩ := h
 obtain ⟨_, _, cur, h4⟩ := own_base h2 g e
 rw [h3] at h4
 have := (Obj.cells.inj (Option.some.inj h4)).2.1
 exact absurd this (by decide)
theorem own_set {w : World} {base : Nat} {e : TypeId} {v : Value} {n : Nat} {xs : List Value} (h : w.ownsRow base e 1 v n xs) (g j : Nat) (u : Value) (hg : v.ownBlock ≠ some g) : (w.setCell ⟨g, j, none⟩ u).ownsRow base e 1 v n xs := by
 obtain ⟨h1, h2 | ⟨b, cap, cur, rfl, hb, hc, h3⟩⟩ := h
 ·exact ⟨h1, .inl h2⟩
 ·refine ⟨h1, .inr ⟨b, cap, cur, rfl, hb, ?_, h3⟩⟩
  rw [Below.heap_setCell w _ u b (by intro e; exact hg (by simp [Value.ownBlock, e]))]
  exact hc
theorem Stk.cells {w : World} {base g : Nat} {v : Value} {R : List Int} (h : Stk w base g v R) : w.cell? ⟨g, 32, none⟩ = some v /\ w.cell? ⟨g, 33, none⟩ = some (.int .i64 (R.length : Int)) /\ (∀ i, i < 32 -> ∃ z, w.cell? ⟨g, i, none⟩ = some (.int .i64 z)) /\ (∀ i, i < 32 -> i < R.length -> w.cell? ⟨g, i, none⟩ = some (.int .i64 (R.getD i 0))) /\ (∀ i, w.frozen? ⟨g, i, none⟩ = false) /\ g < w.heap.size := by
 obtain ⟨_, _, cs, hg, h0, h1, h2, h3, h4⟩ := h
 have hc := fun j => cell_of_row w g j cs _ _ hg
 refine ⟨(hc 32).trans h3, (hc 33).trans h4, fun i hi => ?_, fun i hi hr => (hc i).trans (h1 i hi hr), fun i => ?_, (Array.getElem?_eq_some_iff.1 hg).1⟩
 ·obtain ⟨z, hz⟩ := h2 i hi
  exact ⟨z, (hc i).trans hz⟩
 ·simp [World.frozen?, hg]
end Go.Proofs.YtbkpehfaofhmaaaGreatDoor

/- DBPush: the stack's push: what it leaves; nothing else that lay before is turned. -/
namespace Go.Proofs.YtbkpehfaofhmaaaGreatDoor
open Go.RowKit
theorem Stk.drew {w : World} {base g : Nat} {v : Value} {R : List Int} (h : Stk w base g v R) : Stk w.drew base g v R := h
theorem stk_low {w : World} {base g : Nat} {v : Value} {R : List Int} {p : Int} (h : Stk w base g v R) (hR : R.length < 32) (w' : World)
  (hw : w' = (w.setCell ⟨g, R.length, none⟩ (.int .i64 p)).setCell ⟨g, 33, none⟩ (.int .i64 ((R.length : Int) + 1))) : Stk w' base g v (R ++ [p]) := by
 subst hw
 have hap := h.apart
 obtain ⟨h0, h1, cs, hg, c0, c1, c2, c3, c4⟩ := h
 refine ⟨h0, ?_, (cs.setIfInBounds R.length (.int .i64 p)).setIfInBounds 33 (.int .i64 ((R.length : Int) + 1)), ?_, ?_⟩
 ·rw [show (R ++ [p]).length - 32 = R.length - 32 from by simp; omega, show (R ++ [p]).drop 32 = R.drop 32 from by rw [List.drop_eq_nil_of_le (by simp; omega), List.drop_eq_nil_of_le (by omega)]]
  exact own_set (own_set h1 _ _ _ hap) _ _ _ hap
 ·exact heap_setCell_same _ g 33 _ _ _ (heap_setCell_same _ g R.length _ _ _ hg)
 ·refine ⟨by simpa using c0, fun i hi hr => ?_, fun i hi => ?_, ?_, ?_⟩
  ·rw [Array.getElem?_setIfInBounds_ne (by omega)]
   by_cases e : i = R.length
   ·subst e
    rw [Array.getElem?_setIfInBounds_self_of_lt (by omega)]
    simp
   ·rw [Array.getElem?_setIfInBounds_ne (by omega), c1 i hi (by simp at hr; omega)]
    simp at hr
    rw [List.getD_eq_getElem?_getD, List.getD_eq_getElem?_getD, List.getElem?_append_left (by omega)]
  ·rw [Array.getElem?_setIfInBounds_ne (by omega)]
   by_cases e : R.length = i
   ·subst e
    exact ⟨p, Array.getElem?_setIfInBounds_self_of_lt (by omega)⟩
   ·rw [Array.getElem?_setIfInBounds_ne e]
    exact c2 i hi
  ·rw [Array.getElem?_setIfInBounds_ne (by omega), Array.getElem?_setIfInBounds_ne (by omega), c3]
  ·rw [Array.getElem?_setIfInBounds_self_of_lt (by simp; omega)]
   simp
set_option maxRecDepth 100000 in
set_option maxHeartbeats 2000000 in
theorem fpush_low (base g : Nat) (v : Value) (R : List Int) (p : Int) (w : World) (h : Stk w base g v R) (hR : R.length < 32) :
  Calls Tryz.prog 106 #[.pointer (some ⟨g, 0, none⟩), .int .i64 p] w fun e w' => e = .returned (.tuple #[]) /\ Stk w' base g v (R ++ [p]) /\ KeptS g v.ownBlock w w' := by
 have HS : Hid (∀ w' : World, w' = (w.setCell ⟨g, R.length, none⟩ (.int .i64 p)).setCell ⟨g, 33, none⟩ (.int .i64 ((R.length : Int) + 1)) -> Stk w' base g v (R ++ [p])) := fun w' hw => stk_low h hR w' hw
 obtain ⟨c1, c2, c3, c4, f, hg⟩ := h.cells
 obtain ⟨z, hz⟩ := c3 R.length hR
 have fn := f R.length
 have f33 := f 33
 clear c1 c3 c4 f h
 generalize R ++ [p] = R' at *
 generalize R.length = n at *
 go_enter Tryz.func106, Tryz.ntmps106
 go_wp2
 go_region
 go_wp2
 go_end0
 exact ⟨rfl, Stk.drew (HS.out _ rfl), (((KeptS.refl _ _ w).setCell _ _).setCell _ _).drew⟩
theorem cell_alloc_keep {w : World} {a : Addr} {v : Value} {o : Obj} (h : w.cell? a = some v) : (w.alloc o).cell? a = some v := by
 have hlt : a.block < w.heap.size := by
  rcases Nat.lt_or_ge a.block w.heap.size with h1 | h1
  ·exact h1
  ·simp [World.cell?, Array.getElem?_eq_none h1] at h
 rw [World.cell?_of_block (w := w) (Below.heap_alloc w o a.block hlt)]
 exact h
theorem grown_frozen {w w2 : World} {o : Obj} {row : Option Nat} {a : Addr} (h : (w.alloc o).grownBy w2 row) (hlt : a.block < w.heap.size) (hne : some a.block ≠ row) : w2.frozen? a = w.frozen? a :=
 World.frozen?_of_block (w := w) ((h.block a.block (by simp; omega) hne).trans (Below.heap_alloc w o a.block hlt))
theorem own_slice {w : World} {base : Nat} {e : TypeId} {v : Value} {n : Nat} {xs : List Value} (h : w.ownsRow base e 1 v n xs) : ∃ a cap, v = .slice a n cap := by
 rcases h.2 with ⟨rfl, rfl⟩ | ⟨g, cap, cur, rfl, _⟩
 ·exact ⟨_, _, rfl⟩
 ·exact ⟨_, _, rfl⟩
theorem stk_high {w : World} {base g : Nat} {v v' : Value} {R : List Int} {p : Int} (h : Stk w base g v R) (hR : 32 <= R.length) {w2 w' : World} {o : Obj} (hown : w2.ownsRow base 3 1 v' (R.length - 32 + 1) ((R.drop 32).map (Value.int .i64) ++ [.int .i64 p])) (hgrow : (w.alloc o).grownBy w2 v.ownBlock)
  (hat : v'.ownBlock = v.ownBlock \/ v'.ownBlock = some (w.alloc o).heap.size)
  (hw : w' = (w2.setCell ⟨g, 32, none⟩ v').setCell ⟨g, 33, none⟩ (.int .i64 ((R.length : Int) + 1))) : Stk w' base g v' (R ++ [p]) /\ KeptS g v.ownBlock w w' /\ (v'.ownBlock = v.ownBlock \/ ∀ k, v'.ownBlock = some k -> w.heap.size <= k) := by
 subst hw
 have hap := h.apart
 have hgs := h.cells.2.2.2.2.2
 have hap2 : v'.ownBlock ≠ some g := by
  rcases hat with e | e
  ·rw [e]; exact hap
  ·rw [e]; simp; omega
 obtain ⟨h0, h1, cs, hg, c0, c1, c2, c3, c4⟩ := h
 have hg2 : w2.heap[g]? = some (.cells cs 132 (0, 0)) := by
  rw [hgrow.block g (by simp; omega) (fun e => hap e.symm), Below.heap_alloc w o g hgs]
  exact hg
 have hK : KeptS g v.ownBlock w w2 := ⟨hgrow.os, hgrow.tape, hgrow.output, by have := hgrow.size; simp at this; omega, fun k h1 h2 h3 => by
  rw [hgrow.block k (by simp; omega) h3, Below.heap_alloc w o k h1]⟩
 refine ⟨⟨h0, ?_, (cs.setIfInBounds 32 v').setIfInBounds 33 (.int .i64 ((R.length : Int) + 1)), ?_, ?_⟩, (hK.setCell _ _).setCell _ _, ?_⟩
 ·rw [show (R ++ [p]).length - 32 = R.length - 32 + 1 from by simp; omega, List.drop_append_of_le_length hR, List.map_append]
  exact own_set (own_set hown _ _ _ hap2) _ _ _ hap2
 ·exact heap_setCell_same _ g 33 _ _ _ (heap_setCell_same _ g 32 _ _ _ hg2)
 ·refine ⟨by simpa using c0, fun i hi hr => ?_, fun i hi => ?_, ?_, ?_⟩
  ·rw [Array.getElem?_setIfInBounds_ne (by omega), Array.getElem?_setIfInBounds_ne (by omega), c1 i hi (by omega)]
   rw [List.getD_eq_getElem?_getD, List.getD_eq_getElem?_getD, List.getElem?_append_left (by omega)]
  ·rw [Array.getElem?_setIfInBounds_ne (by omega), Array.getElem?_setIfInBounds_ne (by omega)]
   exact c2 i hi
  ·rw [Array.getElem?_setIfInBounds_ne (by omega), Array.getElem?_setIfInBounds_self_of_lt (by omega)]
  ·rw [Array.getElem?_setIfInBounds_self_of_lt (by simp; omega)]
   simp
 ·rcases hat with e | e
  ·exact .inl e
  ·refine .inr fun k hk => ?_
   rw [e] at hk
   simp at hk
   omega
set_option maxRecDepth 100000 in
set_option maxHeartbeats 2000000 in
theorem fpush_high (base g : Nat) (v : Value) (R : List Int) (p : Int) (w : World) (h : Stk w base g v R) (hb : base <= w.heap.size) (hR : 32 <= R.length) (hR2 : R.length <= 4398046511104) :
  Calls Tryz.prog 106 #[.pointer (some ⟨g, 0, none⟩), .int .i64 p] w fun e w' => e = .returned (.tuple #[]) /\ ∃ v', Stk w' base g v' (R ++ [p]) /\ KeptS g v.ownBlock w w' /\ (v'.ownBlock = v.ownBlock \/ ∀ k, v'.ownBlock = some k -> w.heap.size <= k) := by
 obtain ⟨i0, hi, hz0, hz1, hz2⟩ := info_parts info3
 have HS : Hid (∀ (v' : Value) (o : Obj) (w2 w' : World), w2.ownsRow base 3 1 v' (R.length - 32 + 1) ((R.drop 32).map (Value.int .i64) ++ [.int .i64 p]) -> (w.alloc o).grownBy w2 v.ownBlock -> (v'.ownBlock = v.ownBlock \/ v'.ownBlock = some (w.alloc o).heap.size) →
  w' = (w2.setCell ⟨g, 32, none⟩ v').setCell ⟨g, 33, none⟩ (.int .i64 ((R.length : Int) + 1)) -> Stk w' base g v' (R ++ [p]) /\ KeptS g v.ownBlock w w' /\ (v'.ownBlock = v.ownBlock \/ ∀ k, v'.ownBlock = some k -> w.heap.size <= k)) := fun v' o w2 w' a1 a2 a3 a4 => stk_high h hR a1 a2 a3 a4
 obtain ⟨c1, c2, c3, c4, f, hg⟩ := h.cells
 have f32 := f 32
 have f33 := f 33
 have hap := h.apart
 have hown := h.2.1
 have hlen : (((R.drop 32).map (Value.int .i64)).length = R.length - 32) := by simp
 clear c3 c4 f h
 generalize R ++ [p] = R' at *
 generalize hn : R.length = n at *
 generalize hX : (R.drop 32).map (Value.int .i64) = X at *
 clear hX hn
 obtain ⟨m, rfl⟩ : ∃ m, n = m + 32 := ⟨n - 32, by omega⟩
 rw [show m + 32 - 32 = m from by omega] at *
 go_enter Tryz.func106, Tryz.ntmps106
 go_wp2_with (at_builtin; refine wpList_append_own_at _ rfl _ _ 59 rfl base 3 i0 (.int .i64 0) 1 8 Tryz.underlying59 hi hz0 hz1 hz2 rfl (by decide) _ _ _ rfl (hown.alloc _) ⟨w.heap.size, 0, none⟩ 1 1 [.int .i64 p] rfl rfl (cell_one_new _ _ _) (by simp [Value.oneCell']) (by unfold maxLen; omega) (by omega) (by simp; omega) ?_; intro v2 w2 hown2 hgrow hnil2 hat; have d1 : w2.cell? ⟨g, 32, none⟩ = some v := hgrow.cell (a := ⟨g, 32, none⟩) ((cell_alloc_keep c1)) (fun e => hap e.symm); have d2 : w2.cell? ⟨g, 33, none⟩ = some (.int .i64 ((m + 32 : Nat) : Int)) := hgrow.cell (a := ⟨g, 33, none⟩) ((cell_alloc_keep c2)) (fun e => hap e.symm); have d3 : w2.frozen? ⟨g, 32, none⟩ = false := (grown_frozen (a := ⟨g, 32, none⟩) hgrow hg (fun e => hap e.symm)).trans f32; have d4 : w2.frozen? ⟨g, 33, none⟩ = false := (grown_frozen (a := ⟨g, 33, none⟩) hgrow hg (fun e => hap e.symm)).trans f33; obtain ⟨a2, cap2, rfl⟩ := own_slice hown2)
 go_end0
 exact ⟨rfl, _, HS.out _ _ _ _ hown2 hgrow hat rfl⟩
end Go.Proofs.YtbkpehfaofhmaaaGreatDoor
