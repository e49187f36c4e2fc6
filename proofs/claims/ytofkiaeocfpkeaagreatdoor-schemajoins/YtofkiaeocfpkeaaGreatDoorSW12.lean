/-
  PROVED HERE: what the texts IsNm, RightN, KindsF, NewF, HouseT, Tok, Row, Stk, Push, Pop, Eq, FTok say (each has its own words below).
-/
import Derived.Test.YtofkiaeocfpkeaaGreatDoorSW11
import Derived.Laws.RangeString
import Derived.Test.YtofkiaeocfpkeaaGreatDoorProg
import Derived.WalkKit
import Derived.Below
import Derived.Deep.Light
import Derived.OwnWalkIn
import Derived.Maps.AppendAt
import Derived.ProofKit
import Derived.RegionTactic
import Derived.BigRegion
import Derived.BigQuiet
import Derived.Deep.QuietTactic
import Derived.Laws.Rows
import Derived.WalkSmall
import Derived.Laws.StructEq
/- IsNm: schema's isName at every text: it tells whether all is letters, and there are some. -/
namespace Go.Proofs.YtofkiaeocfpkeaaGreatDoor
open Go.RowKit

theorem decode_wide (s : ByteArray) (pos : Nat) (h : pos < s.size) (ha : ¬ (s[pos]'h).toNat < 128) : 128 ≤ (Utf8.decode s pos).1 ∧ (Utf8.decode s pos).1 ≤ 2147483647 := by
  have e : s.get! (pos + 0) = s[pos]'h := by
    show s.get! pos = _
    simp [ByteArray.get!, getElem!_pos, h]
    rfl
  have hb : (s[pos]'h).toNat < 256 := UInt8.toNat_lt _
  unfold Utf8.decode
  simp only [e]
  rw [if_neg ha]
  have hr : 128 ≤ Utf8.runeError ∧ Utf8.runeError ≤ 2147483647 := by decide
  split
  · split
    · exact ⟨by assumption, by dsimp only; omega⟩
    · exact hr
  · split
    · split
      · rename_i hc
        simp only [Bool.and_eq_true, decide_eq_true_eq] at hc
        exact ⟨by dsimp only; omega, by dsimp only; omega⟩
      · exact hr
    · split
      · split
        · rename_i hc
          simp only [Bool.and_eq_true, decide_eq_true_eq] at hc
          exact ⟨by dsimp only; omega, by dsimp only; omega⟩
        · exact hr
      · exact hr
theorem run_next_any {P : Program} (w : World) (s : ByteArray) (pos : Nat) (ty : TypeId) (h : pos < s.size) :
    (Instr.next (.pointer (some ⟨w.heap.size, 0, none⟩)) true ty).run P (w.iter s pos) =
      .ok (.tuple #[.bool true, .int .i64 pos, .int .i32 ((Utf8.decode s pos).1 : Int)]) (w.iter s (pos + (Utf8.decode s pos).2)) := by
  simp only [Instr.next, getObj, setObj, Sem.run_bind, Sem.run, World.iter_heap, Result.andThen, h, if_true, World.iter_set]
  simp [goInt]
theorem other_calls (c : Int) (w : World) : Calls Tryz.prog 150 #[.int .i32 c] w fun e w' => e = .returned (.bool (!lett c)) ∧ w' = w := by
  by_cases h1 : c < 97
  · have h2 : lett c = false := by unfold lett; simp; omega
    rw [h2]
    go_enter Tryz.func150, Tryz.ntmps150
    go_wp2
    go_ret
    exact ⟨by first | rfl | simp [h1], rfl⟩
  · have hd : decide (c < 97) = false := by simpa using h1
    have h2 : (!lett c) = decide (122 < c) := by
      have h97 : decide (97 ≤ c) = true := by simp; omega
      unfold lett
      rw [h97, Bool.true_and, ← decide_not, decide_eq_decide]
      omega
    rw [h2]
    go_enter Tryz.func150, Tryz.ntmps150
    go_wp2
    go_ret
    exact ⟨by first | rfl | simp [h1], rfl⟩
/-- The letters ahead of a place. -/
def lettTo (s : ByteArray) (i : Nat) : Prop := ∀ (k : Nat) (h : k < s.size), k < i → letter s[k] = true
theorem lettTo_all (s : ByteArray) (h : lettTo s s.size) : s.toList.all letter = true := by
  rw [List.all_eq_true]
  intro c hc
  obtain ⟨k, hk⟩ := List.getElem?_of_mem hc
  have hlt : k < s.size := by
    have := (List.getElem?_eq_some_iff.1 hk).1
    rw [toList_length] at this
    exact this
  rw [toList_at s k hlt] at hk
  cases hk
  exact h k hlt hlt
theorem letter_lett (c : UInt8) : lett (c.toNat : Int) = letter c := by
  unfold lett letter
  have h1 : decide ((97 : Int) ≤ (c.toNat : Int)) = decide (97 ≤ c.toNat) := by simp only [decide_eq_decide]; omega
  have h2 : decide ((c.toNat : Int) ≤ 122) = decide (c.toNat ≤ 122) := by simp only [decide_eq_decide]; omega
  rw [h1, h2]
theorem not_all (s : ByteArray) (k : Nat) (h : k < s.size) (hl : letter s[k] = false) : s.toList.all letter = false := by
  rw [List.all_eq_false]
  exact ⟨s[k], List.mem_of_getElem? (toList_at s k h), by rw [hl]; exact Bool.false_ne_true⟩
set_option maxRecDepth 100000 in
set_option maxHeartbeats 1000000 in
theorem findex_calls (s : ByteArray) (hs : s.size ≤ 9223372036854775807) (w : World) : Calls Tryz.prog 177 #[.string s, .func (.func 150) #[] #[], .bool true] w fun e w' => ∃ i : Int, e = .returned (.int .i64 i) ∧ decide (0 ≤ i) = (!s.toList.all letter) ∧ Below w.heap.size w w' := by
  have HB : Hid (∀ pos, Below w.heap.size w (w.iter s pos)) := fun pos => (Below.refl _ w).alloc (Nat.le_refl _) _
  have HO : Hid (∀ (c : Int) (W : World), Calls Tryz.prog 150 #[.int .i32 c] W fun e w' => e = .returned (.bool (!lett c)) ∧ w' = W) := fun c W => other_calls c W
  have hrg := run_range_string (P := Tryz.prog) w 9 s Tryz.underlying9
  have hsi : (s.size : Int) ≤ 9223372036854775807 := by omega
  clear hs
  go_enter Tryz.func177, Tryz.ntmps177
  go_wp2
  go_loopg [7] (s.size + 1) (fun gk v wr => ∃ pos : Nat, pos ≤ s.size ∧ s.size < pos + gk ∧ wr = w.iter s pos ∧ lettTo s pos)
  case atStart => exact ⟨0, Nat.zero_le _, by omega, rfl, fun k h hk => absurd hk (Nat.not_lt_zero _)⟩
  case round =>
    obtain ⟨pos, hpos, hgk, rfl, hT⟩ := hrel
    clear hrg
    by_cases hlt : pos < s.size
    · by_cases hasc : (s[pos]'hlt).toNat < 128
      · have hnx : ∀ ty, (Instr.next (.pointer (some ⟨w.heap.size, 0, none⟩)) true ty).run Tryz.prog (w.iter s pos) = _ := fun ty => run_next_ascii w s pos ty hlt hasc
        have HC := HO.out ((s[pos]'hlt).toNat : Int) (w.iter s (pos + 1))
        have hle := letter_lett (s[pos]'hlt)
        by_cases hl : letter (s[pos]'hlt) = true
        · rw [hl] at hle
          have HT : Hid (lettTo s (pos + 1)) := fun k h hk => by
            by_cases e : k = pos
            · subst e; exact hl
            · exact hT k h (by omega)
          clear hT hl
          go_wp2_with fail
          refine HC.mono ?_
          rintro e W ⟨rfl, rfl⟩
          rw [hle]
          go_wp2
          go_roundg (s.size - pos)
          case measure => omega
          case rel => exact ⟨pos + 1, by omega, by omega, rfl, HT.out⟩
        · have hl' : letter (s[pos]'hlt) = false := by simpa using hl
          rw [hl'] at hle
          have HF : Hid (s.toList.all letter = false) := not_all s pos hlt hl'
          clear hT hl hl'
          go_wp2_with fail
          refine HC.mono ?_
          rintro e W ⟨rfl, rfl⟩
          rw [hle]
          go_wp2
          go_ret
          exact ⟨(pos : Int), rfl, by rw [HF.out]; simp, HB.out _⟩
      · obtain ⟨d1, d2⟩ := decode_wide s pos hlt hasc
        have hnx : ∀ ty, (Instr.next (.pointer (some ⟨w.heap.size, 0, none⟩)) true ty).run Tryz.prog (w.iter s pos) = _ := fun ty => run_next_any w s pos ty hlt
        have HC := HO.out ((Utf8.decode s pos).1 : Int) (w.iter s (pos + (Utf8.decode s pos).2))
        have hle : lett ((Utf8.decode s pos).1 : Int) = false := by unfold lett; simp; omega
        have HF : Hid (s.toList.all letter = false) := not_all s pos hlt (by unfold letter; simp; omega)
        clear hT d1 d2
        go_wp2_with fail
        refine HC.mono ?_
        rintro e W ⟨rfl, rfl⟩
        rw [hle]
        go_wp2
        go_ret
        exact ⟨(pos : Int), rfl, by rw [HF.out]; simp, HB.out _⟩
    · obtain rfl : pos = s.size := by omega
      have hnx : ∀ ty, (Instr.next (.pointer (some ⟨w.heap.size, 0, none⟩)) true ty).run Tryz.prog (w.iter s s.size) = _ := fun ty => run_next_end w s s.size ty hlt
      have HF : Hid (s.toList.all letter = true) := lettTo_all s hT
      clear hT
      go_wp2
      go_ret
      exact ⟨-1, rfl, by rw [HF.out]; rfl, HB.out _⟩
set_option maxRecDepth 100000 in
theorem sindex_calls (s : ByteArray) (hs : s.size ≤ 9223372036854775807) (w : World) : Calls Tryz.prog 169 #[.string s, .func (.func 150) #[] #[]] w fun e w' => ∃ i : Int, e = .returned (.int .i64 i) ∧ decide (0 ≤ i) = (!s.toList.all letter) ∧ Below w.heap.size w w' := by
  have HF := findex_calls s hs w
  clear hs
  go_enter Tryz.func169, Tryz.ntmps169
  go_wp2_with fail
  refine HF.mono ?_
  rintro e W ⟨i, rfl, h1, h2⟩
  have HE : Hid (decide (0 ≤ i) = (!s.toList.all letter) ∧ Below w.heap.size w W) := ⟨h1, h2⟩
  clear h1 h2 HF
  go_wp2
  go_ret
  exact ⟨i, rfl, HE.out⟩
set_option maxRecDepth 100000 in
theorem scontains_calls (s : ByteArray) (hs : s.size ≤ 9223372036854775807) (w : World) : Calls Tryz.prog 151 #[.string s, .func (.func 150) #[] #[]] w fun e w' => e = .returned (.bool (!s.toList.all letter)) ∧ Below w.heap.size w w' := by
  have HF := sindex_calls s hs w
  clear hs
  go_enter Tryz.func151, Tryz.ntmps151
  go_wp2_with fail
  refine HF.mono ?_
  rintro e W ⟨i, rfl, h1, h2⟩
  have HE : Hid (decide (0 ≤ i) = (!s.toList.all letter) ∧ Below w.heap.size w W) := ⟨h1, h2⟩
  clear h1 h2 HF
  go_wp2
  go_ret
  exact ⟨by rw [← HE.out.1]; rfl, HE.out.2⟩
set_option maxRecDepth 100000 in
theorem sname_calls (s : ByteArray) (hs : s.size ≤ 9223372036854775807) (w : World) : Calls Tryz.prog 111 #[.string s] w fun e w' => e = .returned (.bool (letters s)) ∧ Below w.heap.size w w' := by
  have HF := scontains_calls s hs w
  have HR : Hid (Below w.heap.size w w) := Below.refl _ _
  by_cases h0 : s.toList = []
  · have HL : Hid (letters s = false) := by
      show letters s = false
      unfold letters
      rw [h0]
      rfl
    clear hs HF
    go_enter Tryz.func111, Tryz.ntmps111
    go_wp2
    go_ret
    exact ⟨by rw [HL.out]; rfl, HR.out⟩
  · have HL : Hid (letters s = s.toList.all letter) := by
      show letters s = s.toList.all letter
      unfold letters
      rw [List.isEmpty_eq_false_iff.2 h0, Bool.not_false, Bool.and_true]
    clear hs
    go_enter Tryz.func111, Tryz.ntmps111
    go_wp2_with fail
    refine HF.mono ?_
    rintro e W ⟨rfl, h2⟩
    have HE : Hid (Below w.heap.size w W) := h2
    clear h2 HF
    go_wp2
    go_ret
    exact ⟨by rw [HL.out]; first | rfl | (simp [h0]), HE.out⟩
end Go.Proofs.YtofkiaeocfpkeaaGreatDoor

/- RightN: schema's rightNames: whether all names are letters, and none is there twice. -/
namespace Go.Proofs.YtofkiaeocfpkeaaGreatDoor
open Go.RowKit

set_option maxRecDepth 100000 in
set_option maxHeartbeats 400000 in
theorem samename_calls (nm : ByteArray) (ta : Option Addr) (tl tc : Nat) (b : Nat) (on : ByteArray) (w : World) (hb : w.cell? ⟨b, 0, none⟩ = some (.string on)) :
    Calls Tryz.prog 110 #[.agg #[.string nm, .slice ta tl tc], .pointer (some ⟨b, 0, none⟩)] w fun e w' => e = .returned (.bool (nm.toList == on.toList)) ∧ Below w.heap.size w w' := by
  have hlt := World.block_lt_of_cell? w _ hb
  have hB : Below w.heap.size w (w.alloc (.cells #[.string nm, .slice ta tl tc] 73)) := (Below.refl _ w).alloc (Nat.le_refl _) _
  have h2 : (w.alloc (.cells #[.string nm, .slice ta tl tc] 73)).cell? ⟨b, 0, none⟩ = some (.string on) := (hB.cell (p := ⟨b, 0, none⟩) hlt).trans hb
  have HB : Hid (Below w.heap.size w (w.alloc (.cells #[.string nm, .slice ta tl tc] 73))) := hB
  clear hB hb
  go_enter Tryz.func110, Tryz.ntmps110
  go_wp2
  go_ret
  exact ⟨rfl, HB.out⟩
/-- The first place at which a name stands among the first n. -/
def nameIn (gs : List Grp) (n : Nat) (on : ByteArray) : Prop := ∃ (j : Nat) (x : Grp), j < n ∧ gs[j]? = some x ∧ (x.1.toList == on.toList) = true
set_option maxRecDepth 100000 in
set_option maxHeartbeats 400000 in
theorem gindex_calls (g o n c : Nat) (len : Nat) (gs : List Grp) (b : Nat) (on : ByteArray) (w : World) (hG : Groups w (some ⟨g, o, none⟩) len gs) (hn : n ≤ len) (hlen : len ≤ 1000000) (hb : w.cell? ⟨b, 0, none⟩ = some (.string on)) :
    Calls Tryz.prog 152 #[.slice (some ⟨g, o, none⟩) n c, .func (.func 110) #[] #[.pointer (some ⟨b, 0, none⟩)]] w fun e w' => ∃ i : Int, e = .returned (.int .i64 i) ∧ (0 ≤ i ↔ nameIn gs n on) ∧ Below w.heap.size w w' := by
  have hbl := World.block_lt_of_cell? w _ hb
  have HX : Hid (∀ (X : World) (j : Nat), Below w.heap.size w X → j < n → ∃ x ta tl tc, gs[j]? = some x ∧ X.cell? ⟨g, o + j * 2, none⟩ = some (.string x.1) ∧ X.cell? ⟨g, o + j * 2 + 1, none⟩ = some (.slice ta tl tc) ∧ Calls Tryz.prog 110 #[.agg #[.string x.1, .slice ta tl tc], .pointer (some ⟨b, 0, none⟩)] X fun e w' => e = .returned (.bool (x.1.toList == on.toList)) ∧ Below X.heap.size X w') := fun X j hX hj => by
    obtain ⟨b', o', x, ta, tl, tc, h1, h2, h3, h4⟩ := hG.at (i := j) (by omega)
    injection h1 with h1
    injection h1 with e1 e2
    subst e1 e2
    obtain ⟨h5, h6⟩ := h4 X hX
    exact ⟨x, ta, tl, tc, h2, h5, h6, samename_calls _ _ _ _ b on X ((hX.cell (p := ⟨b, 0, none⟩) hbl).trans hb)⟩
  have hni : (n : Int) ≤ 1000000 := by omega
  clear hG hb hbl
  go_enter Tryz.func152, Tryz.ntmps152
  go_wp2
  go_loopg [8] (n + 1) (fun gk v wr => ∃ j : Nat, j ≤ n ∧ n < j + gk ∧ v = .int .i64 (j : Int) ∧ (∀ (q : Nat) (x : Grp), q < j → gs[q]? = some x → (x.1.toList == on.toList) = false) ∧ Below w.heap.size w wr)
  case atStart => exact ⟨0, Nat.zero_le _, by omega, rfl, fun q x hq => by omega, Below.refl _ _⟩
  case round =>
    obtain ⟨j, hj, hgk, rfl, hT, hB⟩ := hrel
    by_cases hlt : j < n
    · obtain ⟨x, ta, tl, tc, hx, c0, c1, HC⟩ := HX.out wr j hB hlt
      have hii : (j : Int) < (n : Int) := by omega
      have hj0 : (0 : Int) ≤ (j : Int) := by omega
      have hd : decide ((j : Int) < (n : Int)) = true := by simpa using hii
      obtain ⟨r, hr⟩ : ∃ r, (x.1.toList == on.toList) = r := ⟨_, rfl⟩
      rw [hr] at HC
      have HB : Hid (gs[j]? = some x ∧ (x.1.toList == on.toList) = r ∧ (∀ (q : Nat) (x : Grp), q < j → gs[q]? = some x → (x.1.toList == on.toList) = false) ∧ Below w.heap.size w wr) := ⟨hx, hr, hT, hB⟩
      clear hT hB hx HX hr
      go_wp2_with fail
      refine HC.mono ?_
      rintro e W1 ⟨rfl, hB1⟩
      have HB1 : Hid (Below w.heap.size w W1) := HB.out.2.2.2.trans (hB1.mono HB.out.2.2.2.size)
      clear hB1 HC
      cases r with
      | true =>
        go_wp2
        go_ret
        exact ⟨(j : Int), rfl, ⟨fun _ => ⟨j, x, hlt, HB.out.1, HB.out.2.1⟩, fun _ => by omega⟩, HB1.out⟩
      | false =>
        go_wp2
        go_roundg (n - j)
        case measure => omega
        case rel => exact ⟨j + 1, by omega, by omega, by first | rfl | go_num, fun q y hq hy => by
          by_cases e : q = j
          · subst e
            rw [HB.out.1] at hy
            cases hy
            exact HB.out.2.1
          · exact HB.out.2.2.1 q y (by omega) hy, HB1.out⟩
    · obtain rfl : j = n := by omega
      have hd : decide ((j : Int) < (j : Int)) = false := by simp
      have HB : Hid ((∀ (q : Nat) (x : Grp), q < j → gs[q]? = some x → (x.1.toList == on.toList) = false) ∧ Below w.heap.size w wr) := ⟨hT, hB⟩
      clear hT hB HX
      go_wp2
      go_ret
      exact ⟨-1, rfl, ⟨fun h => by omega, fun ⟨q, x, h1, h2, h3⟩ => by rw [HB.out.1 q x h1 h2] at h3; cases h3⟩, HB.out.2⟩
set_option maxRecDepth 100000 in
theorem gcontains_calls (g o n c : Nat) (len : Nat) (gs : List Grp) (b : Nat) (on : ByteArray) (w : World) (hG : Groups w (some ⟨g, o, none⟩) len gs) (hn : n ≤ len) (hlen : len ≤ 1000000) (hb : w.cell? ⟨b, 0, none⟩ = some (.string on)) :
    Calls Tryz.prog 112 #[.slice (some ⟨g, o, none⟩) n c, .func (.func 110) #[] #[.pointer (some ⟨b, 0, none⟩)]] w fun e w' => ∃ r : Bool, e = .returned (.bool r) ∧ (r = true ↔ nameIn gs n on) ∧ Below w.heap.size w w' := by
  have HF := gindex_calls g o n c len gs b on w hG hn hlen hb
  clear hG hb
  go_enter Tryz.func112, Tryz.ntmps112
  go_wp2_with fail
  refine HF.mono ?_
  rintro e W ⟨i, rfl, h1, h2⟩
  have HE : Hid ((0 ≤ i ↔ nameIn gs n on) ∧ Below w.heap.size w W) := ⟨h1, h2⟩
  clear h1 h2 HF
  go_wp2
  go_ret
  exact ⟨decide (0 ≤ i), rfl, by rw [decide_eq_true_iff]; exact HE.out.1, HE.out.2⟩
/-- All names are letters, and none is there twice. -/
def RightN (gs : List Grp) : Prop := ∀ (i : Nat) (x : Grp), gs[i]? = some x → letters x.1 = true ∧ ¬ nameIn gs i x.1
set_option maxRecDepth 100000 in
set_option maxHeartbeats 600000 in
theorem rightnames_calls (g c : Nat) (len : Nat) (gs : List Grp) (w : World) (hG : Groups w (some ⟨g, 0, none⟩) len gs) (hlen : len ≤ 1000000) (hc : len ≤ c) (hc2 : c ≤ 9223372036854775807) (hsz : ∀ x ∈ gs, x.1.size ≤ 9223372036854775807) :
    Calls Tryz.prog 71 #[.slice (some ⟨g, 0, none⟩) len c] w fun e w' => ∃ r : Bool, e = .returned (.bool r) ∧ (r = true ↔ RightN gs) ∧ Below w.heap.size w w' := by
  have HX : Hid (∀ (X : World) (j : Nat), Below w.heap.size w X → j < len → ∃ x ta tl tc, gs[j]? = some x ∧ X.cell? ⟨g, j * 2, none⟩ = some (.string x.1) ∧ X.cell? ⟨g, j * 2 + 1, none⟩ = some (.slice ta tl tc) ∧ x.1.size ≤ 9223372036854775807) := fun X j hX hj => by
    obtain ⟨b', o', x, ta, tl, tc, h1, h2, h3, h4⟩ := hG.at (i := j) hj
    injection h1 with h1
    injection h1 with e1 e2
    subst e1 e2
    obtain ⟨h5, h6⟩ := h4 X hX
    rw [Nat.zero_add] at h5 h6
    exact ⟨x, ta, tl, tc, h2, h5, h6, hsz x (List.mem_of_getElem? h2)⟩
  have HGC : Hid (∀ (X : World) (j b cc : Nat) (on : ByteArray), Below w.heap.size w X → j ≤ len → X.cell? ⟨b, 0, none⟩ = some (.string on) → Calls Tryz.prog 112 #[.slice (some ⟨g, 0, none⟩) j cc, .func (.func 110) #[] #[.pointer (some ⟨b, 0, none⟩)]] X fun e w' => ∃ r : Bool, e = .returned (.bool r) ∧ (r = true ↔ nameIn gs j on) ∧ Below X.heap.size X w') := fun X j b cc on hX hj hb => gcontains_calls g 0 j cc len gs b on X (hG.below hX) hj hlen hb
  have HLL : Hid (gs.length = len) := hG.1
  have hli : (len : Int) ≤ 1000000 := by omega
  have hlc : (len : Int) ≤ (c : Int) := by omega
  have hci : (c : Int) ≤ 9223372036854775807 := by omega
  clear hG hsz
  go_enter Tryz.func71, Tryz.ntmps71
  go_wp2
  go_loopg [8] (len + 1) (fun gk v wr => ∃ j : Nat, j ≤ len ∧ len < j + gk ∧ v = .int .i64 (j : Int) ∧ (∀ (i : Nat) (x : Grp), i < j → gs[i]? = some x → letters x.1 = true ∧ ¬ nameIn gs i x.1) ∧ Below w.heap.size w wr)
  case atStart => exact ⟨0, Nat.zero_le _, by omega, rfl, fun q x hq => by omega, Below.refl _ _⟩
  case round =>
    obtain ⟨j, hj, hgk, rfl, hT, hB⟩ := hrel
    by_cases hlt : j < len
    · obtain ⟨x, ta, tl, tc, hx, c0, c1, hxs⟩ := HX.out wr j hB hlt
      have hii : (j : Int) < (len : Int) := by omega
      have hj0 : (0 : Int) ≤ (j : Int) := by omega
      have hd : decide ((j : Int) < (len : Int)) = true := by simpa using hii
      have hjc : (j : Int) ≤ (c : Int) := by omega
      have hjcn : j ≤ c := by omega
      obtain ⟨V0, hV0⟩ : ∃ V0, V0 = wr.alloc (.cells #[.string x.1, .slice ta tl tc] 73) := ⟨_, rfl⟩
      have hBV : Below wr.heap.size wr V0 := by rw [hV0]; exact (Below.refl _ wr).alloc (Nat.le_refl _) _
      have m0 : V0.heap[wr.heap.size]? = some (.cells #[.string x.1, .slice ta tl tc] 73 (0, 0)) := by rw [hV0]; exact World.alloc_heap_new wr _
      have hlt0 : wr.heap.size < V0.heap.size := (Array.getElem?_eq_some_iff.1 m0).1
      have HKS : Hid (∀ X : World, Below V0.heap.size V0 X → X.cell? ⟨wr.heap.size, 0, none⟩ = some (.string x.1)) := fun X hX => by
        have mX := (hX.block _ hlt0).trans m0
        exact cell_of_row X wr.heap.size 0 _ _ _ mX
      have HVB : Hid (Below w.heap.size w V0) := hB.trans (hBV.mono hB.size)
      have HNM := sname_calls x.1 hxs V0
      have HV0 : Hid (wr.alloc (.cells #[.string x.1, .slice ta tl tc] 73) = V0) := hV0.symm
      have HB : Hid (gs[j]? = some x ∧ (∀ (i : Nat) (x : Grp), i < j → gs[i]? = some x → letters x.1 = true ∧ ¬ nameIn gs i x.1)) := ⟨hx, hT⟩
      have k0 := HKS.out V0 (Below.refl _ _)
      obtain ⟨r, hr⟩ : ∃ r, letters x.1 = r := ⟨_, rfl⟩
      rw [hr] at HNM
      have HR : Hid (letters x.1 = r) := hr
      clear hT hB hx HX hr hV0 m0 hlt0 hBV hxs
      go_wp2_with fail
      rw [HV0.out]
      refine HNM.mono ?_
      rintro e W1 ⟨rfl, hB1⟩
      have HB1 : Hid (Below w.heap.size w W1) := HVB.out.trans (hB1.mono HVB.out.size)
      have k1 := HKS.out W1 hB1
      have HCC := HGC.out W1 j wr.heap.size c x.1 HB1.out hj k1
      clear hB1 HNM
      cases r with
      | false =>
        clear HCC
        go_wp2
        go_ret
        exact ⟨false, rfl, ⟨fun h => (by cases h), fun h => by
          have := (h j x HB.out.1).1
          rw [HR.out] at this
          cases this⟩, HB1.out⟩
      | true =>
        go_wp2_with fail
        refine HCC.mono ?_
        rintro e W2 ⟨r2, rfl, hr2, hB2⟩
        have HB2 : Hid (Below w.heap.size w W2) := HB1.out.trans (hB2.mono HB1.out.size)
        have HR2 : Hid (r2 = true ↔ nameIn gs j x.1) := hr2
        clear hB2 hr2 HCC
        cases r2 with
        | true =>
          go_wp2
          go_ret
          exact ⟨false, rfl, ⟨fun h => (by cases h), fun h => absurd (HR2.out.1 (by first | rfl | trivial)) (h j x HB.out.1).2⟩, HB2.out⟩
        | false =>
          go_wp2
          go_roundg (len - j)
          case measure => omega
          case rel => exact ⟨j + 1, by omega, by omega, by first | rfl | go_num, fun q y hq hy => by
            by_cases e : q = j
            · subst e
              rw [HB.out.1] at hy
              cases hy
              exact ⟨HR.out, fun h => by cases HR2.out.2 h⟩
            · exact HB.out.2 q y (by omega) hy, HB2.out⟩
    · obtain rfl : j = len := by omega
      have hd : decide ((j : Int) < (j : Int)) = false := by simp
      have HB : Hid (RightN gs ∧ Below w.heap.size w wr) := ⟨fun i x hx => hT i x (by have := (List.getElem?_eq_some_iff.1 hx).1; have := HLL.out; omega) hx, hB⟩
      clear hT hB HX
      go_wp2
      go_ret
      exact ⟨true, rfl, ⟨fun _ => HB.out.1, fun _ => rfl⟩, HB.out.2⟩
end Go.Proofs.YtofkiaeocfpkeaaGreatDoor

/- KindsF: schema's kindsOf at every slice of types: the whole and the types, whose trees are not read yet, in memory of their own. -/
namespace Go.Proofs.YtofkiaeocfpkeaaGreatDoor
open Go.RowKit

set_option maxRecDepth 100000 in
set_option maxHeartbeats 300000 in
theorem kindsof_calls (a : Option Addr) (len cap : Nat) (l : List SpecD) (w : World) (hl : Specs w a len l) (hsz : len ≤ 15) :
    Calls Tryz.prog 65 #[.slice a len cap] w fun e w' => ∃ g c, e = .returned (.slice (some ⟨g, 0, none⟩) (len + 1) c) ∧ w'.ownsRow w.heap.size 115 10 (.slice (some ⟨g, 0, none⟩) (len + 1) c) (bareK zeroS :: l.map bareK).length (flatK (bareK zeroS :: l.map bareK)) ∧ Below w.heap.size w w' := by
  have HS : Hid (∀ (X : World) (i : Nat), Below w.heap.size w X → i < len → ∃ b o x, a = some ⟨b, o, none⟩ ∧ l[i]? = some x ∧ SpecAt X b (o + i * 7) x) := fun X i hX hi => by
    obtain ⟨b, o, x, h1, _, h2, h3⟩ := hl.at hi
    exact ⟨b, o, x, h1, h2, h3 X hX⟩
  have HLL : Hid (l.length = len) := hl.1
  have HB0 : Hid (Below w.heap.size w (w.alloc (.cells (kindC (bareK zeroS)).toArray 115))) := (Below.refl _ w).alloc (Nat.le_refl _) _
  have HO0 : Hid ((w.alloc (.cells (kindC (bareK zeroS)).toArray 115)).ownsRow w.heap.size 115 10 (.slice (some ⟨w.heap.size, 0, none⟩) 1 1) 1 (flatK [bareK zeroS])) := ⟨rfl, .inr ⟨w.heap.size, 1, _, rfl, Nat.le_refl _, World.alloc_heap_new w _, Nat.le_refl _, by unfold maxLen; omega, rfl, rfl⟩⟩
  have hsi : (len : Int) ≤ 15 := by omega
  clear hl
  go_enter Tryz.func65, Tryz.ntmps65
  go_wp2
  go_loopg [3, 10] (len + 1) (fun gk u v wr => ∃ (i : Nat) (g c : Nat), i ≤ len ∧ len < i + gk ∧ u = .slice (some ⟨g, 0, none⟩) (i + 1) c ∧ v = .int .i64 (i : Int) ∧ wr.ownsRow w.heap.size 115 10 (.slice (some ⟨g, 0, none⟩) (i + 1) c) (bareK zeroS :: (l.take i).map bareK).length (flatK (bareK zeroS :: (l.take i).map bareK)) ∧ Below w.heap.size w wr)
  case atStart => exact ⟨0, _, _, Nat.zero_le _, by omega, rfl, rfl, by rw [List.take_zero]; exact HO0.out, HB0.out⟩
  case round =>
    obtain ⟨i, g, c, hi, hgk, rfl, rfl, hown, hB⟩ := hrel
    clear HO0 HB0
    by_cases hlt : i < len
    · obtain ⟨b, o, x, rfl, hx, c0, c1, c2, c3, c4, c5, c6⟩ := HS.out wr i hB hlt
      have hii : (i : Int) < (len : Int) := by omega
      have hi0 : (0 : Int) ≤ (i : Int) := by omega
      have hd : decide ((i : Int) < (len : Int)) = true := by simpa using hii
      have hB1 : Below wr.heap.size wr (wr.alloc (.cells (specC x).toArray 46)) := (Below.refl _ wr).alloc (Nat.le_refl _) _
      have hB2 : Below wr.heap.size wr ((wr.alloc (.cells (specC x).toArray 46)).alloc (.cells (kindC (bareK x)).toArray 115)) := hB1.alloc hB1.size _
      have hlenk : (bareK zeroS :: (l.take i).map bareK).length = i + 1 := by rw [List.length_cons, List.length_map, List.length_take]; have := HLL.out; omega
      obtain ⟨g', cap', W1, hrun, hown', hBW⟩ := kind_put _ w.heap.size _ _ (owns_same hown fun k hk => hB2.block k (owns_lt hown hk).1) (bareK x) (by omega) (by have := hB2.size; have := hB.size; omega) (wr.alloc (.cells (specC x).toArray 46)).heap.size 1 (ten_new (wr.alloc (.cells (specC x).toArray 46)) _ _)
      have htk : l.take (i + 1) = l.take i ++ [x] := by rw [List.take_add_one, hx]; rfl
      have HN : Hid (W1.ownsRow w.heap.size 115 10 (.slice (some ⟨g', 0, none⟩) (i + 1 + 1) cap') (bareK zeroS :: (l.take (i + 1)).map bareK).length (flatK (bareK zeroS :: (l.take (i + 1)).map bareK)) ∧ Below w.heap.size w W1) := by
        refine ⟨?_, (hB.trans (hB2.mono hB.size)).trans hBW⟩
        rw [htk, List.map_append, List.map_singleton]
        rw [hlenk] at hown'
        exact hown'
      rw [hlenk, World.size_alloc] at hrun
      have HRUN : Hid ((Builtin.append_ #[118, 118] 118 #[.slice (some ⟨g, 0, none⟩) (i + 1) c, .slice (some ⟨wr.heap.size + 1, 0, none⟩) 1 1]).run Tryz.prog ((wr.alloc (.cells #[.string x.name, .string x.expr, .bool x.leaf, .int .i64 x.marks, .int .i64 x.least, .int .i64 x.most, .bool x.lines] 46)).alloc (.cells #[.string x.name, .string x.expr, .bool x.leaf, .int .i64 x.marks, .int .i64 x.least, .int .i64 x.most, .bool x.lines, .int .i64 0, .string ⟨#[]⟩, .slice none 0 0] 115)) = .ok (.slice (some ⟨g', 0, none⟩) (i + 1 + 1) cap') W1) := hrun
      clear hown hB hB1 hB2 hBW hown' hrun htk HS hlenk hx
      go_wp2_with (first
        | (at_builtin; trace_state; refine wpList_run_append rfl (.tmp 14) (.tmp 17) 118 rfl _ _ _ _ rfl rfl HRUN.out ?_)
        | fail)
      go_roundg (len - i)
      case measure => omega
      case rel => exact ⟨i + 1, g', cap', by omega, by omega, rfl, by first | rfl | go_num, HN.out⟩
    · obtain rfl : i = len := by omega
      have hd : decide ((i : Int) < (i : Int)) = false := by simp
      have HN : Hid (wr.ownsRow w.heap.size 115 10 (.slice (some ⟨g, 0, none⟩) (i + 1) c) (bareK zeroS :: l.map bareK).length (flatK (bareK zeroS :: l.map bareK)) ∧ Below w.heap.size w wr) := by
        rw [List.take_of_length_le (by have := HLL.out; omega)] at hown
        exact ⟨hown, hB⟩
      clear hown hB HS
      go_wp2
      go_ret
      exact ⟨g, c, rfl, HN.out⟩
end Go.Proofs.YtofkiaeocfpkeaaGreatDoor

/- NewF: schema.New at every expression, types and groups: what it returns, and the schema as it lies in memory. -/
namespace Go.Proofs.YtofkiaeocfpkeaaGreatDoor
open Go.RowKit

/-- What New answers. -/
noncomputable def newE (whole : ByteArray) (l : List SpecD) (gs : List Grp) : Int :=
  open Classical in
  if 15 < l.length ∨ 16 < gs.length then 1
  else if l.all okS = true ∧ RightN (namesD l gs) then firstE (whole :: l.map (·.expr)) (namesD l gs)
  else 1
/-- A schema that was made, as it lies. -/
structure SchAt (w : World) (B g c ng nc : Nat) (ks : List KindD) (gs : List Grp) (ts : List (DataW Unit)) : Prop where
  sch : w.heap[B]? = some (.cells #[.slice (some ⟨g, 0, none⟩) ks.length c, .slice (some ⟨ng, 0, none⟩) gs.length nc] 120 (0, 0))
  glt : g < w.heap.size
  kinds : ∀ (i : Nat) (x : KindD), ks[i]? = some x → SpecAt w g (i * 10) x.1 ∧ w.cell? ⟨g, i * 10 + 7, none⟩ = some (.int .i64 x.2.1) ∧ w.cell? ⟨g, i * 10 + 8, none⟩ = some (.string x.2.2.1) ∧ w.cell? ⟨g, i * 10 + 9, none⟩ = some (.slice x.2.2.2.1 x.2.2.2.2.1 x.2.2.2.2.2)
  names : Groups w (some ⟨ng, 0, none⟩) gs.length gs
  len : ts.length = ks.length
  cap : ks.length ≤ c ∧ c ≤ 9223372036854775807 ∧ ks.length ≤ 16
  trees : ∀ (i : Nat) (x : KindD) (t : DataW Unit), ks[i]? = some x → ts[i]? = some t → Ex w 200 t (rawV x.2) ∧ named 200 t ∧ chk 200 t gs = 0
theorem SchAt.below {w w' : World} {B g c ng nc : Nat} {ks : List KindD} {gs : List Grp} {ts : List (DataW Unit)} (h : SchAt w B g c ng nc ks gs ts) (hB : Below w.heap.size w w') : SchAt w' B g c ng nc ks gs ts := by
  have e : ∀ k, w'.cell? ⟨g, k, none⟩ = w.cell? ⟨g, k, none⟩ := fun k => World.cell?_of_block (hB.block g h.glt)
  refine ⟨(hB.block B (Array.getElem?_eq_some_iff.1 h.sch).1).trans h.sch, Nat.lt_of_lt_of_le h.glt hB.size, fun i x hx => ?_, h.names.below hB, h.len, h.cap, fun i x t hx ht => ?_⟩
  · obtain ⟨h1, h2, h3, h4⟩ := h.kinds i x hx
    exact ⟨h1.same (hB.block g h.glt), by rw [e]; exact h2, by rw [e]; exact h3, by rw [e]; exact h4⟩
  · obtain ⟨h1, h2, h3⟩ := h.trees i x t hx ht
    exact ⟨Ex.below hB _ _ _ h1, h2, h3⟩
/-- The trees of a schema. -/
def treesOf (whole : ByteArray) (l : List SpecD) : List (DataW Unit) := (whole :: l.map (·.expr)).map outTree
/-- What was made of these. -/
def MadeS (w : World) (B : Nat) (whole : ByteArray) (l : List SpecD) (gs : List Grp) : Prop := ∃ g c ng nc ks, SchAt w B g c ng nc ks (namesD l gs) (treesOf whole l) ∧ ks.map (·.1) = zeroS :: l
theorem MadeS.below {w w' : World} {B : Nat} {whole : ByteArray} {l : List SpecD} {gs : List Grp} (h : MadeS w B whole l gs) (hB : Below w.heap.size w w') : MadeS w' B whole l gs := by
  obtain ⟨g, c, ng, nc, ks, h1, h2⟩ := h
  exact ⟨g, c, ng, nc, ks, h1.below hB, h2⟩
theorem readE_zero {s : ByteArray} {gs : List Grp} (h : readE s gs = 0) : chk 200 (outTree s) gs = 0 := by
  unfold readE at h
  split at h
  · rename_i h1
    exact absurd h h1
  · exact h
theorem RdI.made {base : Nat} {w0 : World} {B g c ng nc : Nat} {xs : List GrpD} {whole : ByteArray} {l : List SpecD} {gs : List Grp} {wr : World} {ks : List KindD} (h : RdI base w0 B g c ng nc xs (whole :: l.map (·.expr)) (zeroS :: l) wr ks ks.length) (hn : xs.map plainG = namesD l gs) (hl : l.length ≤ 15) (hxl : xs.length ≤ 1000) : MadeS wr B whole l gs := by
  have hkl : ks.length = l.length + 1 := by have := congrArg List.length h.spec; rw [List.length_map, List.length_cons] at this; exact this
  have hnl : (namesD l gs).length = xs.length := by rw [← hn, List.length_map]
  obtain ⟨hgl, _⟩ := owns_lt h.row (g := g) rfl
  have hcap : ks.length ≤ c ∧ c ≤ maxLen := by
    rcases h.row.2 with ⟨e, _⟩ | ⟨g', cap, cur, e, _, _, h1, h2, _⟩
    · cases e
    · injection e with _ _ e3
      subst e3
      exact ⟨h1, h2⟩
  refine ⟨g, c, ng, nc, ks, ⟨by rw [hnl]; exact h.sch, hgl, fun i x hx => ?_, by rw [hnl, ← hn]; exact h.nms.groups rfl (by omega), by unfold treesOf; simp; omega, ⟨hcap.1, by have := hcap.2; unfold maxLen at this; omega, by omega⟩, fun i x t hx ht => ?_⟩, h.spec⟩
  · obtain ⟨g', cap', e, hc⟩ := owns_cell h.row (by omega)
    injection e with e1
    injection e1 with e1
    injection e1 with e1
    subst e1
    exact ⟨(kinds_at h.row).2 i x hx, hc _ _ (flatK_at (j := 7) hx rfl), hc _ _ (flatK_at (j := 8) hx rfl), hc _ _ (flatK_at (j := 9) hx rfl)⟩
  · unfold treesOf at ht
    rw [List.getElem?_map] at ht
    cases hs : (whole :: l.map (·.expr))[i]? with
    | none => rw [hs] at ht; cases ht
    | some s =>
      rw [hs] at ht
      cases ht
      have hi : i < ks.length := (List.getElem?_eq_some_iff.1 hx).1
      refine ⟨ExA.ex _ _ _ (h.tree i x s hi hx hs), out_named s, ?_⟩
      have := readE_zero (h.zero i s hi hs)
      rw [hn] at this
      exact this
theorem Nms.base {b b' : Nat} {W : World} {v : Value} {xs : List GrpD} (h : Nms b W v xs) (hb : b' ≤ b) : Nms b' W v xs := by
  refine ⟨⟨h.row.1, ?_⟩, h.ok⟩
  rcases h.row.2 with h2 | ⟨g, cap, cur, h1, h2, h3⟩
  · exact .inl h2
  · exact .inr ⟨g, cap, cur, h1, Nat.le_trans hb h2, h3⟩
theorem bare_expr (l : List SpecD) (whole : ByteArray) : ∀ (j : Nat) (x : KindD), 1 ≤ j → (bareK zeroS :: l.map bareK)[j]? = some x → (whole :: l.map (·.expr))[j]? = some x.1.expr := by
  intro j x hj hx
  obtain ⟨k, rfl⟩ : ∃ k, j = k + 1 := ⟨j - 1, by omega⟩
  rw [List.getElem?_cons_succ, List.getElem?_map] at hx ⊢
  cases hq : l[k]? with
  | none => rw [hq] at hx; cases hx
  | some y =>
    rw [hq] at hx
    cases hx
    rfl
theorem all_bare (l : List SpecD) : (((bareK zeroS :: l.map bareK).drop 1).all fun x => okS x.1) = l.all okS := by
  rw [List.drop_succ_cons, List.drop_zero, List.all_map]
  rfl
set_option maxRecDepth 100000 in
set_option maxHeartbeats 800000 in
theorem new_calls (whole : ByteArray) (a : Option Addr) (len cap : Nat) (l : List SpecD) (ga : Option Addr) (gl gc : Nat) (gs : List Grp) (w : World) (hw : whole.size ≤ 9223372036854775807) (hl : Specs w a len l) (hG : Groups w ga gl gs) (hls : ∀ x ∈ l, x.name.size ≤ 9223372036854775807 ∧ x.expr.size ≤ 9223372036854775807) (hgs : ∀ x ∈ gs, x.1.size ≤ 9223372036854775807 ∧ x.2.length ≤ 1000000) (hE : ETy w) :
    Calls Tryz.prog 24 #[.string whole, .slice a len cap, .slice ga gl gc] w fun e w' => Below w.heap.size w w' ∧ ((newE whole l gs ≠ 0 ∧ e = .returned (.tuple #[.pointer none, .int .i64 (newE whole l gs)])) ∨ (newE whole l gs = 0 ∧ ∃ B, e = .returned (.tuple #[.pointer (some ⟨B, 0, none⟩), .int .i64 0]) ∧ MadeS w' B whole l gs)) := by
  have hll := hl.1
  have hgl := hG.1
  have hl63 := hl.2.1
  have hg63 := hG.2.1
  have hli : (len : Int) ≤ 9223372036854775807 := by omega
  have hgi : (gl : Int) ≤ 9223372036854775807 := by omega
  by_cases h1 : 15 < len
  · have HN : Hid (newE whole l gs = 1) := by
      show newE whole l gs = 1
      unfold newE
      rw [if_pos (.inl (by omega))]
    have hd : decide ((15 : Int) < (len : Int)) = true := by simp; omega
    have HR : Hid (Below w.heap.size w w) := Below.refl _ _
    clear hl hG hls hgs hE
    go_enter Tryz.func24, Tryz.ntmps24
    go_wp2
    go_ret2
    exact ⟨HR.out, .inl ⟨by rw [HN.out]; decide, by rw [HN.out]; rfl⟩⟩
  have hd1 : decide ((15 : Int) < (len : Int)) = false := by simp; omega
  by_cases h2 : 16 < gl
  · have HN : Hid (newE whole l gs = 1) := by
      show newE whole l gs = 1
      unfold newE
      rw [if_pos (.inr (by omega))]
    have hd : decide ((16 : Int) < (gl : Int)) = true := by simp; omega
    have HR : Hid (Below w.heap.size w w) := Below.refl _ _
    clear hl hG hls hgs hE
    go_enter Tryz.func24, Tryz.ntmps24
    go_wp2
    go_ret2
    exact ⟨HR.out, .inl ⟨by rw [HN.out]; decide, by rw [HN.out]; rfl⟩⟩
  have hd2 : decide ((16 : Int) < (gl : Int)) = false := by simp; omega
  have hnE : newE whole l gs = (open Classical in if l.all okS = true ∧ RightN (namesD l gs) then firstE (whole :: l.map (·.expr)) (namesD l gs) else 1) := by
    unfold newE
    rw [if_neg (by omega)]
  have HKO := Hid.mk_ (kindsof_calls a len cap l w hl (by omega))
  have HNO : Hid (∀ X, Below w.heap.size w X → Calls Tryz.prog 66 #[.slice a len cap, .slice ga gl gc] X fun e w' => ∃ (g c : Nat) (xs : List GrpD), e = .returned (.slice (some ⟨g, 0, none⟩) xs.length c) ∧ Nms X.heap.size w' (.slice (some ⟨g, 0, none⟩) xs.length c) xs ∧ xs.map plainG = namesD l gs ∧ Below X.heap.size X w') := fun X hX => namesof_calls a len cap l ga gl gc gs X (hl.below hX) (hG.below hX) (by omega) (by omega) (fun x hx => (hgs x hx).2)
  have hsz : ∀ x ∈ namesD l gs, x.1.size ≤ 9223372036854775807 := by
    intro x hx
    unfold namesD at hx
    rcases List.mem_cons.1 hx with rfl | hx
    · decide
    · rcases List.mem_append.1 hx with hx | hx
      · have : ∀ (l : List SpecD) (i : Nat) (x : Grp), x ∈ specNames i l → ∃ s ∈ l, x.1 = s.name := by
          intro l
          induction l with
          | nil => intro i x hx; cases hx
          | cons s r ih =>
            intro i x hx
            rw [specNames] at hx
            rcases List.mem_cons.1 hx with rfl | hx
            · exact ⟨s, List.mem_cons_self .., rfl⟩
            · obtain ⟨q, h1, h2⟩ := ih _ _ hx
              exact ⟨q, List.mem_cons_of_mem _ h1, h2⟩
        obtain ⟨s, h1, h2⟩ := this l 0 x hx
        rw [h2]
        exact (hls s h1).1
      · exact (hgs x hx).1
  have hnl : (namesD l gs).length ≤ 100 := by
    unfold namesD
    rw [List.length_cons, List.length_append, specNames_length]
    omega
  -- what comes behind namesOf
  have HALL : Hid (∀ (X1 X2 : World) (g c ng nc : Nat) (xs : List GrpD), X1.ownsRow w.heap.size 115 10 (.slice (some ⟨g, 0, none⟩) (len + 1) c) (bareK zeroS :: l.map bareK).length (flatK (bareK zeroS :: l.map bareK)) → Below w.heap.size w X1 → Nms X1.heap.size X2 (.slice (some ⟨ng, 0, none⟩) xs.length nc) xs → xs.map plainG = namesD l gs → Below X1.heap.size X1 X2 → ∀ X3 X4, X3 = X2.alloc (.cells #[.slice (some ⟨g, 0, none⟩) (len + 1) c, .slice (some ⟨ng, 0, none⟩) xs.length nc] 120) → X4 = X3.alloc (.cells #[.func (.func 68) #[] #[], .func (.func 69) #[] #[], .func (.func 70) #[] #[]] 125) →
      Below w.heap.size w X4 ∧ (∀ X, Below X4.heap.size X4 X → X.cell? ⟨X2.heap.size, 0, none⟩ = some (.slice (some ⟨g, 0, none⟩) (len + 1) c) ∧ X.cell? ⟨X2.heap.size, 1, none⟩ = some (.slice (some ⟨ng, 0, none⟩) xs.length nc)) ∧ Calls Tryz.prog 67 #[.pointer (some ⟨X2.heap.size, 0, none⟩), .slice (some ⟨X3.heap.size, 0, none⟩) 3 3] X4 (fun e w' => e = .returned (.bool (l.all okS)) ∧ Below X4.heap.size X4 w') ∧
      (∀ X, Below X4.heap.size X4 X → Calls Tryz.prog 71 #[.slice (some ⟨ng, 0, none⟩) xs.length nc] X fun e w' => ∃ r : Bool, e = .returned (.bool r) ∧ (r = true ↔ RightN (namesD l gs)) ∧ Below X.heap.size X w') ∧
      (∀ X, Below X4.heap.size X4 X → Calls Tryz.prog 72 #[.pointer (some ⟨X2.heap.size, 0, none⟩), .string whole] X fun e w' => e = .returned (.int .i64 (firstE (whole :: l.map (·.expr)) (namesD l gs))) ∧ Below w.heap.size w w' ∧ (firstE (whole :: l.map (·.expr)) (namesD l gs) = 0 → MadeS w' X2.heap.size whole l gs))) := by
    intro X1 X2 g c ng nc xs hown hB1 hnm hxn hB2 X3 X4 hX3 hX4
    have hxl : xs.length = (namesD l gs).length := by rw [← hxn, List.length_map]
    have hkl : (bareK zeroS :: l.map bareK).length = len + 1 := by rw [List.length_cons, List.length_map]; omega
    have hB12 : Below w.heap.size w X2 := hB1.trans (hB2.mono hB1.size)
    have hB23 : Below X2.heap.size X2 X3 := by rw [hX3]; exact (Below.refl _ _).alloc (Nat.le_refl _) _
    have hB34 : Below X3.heap.size X3 X4 := by rw [hX4]; exact (Below.refl _ _).alloc (Nat.le_refl _) _
    have m3 : X3.heap[X2.heap.size]? = some (.cells #[.slice (some ⟨g, 0, none⟩) (len + 1) c, .slice (some ⟨ng, 0, none⟩) xs.length nc] 120 (0, 0)) := by rw [hX3]; exact World.alloc_heap_new X2 _
    have hlt3 : X2.heap.size < X3.heap.size := (Array.getElem?_eq_some_iff.1 m3).1
    have m4 : X4.heap[X2.heap.size]? = some (.cells #[.slice (some ⟨g, 0, none⟩) (len + 1) c, .slice (some ⟨ng, 0, none⟩) xs.length nc] 120 (0, 0)) := (hB34.block _ hlt3).trans m3
    have f4 : X4.heap[X3.heap.size]? = some (.cells #[.func (.func 68) #[] #[], .func (.func 69) #[] #[], .func (.func 70) #[] #[]] 125 (0, 0)) := by rw [hX4]; exact World.alloc_heap_new X3 _
    have hB24 : Below X2.heap.size X2 X4 := hB23.trans (hB34.mono hB23.size)
    have hB14 : Below X1.heap.size X1 X4 := hB2.trans (hB24.mono hB2.size)
    have hB4 : Below w.heap.size w X4 := hB12.trans (hB24.mono hB12.size)
    have hlt4 : X2.heap.size < X4.heap.size := (Array.getElem?_eq_some_iff.1 m4).1
    have hown4 : X4.ownsRow w.heap.size 115 10 (.slice (some ⟨g, 0, none⟩) (len + 1) c) (bareK zeroS :: l.map bareK).length (flatK (bareK zeroS :: l.map bareK)) := owns_same hown fun k hk => hB14.block k (owns_lt hown hk).1
    have hnm4 : Nms w.heap.size X4 (.slice (some ⟨ng, 0, none⟩) xs.length nc) xs := (hnm.below hB24).base hB1.size
    refine ⟨hB4, fun X hX => ?_, ?_, fun X hX => ?_, fun X hX => ?_⟩
    · have hc := fun j => cell_of_row X X2.heap.size j _ _ _ ((hX.block _ hlt4).trans m4)
      exact ⟨hc 0, hc 1⟩
    · have := everytype_calls X2.heap.size g c X3.heap.size (.slice (some ⟨ng, 0, none⟩) xs.length nc) (bareK zeroS :: l.map bareK) X4 (by rw [hkl]; exact m4) (kinds_at hown4) f4 (by omega)
      rw [all_bare] at this
      exact this
    · have hgr := (hnm4.below hX).groups rfl (by omega)
      rw [hxn] at hgr
      have hcap : xs.length ≤ nc ∧ nc ≤ maxLen := by
        rcases hnm4.row.2 with ⟨e, _⟩ | ⟨g', cap, cur, e, _, _, h1, h2, _⟩
        · cases e
        · injection e with _ _ e3
          subst e3
          exact ⟨h1, h2⟩
      exact rightnames_calls ng nc xs.length (namesD l gs) X hgr (by omega) hcap.1 (by have := hcap.2; unfold maxLen at this; omega) hsz
    · have hBX : Below w.heap.size w X := hB4.trans (hX.mono hB4.size)
      have hR : RdI w.heap.size X X2.heap.size g c ng nc xs (whole :: l.map (·.expr)) (zeroS :: l) X (bareK zeroS :: l.map bareK) 0 := by
        refine ⟨by rw [hkl]; exact (hX.block _ hlt4).trans m4, ?_, hnm4.below hX, ?_, fun j x s hj => by omega, fun j s hj => by omega, ⟨rfl, rfl, rfl, Nat.le_refl _, fun _ _ _ => rfl⟩, hE.below hBX⟩
        · have := owns_same hown4 (w' := X) fun k hk => hX.block k (owns_lt hown4 hk).1
          rw [hkl] at this ⊢
          exact this
        · rw [List.map_cons, List.map_map]
          show zeroS :: l.map _ = zeroS :: l
          congr 1
          exact List.map_id' l
      have het : 1 < w.heap.size := hE.lt
      refine (readall_calls w.heap.size X2.heap.size g c ng nc xs whole (whole :: l.map (·.expr)) (zeroS :: l) X (bareK zeroS :: l.map bareK) hR het rfl (bare_expr l whole) (by simp) (fun s hs => ?_) (by omega) (by omega)).mono ?_
      · rcases List.mem_cons.1 hs with rfl | hs
        · exact hw
        · obtain ⟨q, hq, rfl⟩ := List.mem_map.1 hs
          exact (hls q hq).2
      · rintro e w' ⟨rfl, hgr, hz⟩
        rw [hxn] at hz ⊢
        refine ⟨rfl, hBX.grown hgr hBX.size (fun k e => by injection e with e; subst e; exact owned_base hown (g := g) rfl), fun h0 => ?_⟩
        obtain ⟨ks', hk', hI⟩ := hz h0
        rw [← hk'] at hI
        exact hI.made hxn (by omega) (by omega)
  generalize hnew : newE whole l gs = NE at *
  have HNE := Hid.mk_ hnE
  clear hl hG hls hgs hE hsz hnl hnE hnew
  go_enter Tryz.func24, Tryz.ntmps24
  go_wp2_with fail
  refine HKO.out.mono ?_
  rintro e X1 ⟨g, c, rfl, hown, hB1⟩
  have HX1 : Hid (X1.ownsRow w.heap.size 115 10 (.slice (some ⟨g, 0, none⟩) (len + 1) c) (bareK zeroS :: l.map bareK).length (flatK (bareK zeroS :: l.map bareK)) ∧ Below w.heap.size w X1) := ⟨hown, hB1⟩
  have HN1 := HNO.out X1 hB1
  clear hown hB1 HKO HNO
  go_wp2_with fail
  refine HN1.mono ?_
  rintro e X2 ⟨ng, nc, xs, rfl, hnm, hxn, hB2⟩
  obtain ⟨hB4, hcells, hev, hrn, hra⟩ := HALL.out X1 X2 g c ng nc xs HX1.out.1 HX1.out.2 hnm hxn hB2 _ _ rfl rfl
  have HB4 := Hid.mk_ hB4
  have HCE := Hid.mk_ hcells
  have HRN := Hid.mk_ hrn
  have HRA := Hid.mk_ hra
  obtain ⟨ca, hca⟩ : ∃ r, r = l.all okS := ⟨_, rfl⟩
  rw [← hca] at hev HNE
  clear hnm hxn hB2 HALL HN1 HX1 hB4 hcells hrn hra hca
  rw [World.size_alloc] at hev
  go_wp2_with fail
  refine hev.mono ?_
  rintro e X5 ⟨rfl, hB5⟩
  have HB5 : Hid (Below w.heap.size w X5) := HB4.out.trans (hB5.mono HB4.out.size)
  have HBX5 := Hid.mk_ hB5
  obtain ⟨k0, k1⟩ := HCE.out X5 hB5
  have HRN5 := HRN.out X5 hB5
  clear hB5 hev
  cases ca with
  | false =>
    have HN : Hid (NE = 1) := by
      show NE = 1
      rw [HNE.out, if_neg (by simp)]
    clear HRN5
    go_wp2
    go_ret2
    exact ⟨HB5.out, .inl ⟨by rw [HN.out]; decide, by rw [HN.out]; rfl⟩⟩
  | true =>
    go_wp2_with fail
    refine HRN5.mono ?_
    rintro e X6 ⟨r, rfl, hr, hB6⟩
    have hB46 := HBX5.out.trans (hB6.mono HBX5.out.size)
    have HB6 : Hid (Below w.heap.size w X6) := HB4.out.trans (hB46.mono HB4.out.size)
    have HRA6 := HRA.out X6 hB46
    have HR := Hid.mk_ hr
    clear hB6 hB46 hr HRN5 HRN HRA
    cases r with
    | false =>
      have HN : Hid (NE = 1) := by
        show NE = 1
        rw [HNE.out, if_neg (fun h => by cases HR.out.2 h.2)]
      clear HRA6
      go_wp2
      go_ret2
      exact ⟨HB6.out, .inl ⟨by rw [HN.out]; decide, by rw [HN.out]; rfl⟩⟩
    | true =>
      have hN : NE = firstE (whole :: l.map (·.expr)) (namesD l gs) := by
        rw [HNE.out, if_pos ⟨rfl, HR.out.1 (by first | rfl | trivial)⟩]
      rw [← hN] at HRA6
      clear HNE hN HR
      go_wp2_with fail
      refine HRA6.mono ?_
      rintro e X7 ⟨rfl, hB7, hmade⟩
      have HE : Hid (Below w.heap.size w X7 ∧ (NE = 0 → MadeS X7 X2.heap.size whole l gs)) := ⟨hB7, hmade⟩
      clear hB7 hmade HRA6
      by_cases hz : NE = 0
      · subst hz
        have hb0 : ((0 : Int) != 0) = false := rfl
        go_wp2
        go_ret2
        first | exact ⟨HE.out.1, .inr ⟨rfl, X2.heap.size, rfl, HE.out.2 rfl⟩⟩ | exact ⟨HE.out.1, X2.heap.size, rfl, HE.out.2 (by first | rfl | trivial)⟩
      · have e0 : (NE == 0) = false := by simpa using hz
        have e1 : (NE != 0) = true := by simp [bne, e0]
        go_wp2
        go_ret2
        exact ⟨HE.out.1, .inl ⟨hz, rfl⟩⟩
end Go.Proofs.YtofkiaeocfpkeaaGreatDoor

/- HouseT: the house's schema: what House makes, at every memory. -/
namespace Go.Proofs.YtofkiaeocfpkeaaGreatDoor
open Go.RowKit

def houseW : ByteArray := ⟨#[98, 108, 111, 99, 107, 43]⟩
def textS : ByteArray := ⟨#[116, 101, 120, 116, 42]⟩
def itemS : ByteArray := ⟨#[105, 116, 101, 109, 43]⟩
def houseL : List SpecD := [⟨⟨#[112, 97, 114, 97]⟩, textS, false, 7, 0, 0, false⟩, ⟨⟨#[104, 101, 97, 100]⟩, textS, false, 7, 1, 6, false⟩, ⟨⟨#[113, 117, 111, 116, 101]⟩, houseW, false, 0, 0, 0, false⟩, ⟨⟨#[99, 111, 100, 101]⟩, textS, false, 0, 0, 0, true⟩, ⟨⟨#[108, 105, 115, 116]⟩, itemS, false, 0, 0, 1, false⟩, ⟨⟨#[105, 116, 101, 109]⟩, houseW, false, 0, 0, 0, false⟩, ⟨⟨#[114, 117, 108, 101]⟩, ⟨#[]⟩, true, 0, 0, 0, false⟩]
def houseG : List Grp := [(⟨#[98, 108, 111, 99, 107]⟩, [1, 2, 3, 4, 5, 7])]
/-- As a test. -/
def rightNB (gs : List Grp) : Bool := (List.range gs.length).all fun i => match gs[i]? with
  | some x => letters x.1 && !((gs.take i).any fun y => y.1.toList == x.1.toList)
  | none => false
theorem rightN_of {gs : List Grp} (h : rightNB gs = true) : RightN gs := by
  intro i x hx
  have hi := (List.getElem?_eq_some_iff.1 hx).1
  have h1 := List.all_eq_true.1 h i (List.mem_range.2 hi)
  rw [hx] at h1
  simp only [Bool.and_eq_true, Bool.not_eq_true'] at h1
  refine ⟨h1.1, fun ⟨j, y, h2, h3, h4⟩ => ?_⟩
  have := List.any_eq_false.1 h1.2 y (List.mem_of_getElem? (i := j) (by rw [List.getElem?_take, if_pos h2]; exact h3))
  exact this h4
theorem house_new : newE houseW houseL houseG = 0 := by
  unfold newE
  rw [if_neg (by decide), if_pos ⟨by kernel_rfl, rightN_of (by kernel_rfl)⟩]
  kernel_rfl
theorem specs_house (w : World) (b : Nat) (f : Nat × Nat) (h : w.heap[b]? = some (.cells #[.string ⟨#[112, 97, 114, 97]⟩, .string ⟨#[116, 101, 120, 116, 42]⟩, .bool false, .int .i64 7, .int .i64 0, .int .i64 0, .bool false, .string ⟨#[104, 101, 97, 100]⟩, .string ⟨#[116, 101, 120, 116, 42]⟩, .bool false, .int .i64 7, .int .i64 1, .int .i64 6, .bool false, .string ⟨#[113, 117, 111, 116, 101]⟩, .string ⟨#[98, 108, 111, 99, 107, 43]⟩, .bool false, .int .i64 0, .int .i64 0, .int .i64 0, .bool false, .string ⟨#[99, 111, 100, 101]⟩, .string ⟨#[116, 101, 120, 116, 42]⟩, .bool false, .int .i64 0, .int .i64 0, .int .i64 0, .bool true, .string ⟨#[108, 105, 115, 116]⟩, .string ⟨#[105, 116, 101, 109, 43]⟩, .bool false, .int .i64 0, .int .i64 0, .int .i64 1, .bool false, .string ⟨#[105, 116, 101, 109]⟩, .string ⟨#[98, 108, 111, 99, 107, 43]⟩, .bool false, .int .i64 0, .int .i64 0, .int .i64 0, .bool false, .string ⟨#[114, 117, 108, 101]⟩, .string ⟨#[]⟩, .bool true, .int .i64 0, .int .i64 0, .int .i64 0, .bool false] 46 f)) : Specs w (some ⟨b, 0, none⟩) 7 houseL := by
  have hc := fun j => cell_of_row w b j _ _ _ h
  refine ⟨rfl, by omega, .inr ⟨b, 0, rfl, (Array.getElem?_eq_some_iff.1 h).1, fun i x hx => ?_⟩⟩
  match i, hx with
  | 0, hx => cases hx; exact ⟨hc 0, hc 1, hc 2, hc 3, hc 4, hc 5, hc 6⟩
  | 1, hx => cases hx; exact ⟨hc 7, hc 8, hc 9, hc 10, hc 11, hc 12, hc 13⟩
  | 2, hx => cases hx; exact ⟨hc 14, hc 15, hc 16, hc 17, hc 18, hc 19, hc 20⟩
  | 3, hx => cases hx; exact ⟨hc 21, hc 22, hc 23, hc 24, hc 25, hc 26, hc 27⟩
  | 4, hx => cases hx; exact ⟨hc 28, hc 29, hc 30, hc 31, hc 32, hc 33, hc 34⟩
  | 5, hx => cases hx; exact ⟨hc 35, hc 36, hc 37, hc 38, hc 39, hc 40, hc 41⟩
  | 6, hx => cases hx; exact ⟨hc 42, hc 43, hc 44, hc 45, hc 46, hc 47, hc 48⟩
  | n + 7, hx => simp [houseL] at hx
set_option maxRecDepth 100000 in
set_option maxHeartbeats 400000 in
theorem housetypes_calls (w : World) : Calls Tryz.prog 48 #[] w fun e w' => ∃ b, e = .returned (.slice (some ⟨b, 0, none⟩) 7 7) ∧ Specs w' (some ⟨b, 0, none⟩) 7 houseL ∧ Below w.heap.size w w' := by
  have HB : Hid (∀ o, Below w.heap.size w (w.alloc o)) := fun o => (Below.refl _ w).alloc (Nat.le_refl _) _
  go_enter Tryz.func48, Tryz.ntmps48
  go_wp2
  go_ret
  exact ⟨w.heap.size, rfl, specs_house _ _ _ (World.alloc_heap_new w _), HB.out _⟩
theorem groups_house (w : World) (b b1 : Nat) (h : w.heap[b]? = some (.cells #[.string ⟨#[98, 108, 111, 99, 107]⟩, .slice (some ⟨b1, 0, none⟩) 6 6] 73 (0, 0))) (h1 : w.heap[b1]? = some (.cells #[.int .i64 1, .int .i64 2, .int .i64 3, .int .i64 4, .int .i64 5, .int .i64 7] 3 (0, 0))) : Groups w (some ⟨b, 0, none⟩) 1 houseG := by
  have hc := fun j => cell_of_row w b j _ _ _ h
  have hd := fun j => cell_of_row w b1 j _ _ _ h1
  refine ⟨rfl, by omega, .inr ⟨b, 0, rfl, (Array.getElem?_eq_some_iff.1 h).1, fun i x hx => ?_⟩⟩
  match i, hx with
  | 0, hx =>
    cases hx
    refine ⟨some ⟨b1, 0, none⟩, 6, 6, hc 0, hc 1, rfl, by omega, .inr ⟨b1, 0, rfl, (Array.getElem?_eq_some_iff.1 h1).1, fun k y hy => ?_⟩⟩
    match k, hy with
    | 0, hy => cases hy; exact hd 0
    | 1, hy => cases hy; exact hd 1
    | 2, hy => cases hy; exact hd 2
    | 3, hy => cases hy; exact hd 3
    | 4, hy => cases hy; exact hd 4
    | 5, hy => cases hy; exact hd 5
    | n + 6, hy => simp at hy
  | n + 1, hx => simp [houseG] at hx
set_option maxRecDepth 100000 in
set_option maxHeartbeats 400000 in
theorem housegroups_calls (w : World) : Calls Tryz.prog 49 #[] w fun e w' => ∃ b, e = .returned (.slice (some ⟨b, 0, none⟩) 1 1) ∧ Groups w' (some ⟨b, 0, none⟩) 1 houseG ∧ Below w.heap.size w w' := by
  have hB1 : Below w.heap.size w (w.alloc (.cells #[.int .i64 1, .int .i64 2, .int .i64 3, .int .i64 4, .int .i64 5, .int .i64 7] 3)) := (Below.refl _ w).alloc (Nat.le_refl _) _
  have HG : Hid (Groups ((w.alloc (.cells #[.int .i64 1, .int .i64 2, .int .i64 3, .int .i64 4, .int .i64 5, .int .i64 7] 3)).alloc (.cells #[.string ⟨#[98, 108, 111, 99, 107]⟩, .slice (some ⟨w.heap.size, 0, none⟩) 6 6] 73)) (some ⟨w.heap.size + 1, 0, none⟩) 1 houseG ∧ Below w.heap.size w ((w.alloc (.cells #[.int .i64 1, .int .i64 2, .int .i64 3, .int .i64 4, .int .i64 5, .int .i64 7] 3)).alloc (.cells #[.string ⟨#[98, 108, 111, 99, 107]⟩, .slice (some ⟨w.heap.size, 0, none⟩) 6 6] 73))) := by
    refine ⟨groups_house _ _ w.heap.size ?_ ?_, hB1.alloc hB1.size _⟩
    · have := World.alloc_heap_new (w.alloc (.cells #[.int .i64 1, .int .i64 2, .int .i64 3, .int .i64 4, .int .i64 5, .int .i64 7] 3)) (.cells #[.string ⟨#[98, 108, 111, 99, 107]⟩, .slice (some ⟨w.heap.size, 0, none⟩) 6 6] 73)
      rw [World.size_alloc] at this
      exact this
    · exact (Below.heap_alloc _ _ _ (by rw [World.size_alloc]; omega)).trans (World.alloc_heap_new w _)
  clear hB1
  go_enter Tryz.func49, Tryz.ntmps49
  go_wp2
  go_ret
  exact ⟨w.heap.size + 1, rfl, HG.out⟩
set_option maxRecDepth 100000 in
set_option maxHeartbeats 400000 in
theorem house_calls (w : World) (hE : ETy w) : Calls Tryz.prog 16 #[] w fun e w' => ∃ B, e = .returned (.pointer (some ⟨B, 0, none⟩)) ∧ MadeS w' B houseW houseL houseG ∧ Below w.heap.size w w' := by
  have HT := Hid.mk_ (housetypes_calls w)
  have HG : Hid (∀ X : World, Calls Tryz.prog 49 #[] X fun e w' => ∃ b, e = .returned (.slice (some ⟨b, 0, none⟩) 1 1) ∧ Groups w' (some ⟨b, 0, none⟩) 1 houseG ∧ Below X.heap.size X w') := fun X => housegroups_calls X
  have HN : Hid (∀ (X : World) (b1 b2 : Nat), Below w.heap.size w X → Specs X (some ⟨b1, 0, none⟩) 7 houseL → Groups X (some ⟨b2, 0, none⟩) 1 houseG → Calls Tryz.prog 24 #[.string ⟨#[98, 108, 111, 99, 107, 43]⟩, .slice (some ⟨b1, 0, none⟩) 7 7, .slice (some ⟨b2, 0, none⟩) 1 1] X fun e w' => Below X.heap.size X w' ∧ ∃ B, e = .returned (.tuple #[.pointer (some ⟨B, 0, none⟩), .int .i64 0]) ∧ MadeS w' B houseW houseL houseG) := fun X b1 b2 hX h1 h2 => by
    refine (new_calls houseW (some ⟨b1, 0, none⟩) 7 7 houseL (some ⟨b2, 0, none⟩) 1 1 houseG X (by decide) h1 h2 (by decide) (by decide) (hE.below hX)).mono ?_
    rintro e w' ⟨hB, ⟨hn, _⟩ | ⟨_, B, rfl, hm⟩⟩
    · exact absurd house_new hn
    · exact ⟨hB, B, rfl, hm⟩
  clear hE
  go_enter Tryz.func16, Tryz.ntmps16
  go_wp2_with fail
  refine HT.out.mono ?_
  rintro e X1 ⟨b1, rfl, hs1, hB1⟩
  have HS1 : Hid (Specs X1 (some ⟨b1, 0, none⟩) 7 houseL ∧ Below w.heap.size w X1) := ⟨hs1, hB1⟩
  clear hs1 hB1 HT
  go_wp2_with fail
  refine (HG.out X1).mono ?_
  rintro e X2 ⟨b2, rfl, hg2, hB2⟩
  have hB02 := HS1.out.2.trans (hB2.mono HS1.out.2.size)
  have HN2 := HN.out X2 b1 b2 hB02 (HS1.out.1.below hB2) hg2
  have HB02 := Hid.mk_ hB02
  clear hg2 hB2 hB02 HN HG HS1
  go_wp2_with fail
  refine HN2.mono ?_
  rintro e X3 ⟨hB3, B, rfl, hm⟩
  have HE : Hid (MadeS X3 B houseW houseL houseG ∧ Below w.heap.size w X3) := ⟨hm, HB02.out.trans (hB3.mono HB02.out.size)⟩
  clear hm hB3 HN2
  go_wp2
  go_ret
  exact ⟨B, rfl, HE.out⟩
end Go.Proofs.YtofkiaeocfpkeaaGreatDoor

/- Tok: tokens as plain data, and in a slice; plain functions on them. -/
namespace Go.Proofs.YtofkiaeocfpkeaaGreatDoor
open Go.RowKit

structure Tok where
  k : Int
  t : Int
  n : Int
  m : Int

/-- The same token, the same tokens. -/
def tokEq (x y : Tok) : Bool := x.k == y.k && (x.t == y.t && (x.n == y.n && x.m == y.m))
theorem tokEq_iff (x y : Tok) : tokEq x y = true ↔ x = y := by
  obtain ⟨a, b, c, d⟩ := x
  obtain ⟨a', b', c', d'⟩ := y
  simp [tokEq]
def eqL : List Tok → List Tok → Bool
  | [], [] => true
  | x :: r, y :: s => tokEq x y && eqL r s
  | [], _ :: _ => false
  | _ :: _, [] => false
theorem eqL_iff (l m : List Tok) : eqL l m = true ↔ l = m := by
  induction l generalizing m with
  | nil => cases m <;> simp [eqL]
  | cons x r ih =>
    cases m with
    | nil => simp [eqL]
    | cons y s => rw [eqL, Bool.and_eq_true, tokEq_iff, ih, List.cons.injEq]
theorem eqL_false {l m : List Tok} (h : l ≠ m) : eqL l m = false := by
  cases e : eqL l m with
  | false => rfl
  | true => exact absurd ((eqL_iff l m).1 e) h
theorem tokEq_false {x y : Tok} (h : x ≠ y) : tokEq x y = false := by
  cases e : tokEq x y with
  | false => rfl
  | true => exact absurd ((tokEq_iff x y).1 e) h

def tokV (x : Tok) : Value := .agg #[.int .i64 x.k, .int .i64 x.t, .int .i64 x.n, .int .i64 x.m]

def point (n : Int) : Bool := decide (0 ≤ n) && decide (n ≤ 1114111) && (decide (n < 55296) || decide (57343 < n))
def rightM (s : Int) : Bool := decide (0 ≤ s) && decide (s ≤ 4)
def rightT (x : Tok) : Bool :=
  if x.k = 0 then x.t == 0 && point x.n && rightM x.m
  else if x.k = 1 ∨ x.k = 3 then decide (1 ≤ x.t) && decide (x.t < 16) && decide (0 ≤ x.n) && decide (x.n ≤ 15) && x.m == 0
  else if x.k = 2 then x.t == 0 && x.n == 0 && x.m == 0
  else false

/-- A slice's elements are the tokens l. -/
def Toks (w : World) (a : Option Addr) (len : Nat) (l : List Tok) : Prop :=
  l.length = len ∧ (len = 0 ∨ ∃ b o, a = some ⟨b, o, none⟩ ∧ b < w.heap.size ∧ ∀ i x, l[i]? = some x → w.cell? ⟨b, o + i * 4, none⟩ = some (.int .i64 x.k) ∧ w.cell? ⟨b, o + i * 4 + 1, none⟩ = some (.int .i64 x.t) ∧
    w.cell? ⟨b, o + i * 4 + 2, none⟩ = some (.int .i64 x.n) ∧ w.cell? ⟨b, o + i * 4 + 3, none⟩ = some (.int .i64 x.m))

theorem Toks.below {w w' : World} {a : Option Addr} {len : Nat} {l : List Tok} (h : Toks w a len l) (hb : Below w.heap.size w w') : Toks w' a len l := by
  obtain ⟨h1, h2⟩ := h
  refine ⟨h1, ?_⟩
  rcases h2 with h2 | ⟨b, o, rfl, hlt, hc⟩
  · exact .inl h2
  · refine .inr ⟨b, o, rfl, Nat.lt_of_lt_of_le hlt hb.size, fun i x hx => ?_⟩
    obtain ⟨c0, c1, c2, c3⟩ := hc i x hx
    exact ⟨(hb.cell (p := ⟨b, _, none⟩) hlt).trans c0, (hb.cell (p := ⟨b, _, none⟩) hlt).trans c1, (hb.cell (p := ⟨b, _, none⟩) hlt).trans c2, (hb.cell (p := ⟨b, _, none⟩) hlt).trans c3⟩

/-- The tokens from the k-th on, d open: what is told. -/
def checkL : List Tok → Nat → Int → Int × Int
  | [], i, d => if 0 < d then (i, 3) else (i, 0)
  | x :: r, i, d =>
    if (!rightT x || (x.k == 2 && d == 0)) = true then (i, 4)
    else if 32 < (if x.k = 1 then d + 1 else if x.k = 2 then d - 1 else d) then (i, 8)
    else checkL r (i + 1) (if x.k = 1 then d + 1 else if x.k = 2 then d - 1 else d)
def check (l : List Tok) : Int × Int := if 2048 < l.length then (0, 2) else checkL l 0 0

theorem drop_getD {l : List Tok} {k : Nat} (h : k < l.length) : ∃ x, l[k]? = some x ∧ l.drop k = x :: l.drop (k + 1) := ⟨l[k], List.getElem?_eq_getElem h, List.drop_eq_getElem_cons h⟩

/-- The k-th token lies where it lay, in every later world. -/
theorem Toks.token {w : World} {a : Option Addr} {len : Nat} {l : List Tok} (h : Toks w a len l) {k : Nat} (hk : k < len) : ∃ b o x, a = some ⟨b, o, none⟩ ∧ b < w.heap.size ∧ l[k]? = some x ∧ ∀ W : World, Below w.heap.size w W →
    W.cell? ⟨b, o + k * 4, none⟩ = some (.int .i64 x.k) ∧ W.cell? ⟨b, o + k * 4 + 1, none⟩ = some (.int .i64 x.t) ∧ W.cell? ⟨b, o + k * 4 + 2, none⟩ = some (.int .i64 x.n) ∧ W.cell? ⟨b, o + k * 4 + 3, none⟩ = some (.int .i64 x.m) := by
  obtain ⟨h1, h2 | ⟨b, o, rfl, hlt, hc⟩⟩ := h
  · omega
  · have hx : l[k]? = some (l[k]'(by omega)) := List.getElem?_eq_getElem (by omega)
    refine ⟨b, o, _, rfl, hlt, hx, fun W hb => ?_⟩
    obtain ⟨c0, c1, c2, c3⟩ := hc k _ hx
    exact ⟨(hb.cell (p := ⟨b, _, none⟩) hlt).trans c0, (hb.cell (p := ⟨b, _, none⟩) hlt).trans c1, (hb.cell (p := ⟨b, _, none⟩) hlt).trans c2, (hb.cell (p := ⟨b, _, none⟩) hlt).trans c3⟩
end Go.Proofs.YtofkiaeocfpkeaaGreatDoor

/- Row: rows of integers that a call owns; what is open at a place, as plain data. -/
namespace Go.Proofs.YtofkiaeocfpkeaaGreatDoor
open Go.RowKit

theorem info3 : (Tryz.prog.info? 3).map (fun i => (i.zero, i.size, i.bytes)) = some (some (.int .i64 0), 1, 8) := by kernel_rfl

/-- A slice's elements are the integers zs. -/
def Row (k : IntKind) (w : World) (a : Option Addr) (len : Nat) (zs : List Int) : Prop :=
  zs.length = len ∧ (len = 0 ∨ ∃ b o, a = some ⟨b, o, none⟩ ∧ b < w.heap.size ∧ ∀ i, i < len → w.cell? ⟨b, o + i, none⟩ = some (.int k (zs.getD i 0)))

theorem Row.below {k : IntKind} {w w' : World} {a : Option Addr} {len : Nat} {zs : List Int} (h : Row k w a len zs) (hb : Below w.heap.size w w') : Row k w' a len zs := by
  obtain ⟨h1, h2⟩ := h
  refine ⟨h1, ?_⟩
  rcases h2 with h2 | ⟨b, o, rfl, hlt, hc⟩
  · exact .inl h2
  · exact .inr ⟨b, o, rfl, Nat.lt_of_lt_of_le hlt hb.size, fun i hi => (hb.cell (p := ⟨b, o + i, none⟩) hlt).trans (hc i hi)⟩

/-- What a slice owns, read. -/
theorem row_of_owns {W : World} {base : Nat} {e : TypeId} {k : IntKind} {v : Value} {n : Nat} {bs : List Int} (h : W.ownsRow base e 1 v n (bs.map (Value.int k))) : ∃ a cap, v = .slice a n cap ∧ Row k W a n bs := by
  obtain ⟨hl, ⟨h1, h2⟩ | ⟨g, cap, cur, rfl, hb, hg, hc1, hc2, hc3, hc4⟩⟩ := h
  · subst h2
    exact ⟨none, 0, h1, by simpa using hl, .inl rfl⟩
  · have hl' : bs.length = n := by simpa using hl
    refine ⟨_, cap, rfl, hl', ?_⟩
    rcases Nat.eq_zero_or_pos n with h0 | h0
    · exact .inl h0
    · refine .inr ⟨g, 0, rfl, (Array.getElem?_eq_some_iff.1 hg).1, fun i hi => ?_⟩
      have : cur.toList[i]? = some (.int k (bs.getD i 0)) := by
        have h2 := congrArg (·[i]?) hc4
        simp only [Nat.mul_one] at h2
        rw [List.getElem?_take, if_pos hi] at h2
        rw [h2, List.getElem?_map, List.getElem?_eq_getElem (by omega), List.getD_eq_getElem?_getD, List.getElem?_eq_getElem (by omega)]
        rfl
      rw [Array.getElem?_toList] at this
      simp [World.cell?, hg, this]

/-- What lies below stays, where a slice of the call's own is appended to. -/
theorem below_append {base : Nat} {e : TypeId} {W w1 w2 : World} {u : Value} {k : Nat} {ys : List Value} {tmp : Obj} (hB : Below base W w1) (hrow : w1.ownsRow base e 1 u k ys) (hbase : base ≤ w1.heap.size) (hgrow : (w1.alloc tmp).grownBy w2 u.ownBlock) : Below base W w2 := by
  refine (hB.alloc hbase tmp).grown hgrow (by simp; omega) fun j ej => ?_
  rcases hrow.2 with ⟨rfl, _⟩ | ⟨g, cap, cur, rfl, hb, _, _⟩
  · simp [Value.ownBlock] at ej
  · obtain rfl : g = j := by simpa [Value.ownBlock] using ej
    exact hb

theorem owns_shrink {W : World} {base : Nat} {e : TypeId} {v : Value} {n : Nat} {xs : List Int} (h : W.ownsRow base e 1 v (n + 1) (xs.map (Value.int .i64))) :
    ∃ g cap, v = .slice (some ⟨g, 0, none⟩) (n + 1) cap ∧ n + 1 ≤ cap ∧ cap ≤ maxLen ∧ W.ownsRow base e 1 (.slice (some ⟨g, 0, none⟩) n cap) n (xs.dropLast.map (Value.int .i64)) := by
  obtain ⟨hl, ⟨_, h2⟩ | ⟨g, cap, cur, rfl, hb, hg, hc1, hc2, hc3, hc4⟩⟩ := h
  · omega
  · refine ⟨g, cap, rfl, hc1, hc2, ?_, .inr ⟨g, cap, cur, rfl, hb, hg, by omega, hc2, hc3, ?_⟩⟩
    · simp only [List.length_map, List.length_dropLast] at hl ⊢
      omega
    · have h3 := congrArg (List.take n) hc4
      rw [List.take_take] at h3
      simp only [Nat.mul_one] at h3 ⊢
      rw [show min n (n + 1) = n from by omega] at h3
      simp only [List.length_map, Nat.mul_one] at hl
      rw [h3, ← List.map_take, List.dropLast_eq_take, hl]
      rfl

/-- The places that are open behind the tokens, s ahead of them, the first of them number i. -/
def openL : List Tok → Nat → List Int → List Int
  | [], _, s => s
  | x :: r, i, s => openL r (i + 1) (if x.k = 1 then s ++ [(i : Int)] else if x.k = 2 then s.dropLast else s)
/-- What is open at the place at. -/
def opened (l : List Tok) (at' : Int) : List Int := if at' ≤ l.length then openL (l.take at'.toNat) 0 [] else []

/-- How far it is looked. -/
def upTo (len : Nat) (at' : Int) : Nat := if at' ≤ len then at'.toNat else 0
theorem opened_upTo (l : List Tok) (at' : Int) : opened l at' = openL ((l.take (upTo l.length at')).drop 0) 0 [] := by
  unfold opened upTo
  split <;> simp [openL]
theorem openL_step {l : List Tok} {k N : Nat} (hk : k < N) (hN : N ≤ l.length) (s : List Int) : ∃ x, l[k]? = some x ∧ openL ((l.take N).drop k) k s = openL ((l.take N).drop (k + 1)) (k + 1) (if x.k = 1 then s ++ [(k : Int)] else if x.k = 2 then s.dropLast else s) := by
  refine ⟨l[k], List.getElem?_eq_getElem (by omega), ?_⟩
  rw [List.drop_eq_getElem_cons (l := l.take N) (i := k) (by rw [List.length_take]; omega), openL]
  simp
theorem upTo_le (len : Nat) (at' : Int) : upTo len at' ≤ len := by unfold upTo; split <;> omega
theorem dropLast_none {s : List Int} (h : s.length = 0) : s.dropLast = s := by rw [List.length_eq_zero_iff.1 h]; rfl

/-- The k-th token's kind lies where it lay, in every later world. -/
theorem Toks.kind {w : World} {a : Option Addr} {len : Nat} {l : List Tok} (h : Toks w a len l) {k : Nat} {x : Tok} (hx : l[k]? = some x) : ∃ b o, a = some ⟨b, o, none⟩ ∧ b < w.heap.size ∧ ∀ W : World, Below w.heap.size w W → W.cell? ⟨b, o + k * 4, none⟩ = some (.int .i64 x.k) := by
  have hk : k < l.length := (List.getElem?_eq_some_iff.1 hx).1
  obtain ⟨h1, h2 | ⟨b, o, rfl, hlt, hc⟩⟩ := h
  · omega
  · exact ⟨b, o, rfl, hlt, fun W hW => (hW.cell (p := ⟨b, _, none⟩) hlt).trans (hc k x hx).1⟩

/-- What a token does to what is open. -/
def turn (x : Tok) (i : Nat) (s : List Int) : List Int := if x.k = 1 then s ++ [(i : Int)] else if x.k = 2 then s.dropLast else s
/-- The innermost that is open at a place. -/
def around (l : List Tok) (p : Int) : Int := (opened l p).getLast?.getD (-1)
/-- The kind of the k-th token. -/
def kindAt (l : List Tok) (k : Nat) : Int := (l[k]?.map (·.k)).getD 0
/-- From the place k on the first TClose that ends i. -/
def seek (l : List Tok) (i : Int) : Nat → Nat → Int
  | _, 0 => -1
  | k, f + 1 => if kindAt l k = 2 ∧ around l k = i then k else seek l i (k + 1) f
def partner (l : List Tok) (i : Int) : Int :=
  if i < 0 ∨ (l.length : Int) ≤ i then -1
  else if kindAt l i.toNat = 2 then around l i
  else if kindAt l i.toNat = 1 then seek l i (i.toNat + 1) (l.length - (i.toNat + 1))
  else -1
def kidsL (l : List Tok) (i : Int) : Nat → Nat → List Int → List Int
  | _, 0, out => out
  | k, f + 1, out => if kindAt l k = 2 ∧ around l k = i ∧ 0 ≤ i then out
    else kidsL l i (k + 1) f (if kindAt l k ≠ 2 ∧ 0 ≤ kindAt l k ∧ kindAt l k ≤ 3 ∧ around l k = i then out ++ [(k : Int)] else out)
def kids (l : List Tok) (i : Int) : List Int :=
  if i < -1 ∨ (l.length : Int) ≤ i ∨ (0 ≤ i ∧ kindAt l i.toNat ≠ 1) then [] else kidsL l i (i + 1).toNat (l.length - (i + 1).toNat) []

theorem kindAt_some {l : List Tok} {k : Nat} {x : Tok} (h : l[k]? = some x) : kindAt l k = x.k := by unfold kindAt; rw [h]; rfl
theorem Toks.kindAt {w : World} {a : Option Addr} {len : Nat} {l : List Tok} (h : Toks w a len l) {k : Nat} (hk : k < len) : ∃ b o, a = some ⟨b, o, none⟩ ∧ b < w.heap.size ∧ ∀ W : World, Below w.heap.size w W → W.cell? ⟨b, o + k * 4, none⟩ = some (.int .i64 (YtofkiaeocfpkeaaGreatDoor.kindAt l k)) := by
  obtain ⟨x, hx⟩ : ∃ x, l[k]? = some x := ⟨_, List.getElem?_eq_getElem (by rw [h.1]; exact hk)⟩
  rw [kindAt_some hx]
  exact h.kind hx
theorem openL_fits (l : List Tok) (i : Nat) (s : List Int) (B : Int) (hB : (i : Int) + l.length ≤ B) (hs : ∀ x ∈ s, 0 ≤ x ∧ x < B) : ∀ x ∈ openL l i s, 0 ≤ x ∧ x < B := by
  induction l generalizing i s with
  | nil => exact hs
  | cons t r ih =>
    rw [openL]
    simp only [List.length_cons] at hB
    refine ih (i + 1) _ (by omega) ?_
    split
    · intro x hx
      rcases List.mem_append.1 hx with hx | hx
      · exact hs x hx
      · obtain rfl : x = (i : Int) := by simpa using hx
        omega
    · split
      · intro x hx
        exact hs x (List.dropLast_subset _ hx)
      · exact hs
theorem openL_length (l : List Tok) (i : Nat) (s : List Int) : (openL l i s).length ≤ s.length + l.length := by
  induction l generalizing i s with
  | nil => exact Nat.le_refl _
  | cons t r ih =>
    rw [openL]
    refine Nat.le_trans (ih _ _) ?_
    split
    · simp; omega
    · split <;> simp <;> omega
theorem opened_length (l : List Tok) (p : Int) : (opened l p).length ≤ l.length := by
  unfold opened
  split
  · have h := openL_length (l.take p.toNat) 0 []
    rw [List.length_take, List.length_nil] at h
    omega
  · simp
theorem opened_fits (l : List Tok) (p : Int) : ∀ x ∈ opened l p, 0 ≤ x ∧ x < l.length := by
  unfold opened
  split
  · exact openL_fits _ 0 [] _ (by simp; omega) (by intro x hx; cases hx)
  · intro x hx; cases hx
theorem around_fits (l : List Tok) (p : Int) : -1 ≤ around l p ∧ around l p ≤ l.length := by
  unfold around
  cases h : (opened l p).getLast? with
  | none => simp
  | some x =>
    have := opened_fits l p x (List.mem_of_getLast? h)
    simp
    omega

theorem last_row {R : List Int} {n : Nat} (h : R.length = n + 1) : R.getLast?.getD (-1) = R.getD n 0 := by
  rw [List.getLast?_eq_getElem?, h, List.getD_eq_getElem?_getD, show n + 1 - 1 = n from rfl, List.getElem?_eq_getElem (by omega)]
  rfl

theorem partner_fits (l : List Tok) (i : Int) (k f : Nat) : seek l i k f = -1 ∨ (∃ j : Nat, seek l i k f = j ∧ j < k + f) := by
  induction f generalizing k with
  | zero => exact .inl rfl
  | succ f ih =>
    rw [seek]
    split
    · exact .inr ⟨k, rfl, by omega⟩
    · rcases ih (k + 1) with h | ⟨j, h, hj⟩
      · exact .inl h
      · exact .inr ⟨j, h, by omega⟩

/-- What a call owns, in a later world that holds what lay. -/
theorem own_below {W W' : World} {base : Nat} {e : TypeId} {v : Value} {n : Nat} {xs : List Value} (h : W.ownsRow base e 1 v n xs) (hB : Below W.heap.size W W') (_hb : base ≤ W.heap.size) : W'.ownsRow base e 1 v n xs := by
  obtain ⟨hl, h1 | ⟨g, cap, cur, rfl, hb, hg, hc1, hc2, hc3, hc4⟩⟩ := h
  · exact ⟨hl, .inl h1⟩
  · refine ⟨hl, .inr ⟨g, cap, cur, rfl, hb, ?_, hc1, hc2, hc3, hc4⟩⟩
    rw [hB.block g (Array.getElem?_eq_some_iff.1 hg).1, hg]
end Go.Proofs.YtofkiaeocfpkeaaGreatDoor

/- Stk: the stack of flat, push, pop, pass and top of it: what they leave and return; nothing else that lay before is turned. -/
namespace Go.Proofs.YtofkiaeocfpkeaaGreatDoor
open Go.RowKit

/-- The cells of a stack that holds R, its rest being v. -/
def StkCells (v : Value) (R : List Int) (cs : Array Value) : Prop :=
  cs.size = 34 ∧ (∀ i, i < 32 → i < R.length → cs[i]? = some (.int .i64 (R.getD i 0))) ∧ (∀ i, i < 32 → ∃ z, cs[i]? = some (.int .i64 z)) ∧ cs[32]? = some v ∧ cs[33]? = some (.int .i64 (R.length : Int))
/-- The block g is a stack that holds R, its rest being v. -/
def Stk (w : World) (base g : Nat) (v : Value) (R : List Int) : Prop :=
  base ≤ g ∧ w.ownsRow base 3 1 v (R.length - 32) ((R.drop 32).map (Value.int .i64)) ∧ ∃ cs, w.heap[g]? = some (.cells cs 136 (0, 0)) ∧ StkCells v R cs

/-- Nothing but the blocks g and v is turned. -/
structure KeptS (g : Nat) (v : Option Nat) (w w' : World) : Prop where
  os : w'.os = w.os
  tape : w'.tape = w.tape
  output : w'.output = w.output
  size : w.heap.size ≤ w'.heap.size
  block : ∀ k, k < w.heap.size → k ≠ g → some k ≠ v → w'.heap[k]? = w.heap[k]?
theorem KeptS.refl (g : Nat) (v : Option Nat) (w : World) : KeptS g v w w := ⟨rfl, rfl, rfl, Nat.le_refl _, fun _ _ _ _ => rfl⟩
theorem KeptS.drew {g : Nat} {v : Option Nat} {w w' : World} (h : KeptS g v w w') : KeptS g v w w'.drew := ⟨h.os, h.tape, h.output, h.size, h.block⟩
theorem KeptS.drewN {g : Nat} {v : Option Nat} {w w' : World} (h : KeptS g v w w') (n : Nat) : KeptS g v w (w'.drewN n) := ⟨h.os, h.tape, h.output, h.size, h.block⟩
theorem KeptS.alloc {g : Nat} {v : Option Nat} {w w' : World} (h : KeptS g v w w') (o : Obj) : KeptS g v w (w'.alloc o) :=
  ⟨h.os, h.tape, h.output, by have := h.size; simp; omega, fun k h1 h2 h3 => (Below.heap_alloc w' o k (Nat.lt_of_lt_of_le h1 h.size)).trans (h.block k h1 h2 h3)⟩
theorem KeptS.setCell {g : Nat} {v : Option Nat} {w w' : World} (h : KeptS g v w w') (j : Nat) (u : Value) : KeptS g v w (w'.setCell ⟨g, j, none⟩ u) :=
  ⟨h.os, h.tape, h.output, by simpa using h.size, fun k h1 h2 h3 => (Below.heap_setCell w' _ u k h2).trans (h.block k h1 h2 h3)⟩
theorem KeptS.below {g : Nat} {v : Option Nat} {w w' : World} (h : KeptS g v w w') {base : Nat} (hg : base ≤ g) (hv : ∀ k, v = some k → base ≤ k) (hb : base ≤ w.heap.size) : Below base w w' :=
  ⟨h.os, h.tape, h.output, h.size, fun k hk => h.block k (by omega) (by omega) (fun e => by have := hv k e.symm; omega)⟩

theorem own_base {w : World} {base : Nat} {e : TypeId} {v : Value} {n : Nat} {xs : List Value} (h : w.ownsRow base e 1 v n xs) : ∀ k, v.ownBlock = some k → base ≤ k ∧ k < w.heap.size ∧ ∃ cur, w.heap[k]? = some (.cells cur e (0, 0)) := by
  intro k hk
  rcases h.2 with ⟨rfl, _⟩ | ⟨g, cap, cur, rfl, hb, hg, _⟩
  · simp [Value.ownBlock] at hk
  · obtain rfl : g = k := by simpa [Value.ownBlock] using hk
    exact ⟨hb, (Array.getElem?_eq_some_iff.1 hg).1, cur, hg⟩
theorem Stk.apart {w : World} {base g : Nat} {v : Value} {R : List Int} (h : Stk w base g v R) : v.ownBlock ≠ some g := by
  intro e
  obtain ⟨_, h2, cs, h3, _⟩ := h
  obtain ⟨_, _, cur, h4⟩ := own_base h2 g e
  rw [h3] at h4
  have := (Obj.cells.inj (Option.some.inj h4)).2.1
  exact absurd this (by decide)
theorem own_set {w : World} {base : Nat} {e : TypeId} {v : Value} {n : Nat} {xs : List Value} (h : w.ownsRow base e 1 v n xs) (g j : Nat) (u : Value) (hg : v.ownBlock ≠ some g) : (w.setCell ⟨g, j, none⟩ u).ownsRow base e 1 v n xs := by
  obtain ⟨h1, h2 | ⟨b, cap, cur, rfl, hb, hc, h3⟩⟩ := h
  · exact ⟨h1, .inl h2⟩
  · refine ⟨h1, .inr ⟨b, cap, cur, rfl, hb, ?_, h3⟩⟩
    rw [Below.heap_setCell w _ u b (by intro e; exact hg (by simp [Value.ownBlock, e]))]
    exact hc
/-- What a stack's cells are. -/
theorem Stk.cells {w : World} {base g : Nat} {v : Value} {R : List Int} (h : Stk w base g v R) : w.cell? ⟨g, 32, none⟩ = some v ∧ w.cell? ⟨g, 33, none⟩ = some (.int .i64 (R.length : Int)) ∧ (∀ i, i < 32 → ∃ z, w.cell? ⟨g, i, none⟩ = some (.int .i64 z)) ∧ (∀ i, i < 32 → i < R.length → w.cell? ⟨g, i, none⟩ = some (.int .i64 (R.getD i 0))) ∧ (∀ i, w.frozen? ⟨g, i, none⟩ = false) ∧ g < w.heap.size := by
  obtain ⟨_, _, cs, hg, h0, h1, h2, h3, h4⟩ := h
  have hc := fun j => cell_of_row w g j cs _ _ hg
  refine ⟨(hc 32).trans h3, (hc 33).trans h4, fun i hi => ?_, fun i hi hr => (hc i).trans (h1 i hi hr), fun i => ?_, (Array.getElem?_eq_some_iff.1 hg).1⟩
  · obtain ⟨z, hz⟩ := h2 i hi
    exact ⟨z, (hc i).trans hz⟩
  · simp [World.frozen?, hg]
end Go.Proofs.YtofkiaeocfpkeaaGreatDoor

/- Push: the stack's push: what it leaves; nothing else that lay before is turned. -/
namespace Go.Proofs.YtofkiaeocfpkeaaGreatDoor
open Go.RowKit

theorem Stk.drew {w : World} {base g : Nat} {v : Value} {R : List Int} (h : Stk w base g v R) : Stk w.drew base g v R := h
theorem stk_low {w : World} {base g : Nat} {v : Value} {R : List Int} {p : Int} (h : Stk w base g v R) (hR : R.length < 32) (w' : World)
    (hw : w' = (w.setCell ⟨g, R.length, none⟩ (.int .i64 p)).setCell ⟨g, 33, none⟩ (.int .i64 ((R.length : Int) + 1))) : Stk w' base g v (R ++ [p]) := by
  subst hw
  have hap := h.apart
  obtain ⟨h0, h1, cs, hg, c0, c1, c2, c3, c4⟩ := h
  refine ⟨h0, ?_, (cs.setIfInBounds R.length (.int .i64 p)).setIfInBounds 33 (.int .i64 ((R.length : Int) + 1)), ?_, ?_⟩
  · rw [show (R ++ [p]).length - 32 = R.length - 32 from by simp; omega, show (R ++ [p]).drop 32 = R.drop 32 from by rw [List.drop_eq_nil_of_le (by simp; omega), List.drop_eq_nil_of_le (by omega)]]
    exact own_set (own_set h1 _ _ _ hap) _ _ _ hap
  · exact heap_setCell_same _ g 33 _ _ _ (heap_setCell_same _ g R.length _ _ _ hg)
  · refine ⟨by simpa using c0, fun i hi hr => ?_, fun i hi => ?_, ?_, ?_⟩
    · rw [Array.getElem?_setIfInBounds_ne (by omega)]
      by_cases e : i = R.length
      · subst e
        rw [Array.getElem?_setIfInBounds_self_of_lt (by omega)]
        simp
      · rw [Array.getElem?_setIfInBounds_ne (by omega), c1 i hi (by simp at hr; omega)]
        simp at hr
        rw [List.getD_eq_getElem?_getD, List.getD_eq_getElem?_getD, List.getElem?_append_left (by omega)]
    · rw [Array.getElem?_setIfInBounds_ne (by omega)]
      by_cases e : R.length = i
      · subst e
        exact ⟨p, Array.getElem?_setIfInBounds_self_of_lt (by omega)⟩
      · rw [Array.getElem?_setIfInBounds_ne e]
        exact c2 i hi
    · rw [Array.getElem?_setIfInBounds_ne (by omega), Array.getElem?_setIfInBounds_ne (by omega), c3]
    · rw [Array.getElem?_setIfInBounds_self_of_lt (by simp; omega)]
      simp

set_option maxRecDepth 100000 in
set_option maxHeartbeats 2000000 in
theorem fpush_low (base g : Nat) (v : Value) (R : List Int) (p : Int) (w : World) (h : Stk w base g v R) (hR : R.length < 32) :
    Calls Tryz.prog 119 #[.pointer (some ⟨g, 0, none⟩), .int .i64 p] w fun e w' => e = .returned (.tuple #[]) ∧ Stk w' base g v (R ++ [p]) ∧ KeptS g v.ownBlock w w' := by
  have HS : Hid (∀ w' : World, w' = (w.setCell ⟨g, R.length, none⟩ (.int .i64 p)).setCell ⟨g, 33, none⟩ (.int .i64 ((R.length : Int) + 1)) → Stk w' base g v (R ++ [p])) := fun w' hw => stk_low h hR w' hw
  obtain ⟨c1, c2, c3, c4, f, hg⟩ := h.cells
  obtain ⟨z, hz⟩ := c3 R.length hR
  have fn := f R.length
  have f33 := f 33
  clear c1 c3 c4 f h
  generalize R ++ [p] = R' at *
  generalize R.length = n at *
  go_enter Tryz.func119, Tryz.ntmps119
  go_wp2
  go_region
  go_wp2
  go_end0
  exact ⟨rfl, Stk.drew (HS.out _ rfl), (((KeptS.refl _ _ w).setCell _ _).setCell _ _).drew⟩

theorem cell_alloc_keep {w : World} {a : Addr} {v : Value} {o : Obj} (h : w.cell? a = some v) : (w.alloc o).cell? a = some v := by
  have hlt : a.block < w.heap.size := by
    rcases Nat.lt_or_ge a.block w.heap.size with h1 | h1
    · exact h1
    · simp [World.cell?, Array.getElem?_eq_none h1] at h
  rw [World.cell?_of_block (w := w) (Below.heap_alloc w o a.block hlt)]
  exact h
theorem grown_frozen {w w2 : World} {o : Obj} {row : Option Nat} {a : Addr} (h : (w.alloc o).grownBy w2 row) (hlt : a.block < w.heap.size) (hne : some a.block ≠ row) : w2.frozen? a = w.frozen? a :=
  World.frozen?_of_block (w := w) ((h.block a.block (by simp; omega) hne).trans (Below.heap_alloc w o a.block hlt))

theorem own_slice {w : World} {base : Nat} {e : TypeId} {v : Value} {n : Nat} {xs : List Value} (h : w.ownsRow base e 1 v n xs) : ∃ a cap, v = .slice a n cap := by
  rcases h.2 with ⟨rfl, rfl⟩ | ⟨g, cap, cur, rfl, _⟩
  · exact ⟨_, _, rfl⟩
  · exact ⟨_, _, rfl⟩
theorem stk_high {w : World} {base g : Nat} {v v' : Value} {R : List Int} {p : Int} (h : Stk w base g v R) (hR : 32 ≤ R.length) {w2 w' : World} {o : Obj} (hown : w2.ownsRow base 3 1 v' (R.length - 32 + 1) ((R.drop 32).map (Value.int .i64) ++ [.int .i64 p])) (hgrow : (w.alloc o).grownBy w2 v.ownBlock)
    (hat : v'.ownBlock = v.ownBlock ∨ v'.ownBlock = some (w.alloc o).heap.size)
    (hw : w' = (w2.setCell ⟨g, 32, none⟩ v').setCell ⟨g, 33, none⟩ (.int .i64 ((R.length : Int) + 1))) : Stk w' base g v' (R ++ [p]) ∧ KeptS g v.ownBlock w w' ∧ (v'.ownBlock = v.ownBlock ∨ ∀ k, v'.ownBlock = some k → w.heap.size ≤ k) := by
  subst hw
  have hap := h.apart
  have hgs := h.cells.2.2.2.2.2
  have hap2 : v'.ownBlock ≠ some g := by
    rcases hat with e | e
    · rw [e]; exact hap
    · rw [e]; simp; omega
  obtain ⟨h0, h1, cs, hg, c0, c1, c2, c3, c4⟩ := h
  have hg2 : w2.heap[g]? = some (.cells cs 136 (0, 0)) := by
    rw [hgrow.block g (by simp; omega) (fun e => hap e.symm), Below.heap_alloc w o g hgs]
    exact hg
  have hK : KeptS g v.ownBlock w w2 := ⟨hgrow.os, hgrow.tape, hgrow.output, by have := hgrow.size; simp at this; omega, fun k h1 h2 h3 => by
    rw [hgrow.block k (by simp; omega) h3, Below.heap_alloc w o k h1]⟩
  refine ⟨⟨h0, ?_, (cs.setIfInBounds 32 v').setIfInBounds 33 (.int .i64 ((R.length : Int) + 1)), ?_, ?_⟩, (hK.setCell _ _).setCell _ _, ?_⟩
  · rw [show (R ++ [p]).length - 32 = R.length - 32 + 1 from by simp; omega, List.drop_append_of_le_length hR, List.map_append]
    exact own_set (own_set hown _ _ _ hap2) _ _ _ hap2
  · exact heap_setCell_same _ g 33 _ _ _ (heap_setCell_same _ g 32 _ _ _ hg2)
  · refine ⟨by simpa using c0, fun i hi hr => ?_, fun i hi => ?_, ?_, ?_⟩
    · rw [Array.getElem?_setIfInBounds_ne (by omega), Array.getElem?_setIfInBounds_ne (by omega), c1 i hi (by omega)]
      rw [List.getD_eq_getElem?_getD, List.getD_eq_getElem?_getD, List.getElem?_append_left (by omega)]
    · rw [Array.getElem?_setIfInBounds_ne (by omega), Array.getElem?_setIfInBounds_ne (by omega)]
      exact c2 i hi
    · rw [Array.getElem?_setIfInBounds_ne (by omega), Array.getElem?_setIfInBounds_self_of_lt (by omega)]
    · rw [Array.getElem?_setIfInBounds_self_of_lt (by simp; omega)]
      simp
  · rcases hat with e | e
    · exact .inl e
    · refine .inr fun k hk => ?_
      rw [e] at hk
      simp at hk
      omega

set_option maxRecDepth 100000 in
set_option maxHeartbeats 2000000 in
theorem fpush_high (base g : Nat) (v : Value) (R : List Int) (p : Int) (w : World) (h : Stk w base g v R) (hb : base ≤ w.heap.size) (hR : 32 ≤ R.length) (hR2 : R.length ≤ 4398046511104) :
    Calls Tryz.prog 119 #[.pointer (some ⟨g, 0, none⟩), .int .i64 p] w fun e w' => e = .returned (.tuple #[]) ∧ ∃ v', Stk w' base g v' (R ++ [p]) ∧ KeptS g v.ownBlock w w' ∧ (v'.ownBlock = v.ownBlock ∨ ∀ k, v'.ownBlock = some k → w.heap.size ≤ k) := by
  obtain ⟨i0, hi, hz0, hz1, hz2⟩ := info_parts info3
  have HS : Hid (∀ (v' : Value) (o : Obj) (w2 w' : World), w2.ownsRow base 3 1 v' (R.length - 32 + 1) ((R.drop 32).map (Value.int .i64) ++ [.int .i64 p]) → (w.alloc o).grownBy w2 v.ownBlock → (v'.ownBlock = v.ownBlock ∨ v'.ownBlock = some (w.alloc o).heap.size) →
    w' = (w2.setCell ⟨g, 32, none⟩ v').setCell ⟨g, 33, none⟩ (.int .i64 ((R.length : Int) + 1)) → Stk w' base g v' (R ++ [p]) ∧ KeptS g v.ownBlock w w' ∧ (v'.ownBlock = v.ownBlock ∨ ∀ k, v'.ownBlock = some k → w.heap.size ≤ k)) := fun v' o w2 w' a1 a2 a3 a4 => stk_high h hR a1 a2 a3 a4
  obtain ⟨c1, c2, c3, c4, f, hg⟩ := h.cells
  have f32 := f 32
  have f33 := f 33
  have hap := h.apart
  have hown := h.2.1
  have hlen : (((R.drop 32).map (Value.int .i64)).length = R.length - 32) := by simp
  clear c3 c4 f h
  generalize R ++ [p] = R' at *
  generalize hn : R.length = n at *
  generalize hX : (R.drop 32).map (Value.int .i64) = X at *
  clear hX hn
  obtain ⟨m, rfl⟩ : ∃ m, n = m + 32 := ⟨n - 32, by omega⟩
  rw [show m + 32 - 32 = m from by omega] at *
  go_enter Tryz.func119, Tryz.ntmps119
  go_wp2_with (at_builtin; refine wpList_append_own_at _ rfl _ _ 23 rfl base 3 i0 (.int .i64 0) 1 8 Tryz.underlying23 hi hz0 hz1 hz2 rfl (by decide) _ _ _ rfl (hown.alloc _) ⟨w.heap.size, 0, none⟩ 1 1 [.int .i64 p] rfl rfl (cell_one_new _ _ _) (by simp [Value.oneCell']) (by unfold maxLen; omega) (by omega) (by simp; omega) ?_; intro v2 w2 hown2 hgrow hnil2 hat; have d1 : w2.cell? ⟨g, 32, none⟩ = some v := hgrow.cell (a := ⟨g, 32, none⟩) ((cell_alloc_keep c1)) (fun e => hap e.symm); have d2 : w2.cell? ⟨g, 33, none⟩ = some (.int .i64 ((m + 32 : Nat) : Int)) := hgrow.cell (a := ⟨g, 33, none⟩) ((cell_alloc_keep c2)) (fun e => hap e.symm); have d3 : w2.frozen? ⟨g, 32, none⟩ = false := (grown_frozen (a := ⟨g, 32, none⟩) hgrow hg (fun e => hap e.symm)).trans f32; have d4 : w2.frozen? ⟨g, 33, none⟩ = false := (grown_frozen (a := ⟨g, 33, none⟩) hgrow hg (fun e => hap e.symm)).trans f33; obtain ⟨a2, cap2, rfl⟩ := own_slice hown2)
  go_end0
  exact ⟨rfl, _, HS.out _ _ _ _ hown2 hgrow hat rfl⟩
end Go.Proofs.YtofkiaeocfpkeaaGreatDoor

/- Pop: the stack's pop, top and pass: what they leave and return; nothing else that lay before is turned. -/
namespace Go.Proofs.YtofkiaeocfpkeaaGreatDoor
open Go.RowKit

theorem KeptS.trans {g : Nat} {v : Option Nat} {a b c : World} (h : KeptS g v a b) (k : KeptS g v b c) : KeptS g v a c :=
  ⟨k.os.trans h.os, k.tape.trans h.tape, k.output.trans h.output, Nat.le_trans h.size k.size, fun i h1 h2 h3 => (k.block i (Nat.lt_of_lt_of_le h1 h.size) h2 h3).trans (h.block i h1 h2 h3)⟩
theorem Stk.alloc {w : World} {base g : Nat} {v : Value} {R : List Int} (h : Stk w base g v R) (o : Obj) : Stk (w.alloc o) base g v R := by
  have hlt := h.cells.2.2.2.2.2
  obtain ⟨h0, h1, cs, hg, hc⟩ := h
  refine ⟨h0, h1.alloc o, cs, ?_, hc⟩
  rw [Below.heap_alloc w o g hlt]
  exact hg
theorem dropLast_getD {R : List Int} {i : Nat} (h : i < R.dropLast.length) : R.dropLast.getD i 0 = R.getD i 0 := by
  simp only [List.length_dropLast] at h
  rw [List.getD_eq_getElem?_getD, List.getD_eq_getElem?_getD, List.getElem?_dropLast, if_pos h]
theorem dropLast_drop (R : List Int) (h : 32 ≤ R.length) : (R.dropLast).drop 32 = (R.drop 32).dropLast := by
  simp [List.dropLast_eq_take, List.drop_take]
  omega
theorem stk_pop_low {w : World} {base g : Nat} {v : Value} {R : List Int} (h : Stk w base g v R) (h0 : 0 < R.length) (hR : R.length ≤ 32) (w' : World)
    (hw : w' = w.setCell ⟨g, 33, none⟩ (.int .i64 ((R.length : Int) - 1))) : Stk w' base g v R.dropLast := by
  subst hw
  have hap := h.apart
  obtain ⟨g0, h1, cs, hg, c0, c1, c2, c3, c4⟩ := h
  refine ⟨g0, ?_, cs.setIfInBounds 33 (.int .i64 ((R.length : Int) - 1)), heap_setCell_same _ g 33 _ _ _ hg, by simpa using c0, fun i hi hr => ?_, fun i hi => ?_, ?_, ?_⟩
  · rw [show R.dropLast.length - 32 = R.length - 32 from by simp; omega, show R.dropLast.drop 32 = R.drop 32 from by rw [List.drop_eq_nil_of_le (by simp; omega), List.drop_eq_nil_of_le (by omega)]]
    exact own_set h1 _ _ _ hap
  · rw [Array.getElem?_setIfInBounds_ne (by omega), dropLast_getD hr]
    exact c1 i hi (by simp at hr; omega)
  · rw [Array.getElem?_setIfInBounds_ne (by omega)]
    exact c2 i hi
  · rw [Array.getElem?_setIfInBounds_ne (by omega), c3]
  · rw [Array.getElem?_setIfInBounds_self_of_lt (by omega), List.length_dropLast]
    simp
    omega
theorem stk_pop_high {w : World} {base g : Nat} {v : Value} {R : List Int} (h : Stk w base g v R) {m : Nat} (hR : R.length = m + 33) :
    ∃ b cap, v = .slice (some ⟨b, 0, none⟩) (m + 1) cap ∧ m + 1 ≤ cap ∧ cap ≤ maxLen ∧ ∀ w' : World, w' = (w.setCell ⟨g, 33, none⟩ (.int .i64 ((m + 33 : Nat) - 1 : Int))).setCell ⟨g, 32, none⟩ (.slice (some ⟨b, 0, none⟩) m cap) → Stk w' base g (.slice (some ⟨b, 0, none⟩) m cap) R.dropLast := by
  have hap := h.apart
  obtain ⟨g0, h1, cs, hg, c0, c1, c2, c3, c4⟩ := h
  rw [hR, show m + 33 - 32 = m + 1 from by omega] at h1
  obtain ⟨b, cap, rfl, k1, k2, k3⟩ := owns_shrink h1
  refine ⟨b, cap, rfl, k1, k2, fun w' hw => ?_⟩
  subst hw
  have hap2 : (Value.slice (some ⟨b, 0, none⟩) m cap).ownBlock ≠ some g := hap
  refine ⟨g0, ?_, (cs.setIfInBounds 33 (.int .i64 ((m + 33 : Nat) - 1 : Int))).setIfInBounds 32 (.slice (some ⟨b, 0, none⟩) m cap), heap_setCell_same _ g 32 _ _ _ (heap_setCell_same _ g 33 _ _ _ hg), by simpa using c0, fun i hi hr => ?_, fun i hi => ?_, ?_, ?_⟩
  · rw [List.length_dropLast, hR, show m + 33 - 1 - 32 = m from by omega, dropLast_drop R (by omega)]
    exact own_set (own_set k3 _ _ _ hap2) _ _ _ hap2
  · rw [Array.getElem?_setIfInBounds_ne (by omega), Array.getElem?_setIfInBounds_ne (by omega), dropLast_getD hr]
    exact c1 i hi (by simp at hr; omega)
  · rw [Array.getElem?_setIfInBounds_ne (by omega), Array.getElem?_setIfInBounds_ne (by omega)]
    exact c2 i hi
  · rw [Array.getElem?_setIfInBounds_self_of_lt (by simp; omega)]
  · rw [Array.getElem?_setIfInBounds_ne (by omega), Array.getElem?_setIfInBounds_self_of_lt (by omega), List.length_dropLast, hR]
    simp
    omega

set_option maxRecDepth 100000 in
set_option maxHeartbeats 2000000 in
theorem fpop_calls (base g : Nat) (v : Value) (R : List Int) (w : World) (h : Stk w base g v R) (hR2 : R.length ≤ 4398046511104) :
    Calls Tryz.prog 120 #[.pointer (some ⟨g, 0, none⟩)] w fun e w' => e = .returned (.tuple #[]) ∧ ∃ v', Stk w' base g v' R.dropLast ∧ KeptS g v.ownBlock w w' ∧ v'.ownBlock = v.ownBlock := by
  obtain ⟨c1, c2, c3, c4, f, hg⟩ := h.cells
  have f32 := f 32
  have f33 := f 33
  clear c3 c4 f
  by_cases h0 : R.length = 0
  · have HS : Hid (Stk w base g v R.dropLast) := by show Stk w base g v R.dropLast; rw [dropLast_none h0]; exact h
    rw [h0] at c2
    clear c1 h hR2
    generalize R.dropLast = R' at *
    go_enter Tryz.func120, Tryz.ntmps120
    go_wp2
    refine bodyPost_ret (results_none (by rfl) _ _ _) rfl ?_
    exact ⟨rfl, v, HS.out, KeptS.refl _ _ _, rfl⟩
  by_cases h1 : R.length ≤ 32
  · have HS : Hid (∀ w' : World, w' = w.setCell ⟨g, 33, none⟩ (.int .i64 ((R.length : Int) - 1)) → Stk w' base g v R.dropLast) := fun w' hw => stk_pop_low h (by omega) h1 w' hw
    clear c1 h hR2
    generalize R.dropLast = R' at *
    generalize R.length = n at *
    have e0 : ((n : Int) == 0) = false := by simpa using h0
    go_enter Tryz.func120, Tryz.ntmps120
    go_wp2
    go_end0
    exact ⟨rfl, v, HS.out _ rfl, (KeptS.refl _ _ _).setCell _ _, rfl⟩
  · obtain ⟨m, hm⟩ : ∃ m, R.length = m + 33 := ⟨R.length - 33, by omega⟩
    obtain ⟨b, cap, rfl, k1, k2, k3⟩ := stk_pop_high h hm
    have HS : Hid (∀ w' : World, w' = (w.setCell ⟨g, 33, none⟩ (.int .i64 ((m : Int) + 33 - 1))).setCell ⟨g, 32, none⟩ (.slice (some ⟨b, 0, none⟩) m cap) → Stk w' base g (.slice (some ⟨b, 0, none⟩) m cap) R.dropLast) := fun w' hw => k3 w' (by rw [hw]; simp)
    rw [hm] at c2 hR2
    unfold maxLen at k2
    clear k3 h h0 h1 hm
    generalize R.dropLast = R' at *
    have e0 : (((m + 33 : Nat) : Int) == 0) = false := by simp; omega
    go_enter Tryz.func120, Tryz.ntmps120
    go_wp2
    go_region
    go_wp2
    go_end0
    exact ⟨rfl, _, Stk.drew (HS.out _ rfl), (((KeptS.refl _ _ w).setCell _ _).setCell _ _).drew, rfl⟩

set_option maxRecDepth 100000 in
set_option maxHeartbeats 2000000 in
theorem ftop_calls (base g : Nat) (v : Value) (R : List Int) (w : World) (h : Stk w base g v R) (hR2 : R.length ≤ 4398046511104) :
    Calls Tryz.prog 81 #[.pointer (some ⟨g, 0, none⟩)] w fun e w' => e = .returned (.int .i64 (R.getLast?.getD (-1))) ∧ ∃ q, w' = w.drewN q := by
  obtain ⟨c1, c2, c3, c4, f, hg⟩ := h.cells
  clear f c3
  rcases Nat.eq_zero_or_pos R.length with h0 | h0
  · obtain rfl : R = [] := List.length_eq_zero_iff.1 h0
    clear c1 c4 h h0
    simp only [List.length_nil] at c2
    go_enter Tryz.func81, Tryz.ntmps81
    go_wp2
    go_ret
    exact ⟨rfl, 0, rfl⟩
  obtain ⟨m, hm⟩ : ∃ m, R.length = m + 1 := ⟨R.length - 1, by omega⟩
  rw [last_row hm]
  rw [hm] at c2
  have e0 : (((m + 1 : Nat) : Int) == 0) = false := by simp; omega
  by_cases h1 : m < 32
  · have c5 := c4 m h1 (by omega)
    clear c1 c4 h h0
    generalize R.getD m 0 = y at *
    clear hm hR2
    go_enter Tryz.func81, Tryz.ntmps81
    go_wp2_with fail
    go_quiet (fail)
    go_wp2
    go_ret
    exact ⟨rfl, _, rfl⟩
  · obtain ⟨k, rfl⟩ : ∃ k, m = k + 32 := ⟨m - 32, by omega⟩
    have hown := h.2.1
    rw [hm, show k + 32 + 1 - 32 = k + 1 from by omega] at hown
    obtain ⟨a', cap', rfl, hr⟩ := row_of_owns hown
    obtain ⟨b, o, rfl, hbl, hc⟩ := (show ∃ b o, a' = some ⟨b, o, none⟩ ∧ b < w.heap.size ∧ ∀ i, i < k + 1 → w.cell? ⟨b, o + i, none⟩ = some (.int .i64 ((R.drop 32).getD i 0)) from by
      rcases hr.2 with h | h
      · omega
      · exact h)
    have hc0 := hc k (by omega)
    rw [show (R.drop 32).getD k 0 = R.getD (k + 32) 0 from by rw [List.getD_eq_getElem?_getD, List.getD_eq_getElem?_getD, List.getElem?_drop, Nat.add_comm]] at hc0
    clear hc hr hown c4 h h0 h1
    generalize R.getD (k + 32) 0 = y at *
    rw [hm] at hR2
    clear hm
    go_enter Tryz.func81, Tryz.ntmps81
    go_wp2_with fail
    go_quiet (fail)
    go_wp2
    go_ret
    exact ⟨rfl, _, rfl⟩

set_option maxRecDepth 100000 in
set_option maxHeartbeats 2000000 in
theorem fpass_calls (base g : Nat) (v : Value) (R : List Int) (i : Nat) (x : Tok) (w : World) (h : Stk w base g v R) (hb : base ≤ w.heap.size) (hR2 : R.length ≤ 4398046511104) :
    Calls Tryz.prog 79 #[.pointer (some ⟨g, 0, none⟩), .int .i64 (i : Int), tokV x] w fun e w' => e = .returned (.tuple #[]) ∧ ∃ v', Stk w' base g v' (turn x i R) ∧ KeptS g v.ownBlock w w' ∧ (v'.ownBlock = v.ownBlock ∨ ∀ k, v'.ownBlock = some k → w.heap.size ≤ k) := by
  obtain ⟨xk, xt, xn, xm⟩ := x
  unfold turn
  simp only [tokV]
  have hal : ∀ o, Stk (w.alloc o) base g v R := fun o => h.alloc o
  have hK : ∀ o W, KeptS g v.ownBlock (w.alloc o) W → KeptS g v.ownBlock w W := fun o W k => (KeptS.trans ((KeptS.refl _ _ w).alloc o) k)
  have hF : ∀ (o : Obj) (v' : Value), (v'.ownBlock = v.ownBlock ∨ ∀ k, v'.ownBlock = some k → (w.alloc o).heap.size ≤ k) → (v'.ownBlock = v.ownBlock ∨ ∀ k, v'.ownBlock = some k → w.heap.size ≤ k) := by
    intro o v' hv
    rcases hv with hv | hv
    · exact .inl hv
    · refine .inr fun k hk => ?_
      have := hv k hk
      simp at this
      omega
  by_cases k1 : xk = 1
  · subst k1
    rw [if_pos rfl]
    have hp : Hid (∀ o, Calls Tryz.prog 119 #[.pointer (some ⟨g, 0, none⟩), .int .i64 (i : Int)] (w.alloc o) fun e w' => e = .returned (.tuple #[]) ∧ ∃ v', Stk w' base g v' (R ++ [(i : Int)]) ∧ KeptS g v.ownBlock (w.alloc o) w' ∧ (v'.ownBlock = v.ownBlock ∨ ∀ k, v'.ownBlock = some k → (w.alloc o).heap.size ≤ k)) := by
      intro o
      by_cases hR : R.length < 32
      · refine (fpush_low base g v R i _ (hal o) hR).mono ?_
        rintro e w' ⟨e1, e2, e3⟩
        exact ⟨e1, v, e2, e3, .inl rfl⟩
      · exact fpush_high base g v R i _ (hal o) (by simp; omega) (by omega) hR2
    clear hal h
    generalize R ++ [(i : Int)] = R' at *
    go_enter Tryz.func79, Tryz.ntmps79
    go_wp2_with fail
    refine (hp.out _).mono ?_
    rintro e W ⟨rfl, v', s1, s2, s3⟩
    go_wp2
    go_end0
    exact ⟨rfl, v', s1, hK _ _ s2, hF _ _ s3⟩
  · have e1 : (xk == 1) = false := by simpa using k1
    rw [if_neg k1]
    by_cases k2 : xk = 2
    · subst k2
      rw [if_pos rfl]
      have hp : Hid (∀ o, Calls Tryz.prog 120 #[.pointer (some ⟨g, 0, none⟩)] (w.alloc o) fun e w' => e = .returned (.tuple #[]) ∧ ∃ v', Stk w' base g v' R.dropLast ∧ KeptS g v.ownBlock (w.alloc o) w' ∧ v'.ownBlock = v.ownBlock) := fun o => fpop_calls base g v R _ (hal o) hR2
      clear hal h
      generalize R.dropLast = R' at *
      go_enter Tryz.func79, Tryz.ntmps79
      go_wp2_with fail
      refine (hp.out _).mono ?_
      rintro e W ⟨rfl, v', s1, s2, s3⟩
      go_wp2
      go_end0
      exact ⟨rfl, v', s1, hK _ _ s2, .inl s3⟩
    · have e2 : (xk == 2) = false := by simpa using k2
      rw [if_neg k2]
      go_enter Tryz.func79, Tryz.ntmps79
      go_wp2
      go_end0
      exact ⟨rfl, v, hal _, (KeptS.refl _ _ w).alloc _, .inl rfl⟩
end Go.Proofs.YtofkiaeocfpkeaaGreatDoor

/- Eq: two tokens compared. -/
namespace Go.Proofs.YtofkiaeocfpkeaaGreatDoor
open Go.RowKit

theorem tok_eqGuard (op : BinOp) (x y : Operand) (xs ys : Array Value) (W : World) : (eqGuard op 62 x y (.agg xs) (.agg ys)).run Tryz.prog W = .ok () W := run_eqGuard_agg W op 62 x y xs ys (by kernel_rfl)
theorem tok_equal (x y : Tok) (W : World) : (Op.equalIn 10000 62 (tokV x) (tokV y)).run Tryz.prog W = .ok (tokEq x y) W := by
  have u3 := Tryz.underlying3
  have a3 := Tryz.isAgg3
  have z3 := Tryz.sizeOf3
  have hS : Tryz.prog.underlying 62 = some (.struct (Tryz.prog.fieldsOf 62)) := by kernel_rfl
  have hp : Tryz.prog.stoodInHeld 62 = false := by kernel_rfl
  obtain ⟨k, t, n, m⟩ := x
  obtain ⟨k', t', n', m'⟩ := y
  simp only [tokV]
  rw [show (10000 : Nat) = 9999 + 1 from rfl, run_equalIn_agg W 9999 62 _ _ hS hp]
  simp only [Program.fieldsOf, Tryz.underlying62]
  go_simp
  unfold tokEq
  by_cases h1 : k = k' <;> by_cases h2 : t = t' <;> by_cases h3 : n = n' <;> by_cases h4 : m = m' <;> simp [h1, h2, h3, h4]
theorem tok_neq (x y : Tok) (W : World) : (binOp .neq 62 (tokV x) (tokV y)).run Tryz.prog W = .ok (.bool (!tokEq x y)) W := by
  rw [show tokV x = .agg #[.int .i64 x.k, .int .i64 x.t, .int .i64 x.n, .int .i64 x.m] from rfl, show tokV y = .agg #[.int .i64 y.k, .int .i64 y.t, .int .i64 y.n, .int .i64 y.m] from rfl, run_neq_struct]
  have h := tok_equal x y W
  simp only [tokV] at h
  rw [h]
  rfl
theorem tok_eql (x y : Tok) (W : World) : (binOp .eql 62 (tokV x) (tokV y)).run Tryz.prog W = .ok (.bool (tokEq x y)) W := by
  rw [show tokV x = .agg #[.int .i64 x.k, .int .i64 x.t, .int .i64 x.n, .int .i64 x.m] from rfl, show tokV y = .agg #[.int .i64 y.k, .int .i64 y.t, .int .i64 y.n, .int .i64 y.m] from rfl, run_eql_struct]
  have h := tok_equal x y W
  simp only [tokV] at h
  rw [h]
  rfl

theorem take_succ_same {l1 l2 : List Tok} {k : Nat} (h : l1.take k = l2.take k) {x : Tok} (h1 : l1[k]? = some x) (h2 : l2[k]? = some x) : l1.take (k + 1) = l2.take (k + 1) := by
  rw [List.take_add_one, List.take_add_one, h, h1, h2]
end Go.Proofs.YtofkiaeocfpkeaaGreatDoor

/- FTok: flat.isCodePoint, mark.Right and flat.Right at every token: what they return; nothing that lay before is turned. -/
namespace Go.Proofs.YtofkiaeocfpkeaaGreatDoor
open Go.RowKit

set_option maxHeartbeats 400000 in
theorem fmark_calls (s : Int) (w : World) : Calls Tryz.prog 118 #[.int .i64 s] w fun e w' => e = .returned (.bool (rightM s)) ∧ w' = w := by
  unfold rightM
  cases h1 : decide (0 ≤ s)
  all_goals
    go_enter Tryz.func118, Tryz.ntmps118
    go_wp2
    go_ret
    exact ⟨rfl, rfl⟩
set_option maxHeartbeats 400000 in
theorem fpoint_calls (n : Int) (w : World) : Calls Tryz.prog 117 #[.int .i64 n] w fun e w' => e = .returned (.bool (point n)) ∧ w' = w := by
  by_cases a0 : 0 ≤ n
  · by_cases a1 : n < 55296
    · rw [show point n = true from by simp [point]; omega]
      go_enter Tryz.func117, Tryz.ntmps117
      go_wp2
      go_ret
      exact ⟨rfl, rfl⟩
    · by_cases a2 : 57343 < n
      · rw [show point n = decide (n ≤ 1114111) from by rw [Bool.eq_iff_iff]; simp [point]; omega]
        go_enter Tryz.func117, Tryz.ntmps117
        go_wp2
        go_ret
        exact ⟨rfl, rfl⟩
      · rw [show point n = false from by simp [point]; omega]
        go_enter Tryz.func117, Tryz.ntmps117
        go_wp2
        go_ret
        exact ⟨rfl, rfl⟩
  · rw [show point n = false from by simp [point]; omega]
    have e0 : decide (0 ≤ n) = false := by simpa using a0
    go_enter Tryz.func117, Tryz.ntmps117
    go_wp2
    go_ret
    exact ⟨rfl, rfl⟩

set_option maxHeartbeats 1000000 in
theorem fright_calls (x : Tok) (w : World) : Calls Tryz.prog 78 #[tokV x] w fun e w' => e = .returned (.bool (rightT x)) ∧ Below w.heap.size w w' := by
  obtain ⟨k, t, n, m⟩ := x
  have e16 : decide (t < 16) = decide (t ≤ 15) := by by_cases h : t ≤ 15 <;> simp [h] <;> omega
  have hq := fun W => tok_eql ⟨k, t, n, m⟩ ⟨2, 0, 0, 0⟩ W
  unfold tokV rightT
  simp only [tokV, e16] at *
  clear e16
  by_cases k0 : k = 0
  · subst k0
    rw [if_pos rfl]
    have c1 := fun W => fpoint_calls n W
    have c2 := fun W => fmark_calls m W
    generalize point n = p at *
    generalize rightM m = q at *
    cases h0 : t == 0
    · simp only [Bool.false_and]
      go_enter Tryz.func78, Tryz.ntmps78
      go_wp2
      go_ret
      exact ⟨rfl, (Below.refl _ _).alloc (Nat.le_refl _) _⟩
    · cases h1 : p
      · rw [h1] at c1
        simp only [Bool.and_false, Bool.false_and]
        go_enter Tryz.func78, Tryz.ntmps78
        go_wp2_with fail
        refine (c1 _).mono ?_
        rintro e w' ⟨rfl, rfl⟩
        go_wp2
        go_ret
        exact ⟨rfl, (Below.refl _ _).alloc (Nat.le_refl _) _⟩
      · rw [h1] at c1
        cases h2 : q
        · rw [h2] at c2
          simp only [Bool.and_false]
          go_enter Tryz.func78, Tryz.ntmps78
          go_wp2_with fail
          refine (c1 _).mono ?_
          rintro e w' ⟨rfl, rfl⟩
          go_wp2_with fail
          refine (c2 _).mono ?_
          rintro e w' ⟨rfl, rfl⟩
          go_wp2
          go_ret
          exact ⟨rfl, (Below.refl _ _).alloc (Nat.le_refl _) _⟩
        · rw [h2] at c2
          go_enter Tryz.func78, Tryz.ntmps78
          go_wp2_with fail
          refine (c1 _).mono ?_
          rintro e w' ⟨rfl, rfl⟩
          go_wp2_with fail
          refine (c2 _).mono ?_
          rintro e w' ⟨rfl, rfl⟩
          go_wp2
          go_ret
          exact ⟨rfl, (Below.refl _ _).alloc (Nat.le_refl _) _⟩
  rw [if_neg k0]
  have e0 : (k == 0) = false := by simpa using k0
  by_cases k1 : k = 1
  · subst k1
    rw [if_pos (.inl rfl)]
    clear hq
    cases h0 : decide (1 ≤ t)
    · simp only [Bool.false_and]
      go_enter Tryz.func78, Tryz.ntmps78
      go_wp2
      go_ret
      exact ⟨rfl, (Below.refl _ _).alloc (Nat.le_refl _) _⟩
    · cases h1 : decide (t ≤ 15)
      · simp only [Bool.and_false, Bool.false_and]
        go_enter Tryz.func78, Tryz.ntmps78
        go_wp2
        go_ret
        exact ⟨rfl, (Below.refl _ _).alloc (Nat.le_refl _) _⟩
      · cases h2 : decide (0 ≤ n)
        · simp only [Bool.and_false, Bool.false_and]
          go_enter Tryz.func78, Tryz.ntmps78
          go_wp2
          go_ret
          exact ⟨rfl, (Below.refl _ _).alloc (Nat.le_refl _) _⟩
        · cases h3 : decide (n ≤ 15)
          · simp only [Bool.and_false, Bool.false_and]
            go_enter Tryz.func78, Tryz.ntmps78
            go_wp2
            go_ret
            exact ⟨rfl, (Below.refl _ _).alloc (Nat.le_refl _) _⟩
          · cases h4 : m == 0
            · simp only [Bool.and_false]
              go_enter Tryz.func78, Tryz.ntmps78
              go_wp2
              go_ret
              exact ⟨rfl, (Below.refl _ _).alloc (Nat.le_refl _) _⟩
            · go_enter Tryz.func78, Tryz.ntmps78
              go_wp2
              go_ret
              exact ⟨rfl, (Below.refl _ _).alloc (Nat.le_refl _) _⟩
  have e1 : (k == 1) = false := by simpa using k1
  by_cases k3 : k = 3
  · subst k3
    rw [if_pos (.inr rfl)]
    clear hq
    cases h0 : decide (1 ≤ t)
    · simp only [Bool.false_and]
      go_enter Tryz.func78, Tryz.ntmps78
      go_wp2
      go_ret
      exact ⟨rfl, (Below.refl _ _).alloc (Nat.le_refl _) _⟩
    · cases h1 : decide (t ≤ 15)
      · simp only [Bool.and_false, Bool.false_and]
        go_enter Tryz.func78, Tryz.ntmps78
        go_wp2
        go_ret
        exact ⟨rfl, (Below.refl _ _).alloc (Nat.le_refl _) _⟩
      · cases h2 : decide (0 ≤ n)
        · simp only [Bool.and_false, Bool.false_and]
          go_enter Tryz.func78, Tryz.ntmps78
          go_wp2
          go_ret
          exact ⟨rfl, (Below.refl _ _).alloc (Nat.le_refl _) _⟩
        · cases h3 : decide (n ≤ 15)
          · simp only [Bool.and_false, Bool.false_and]
            go_enter Tryz.func78, Tryz.ntmps78
            go_wp2
            go_ret
            exact ⟨rfl, (Below.refl _ _).alloc (Nat.le_refl _) _⟩
          · cases h4 : m == 0
            · simp only [Bool.and_false]
              go_enter Tryz.func78, Tryz.ntmps78
              go_wp2
              go_ret
              exact ⟨rfl, (Below.refl _ _).alloc (Nat.le_refl _) _⟩
            · go_enter Tryz.func78, Tryz.ntmps78
              go_wp2
              go_ret
              exact ⟨rfl, (Below.refl _ _).alloc (Nat.le_refl _) _⟩
  have e3 : (k == 3) = false := by simpa using k3
  rw [if_neg (by omega)]
  by_cases k2 : k = 2
  · subst k2
    rw [if_pos rfl]
    have hd : tokEq ⟨2, t, n, m⟩ ⟨2, 0, 0, 0⟩ = (t == 0 && n == 0 && m == 0) := by
      rw [Bool.eq_iff_iff]
      simp [tokEq, and_assoc]
    rw [hd] at hq
    clear hd
    have hg := fun (x y : Operand) (xs ys : Array Value) (W : World) => tok_eqGuard .eql x y xs ys W
    generalize (t == 0 && n == 0 && m == 0) = z at *
    go_enter Tryz.func78, Tryz.ntmps78
    go_wp2
    go_ret
    exact ⟨rfl, (Below.refl _ _).alloc (Nat.le_refl _) _⟩
  have e2 : (k == 2) = false := by simpa using k2
  rw [if_neg k2]
  clear hq
  go_enter Tryz.func78, Tryz.ntmps78
  go_wp2
  go_ret
  exact ⟨rfl, (Below.refl _ _).alloc (Nat.le_refl _) _⟩
end Go.Proofs.YtofkiaeocfpkeaaGreatDoor
