/-
  PROVED HERE: what the texts IsNm, RightN, KindsF say (each has its own words below).
-/
import Derived.Test.YtgkplmnhmobnnaaGreatDoorSM7
import Derived.Laws.RangeString
import Derived.Test.YtgkplmnhmobnnaaGreatDoorSM9
import Derived.Test.YtgkplmnhmobnnaaGreatDoorSM22
/- IsNm: schema's isName at every text: it tells whether all is letters, and there are some. -/
namespace Go.Proofs.YtgkplmnhmobnnaaGreatDoor
open Go.RowKit

theorem decode_wide (s : ByteArray) (pos : Nat) (h : pos < s.size) (ha : ¬ (s[pos]'h).toNat < 128) : 128 ≤ (Utf8.decode s pos).1 ∧ (Utf8.decode s pos).1 ≤ 2147483647 := by
  have e : s.get! (pos + 0) = s[pos]'h := by
    show s.get! pos = _
    simp [ByteArray.get!, getElem!_pos, h]
    rfl
  have hb : (s[pos]'h).toNat < 256 := UInt8.toNat_lt _
  unfold Utf8.decode
  simp only [e]
  rw [if_neg ha]
  have hr : 128 ≤ Utf8.runeError ∧ Utf8.runeError ≤ 2147483647 := by decide
  split
  · split
    · exact ⟨by assumption, by dsimp only; omega⟩
    · exact hr
  · split
    · split
      · rename_i hc
        simp only [Bool.and_eq_true, decide_eq_true_eq] at hc
        exact ⟨by dsimp only; omega, by dsimp only; omega⟩
      · exact hr
    · split
      · split
        · rename_i hc
          simp only [Bool.and_eq_true, decide_eq_true_eq] at hc
          exact ⟨by dsimp only; omega, by dsimp only; omega⟩
        · exact hr
      · exact hr
theorem run_next_any {P : Program} (w : World) (s : ByteArray) (pos : Nat) (ty : TypeId) (h : pos < s.size) :
    (Instr.next (.pointer (some ⟨w.heap.size, 0, none⟩)) true ty).run P (w.iter s pos) =
      .ok (.tuple #[.bool true, .int .i64 pos, .int .i32 ((Utf8.decode s pos).1 : Int)]) (w.iter s (pos + (Utf8.decode s pos).2)) := by
  simp only [Instr.next, getObj, setObj, Sem.run_bind, Sem.run, World.iter_heap, Result.andThen, h, if_true, World.iter_set]
  simp [goInt]
theorem other_calls (c : Int) (w : World) : Calls Tryz.prog 109 #[.int .i32 c] w fun e w' => e = .returned (.bool (!lett c)) ∧ w' = w := by
  by_cases h1 : c < 97
  · have h2 : lett c = false := by unfold lett; simp; omega
    rw [h2]
    go_enter Tryz.func109, Tryz.ntmps109
    go_wp2
    go_ret
    exact ⟨by first | rfl | simp [h1], rfl⟩
  · have hd : decide (c < 97) = false := by simpa using h1
    have h2 : (!lett c) = decide (122 < c) := by
      have h97 : decide (97 ≤ c) = true := by simp; omega
      unfold lett
      rw [h97, Bool.true_and, ← decide_not, decide_eq_decide]
      omega
    rw [h2]
    go_enter Tryz.func109, Tryz.ntmps109
    go_wp2
    go_ret
    exact ⟨by first | rfl | simp [h1], rfl⟩
/-- The letters ahead of a place. -/
def lettTo (s : ByteArray) (i : Nat) : Prop := ∀ (k : Nat) (h : k < s.size), k < i → letter s[k] = true
theorem lettTo_all (s : ByteArray) (h : lettTo s s.size) : s.toList.all letter = true := by
  rw [List.all_eq_true]
  intro c hc
  obtain ⟨k, hk⟩ := List.getElem?_of_mem hc
  have hlt : k < s.size := by
    have := (List.getElem?_eq_some_iff.1 hk).1
    rw [toList_length] at this
    exact this
  rw [toList_at s k hlt] at hk
  cases hk
  exact h k hlt hlt
theorem letter_lett (c : UInt8) : lett (c.toNat : Int) = letter c := by
  unfold lett letter
  have h1 : decide ((97 : Int) ≤ (c.toNat : Int)) = decide (97 ≤ c.toNat) := by simp only [decide_eq_decide]; omega
  have h2 : decide ((c.toNat : Int) ≤ 122) = decide (c.toNat ≤ 122) := by simp only [decide_eq_decide]; omega
  rw [h1, h2]
theorem not_all (s : ByteArray) (k : Nat) (h : k < s.size) (hl : letter s[k] = false) : s.toList.all letter = false := by
  rw [List.all_eq_false]
  exact ⟨s[k], List.mem_of_getElem? (toList_at s k h), by rw [hl]; exact Bool.false_ne_true⟩
set_option maxRecDepth 100000 in
set_option maxHeartbeats 1000000 in
theorem findex_calls (s : ByteArray) (hs : s.size ≤ 9223372036854775807) (w : World) : Calls Tryz.prog 153 #[.string s, .func (.func 109) #[] #[], .bool true] w fun e w' => ∃ i : Int, e = .returned (.int .i64 i) ∧ decide (0 ≤ i) = (!s.toList.all letter) ∧ Below w.heap.size w w' := by
  have HB : Hid (∀ pos, Below w.heap.size w (w.iter s pos)) := fun pos => (Below.refl _ w).alloc (Nat.le_refl _) _
  have HO : Hid (∀ (c : Int) (W : World), Calls Tryz.prog 109 #[.int .i32 c] W fun e w' => e = .returned (.bool (!lett c)) ∧ w' = W) := fun c W => other_calls c W
  have hrg := run_range_string (P := Tryz.prog) w 9 s Tryz.underlying9
  have hsi : (s.size : Int) ≤ 9223372036854775807 := by omega
  clear hs
  go_enter Tryz.func153, Tryz.ntmps153
  go_wp2
  go_loopg [7] (s.size + 1) (fun gk v wr => ∃ pos : Nat, pos ≤ s.size ∧ s.size < pos + gk ∧ wr = w.iter s pos ∧ lettTo s pos)
  case atStart => exact ⟨0, Nat.zero_le _, by omega, rfl, fun k h hk => absurd hk (Nat.not_lt_zero _)⟩
  case round =>
    obtain ⟨pos, hpos, hgk, rfl, hT⟩ := hrel
    clear hrg
    by_cases hlt : pos < s.size
    · by_cases hasc : (s[pos]'hlt).toNat < 128
      · have hnx : ∀ ty, (Instr.next (.pointer (some ⟨w.heap.size, 0, none⟩)) true ty).run Tryz.prog (w.iter s pos) = _ := fun ty => run_next_ascii w s pos ty hlt hasc
        have HC := HO.out ((s[pos]'hlt).toNat : Int) (w.iter s (pos + 1))
        have hle := letter_lett (s[pos]'hlt)
        by_cases hl : letter (s[pos]'hlt) = true
        · rw [hl] at hle
          have HT : Hid (lettTo s (pos + 1)) := fun k h hk => by
            by_cases e : k = pos
            · subst e; exact hl
            · exact hT k h (by omega)
          clear hT hl
          go_wp2_with fail
          refine HC.mono ?_
          rintro e W ⟨rfl, rfl⟩
          rw [hle]
          go_wp2
          go_roundg (s.size - pos)
          case measure => omega
          case rel => exact ⟨pos + 1, by omega, by omega, rfl, HT.out⟩
        · have hl' : letter (s[pos]'hlt) = false := by simpa using hl
          rw [hl'] at hle
          have HF : Hid (s.toList.all letter = false) := not_all s pos hlt hl'
          clear hT hl hl'
          go_wp2_with fail
          refine HC.mono ?_
          rintro e W ⟨rfl, rfl⟩
          rw [hle]
          go_wp2
          go_ret
          exact ⟨(pos : Int), rfl, by rw [HF.out]; simp, HB.out _⟩
      · obtain ⟨d1, d2⟩ := decode_wide s pos hlt hasc
        have hnx : ∀ ty, (Instr.next (.pointer (some ⟨w.heap.size, 0, none⟩)) true ty).run Tryz.prog (w.iter s pos) = _ := fun ty => run_next_any w s pos ty hlt
        have HC := HO.out ((Utf8.decode s pos).1 : Int) (w.iter s (pos + (Utf8.decode s pos).2))
        have hle : lett ((Utf8.decode s pos).1 : Int) = false := by unfold lett; simp; omega
        have HF : Hid (s.toList.all letter = false) := not_all s pos hlt (by unfold letter; simp; omega)
        clear hT d1 d2
        go_wp2_with fail
        refine HC.mono ?_
        rintro e W ⟨rfl, rfl⟩
        rw [hle]
        go_wp2
        go_ret
        exact ⟨(pos : Int), rfl, by rw [HF.out]; simp, HB.out _⟩
    · obtain rfl : pos = s.size := by omega
      have hnx : ∀ ty, (Instr.next (.pointer (some ⟨w.heap.size, 0, none⟩)) true ty).run Tryz.prog (w.iter s s.size) = _ := fun ty => run_next_end w s s.size ty hlt
      have HF : Hid (s.toList.all letter = true) := lettTo_all s hT
      clear hT
      go_wp2
      go_ret
      exact ⟨-1, rfl, by rw [HF.out]; rfl, HB.out _⟩
set_option maxRecDepth 100000 in
theorem sindex_calls (s : ByteArray) (hs : s.size ≤ 9223372036854775807) (w : World) : Calls Tryz.prog 141 #[.string s, .func (.func 109) #[] #[]] w fun e w' => ∃ i : Int, e = .returned (.int .i64 i) ∧ decide (0 ≤ i) = (!s.toList.all letter) ∧ Below w.heap.size w w' := by
  have HF := findex_calls s hs w
  clear hs
  go_enter Tryz.func141, Tryz.ntmps141
  go_wp2_with fail
  refine HF.mono ?_
  rintro e W ⟨i, rfl, h1, h2⟩
  have HE : Hid (decide (0 ≤ i) = (!s.toList.all letter) ∧ Below w.heap.size w W) := ⟨h1, h2⟩
  clear h1 h2 HF
  go_wp2
  go_ret
  exact ⟨i, rfl, HE.out⟩
set_option maxRecDepth 100000 in
theorem scontains_calls (s : ByteArray) (hs : s.size ≤ 9223372036854775807) (w : World) : Calls Tryz.prog 110 #[.string s, .func (.func 109) #[] #[]] w fun e w' => e = .returned (.bool (!s.toList.all letter)) ∧ Below w.heap.size w w' := by
  have HF := sindex_calls s hs w
  clear hs
  go_enter Tryz.func110, Tryz.ntmps110
  go_wp2_with fail
  refine HF.mono ?_
  rintro e W ⟨i, rfl, h1, h2⟩
  have HE : Hid (decide (0 ≤ i) = (!s.toList.all letter) ∧ Below w.heap.size w W) := ⟨h1, h2⟩
  clear h1 h2 HF
  go_wp2
  go_ret
  exact ⟨by rw [← HE.out.1]; rfl, HE.out.2⟩
set_option maxRecDepth 100000 in
theorem sname_calls (s : ByteArray) (hs : s.size ≤ 9223372036854775807) (w : World) : Calls Tryz.prog 81 #[.string s] w fun e w' => e = .returned (.bool (letters s)) ∧ Below w.heap.size w w' := by
  have HF := scontains_calls s hs w
  have HR : Hid (Below w.heap.size w w) := Below.refl _ _
  by_cases h0 : s.toList = []
  · have HL : Hid (letters s = false) := by
      show letters s = false
      unfold letters
      rw [h0]
      rfl
    clear hs HF
    go_enter Tryz.func81, Tryz.ntmps81
    go_wp2
    go_ret
    exact ⟨by rw [HL.out]; rfl, HR.out⟩
  · have HL : Hid (letters s = s.toList.all letter) := by
      show letters s = s.toList.all letter
      unfold letters
      rw [List.isEmpty_eq_false_iff.2 h0, Bool.not_false, Bool.and_true]
    clear hs
    go_enter Tryz.func81, Tryz.ntmps81
    go_wp2_with fail
    refine HF.mono ?_
    rintro e W ⟨rfl, h2⟩
    have HE : Hid (Below w.heap.size w W) := h2
    clear h2 HF
    go_wp2
    go_ret
    exact ⟨by rw [HL.out]; first | rfl | (simp [h0]), HE.out⟩
end Go.Proofs.YtgkplmnhmobnnaaGreatDoor

/- RightN: schema's rightNames: whether all names are letters, and none is there twice. -/
namespace Go.Proofs.YtgkplmnhmobnnaaGreatDoor
open Go.RowKit

set_option maxRecDepth 100000 in
set_option maxHeartbeats 400000 in
theorem samename_calls (nm : ByteArray) (ta : Option Addr) (tl tc : Nat) (b : Nat) (on : ByteArray) (w : World) (hb : w.cell? ⟨b, 0, none⟩ = some (.string on)) :
    Calls Tryz.prog 80 #[.agg #[.string nm, .slice ta tl tc], .pointer (some ⟨b, 0, none⟩)] w fun e w' => e = .returned (.bool (nm.toList == on.toList)) ∧ Below w.heap.size w w' := by
  have hlt := World.block_lt_of_cell? w _ hb
  have hB : Below w.heap.size w (w.alloc (.cells #[.string nm, .slice ta tl tc] 59)) := (Below.refl _ w).alloc (Nat.le_refl _) _
  have h2 : (w.alloc (.cells #[.string nm, .slice ta tl tc] 59)).cell? ⟨b, 0, none⟩ = some (.string on) := (hB.cell (p := ⟨b, 0, none⟩) hlt).trans hb
  have HB : Hid (Below w.heap.size w (w.alloc (.cells #[.string nm, .slice ta tl tc] 59))) := hB
  clear hB hb
  go_enter Tryz.func80, Tryz.ntmps80
  go_wp2
  go_ret
  exact ⟨rfl, HB.out⟩
/-- The first place at which a name stands among the first n. -/
def nameIn (gs : List Grp) (n : Nat) (on : ByteArray) : Prop := ∃ (j : Nat) (x : Grp), j < n ∧ gs[j]? = some x ∧ (x.1.toList == on.toList) = true
set_option maxRecDepth 100000 in
set_option maxHeartbeats 400000 in
theorem gindex_calls (g o n c : Nat) (len : Nat) (gs : List Grp) (b : Nat) (on : ByteArray) (w : World) (hG : Groups w (some ⟨g, o, none⟩) len gs) (hn : n ≤ len) (hlen : len ≤ 1000000) (hb : w.cell? ⟨b, 0, none⟩ = some (.string on)) :
    Calls Tryz.prog 111 #[.slice (some ⟨g, o, none⟩) n c, .func (.func 80) #[] #[.pointer (some ⟨b, 0, none⟩)]] w fun e w' => ∃ i : Int, e = .returned (.int .i64 i) ∧ (0 ≤ i ↔ nameIn gs n on) ∧ Below w.heap.size w w' := by
  have hbl := World.block_lt_of_cell? w _ hb
  have HX : Hid (∀ (X : World) (j : Nat), Below w.heap.size w X → j < n → ∃ x ta tl tc, gs[j]? = some x ∧ X.cell? ⟨g, o + j * 2, none⟩ = some (.string x.1) ∧ X.cell? ⟨g, o + j * 2 + 1, none⟩ = some (.slice ta tl tc) ∧ Calls Tryz.prog 80 #[.agg #[.string x.1, .slice ta tl tc], .pointer (some ⟨b, 0, none⟩)] X fun e w' => e = .returned (.bool (x.1.toList == on.toList)) ∧ Below X.heap.size X w') := fun X j hX hj => by
    obtain ⟨b', o', x, ta, tl, tc, h1, h2, h3, h4⟩ := hG.at (i := j) (by omega)
    injection h1 with h1
    injection h1 with e1 e2
    subst e1 e2
    obtain ⟨h5, h6⟩ := h4 X hX
    exact ⟨x, ta, tl, tc, h2, h5, h6, samename_calls _ _ _ _ b on X ((hX.cell (p := ⟨b, 0, none⟩) hbl).trans hb)⟩
  have hni : (n : Int) ≤ 1000000 := by omega
  clear hG hb hbl
  go_enter Tryz.func111, Tryz.ntmps111
  go_wp2
  go_loopg [8] (n + 1) (fun gk v wr => ∃ j : Nat, j ≤ n ∧ n < j + gk ∧ v = .int .i64 (j : Int) ∧ (∀ (q : Nat) (x : Grp), q < j → gs[q]? = some x → (x.1.toList == on.toList) = false) ∧ Below w.heap.size w wr)
  case atStart => exact ⟨0, Nat.zero_le _, by omega, rfl, fun q x hq => by omega, Below.refl _ _⟩
  case round =>
    obtain ⟨j, hj, hgk, rfl, hT, hB⟩ := hrel
    by_cases hlt : j < n
    · obtain ⟨x, ta, tl, tc, hx, c0, c1, HC⟩ := HX.out wr j hB hlt
      have hii : (j : Int) < (n : Int) := by omega
      have hj0 : (0 : Int) ≤ (j : Int) := by omega
      have hd : decide ((j : Int) < (n : Int)) = true := by simpa using hii
      obtain ⟨r, hr⟩ : ∃ r, (x.1.toList == on.toList) = r := ⟨_, rfl⟩
      rw [hr] at HC
      have HB : Hid (gs[j]? = some x ∧ (x.1.toList == on.toList) = r ∧ (∀ (q : Nat) (x : Grp), q < j → gs[q]? = some x → (x.1.toList == on.toList) = false) ∧ Below w.heap.size w wr) := ⟨hx, hr, hT, hB⟩
      clear hT hB hx HX hr
      go_wp2_with fail
      refine HC.mono ?_
      rintro e W1 ⟨rfl, hB1⟩
      have HB1 : Hid (Below w.heap.size w W1) := HB.out.2.2.2.trans (hB1.mono HB.out.2.2.2.size)
      clear hB1 HC
      cases r with
      | true =>
        go_wp2
        go_ret
        exact ⟨(j : Int), rfl, ⟨fun _ => ⟨j, x, hlt, HB.out.1, HB.out.2.1⟩, fun _ => by omega⟩, HB1.out⟩
      | false =>
        go_wp2
        go_roundg (n - j)
        case measure => omega
        case rel => exact ⟨j + 1, by omega, by omega, by first | rfl | go_num, fun q y hq hy => by
          by_cases e : q = j
          · subst e
            rw [HB.out.1] at hy
            cases hy
            exact HB.out.2.1
          · exact HB.out.2.2.1 q y (by omega) hy, HB1.out⟩
    · obtain rfl : j = n := by omega
      have hd : decide ((j : Int) < (j : Int)) = false := by simp
      have HB : Hid ((∀ (q : Nat) (x : Grp), q < j → gs[q]? = some x → (x.1.toList == on.toList) = false) ∧ Below w.heap.size w wr) := ⟨hT, hB⟩
      clear hT hB HX
      go_wp2
      go_ret
      exact ⟨-1, rfl, ⟨fun h => by omega, fun ⟨q, x, h1, h2, h3⟩ => by rw [HB.out.1 q x h1 h2] at h3; cases h3⟩, HB.out.2⟩
set_option maxRecDepth 100000 in
theorem gcontains_calls (g o n c : Nat) (len : Nat) (gs : List Grp) (b : Nat) (on : ByteArray) (w : World) (hG : Groups w (some ⟨g, o, none⟩) len gs) (hn : n ≤ len) (hlen : len ≤ 1000000) (hb : w.cell? ⟨b, 0, none⟩ = some (.string on)) :
    Calls Tryz.prog 82 #[.slice (some ⟨g, o, none⟩) n c, .func (.func 80) #[] #[.pointer (some ⟨b, 0, none⟩)]] w fun e w' => ∃ r : Bool, e = .returned (.bool r) ∧ (r = true ↔ nameIn gs n on) ∧ Below w.heap.size w w' := by
  have HF := gindex_calls g o n c len gs b on w hG hn hlen hb
  clear hG hb
  go_enter Tryz.func82, Tryz.ntmps82
  go_wp2_with fail
  refine HF.mono ?_
  rintro e W ⟨i, rfl, h1, h2⟩
  have HE : Hid ((0 ≤ i ↔ nameIn gs n on) ∧ Below w.heap.size w W) := ⟨h1, h2⟩
  clear h1 h2 HF
  go_wp2
  go_ret
  exact ⟨decide (0 ≤ i), rfl, by rw [decide_eq_true_iff]; exact HE.out.1, HE.out.2⟩
/-- All names are letters, and none is there twice. -/
def RightN (gs : List Grp) : Prop := ∀ (i : Nat) (x : Grp), gs[i]? = some x → letters x.1 = true ∧ ¬ nameIn gs i x.1
set_option maxRecDepth 100000 in
set_option maxHeartbeats 600000 in
theorem rightnames_calls (g c : Nat) (len : Nat) (gs : List Grp) (w : World) (hG : Groups w (some ⟨g, 0, none⟩) len gs) (hlen : len ≤ 1000000) (hc : len ≤ c) (hc2 : c ≤ 9223372036854775807) (hsz : ∀ x ∈ gs, x.1.size ≤ 9223372036854775807) :
    Calls Tryz.prog 52 #[.slice (some ⟨g, 0, none⟩) len c] w fun e w' => ∃ r : Bool, e = .returned (.bool r) ∧ (r = true ↔ RightN gs) ∧ Below w.heap.size w w' := by
  have HX : Hid (∀ (X : World) (j : Nat), Below w.heap.size w X → j < len → ∃ x ta tl tc, gs[j]? = some x ∧ X.cell? ⟨g, j * 2, none⟩ = some (.string x.1) ∧ X.cell? ⟨g, j * 2 + 1, none⟩ = some (.slice ta tl tc) ∧ x.1.size ≤ 9223372036854775807) := fun X j hX hj => by
    obtain ⟨b', o', x, ta, tl, tc, h1, h2, h3, h4⟩ := hG.at (i := j) hj
    injection h1 with h1
    injection h1 with e1 e2
    subst e1 e2
    obtain ⟨h5, h6⟩ := h4 X hX
    rw [Nat.zero_add] at h5 h6
    exact ⟨x, ta, tl, tc, h2, h5, h6, hsz x (List.mem_of_getElem? h2)⟩
  have HGC : Hid (∀ (X : World) (j b cc : Nat) (on : ByteArray), Below w.heap.size w X → j ≤ len → X.cell? ⟨b, 0, none⟩ = some (.string on) → Calls Tryz.prog 82 #[.slice (some ⟨g, 0, none⟩) j cc, .func (.func 80) #[] #[.pointer (some ⟨b, 0, none⟩)]] X fun e w' => ∃ r : Bool, e = .returned (.bool r) ∧ (r = true ↔ nameIn gs j on) ∧ Below X.heap.size X w') := fun X j b cc on hX hj hb => gcontains_calls g 0 j cc len gs b on X (hG.below hX) hj hlen hb
  have HLL : Hid (gs.length = len) := hG.1
  have hli : (len : Int) ≤ 1000000 := by omega
  have hlc : (len : Int) ≤ (c : Int) := by omega
  have hci : (c : Int) ≤ 9223372036854775807 := by omega
  clear hG hsz
  go_enter Tryz.func52, Tryz.ntmps52
  go_wp2
  go_loopg [8] (len + 1) (fun gk v wr => ∃ j : Nat, j ≤ len ∧ len < j + gk ∧ v = .int .i64 (j : Int) ∧ (∀ (i : Nat) (x : Grp), i < j → gs[i]? = some x → letters x.1 = true ∧ ¬ nameIn gs i x.1) ∧ Below w.heap.size w wr)
  case atStart => exact ⟨0, Nat.zero_le _, by omega, rfl, fun q x hq => by omega, Below.refl _ _⟩
  case round =>
    obtain ⟨j, hj, hgk, rfl, hT, hB⟩ := hrel
    by_cases hlt : j < len
    · obtain ⟨x, ta, tl, tc, hx, c0, c1, hxs⟩ := HX.out wr j hB hlt
      have hii : (j : Int) < (len : Int) := by omega
      have hj0 : (0 : Int) ≤ (j : Int) := by omega
      have hd : decide ((j : Int) < (len : Int)) = true := by simpa using hii
      have hjc : (j : Int) ≤ (c : Int) := by omega
      have hjcn : j ≤ c := by omega
      obtain ⟨V0, hV0⟩ : ∃ V0, V0 = wr.alloc (.cells #[.string x.1, .slice ta tl tc] 59) := ⟨_, rfl⟩
      have hBV : Below wr.heap.size wr V0 := by rw [hV0]; exact (Below.refl _ wr).alloc (Nat.le_refl _) _
      have m0 : V0.heap[wr.heap.size]? = some (.cells #[.string x.1, .slice ta tl tc] 59 (0, 0)) := by rw [hV0]; exact World.alloc_heap_new wr _
      have hlt0 : wr.heap.size < V0.heap.size := (Array.getElem?_eq_some_iff.1 m0).1
      have HKS : Hid (∀ X : World, Below V0.heap.size V0 X → X.cell? ⟨wr.heap.size, 0, none⟩ = some (.string x.1)) := fun X hX => by
        have mX := (hX.block _ hlt0).trans m0
        exact cell_of_row X wr.heap.size 0 _ _ _ mX
      have HVB : Hid (Below w.heap.size w V0) := hB.trans (hBV.mono hB.size)
      have HNM := sname_calls x.1 hxs V0
      have HV0 : Hid (wr.alloc (.cells #[.string x.1, .slice ta tl tc] 59) = V0) := hV0.symm
      have HB : Hid (gs[j]? = some x ∧ (∀ (i : Nat) (x : Grp), i < j → gs[i]? = some x → letters x.1 = true ∧ ¬ nameIn gs i x.1)) := ⟨hx, hT⟩
      have k0 := HKS.out V0 (Below.refl _ _)
      obtain ⟨r, hr⟩ : ∃ r, letters x.1 = r := ⟨_, rfl⟩
      rw [hr] at HNM
      have HR : Hid (letters x.1 = r) := hr
      clear hT hB hx HX hr hV0 m0 hlt0 hBV hxs
      go_wp2_with fail
      rw [HV0.out]
      refine HNM.mono ?_
      rintro e W1 ⟨rfl, hB1⟩
      have HB1 : Hid (Below w.heap.size w W1) := HVB.out.trans (hB1.mono HVB.out.size)
      have k1 := HKS.out W1 hB1
      have HCC := HGC.out W1 j wr.heap.size c x.1 HB1.out hj k1
      clear hB1 HNM
      cases r with
      | false =>
        clear HCC
        go_wp2
        go_ret
        exact ⟨false, rfl, ⟨fun h => (by cases h), fun h => by
          have := (h j x HB.out.1).1
          rw [HR.out] at this
          cases this⟩, HB1.out⟩
      | true =>
        go_wp2_with fail
        refine HCC.mono ?_
        rintro e W2 ⟨r2, rfl, hr2, hB2⟩
        have HB2 : Hid (Below w.heap.size w W2) := HB1.out.trans (hB2.mono HB1.out.size)
        have HR2 : Hid (r2 = true ↔ nameIn gs j x.1) := hr2
        clear hB2 hr2 HCC
        cases r2 with
        | true =>
          go_wp2
          go_ret
          exact ⟨false, rfl, ⟨fun h => (by cases h), fun h => absurd (HR2.out.1 (by first | rfl | trivial)) (h j x HB.out.1).2⟩, HB2.out⟩
        | false =>
          go_wp2
          go_roundg (len - j)
          case measure => omega
          case rel => exact ⟨j + 1, by omega, by omega, by first | rfl | go_num, fun q y hq hy => by
            by_cases e : q = j
            · subst e
              rw [HB.out.1] at hy
              cases hy
              exact ⟨HR.out, fun h => by cases HR2.out.2 h⟩
            · exact HB.out.2 q y (by omega) hy, HB2.out⟩
    · obtain rfl : j = len := by omega
      have hd : decide ((j : Int) < (j : Int)) = false := by simp
      have HB : Hid (RightN gs ∧ Below w.heap.size w wr) := ⟨fun i x hx => hT i x (by have := (List.getElem?_eq_some_iff.1 hx).1; have := HLL.out; omega) hx, hB⟩
      clear hT hB HX
      go_wp2
      go_ret
      exact ⟨true, rfl, ⟨fun _ => HB.out.1, fun _ => rfl⟩, HB.out.2⟩
end Go.Proofs.YtgkplmnhmobnnaaGreatDoor

/- KindsF: schema's kindsOf at every slice of types: the whole and the types, whose trees are not read yet, in memory of their own. -/
namespace Go.Proofs.YtgkplmnhmobnnaaGreatDoor
open Go.RowKit

set_option maxRecDepth 100000 in
set_option maxHeartbeats 300000 in
theorem kindsof_calls (a : Option Addr) (len cap : Nat) (l : List SpecD) (w : World) (hl : Specs w a len l) (hsz : len ≤ 15) :
    Calls Tryz.prog 46 #[.slice a len cap] w fun e w' => ∃ g c, e = .returned (.slice (some ⟨g, 0, none⟩) (len + 1) c) ∧ w'.ownsRow w.heap.size 76 10 (.slice (some ⟨g, 0, none⟩) (len + 1) c) (bareK zeroS :: l.map bareK).length (flatK (bareK zeroS :: l.map bareK)) ∧ Below w.heap.size w w' := by
  have HS : Hid (∀ (X : World) (i : Nat), Below w.heap.size w X → i < len → ∃ b o x, a = some ⟨b, o, none⟩ ∧ l[i]? = some x ∧ SpecAt X b (o + i * 7) x) := fun X i hX hi => by
    obtain ⟨b, o, x, h1, _, h2, h3⟩ := hl.at hi
    exact ⟨b, o, x, h1, h2, h3 X hX⟩
  have HLL : Hid (l.length = len) := hl.1
  have HB0 : Hid (Below w.heap.size w (w.alloc (.cells (kindC (bareK zeroS)).toArray 76))) := (Below.refl _ w).alloc (Nat.le_refl _) _
  have HO0 : Hid ((w.alloc (.cells (kindC (bareK zeroS)).toArray 76)).ownsRow w.heap.size 76 10 (.slice (some ⟨w.heap.size, 0, none⟩) 1 1) 1 (flatK [bareK zeroS])) := ⟨rfl, .inr ⟨w.heap.size, 1, _, rfl, Nat.le_refl _, World.alloc_heap_new w _, Nat.le_refl _, by unfold maxLen; omega, rfl, rfl⟩⟩
  have hsi : (len : Int) ≤ 15 := by omega
  clear hl
  go_enter Tryz.func46, Tryz.ntmps46
  go_wp2
  go_loopg [3, 10] (len + 1) (fun gk u v wr => ∃ (i : Nat) (g c : Nat), i ≤ len ∧ len < i + gk ∧ u = .slice (some ⟨g, 0, none⟩) (i + 1) c ∧ v = .int .i64 (i : Int) ∧ wr.ownsRow w.heap.size 76 10 (.slice (some ⟨g, 0, none⟩) (i + 1) c) (bareK zeroS :: (l.take i).map bareK).length (flatK (bareK zeroS :: (l.take i).map bareK)) ∧ Below w.heap.size w wr)
  case atStart => exact ⟨0, _, _, Nat.zero_le _, by omega, rfl, rfl, by rw [List.take_zero]; exact HO0.out, HB0.out⟩
  case round =>
    obtain ⟨i, g, c, hi, hgk, rfl, rfl, hown, hB⟩ := hrel
    clear HO0 HB0
    by_cases hlt : i < len
    · obtain ⟨b, o, x, rfl, hx, c0, c1, c2, c3, c4, c5, c6⟩ := HS.out wr i hB hlt
      have hii : (i : Int) < (len : Int) := by omega
      have hi0 : (0 : Int) ≤ (i : Int) := by omega
      have hd : decide ((i : Int) < (len : Int)) = true := by simpa using hii
      have hB1 : Below wr.heap.size wr (wr.alloc (.cells (specC x).toArray 34)) := (Below.refl _ wr).alloc (Nat.le_refl _) _
      have hB2 : Below wr.heap.size wr ((wr.alloc (.cells (specC x).toArray 34)).alloc (.cells (kindC (bareK x)).toArray 76)) := hB1.alloc hB1.size _
      have hlenk : (bareK zeroS :: (l.take i).map bareK).length = i + 1 := by rw [List.length_cons, List.length_map, List.length_take]; have := HLL.out; omega
      obtain ⟨g', cap', W1, hrun, hown', hBW⟩ := kind_put _ w.heap.size _ _ (owns_same hown fun k hk => hB2.block k (owns_lt hown hk).1) (bareK x) (by omega) (by have := hB2.size; have := hB.size; omega) (wr.alloc (.cells (specC x).toArray 34)).heap.size 1 (ten_new (wr.alloc (.cells (specC x).toArray 34)) _ _)
      have htk : l.take (i + 1) = l.take i ++ [x] := by rw [List.take_add_one, hx]; rfl
      have HN : Hid (W1.ownsRow w.heap.size 76 10 (.slice (some ⟨g', 0, none⟩) (i + 1 + 1) cap') (bareK zeroS :: (l.take (i + 1)).map bareK).length (flatK (bareK zeroS :: (l.take (i + 1)).map bareK)) ∧ Below w.heap.size w W1) := by
        refine ⟨?_, (hB.trans (hB2.mono hB.size)).trans hBW⟩
        rw [htk, List.map_append, List.map_singleton]
        rw [hlenk] at hown'
        exact hown'
      rw [hlenk, World.size_alloc] at hrun
      have HRUN : Hid ((Builtin.append_ #[79, 79] 79 #[.slice (some ⟨g, 0, none⟩) (i + 1) c, .slice (some ⟨wr.heap.size + 1, 0, none⟩) 1 1]).run Tryz.prog ((wr.alloc (.cells #[.string x.name, .string x.expr, .bool x.leaf, .int .i64 x.marks, .int .i64 x.least, .int .i64 x.most, .bool x.lines] 34)).alloc (.cells #[.string x.name, .string x.expr, .bool x.leaf, .int .i64 x.marks, .int .i64 x.least, .int .i64 x.most, .bool x.lines, .int .i64 0, .string ⟨#[]⟩, .slice none 0 0] 76)) = .ok (.slice (some ⟨g', 0, none⟩) (i + 1 + 1) cap') W1) := hrun
      clear hown hB hB1 hB2 hBW hown' hrun htk HS hlenk hx
      go_wp2_with (first
        | (at_builtin; trace_state; refine wpList_run_append rfl (.tmp 14) (.tmp 17) 79 rfl _ _ _ _ rfl rfl HRUN.out ?_)
        | fail)
      go_roundg (len - i)
      case measure => omega
      case rel => exact ⟨i + 1, g', cap', by omega, by omega, rfl, by first | rfl | go_num, HN.out⟩
    · obtain rfl : i = len := by omega
      have hd : decide ((i : Int) < (i : Int)) = false := by simp
      have HN : Hid (wr.ownsRow w.heap.size 76 10 (.slice (some ⟨g, 0, none⟩) (i + 1) c) (bareK zeroS :: l.map bareK).length (flatK (bareK zeroS :: l.map bareK)) ∧ Below w.heap.size w wr) := by
        rw [List.take_of_length_le (by have := HLL.out; omega)] at hown
        exact ⟨hown, hB⟩
      clear hown hB HS
      go_wp2
      go_ret
      exact ⟨g, c, rfl, HN.out⟩
end Go.Proofs.YtgkplmnhmobnnaaGreatDoor
