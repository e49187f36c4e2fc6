/-
  PROVED HERE: script.Print at every act: its line, or an error.
-/
import Derived.Test.YtmkcdkfjomaidaaDoorSLine
import Derived.Test.YtmkcdkfjomaidaaDoorSSame
namespace Go.Proofs.YtmkcdkfjomaidaaDoor
open Go.RowKit

def lineS (t : Shp) (a c d n : Int) : ByteArray := ⟨(lineP t a c d n).toArray⟩

theorem of_list {s : ByteArray} {l : List UInt8} (h : s.data.toList = l) : s = ⟨l.toArray⟩ := by
  subst h
  rfl

/-- Its line is read as an act with the same numbers. -/
def Backs (t : Shp) (a c d n : Int) : Prop := ∃ k b, actW (five (lineS t a c d n)) = some (actC k a b c d n)

open Classical in
/-- The line of the first shape of these two numbers that is read so. -/
noncomputable def seekP (k a b c d n : Int) (bl : Nat) : List Shp → Option ByteArray
  | [] => none
  | t :: l => if (t.k = k ∧ t.b = b) ∧ Backs t a c d n ∧ bl = 0 then some (lineS t a c d n) else seekP k a b c d n bl l

theorem seekP_skip {k a b c d n : Int} {bl : Nat} {t : Shp} {l : List Shp} (h : ¬ ((t.k = k ∧ t.b = b) ∧ Backs t a c d n ∧ bl = 0)) : seekP k a b c d n bl (t :: l) = seekP k a b c d n bl l := by
  rw [seekP, if_neg h]
theorem seekP_hit {k a b c d n : Int} {bl : Nat} {t : Shp} {l : List Shp} (h : (t.k = k ∧ t.b = b) ∧ Backs t a c d n ∧ bl = 0) : seekP k a b c d n bl (t :: l) = some (lineS t a c d n) := by
  rw [seekP, if_pos h]

theorem tab_word {t : Shp} (h : t ∈ tab) : t.word.size ≤ 10 := by
  have h1 : tab.all (fun t => decide (t.word.size ≤ 10)) = true := by decide
  simpa using List.all_eq_true.1 h1 t h

theorem tail_len (a c d n : Int) (ha : I64 a) (hc : I64 c) (hd : I64 d) (hn : I64 n) : ∀ fs : List UInt8, (tail a c d n fs).length ≤ 22 * fs.length
  | [] => by simp [tail]
  | l :: fs => by
    have ih := tail_len a c d n ha hc hd hn fs
    have hz := numAt_i64 ha hc hd hn l
    have := Lib.itoa_length_le _ hz.1 hz.2
    unfold tail at *
    rw [List.flatMap_cons, List.length_append, List.length_cons, List.length_cons]
    omega
theorem lineS_size {t : Shp} (h : t ∈ tab) {a c d n : Int} (ha : I64 a) (hc : I64 c) (hd : I64 d) (hn : I64 n) : (lineS t a c d n).size ≤ 281474976710656 := by
  have h1 := tail_len a c d n ha hc hd hn t.fs.data.toList
  have h2 := tab_word h
  have h3 := (tab_asc h).2
  have e1 : t.fs.data.toList.length = t.fs.size := rfl
  have e2 : t.word.data.toList.length = t.word.size := rfl
  have e : (lineS t a c d n).size = (lineP t a c d n).length := by unfold lineS; exact List.size_toArray
  rw [e]
  unfold lineP
  rw [List.length_append]
  omega

theorem actC_inj {k a b c d n k' a' b' c' d' n' : Int} (h : actC k a b c d n = actC k' a' b' c' d' n') : k = k' ∧ a = a' ∧ b = b' ∧ c = c' ∧ d = d' ∧ n = n' := by
  unfold actC at h
  simp at h
  obtain ⟨h1, h2, h3, h4, h5, h6⟩ := h
  exact ⟨h1, h2, h3, h4, h5, h6⟩
theorem actW_act {l : List ByteArray} {cs : Array Value} (h : actW l = some cs) : ∃ k a b c d n, cs = actC k a b c d n := by
  cases l with
  | nil => cases h
  | cons x r => exact seek_act x r tab cs h

set_option maxRecDepth 100000 in
set_option maxHeartbeats 2000000 in
theorem print_calls (k a b c d n : Int) (bp : Option Addr) (bl bc : Nat) (ha : I64 a) (hc : I64 c) (hd : I64 d) (hn : I64 n) (w : World) (hE : Env w) :
    Calls Tryd.prog 7 #[.agg #[.int .i64 k, .int .i64 a, .int .i64 b, .int .i64 c, .int .i64 d, .int .i64 n, .slice bp bl bc]] w fun e w' =>
      (∀ s, seekP k a b c d n bl tab = some s → e = .returned (.tuple #[.string s, .int .i64 0])) ∧ (seekP k a b c d n bl tab = none → e = .returned (.tuple #[.string ⟨#[]⟩, .int .i64 1])) ∧ Below w.heap.size w w' := by
  obtain ⟨F, hF⟩ : ∃ F, F = seekP k a b c d n bl tab := ⟨_, rfl⟩
  rw [← hF]
  have HF := hide_ hF
  have HE := hide_ hE
  have HI : Hid (I64 a ∧ I64 c ∧ I64 d ∧ I64 n) := ⟨ha, hc, hd, hn⟩
  clear hF hE ha hc hd hn
  go_enter Tryd.func7, Tryd.ntmps7
  go_wp2_with fail
  refine (shapes_calls _).mono ?_
  rintro e W2 ⟨rfl, hW2⟩
  have HK : Hid (Below w.heap.size w W2 ∧ W2.heap.size = w.heap.size + 2 ∧ W2.heap[w.heap.size]? = some (.cells #[.int .i64 k, .int .i64 a, .int .i64 b, .int .i64 c, .int .i64 d, .int .i64 n, .slice bp bl bc] 24 (0, 0)) ∧ W2.heap[w.heap.size + 1]? = some (.cells tabC 44 (0, 0))) := by
    have h0 : Below w.heap.size w (w.alloc (.cells #[.int .i64 k, .int .i64 a, .int .i64 b, .int .i64 c, .int .i64 d, .int .i64 n, .slice bp bl bc] 24)) := (Below.refl _ w).alloc (Nat.le_refl _) _
    have hz : (w.alloc (.cells #[.int .i64 k, .int .i64 a, .int .i64 b, .int .i64 c, .int .i64 d, .int .i64 n, .slice bp bl bc] 24)).heap[w.heap.size]? = some (.cells #[.int .i64 k, .int .i64 a, .int .i64 b, .int .i64 c, .int .i64 d, .int .i64 n, .slice bp bl bc] 24 (0, 0)) := World.alloc_heap_new w _
    have hs : (w.alloc (.cells #[.int .i64 k, .int .i64 a, .int .i64 b, .int .i64 c, .int .i64 d, .int .i64 n, .slice bp bl bc] 24)).heap.size = w.heap.size + 1 := World.size_alloc _ _
    generalize w.alloc (.cells #[.int .i64 k, .int .i64 a, .int .i64 b, .int .i64 c, .int .i64 d, .int .i64 n, .slice bp bl bc] 24) = V at *
    subst hW2
    refine ⟨h0.alloc h0.size _, by rw [World.size_alloc]; omega, (Below.heap_alloc V _ _ (by omega)).trans hz, ?_⟩
    rw [← hs]
    exact World.alloc_heap_new V _
  clear hW2
  have HX : Hid (∀ V, Below W2.heap.size W2 V → Env V ∧ w.heap.size + 1 < V.heap.size ∧ V.heap[w.heap.size]? = some (.cells #[.int .i64 k, .int .i64 a, .int .i64 b, .int .i64 c, .int .i64 d, .int .i64 n, .slice bp bl bc] 24 (0, 0))) := fun V hV =>
    ⟨(HE.out.new HK.out.1).below hV (by have := HE.out.big; have := HK.out.2.1; omega), by have := hV.size; have := HK.out.2.1; omega, (hV.block _ (by have := HK.out.2.1; omega)).trans HK.out.2.2.1⟩
  go_wp2_with fail
  go_loopg [11] 16 (fun gk u wr => ∃ i : Nat, u = .int .i64 (i : Int) ∧ i ≤ 15 ∧ 15 < i + gk ∧ Hid (F = seekP k a b c d n bl (tab.drop i) ∧ Below W2.heap.size W2 wr))
  case atStart => exact ⟨0, rfl, Nat.zero_le _, by omega, HF.out, Below.refl _ _⟩
  case round =>
    obtain ⟨i, rfl, hi, hgk, HR⟩ := hrel
    have hi0 : (0 : Int) ≤ (i : Int) := by omega
    by_cases hlt : i < 15
    · have hii : (i : Int) < 15 := by omega
      obtain ⟨t, ht⟩ : ∃ t, tab[i]? = some t := ⟨_, List.getElem?_eq_getElem (by rw [tab_length]; exact hlt)⟩
      have htm := List.mem_of_getElem? ht
      have hdr : tab.drop i = t :: tab.drop (i + 1) := by
        rw [List.drop_eq_getElem_cons (by rw [tab_length]; exact hlt)]
        congr 1
        exact (List.getElem?_eq_some_iff.1 ht).2
      obtain ⟨d0, d1, d2, d3⟩ := tabC_at i t ht
      have hg2 : wr.heap[w.heap.size + 1]? = some (.cells tabC 44 (0, 0)) := (HR.out.2.block _ (by have := HK.out.2.1; omega)).trans HK.out.2.2.2
      have c0 := (cell_of_row wr (w.heap.size + 1) (i * 4) _ _ _ hg2).trans d0
      have c1 := (cell_of_row wr (w.heap.size + 1) (i * 4 + 1) _ _ _ hg2).trans d1
      have c2 := (cell_of_row wr (w.heap.size + 1) (i * 4 + 2) _ _ _ hg2).trans d2
      have c3 := (cell_of_row wr (w.heap.size + 1) (i * 4 + 3) _ _ _ hg2).trans d3
      obtain ⟨hEr, hlr, hrow⟩ := HX.out wr HR.out.2
      have hlr' : w.heap.size < wr.heap.size := by omega
      have m0 : wr.cell? ⟨w.heap.size, 0, none⟩ = some (.int .i64 k) := cell_of_row wr w.heap.size 0 _ _ _ hrow
      have m2 : wr.cell? ⟨w.heap.size, 2, none⟩ = some (.int .i64 b) := cell_of_row wr w.heap.size 2 _ _ _ hrow
      have HTM := hide_ htm
      have HEr := hide_ hEr
      have HDR := hide_ hdr
      clear d0 d1 d2 d3 hg2 ht htm hEr hdr
      by_cases hk : t.k = k
      · by_cases hb : t.b = b
        · subst hk hb
          have m1 : wr.cell? ⟨w.heap.size, 1, none⟩ = some (.int .i64 a) := cell_of_row wr w.heap.size 1 _ _ _ hrow
          have m3 : wr.cell? ⟨w.heap.size, 3, none⟩ = some (.int .i64 c) := cell_of_row wr w.heap.size 3 _ _ _ hrow
          have m4 : wr.cell? ⟨w.heap.size, 4, none⟩ = some (.int .i64 d) := cell_of_row wr w.heap.size 4 _ _ _ hrow
          have m5 : wr.cell? ⟨w.heap.size, 5, none⟩ = some (.int .i64 n) := cell_of_row wr w.heap.size 5 _ _ _ hrow
          have m6 : wr.cell? ⟨w.heap.size, 6, none⟩ = some (.slice bp bl bc) := cell_of_row wr w.heap.size 6 _ _ _ hrow
          have HB1 : Hid (Below W2.heap.size W2 (wr.alloc (.cells #[.string t.word, .string t.fs, .int .i64 t.k, .int .i64 t.b] 44))) := HR.out.2.alloc HR.out.2.size _
          obtain ⟨ta, tf⟩ := tab_asc HTM.out
          have HL := hide_ (line_calls t t.k a t.b c d n bp bl bc ta tf (tab_word HTM.out) HI.out.1 HI.out.2.1 HI.out.2.2.1 HI.out.2.2.2 (wr.alloc (.cells #[.string t.word, .string t.fs, .int .i64 t.k, .int .i64 t.b] 44)) (HX.out _ HB1.out).1)
          have HZS := hide_ (lineS_size HTM.out HI.out.1 HI.out.2.1 HI.out.2.2.1 HI.out.2.2.2)
          have HR1 : Hid (F = seekP t.k a t.b c d n bl (t :: tab.drop (i + 1))) := by have := HR.out.1; rw [HDR.out] at this; exact this
          clear HR HDR ta tf hrow
          go_wp2_with fail
          refine HL.out.mono ?_
          rintro e W3 ⟨s, rfl, hsl, hB3⟩
          obtain hss : s = lineS t a c d n := of_list hsl
          have HB3 := hide_ (HB1.out.trans (hB3.mono HB1.out.size))
          have HSS := hide_ hss
          have hsz : s.size ≤ 281474976710656 := by rw [hss]; exact HZS.out
          clear hsl hss hB3 HL
          go_wp2_with fail
          refine (act_calls s hsz W3 (HX.out _ HB3.out).1).mono ?_
          rintro e W4 ⟨hyes, hno, hB4⟩
          have HB4 := hide_ (HB3.out.trans (hB4.mono HB3.out.size))
          obtain ⟨hE4, hl4, hrow4⟩ := HX.out W4 HB4.out
          have hl4' : w.heap.size < W4.heap.size := by omega
          have n0 : W4.cell? ⟨w.heap.size, 0, none⟩ = some (.int .i64 t.k) := cell_of_row W4 w.heap.size 0 _ _ _ hrow4
          have n1 : W4.cell? ⟨w.heap.size, 1, none⟩ = some (.int .i64 a) := cell_of_row W4 w.heap.size 1 _ _ _ hrow4
          have n2 : W4.cell? ⟨w.heap.size, 2, none⟩ = some (.int .i64 t.b) := cell_of_row W4 w.heap.size 2 _ _ _ hrow4
          have n3 : W4.cell? ⟨w.heap.size, 3, none⟩ = some (.int .i64 c) := cell_of_row W4 w.heap.size 3 _ _ _ hrow4
          have n4 : W4.cell? ⟨w.heap.size, 4, none⟩ = some (.int .i64 d) := cell_of_row W4 w.heap.size 4 _ _ _ hrow4
          have n5 : W4.cell? ⟨w.heap.size, 5, none⟩ = some (.int .i64 n) := cell_of_row W4 w.heap.size 5 _ _ _ hrow4
          have n6 : W4.cell? ⟨w.heap.size, 6, none⟩ = some (.slice bp bl bc) := cell_of_row W4 w.heap.size 6 _ _ _ hrow4
          have HBK : Hid (Backs t a c d n ↔ ∃ k b, actW (five s) = some (actC k a b c d n)) := by
            show _ ↔ _
            rw [HSS.out]
            exact Iff.rfl
          clear hE4 hrow4 hB4
          generalize hq : actW (five s) = q at *
          cases q with
          | none =>
            obtain rfl := hno rfl
            have HN : Hid (F = seekP t.k a t.b c d n bl (tab.drop (i + 1)) ∧ ∀ o1, Below W2.heap.size W2 (W4.alloc o1)) :=
              ⟨by have := HR1.out; rw [seekP_skip (fun e => by obtain ⟨_, _, e2⟩ := HBK.out.1 e.2.1; cases e2)] at this; exact this, fun o1 => HB4.out.alloc HB4.out.size o1⟩
            unfold actC
            clear hyes hno hq HBK HR1
            go_wp2_with fail
            go_roundg (15 - i)
            case measure => omega
            case rel => exact ⟨i + 1, by first | rfl | go_num, by omega, by omega, HN.out.1, HN.out.2 _⟩
          | some cs =>
            obtain ⟨k', a', b', c', d', n', rfl⟩ := actW_act hq
            obtain rfl := hyes _ _ _ _ _ _ rfl
            have HB5 : Hid (∀ o1, Below W2.heap.size W2 (W4.alloc o1)) := fun o1 => HB4.out.alloc HB4.out.size o1
            have HBL : Hid (Backs t a c d n ↔ (a' = a ∧ c' = c ∧ d' = d ∧ n' = n)) := by
              refine HBK.out.trans ⟨?_, ?_⟩
              · rintro ⟨_, _, e⟩
                obtain ⟨_, h1, _, h2, h3, h4⟩ := actC_inj (Option.some.inj e)
                exact ⟨h1, h2, h3, h4⟩
              · rintro ⟨rfl, rfl, rfl, rfl⟩
                exact ⟨_, _, rfl⟩
            unfold actC
            clear hyes hno hq HBK
            go_wp2_with fail
            refine (numbers_calls _ _ _ _ _ _ _ _ _ _ _ _ _ _ _ _ _ _ _).mono ?_
            rintro e W5 ⟨ok, rfl, hok, hB5⟩
            have HB6 := hide_ ((HB5.out _).trans (hB5.mono (HB5.out _).size))
            obtain ⟨hE6, hl6, hrow6⟩ := HX.out W5 HB6.out
            have n6' : W5.cell? ⟨w.heap.size, 6, none⟩ = some (.slice bp bl bc) := cell_of_row W5 w.heap.size 6 _ _ _ hrow6
            clear hE6 hrow6 hB5 HB5
            cases ok with
            | false =>
              have HN : Hid (F = seekP t.k a t.b c d n bl (tab.drop (i + 1))) := by
                have := HR1.out
                rw [seekP_skip (fun e => by have := hok.2 (HBL.out.1 e.2.1); cases this)] at this
                exact this
              clear hok HBL HR1
              go_wp2_with fail
              go_roundg (15 - i)
              case measure => omega
              case rel => exact ⟨i + 1, by first | rfl | go_num, by omega, by omega, HN.out, HB6.out⟩
            | true =>
              have hb := HBL.out.2 (hok.1 rfl)
              by_cases hbl : bl = 0
              · have HN : Hid (F = some s ∧ Below w.heap.size w W5) := by
                  have := HR1.out
                  rw [seekP_hit ⟨⟨rfl, rfl⟩, hb, hbl⟩] at this
                  exact ⟨by rw [this, HSS.out], HK.out.1.trans (HB6.out.mono HK.out.1.size)⟩
                have hbi : (bl : Int) = 0 := by omega
                clear hok HBL HR1 hb hbl
                go_wp2_with fail
                go_ret2
                obtain ⟨h1, h2⟩ := HN.out
                subst h1
                exact ⟨fun s' e => by cases e; rfl, fun e => (by cases e), h2⟩
              · have HN : Hid (F = seekP t.k a t.b c d n bl (tab.drop (i + 1))) := by
                  have := HR1.out
                  rw [seekP_skip (fun e => hbl e.2.2)] at this
                  exact this
                have hbi : ¬ ((bl : Int) = 0) := by omega
                clear hok HBL HR1 hb hbl
                go_wp2_with fail
                go_roundg (15 - i)
                case measure => omega
                case rel => exact ⟨i + 1, by first | rfl | go_num, by omega, by omega, HN.out, HB6.out⟩
        · have HN : Hid (F = seekP k a b c d n bl (tab.drop (i + 1)) ∧ ∀ o1, Below W2.heap.size W2 (wr.alloc o1)) :=
            ⟨by have := HR.out.1; rw [HDR.out, seekP_skip (fun e => hb e.1.2)] at this; exact this, fun o1 => HR.out.2.alloc HR.out.2.size o1⟩
          clear HR HDR
          go_wp2_with fail
          go_roundg (15 - i)
          case measure => omega
          case rel => exact ⟨i + 1, by first | rfl | go_num, by omega, by omega, HN.out.1, HN.out.2 _⟩
      · have HN : Hid (F = seekP k a b c d n bl (tab.drop (i + 1)) ∧ ∀ o1, Below W2.heap.size W2 (wr.alloc o1)) :=
          ⟨by have := HR.out.1; rw [HDR.out, seekP_skip (fun e => hk e.1.1)] at this; exact this, fun o1 => HR.out.2.alloc HR.out.2.size o1⟩
        clear HR HDR
        go_wp2_with fail
        go_roundg (15 - i)
        case measure => omega
        case rel => exact ⟨i + 1, by first | rfl | go_num, by omega, by omega, HN.out.1, HN.out.2 _⟩
    · obtain rfl : i = 15 := by omega
      have HP : Hid (F = none ∧ Below w.heap.size w wr) := ⟨HR.out.1, HK.out.1.trans (HR.out.2.mono HK.out.1.size)⟩
      clear HR HF
      go_wp2_with fail
      go_ret2
      obtain ⟨h1, h2⟩ := HP.out
      subst h1
      exact ⟨fun _ e => (by cases e), fun _ => rfl, h2⟩
end Go.Proofs.YtmkcdkfjomaidaaDoor
