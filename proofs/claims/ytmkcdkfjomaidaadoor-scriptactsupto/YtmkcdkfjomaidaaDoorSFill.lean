/-
  PROVED HERE: script.fill: the words' numbers in the cells of an act that the letters mean.
-/
import Derived.Test.YtmkcdkfjomaidaaDoorSNum
import Derived.Test.YtmkcdkfjomaidaaDoorSSplit
import Derived.Test.YtmkcdkfjomaidaaDoorSStart
namespace Go.Proofs.YtmkcdkfjomaidaaDoor
open Go.RowKit

/-- The cells with the words' numbers where the letters mean; none, if a word is no number, or there are not just as many. -/
def fillP : Array Value → List UInt8 → List ByteArray → Option (Array Value)
  | cs, [], [] => some cs
  | cs, c :: L, x :: r => match pnum x.data.toList with
    | some v => fillP (cs.setIfInBounds (off (c.toNat : Int)) (.int .i64 v)) L r
    | none => none
  | _, [], _ :: _ => none
  | _, _ :: _, [] => none

theorem fillP_len : ∀ (L : List UInt8) (ws : List ByteArray) (cs : Array Value), L.length ≠ ws.length → fillP cs L ws = none
  | [], [], _, h => absurd rfl h
  | [], _ :: _, _, _ => rfl
  | _ :: _, [], _, _ => rfl
  | c :: L, x :: r, cs, h => by
    unfold fillP
    split
    · exact fillP_len L r _ (fun e => h (by simp [e]))
    · rfl

theorem off_lt (c : Int) : off c < 6 := by
  unfold off
  split
  · omega
  · split
    · omega
    · split <;> omega

theorem owns_ptr {W : World} {base n : Nat} {v : Value} {b : Nat} {L : List UInt8} (h : W.ownsRow base 61 1 v n (ptrs b L)) (hn : 1 ≤ n) : ∃ g cap, v = .slice (some ⟨g, 0, none⟩) n cap ∧ base ≤ g ∧ g < W.heap.size ∧ ∀ i c, L[i]? = some c → W.cell? ⟨g, i, none⟩ = some (.pointer (some ⟨b, off (c.toNat : Int), none⟩)) := by
  rcases h.2 with ⟨_, rfl⟩ | ⟨g, cap, cur, rfl, hb, hg, hc1, hc2, hc3, hc4⟩
  · omega
  · refine ⟨g, cap, rfl, hb, (Array.getElem?_eq_some_iff.1 hg).1, fun i c hi => ?_⟩
    have h1 : (ptrs b L)[i]? = some (.pointer (some ⟨b, off (c.toNat : Int), none⟩)) := by
      unfold ptrs
      rw [List.getElem?_map, hi]
      rfl
    rw [← hc4, List.getElem?_take] at h1
    split at h1
    · simp only [World.cell?]
      rw [hg]
      rw [Array.getElem?_toList] at h1
      simpa using h1
    · cases h1

set_option maxRecDepth 100000 in
set_option maxHeartbeats 1000000 in
theorem fill_calls (a : Option Addr) (n cap : Nat) (ws : List ByteArray) (hn : ws.length = n) (hws : ∀ x ∈ ws, x.size ≤ 281474976710656) (v : Value) (m : Nat) (L : List UInt8) (base b0 bw : Nat) (cs : Array Value) (hcs : cs.size = 7) (w : World) (hE : Env w) (hS : Strs w bw a ws)
    (hown : w.ownsRow base 61 1 v m (ptrs b0 L)) (hb : w.heap[b0]? = some (.cells cs 24 (0, 0))) (h4 : 4 ≤ b0) (hbb : b0 < base) (hbw : bw ≠ b0) (hm : m ≤ 4) :
    Calls Tryd.prog 13 #[.slice a n cap, v] w fun e w' => ∃ r, e = .returned (.bool r) ∧ But (· = b0) w w' ∧ (∀ cs', fillP cs L ws = some cs' → r = true ∧ w'.heap[b0]? = some (.cells cs' 24 (0, 0))) ∧ (fillP cs L ws = none → r = false) := by
  have hL : L.length = m := by have := hown.1; simpa [ptrs] using this
  have hv : ∃ ga c, v = .slice ga m c := by
    rcases hown.2 with ⟨rfl, rfl⟩ | ⟨g, cap, cur, rfl, _⟩
    · exact ⟨none, 0, rfl⟩
    · exact ⟨_, _, rfl⟩
  by_cases hnm : n = m
  · subst hnm
    obtain ⟨o, C, T, rfl, hC, hat⟩ := hS
    have HG : Hid (∀ (i : Nat) (wr : World), i < n → But (· = b0) w wr → ∃ x c g cap', ws[i]? = some x ∧ L[i]? = some c ∧ x.size ≤ 281474976710656 ∧ v = .slice (some ⟨g, 0, none⟩) n cap' ∧ g < w.heap.size ∧ g ≠ b0 ∧ wr.cell? ⟨bw, o + i, none⟩ = some (.string x) ∧ wr.cell? ⟨g, i, none⟩ = some (.pointer (some ⟨b0, off (c.toNat : Int), none⟩))) := fun i wr hi hB => by
      obtain ⟨g, cap', hv', hg1, hg2, hg3⟩ := owns_ptr hown (by omega)
      have e1 : ws[i]? = some ws[i] := List.getElem?_eq_getElem (by omega)
      have e2 : L[i]? = some L[i] := List.getElem?_eq_getElem (by omega)
      have hbwl : bw < w.heap.size := (Array.getElem?_eq_some_iff.1 hC).1
      refine ⟨ws[i], L[i], g, cap', e1, e2, hws _ (List.getElem_mem _), hv', hg2, by omega, ?_, ?_⟩
      · simp only [World.cell?]
        rw [hB.block bw hbwl hbw, hC]
        simpa using hat i _ e1
      · rw [World.cell?_of_block (w := w) (hB.block g hg2 (show ¬ g = b0 by omega))]
        exact hg3 i _ e2
    have HEE : Hid (∀ wr : World, But (· = b0) w wr → Env wr) := fun wr hB => hE.below (hB.below (B := 4) hE.big (fun k hk => by show 4 ≤ k; rw [show k = b0 from hk]; exact h4)) (Nat.le_refl _)
    have HLL : Hid (L.length = n ∧ ws.length = n) := ⟨hL, hn⟩
    obtain ⟨F, hF⟩ : ∃ F, F = fillP cs L ws := ⟨_, rfl⟩
    rw [← hF]
    have HF := hide_ hF
    have HB0 := hide_ hb
    obtain ⟨ga, c, rfl⟩ := hv
    have hni : (n : Int) ≤ 4 := by omega
    have hblt : b0 < w.heap.size := (Array.getElem?_eq_some_iff.1 hb).1
    clear hF hC hat hE hown hL hn hws hb
    go_enter Tryd.func13, Tryd.ntmps13
    go_wp2
    go_loopg [16] (n + 1) (fun gk u wr => ∃ (i : Nat) (ci : Array Value), u = .int .i64 (i : Int) ∧ i ≤ n ∧ n < i + gk ∧ Hid (wr.heap[b0]? = some (.cells ci 24 (0, 0)) ∧ ci.size = 7 ∧ F = fillP ci (L.drop i) (ws.drop i) ∧ But (· = b0) w wr))
    case atStart => exact ⟨0, cs, rfl, Nat.zero_le _, by omega, HB0.out, hcs, HF.out, But.refl _ _⟩
    case round =>
      obtain ⟨i, ci, rfl, hi, hgk, HR⟩ := hrel
      have hi0 : (0 : Int) ≤ (i : Int) := by omega
      by_cases hlt : i < n
      · have hii : (i : Int) < (n : Int) := by omega
        obtain ⟨x, l, g, cap', hx, hl, hxs, hve, hgl, hgb, hcx, hcp⟩ := HG.out i wr hlt HR.out.2.2.2
        cases hve
        have hw : ws.drop i = x :: ws.drop (i + 1) := by
          rw [List.drop_eq_getElem_cons (by have := HLL.out.2; omega)]
          congr 1
          have := List.getElem?_eq_some_iff.1 hx
          exact this.2
        have hLd : L.drop i = l :: L.drop (i + 1) := by
          rw [List.drop_eq_getElem_cons (by have := HLL.out.1; omega)]
          congr 1
          have := List.getElem?_eq_some_iff.1 hl
          exact this.2
        have HN := hide_ (number_calls x hxs wr (HEE.out wr HR.out.2.2.2))
        have HFi : Hid (F = match pnum x.data.toList with | some v => fillP (ci.setIfInBounds (off (l.toNat : Int)) (.int .i64 v)) (L.drop (i + 1)) (ws.drop (i + 1)) | none => none) := by
          have := HR.out.2.2.1
          rw [hw, hLd] at this
          exact this
        clear hw hLd hx hl hxs
        generalize hpo : pnum x.data.toList = po at *
        cases po with
        | none =>
          have HX : Hid (F = none ∧ ∀ W1, Below wr.heap.size wr W1 → But (· = b0) w W1) := ⟨HFi.out, fun W1 hB => HR.out.2.2.2.trans (E := fun _ => False) (But.of_below hB) (fun _ _ h => h.elim)⟩
          clear HR HFi hpo
          go_wp2_with fail
          refine HN.out.mono ?_
          rintro e W1 ⟨nn, rfl, _, hB1⟩
          rw [show (none : Option Int).isSome = false from rfl]
          have HB1 := hide_ hB1
          clear hB1
          go_wp2
          go_ret
          obtain ⟨h1, h2⟩ := HX.out
          subst h1
          exact ⟨false, rfl, h2 _ HB1.out, fun cs' e => (by cases e), fun _ => rfl⟩
        | some vv =>
          have hol := off_lt (l.toNat : Int)
          have HX : Hid (∀ W1, Below wr.heap.size wr W1 → (W1.cell? ⟨b0, off (l.toNat : Int), none⟩ = ci[off (l.toNat : Int)]? ∧ W1.frozen? ⟨b0, off (l.toNat : Int), none⟩ = false ∧ W1.cell? ⟨g, i, none⟩ = some (.pointer (some ⟨b0, off (l.toNat : Int), none⟩))) ∧ Hid ((W1.setCell ⟨b0, off (l.toNat : Int), none⟩ (.int .i64 vv)).heap[b0]? = some (.cells (ci.setIfInBounds (off (l.toNat : Int)) (.int .i64 vv)) 24 (0, 0)) ∧ But (· = b0) w (W1.setCell ⟨b0, off (l.toNat : Int), none⟩ (.int .i64 vv)))) := fun W1 hB => by
            obtain ⟨r1, r2, r3, r4⟩ := HR.out
            have hsz := r4.size
            have hb1 : W1.heap[b0]? = some (.cells ci 24 (0, 0)) := (hB.block b0 (by omega)).trans r1
            refine ⟨⟨?_, ?_, ?_⟩, ?_, ?_⟩
            · simp only [World.cell?]
              rw [hb1]
              rfl
            · simp [World.frozen?, hb1]
            · rw [World.cell?_of_block (w := wr) (hB.block g (by omega))]
              exact hcp
            · exact heap_setCell_row _ _ _ _ _ _ hb1
            · exact (r4.trans (E := fun _ => False) (But.of_below hB) (fun _ _ h => h.elim)).trans (But.setCell (· = b0) W1 _ _ rfl) (fun _ _ h => h)
          obtain ⟨old, hsome⟩ : ∃ old, ci[off (l.toNat : Int)]? = some old := ⟨_, Array.getElem?_eq_getElem (by have := HR.out.2.1; omega)⟩
          rw [hsome] at HX
          have HSZ := hide_ HR.out.2.1
          clear HR hpo hsome
          go_wp2_with fail
          refine HN.out.mono ?_
          rintro e W1 ⟨nn, rfl, hvv, hB1⟩
          rw [show (some vv).isSome = true from rfl]
          obtain rfl := hvv vv rfl
          obtain ⟨⟨k1, k2, k3⟩, HY⟩ := HX.out W1 hB1
          clear hvv hB1 HX HN
          go_wp2
          go_roundg (n - i)
          case measure => omega
          case rel => exact ⟨i + 1, _, by first | rfl | go_num, by omega, by omega, HY.out.1, by rw [Array.size_setIfInBounds]; exact HSZ.out, HFi.out, HY.out.2⟩
      · obtain rfl : i = n := by omega
        go_wp2
        go_ret
        obtain ⟨h1, h2, h3, h4'⟩ := HR.out
        have e1 : L.drop i = [] := List.drop_eq_nil_of_le (by have := HLL.out.1; omega)
        have e2 : ws.drop i = [] := List.drop_eq_nil_of_le (by have := HLL.out.2; omega)
        rw [e1, e2] at h3
        subst h3
        exact ⟨true, rfl, h4', fun cs' e => by cases e; exact ⟨rfl, h1⟩, fun e => (by cases e)⟩
  · have hF := fillP_len L ws cs (by omega)
    obtain ⟨ga, c, rfl⟩ := hv
    have hd : ¬ ((n : Int) = (m : Int)) := by omega
    have HB := hide_ (But.refl (· = b0) w)
    generalize fillP cs L ws = F at *
    subst hF
    clear hS hb hE hown
    go_enter Tryd.func13, Tryd.ntmps13
    go_wp2
    go_ret
    exact ⟨false, rfl, HB.out, fun _ e => (by cases e), fun _ => rfl⟩
end Go.Proofs.YtmkcdkfjomaidaaDoor
