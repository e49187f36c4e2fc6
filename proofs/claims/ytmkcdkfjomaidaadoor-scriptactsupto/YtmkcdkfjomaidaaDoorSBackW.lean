/-
  PROVED HERE: the statement's own function, emenderlaw22.ScriptBack, answers true at every act and every line.
-/
import Derived.Test.YtmkcdkfjomaidaaDoorPBack
namespace Go.Proofs.YtmkcdkfjomaidaaDoor
open Go.RowKit

theorem fillP_i64 : ∀ (L : List UInt8) (r : List ByteArray) (k a b c d n k' a' b' c' d' n' : Int), I64 a → I64 c → I64 d → I64 n → fillP (actC k a b c d n) L r = some (actC k' a' b' c' d' n') → I64 a' ∧ I64 c' ∧ I64 d' ∧ I64 n'
  | [], [], k, a, b, c, d, n, k', a', b', c', d', n', ha, hc, hd, hn, h => by
    unfold fillP at h
    obtain ⟨h1, h2, h3, h4, h5, h6⟩ := actC_inj (Option.some.inj h)
    subst h1 h2 h3 h4 h5 h6
    exact ⟨ha, hc, hd, hn⟩
  | [], _ :: _, _, _, _, _, _, _, _, _, _, _, _, _, _, _, _, _, h => by cases h
  | _ :: _, [], _, _, _, _, _, _, _, _, _, _, _, _, _, _, _, _, h => by cases h
  | l :: L, x :: r, k, a, b, c, d, n, k', a', b', c', d', n', ha, hc, hd, hn, h => by
    unfold fillP at h
    split at h
    · rename_i v hv
      have hv' : I64 v := by have := (pnum_iff.1 hv).2; exact ⟨by omega, by omega⟩
      rcases off_cases (l.toNat : Int) with e | e | e | e
      · rw [e] at h
        exact fillP_i64 L r k v b c d n k' a' b' c' d' n' hv' hc hd hn h
      · rw [e] at h
        exact fillP_i64 L r k a b v d n k' a' b' c' d' n' ha hv' hd hn h
      · rw [e] at h
        exact fillP_i64 L r k a b c v n k' a' b' c' d' n' ha hc hv' hn h
      · rw [e] at h
        exact fillP_i64 L r k a b c d v k' a' b' c' d' n' ha hc hd hv' h
    · cases h
theorem i64_zero : I64 0 := ⟨by decide, by decide⟩
theorem actW_i64 {l : List ByteArray} {k a b c d n : Int} (h : actW l = some (actC k a b c d n)) : I64 a ∧ I64 c ∧ I64 d ∧ I64 n := by
  cases l with
  | nil => cases h
  | cons x r =>
    obtain ⟨t, _, _, hf⟩ := seek_some x r tab _ h
    exact fillP_i64 _ _ _ _ _ _ _ _ _ _ _ _ _ _ i64_zero i64_zero i64_zero i64_zero hf

theorem seek_mem (x : ByteArray) (r : List ByteArray) (t : Shp) (hx : t.word = x) (cs : Array Value) (hf : fillP (actC t.k 0 t.b 0 0 0) t.fs.data.toList r = some cs) : ∀ l : List Shp, (∀ u ∈ l, u ∈ tab) → t ∈ l → t ∈ tab → seek x r l = some cs
  | [], _, h, _ => by cases h
  | u :: l, hl, hm, ht => by
    unfold seek
    by_cases hw : (u.word.toList == x.toList) = true
    · have : u = t := nodup_eq tab_words (hl u (List.mem_cons_self ..)) ht (by rw [(ba_beq _ _).1 hw, hx])
      subst this
      rw [if_pos hw, hf]
    · rw [if_neg hw]
      rcases List.mem_cons.1 hm with e | hm
      · exact absurd ((ba_beq _ _).2 (by rw [← e]; exact hx)) hw
      · exact seek_mem x r t hx cs hf l (fun u hu => hl u (List.mem_cons_of_mem _ hu)) hm ht

theorem line_size {k a b c d n : Int} {bl : Nat} {s : ByteArray} (ha : I64 a) (hc : I64 c) (hd : I64 d) (hn : I64 n) (h : seekP k a b c d n bl tab = some s) : s.size ≤ 281474976710656 := by
  have key : ∀ l : List Shp, (∀ t ∈ l, t ∈ tab) → seekP k a b c d n bl l = some s → ∃ t ∈ tab, s = lineS t a c d n := by
    intro l
    induction l with
    | nil => intro _ h; cases h
    | cons t l ih =>
      intro hl h
      by_cases hcd : (t.k = k ∧ t.b = b) ∧ Backs t a c d n ∧ bl = 0
      · rw [seekP_hit hcd] at h
        exact ⟨t, hl t (List.mem_cons_self ..), (Option.some.inj h).symm⟩
      · rw [seekP_skip hcd] at h
        exact ih (fun t ht => hl t (List.mem_cons_of_mem _ ht)) h
  obtain ⟨t, ht, rfl⟩ := key tab (fun _ h => h) h
  exact lineS_size ht ha hc hd hn

def syncS : ByteArray := ⟨#[115, 121, 110, 99]⟩
theorem five_sync : five syncS = [syncS] := by
  have h : Lib.indexB syncS ⟨#[32]⟩ = -1 := by
    rw [indexB_blank]
    exact ib_no _ (by decide)
  exact Lib.splitB_miss _ _ _ _ h
theorem act_sync : actW (five syncS) = some (actC 8 0 0 0 0 0) := by
  rw [five_sync]
  exact seek_mem syncS [] ⟨⟨#[115, 121, 110, 99]⟩, ⟨#[]⟩, 8, 0⟩ rfl _ rfl tab (fun _ h => h) (by simp [tab]) (by simp [tab])

set_option maxRecDepth 100000 in
set_option maxHeartbeats 1000000 in
theorem awake_calls (w : World) (hE : Env w) : Calls Tryd.prog 10 #[] w fun e w' => e = .returned (.bool true) ∧ Below w.heap.size w w' := by
  have H := hide_ (act_calls syncS (by decide) w hE)
  rw [act_sync] at H
  unfold syncS at H
  clear hE
  go_enter Tryd.func10, Tryd.ntmps10
  go_wp2_with fail
  refine H.out.mono ?_
  rintro e W1 ⟨h1, _, hB⟩
  obtain rfl := h1 _ _ _ _ _ _ rfl
  have HB : Hid (∀ o, Below w.heap.size w (W1.alloc o)) := fun o => hB.alloc hB.size o
  unfold actC
  clear h1 hB H
  go_wp2_with fail
  go_ret
  exact ⟨rfl, HB.out _⟩

set_option maxRecDepth 100000 in
set_option maxHeartbeats 2000000 in
theorem back_calls (k a b c d n : Int) (bp : Option Addr) (bl bc : Nat) (s : ByteArray) (ha : I64 a) (hc : I64 c) (hd : I64 d) (hn : I64 n) (hs : s.size ≤ 281474976710656) (w : World) (hE : Env w) :
    Calls Tryd.prog 4 #[.agg #[.int .i64 k, .int .i64 a, .int .i64 b, .int .i64 c, .int .i64 d, .int .i64 n, .slice bp bl bc], .string s] w fun e w' => e = .returned (.bool true) ∧ Below w.heap.size w w' := by
  have HE := hide_ hE
  have HI : Hid (I64 a ∧ I64 c ∧ I64 d ∧ I64 n) := ⟨ha, hc, hd, hn⟩
  have HB0 : Hid (∀ o, Below w.heap.size w (w.alloc o)) := fun o => (Below.refl _ w).alloc (Nat.le_refl _) o
  clear hE ha hc hd hn
  go_enter Tryd.func4, Tryd.ntmps4
  go_wp2_with fail
  refine (print_calls k a b c d n bp bl bc HI.out.1 HI.out.2.1 HI.out.2.2.1 HI.out.2.2.2 _ (HE.out.new (HB0.out _))).mono ?_
  rintro e W1 ⟨hp1, hp2, hB1⟩
  have HBa := hide_ ((HB0.out _).trans (hB1.mono (HB0.out _).size))
  have HRW : Hid (W1.heap[w.heap.size]? = some (.cells #[.int .i64 k, .int .i64 a, .int .i64 b, .int .i64 c, .int .i64 d, .int .i64 n, .slice bp bl bc] 24 (0, 0))) := (hB1.block _ (by simp)).trans (World.alloc_heap_new w _)
  clear hB1
  generalize hsp : seekP k a b c d n bl tab = sp at *
  cases sp with
  | none =>
    obtain rfl := hp2 rfl
    have HB := HBa
    clear hp1 hp2 hsp
    go_wp2_with fail
    refine (act_calls s hs W1 (HE.out.new HB.out)).mono ?_
    rintro e W6 ⟨hyes, hno, hB6⟩
    have HB6 := hide_ (HB.out.trans (hB6.mono HB.out.size))
    clear hB6
    generalize hq : actW (five s) = q at *
    cases q with
    | none =>
      obtain rfl := hno rfl
      have HB7 : Hid (∀ o, Below w.heap.size w (W6.alloc o)) := fun o => HB6.out.alloc HB6.out.size o
      unfold actC
      clear hyes hno hq
      go_wp2_with fail
      refine (same_calls _ _ _ _ _ _ _ _ _ _ _).mono ?_
      rintro e W8 ⟨rfl, hB8⟩
      have HB8 := hide_ ((HB7.out _).trans (hB8.mono (HB7.out _).size))
      clear hB8 HB7
      go_wp2_with fail
      refine (awake_calls W8 (HE.out.new HB8.out)).mono ?_
      rintro e W9 ⟨rfl, hB9⟩
      have HB9 := hide_ (HB8.out.trans (hB9.mono HB8.out.size))
      clear hB9
      go_wp2_with fail
      go_ret
      exact ⟨rfl, HB9.out⟩
    | some cs =>
      obtain ⟨k', a', b', c', d', n', rfl⟩ := actW_act hq
      obtain rfl := hyes _ _ _ _ _ _ rfl
      have HI' := hide_ (actW_i64 hq)
      have HQ := hide_ (read_back hq)
      have HB7 : Hid (∀ o, Below w.heap.size w (W6.alloc o)) := fun o => HB6.out.alloc HB6.out.size o
      unfold actC
      clear hyes hno hq
      go_wp2_with fail
      refine (print_calls _ _ _ _ _ _ _ _ _ HI'.out.1 HI'.out.2.1 HI'.out.2.2.1 HI'.out.2.2.2 _ (HE.out.new (HB7.out _))).mono ?_
      rintro e W8 ⟨hp1, _, hB8⟩
      obtain rfl := hp1 _ HQ.out
      have HB8 := hide_ ((HB7.out _).trans (hB8.mono (HB7.out _).size))
      clear hB8 HB7 hp1
      go_wp2_with fail
      refine (awake_calls W8 (HE.out.new HB8.out)).mono ?_
      rintro e W9 ⟨rfl, hB9⟩
      have HB9 := hide_ (HB8.out.trans (hB9.mono HB8.out.size))
      clear hB9
      go_wp2_with fail
      go_ret
      exact ⟨rfl, HB9.out⟩
  | some t =>
    obtain rfl := hp1 t rfl
    obtain ⟨hr1, hr2⟩ := back_read hsp
    have hts := line_size HI.out.1 HI.out.2.1 HI.out.2.2.1 HI.out.2.2.2 hsp
    have HR1 := hide_ hr1
    subst hr2
    clear hp1 hp2 hsp hr1
    go_wp2_with fail
    refine (act_calls t hts W1 (HE.out.new HBa.out)).mono ?_
    rintro e W2 ⟨hyes, _, hB2⟩
    obtain rfl := hyes _ _ _ _ _ _ HR1.out
    have hl2 : w.heap.size < W2.heap.size := by
      have := HBa.out.size
      have := hB2.size
      have := (Array.getElem?_eq_some_iff.1 HRW.out).1
      omega
    have hrow := (hB2.block _ (Array.getElem?_eq_some_iff.1 HRW.out).1).trans HRW.out
    have m0 : W2.cell? ⟨w.heap.size, 0, none⟩ = some (.int .i64 k) := cell_of_row W2 w.heap.size 0 _ _ _ hrow
    have m1 : W2.cell? ⟨w.heap.size, 1, none⟩ = some (.int .i64 a) := cell_of_row W2 w.heap.size 1 _ _ _ hrow
    have m2 : W2.cell? ⟨w.heap.size, 2, none⟩ = some (.int .i64 b) := cell_of_row W2 w.heap.size 2 _ _ _ hrow
    have m3 : W2.cell? ⟨w.heap.size, 3, none⟩ = some (.int .i64 c) := cell_of_row W2 w.heap.size 3 _ _ _ hrow
    have m4 : W2.cell? ⟨w.heap.size, 4, none⟩ = some (.int .i64 d) := cell_of_row W2 w.heap.size 4 _ _ _ hrow
    have m5 : W2.cell? ⟨w.heap.size, 5, none⟩ = some (.int .i64 n) := cell_of_row W2 w.heap.size 5 _ _ _ hrow
    have m6 : W2.cell? ⟨w.heap.size, 6, none⟩ = some (.slice bp 0 bc) := cell_of_row W2 w.heap.size 6 _ _ _ hrow
    have HB2 := hide_ (HBa.out.trans (hB2.mono HBa.out.size))
    have HB3 : Hid (∀ o, Below w.heap.size w (W2.alloc o)) := fun o => HB2.out.alloc HB2.out.size o
    unfold actC
    clear hyes hB2 HR1 HRW hrow
    go_wp2_with fail
    refine (same_calls _ _ _ _ _ _ _ _ _ _ _).mono ?_
    rintro e W4 ⟨rfl, hB4⟩
    have HB := hide_ ((HB3.out _).trans (hB4.mono (HB3.out _).size))
    clear hB4 HB3 m0 m1 m2 m3 m4 m5 m6
    go_wp2_with fail
    refine (act_calls s hs W4 (HE.out.new HB.out)).mono ?_
    rintro e W6 ⟨hyes, hno, hB6⟩
    have HB6 := hide_ (HB.out.trans (hB6.mono HB.out.size))
    clear hB6
    generalize hq : actW (five s) = q at *
    cases q with
    | none =>
      obtain rfl := hno rfl
      have HB7 : Hid (∀ o, Below w.heap.size w (W6.alloc o)) := fun o => HB6.out.alloc HB6.out.size o
      unfold actC
      clear hyes hno hq
      go_wp2_with fail
      refine (same_calls _ _ _ _ _ _ _ _ _ _ _).mono ?_
      rintro e W8 ⟨rfl, hB8⟩
      have HB8 := hide_ ((HB7.out _).trans (hB8.mono (HB7.out _).size))
      clear hB8 HB7
      go_wp2_with fail
      refine (awake_calls W8 (HE.out.new HB8.out)).mono ?_
      rintro e W9 ⟨rfl, hB9⟩
      have HB9 := hide_ (HB8.out.trans (hB9.mono HB8.out.size))
      clear hB9
      go_wp2_with fail
      go_ret
      exact ⟨rfl, HB9.out⟩
    | some cs =>
      obtain ⟨k', a', b', c', d', n', rfl⟩ := actW_act hq
      obtain rfl := hyes _ _ _ _ _ _ rfl
      have HI' := hide_ (actW_i64 hq)
      have HQ := hide_ (read_back hq)
      have HB7 : Hid (∀ o, Below w.heap.size w (W6.alloc o)) := fun o => HB6.out.alloc HB6.out.size o
      unfold actC
      clear hyes hno hq
      go_wp2_with fail
      refine (print_calls _ _ _ _ _ _ _ _ _ HI'.out.1 HI'.out.2.1 HI'.out.2.2.1 HI'.out.2.2.2 _ (HE.out.new (HB7.out _))).mono ?_
      rintro e W8 ⟨hp1, _, hB8⟩
      obtain rfl := hp1 _ HQ.out
      have HB8 := hide_ ((HB7.out _).trans (hB8.mono (HB7.out _).size))
      clear hB8 HB7 hp1
      go_wp2_with fail
      refine (awake_calls W8 (HE.out.new HB8.out)).mono ?_
      rintro e W9 ⟨rfl, hB9⟩
      have HB9 := hide_ (HB8.out.trans (hB9.mono HB8.out.size))
      clear hB9
      go_wp2_with fail
      go_ret
      exact ⟨rfl, HB9.out⟩
end Go.Proofs.YtmkcdkfjomaidaaDoor
