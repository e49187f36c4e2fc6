/-
  PROVED HERE: the document's own utf8 and Text at every slice of tokens: what they return; nothing that lay before is turned.
-/
import Derived.Test.YtcakpdehphpibaaTxt
import Derived.Test.YtcakpdehphpibaaRow
import Derived.Test.YtcakpdehphpibaaRTok
import Derived.WalkSmall
import Derived.BigQuiet
import Derived.Deep.QuietTactic
import Derived.Laws.StructEq
import Derived.Laws.BitsAllLaws
import Derived.Laws.BytesArg
import Derived.Laws.Strings
import Derived.Laws.Concat
import Derived.DataShut
import Derived.RangeFuncRecord
namespace Go.Proofs.Ytcakpdehphpibaa
open Go.RowKit

theorem wrap_mid (x : Int) (h0 : 0 ≤ x) (h1 : x < 4611686018427387904) : IntKind.i64.wrap x = x := by
  simp [IntKind.wrap, IntKind.bits, IntKind.signed]
  omega
theorem i64_or_nat (a b : Nat) (ha : a < 4611686018427387904) (hb : b < 4611686018427387904) : bits .or .i64 (a : Int) (b : Int) = ((a ||| b : Nat) : Int) := by
  have hx : a ||| b < 2 ^ 62 := Nat.or_lt_two_pow (by omega) (by omega)
  show IntKind.i64.wrap ((BitVec.ofInt 64 (a : Int) ||| BitVec.ofInt 64 (b : Int)).toNat : Int) = _
  rw [BitVec.toNat_or, ofInt_u64 a (by omega), ofInt_u64 b (by omega), wrap_mid _ (by omega) (by omega)]
theorem i64_and_nat (a b : Nat) (ha : a < 4611686018427387904) (hb : b < 4611686018427387904) : bits .and .i64 (a : Int) (b : Int) = ((a &&& b : Nat) : Int) := by
  have hx : a &&& b < 2 ^ 62 := Nat.and_lt_two_pow _ (by omega)
  show IntKind.i64.wrap ((BitVec.ofInt 64 (a : Int) &&& BitVec.ofInt 64 (b : Int)).toNat : Int) = _
  rw [BitVec.toNat_and, ofInt_u64 a (by omega), ofInt_u64 b (by omega), wrap_mid _ (by omega) (by omega)]
theorem and_63 (n : Int) (h0 : 0 ≤ n) (h1 : n ≤ 1114111) : bits .and .i64 n 63 = n % 64 := by
  obtain ⟨m, rfl⟩ := Int.eq_ofNat_of_zero_le h0
  have := i64_and_nat m 63 (by omega) (by omega)
  rw [show m &&& 63 = m % 64 from Nat.and_two_pow_sub_one_eq_mod m 6] at this
  rw [show ((63 : Nat) : Int) = 63 from rfl] at this
  rw [this]
  omega
theorem or_128 (n : Int) (h0 : 0 ≤ n) (h1 : n < 64) : bits .or .i64 128 n = 128 + n := by
  obtain ⟨m, rfl⟩ := Int.eq_ofNat_of_zero_le h0
  have := i64_or_nat 128 m (by omega) (by omega)
  have h := Nat.shiftLeft_add_eq_or_of_lt (b := m) (i := 7) (by omega) 1
  rw [show 1 <<< 7 = 128 from rfl] at h
  rw [← h] at this
  exact this
theorem or_192 (n : Int) (h0 : 0 ≤ n) (h1 : n < 32) : bits .or .i64 192 n = 192 + n := by
  obtain ⟨m, rfl⟩ := Int.eq_ofNat_of_zero_le h0
  have := i64_or_nat 192 m (by omega) (by omega)
  have h := Nat.shiftLeft_add_eq_or_of_lt (b := m) (i := 6) (by omega) 3
  rw [show 3 <<< 6 = 192 from rfl] at h
  rw [← h] at this
  exact this
theorem or_224 (n : Int) (h0 : 0 ≤ n) (h1 : n < 16) : bits .or .i64 224 n = 224 + n := by
  obtain ⟨m, rfl⟩ := Int.eq_ofNat_of_zero_le h0
  have := i64_or_nat 224 m (by omega) (by omega)
  have h := Nat.shiftLeft_add_eq_or_of_lt (b := m) (i := 5) (by omega) 7
  rw [show 7 <<< 5 = 224 from rfl] at h
  rw [← h] at this
  exact this
theorem or_240 (n : Int) (h0 : 0 ≤ n) (h1 : n < 8) : bits .or .i64 240 n = 240 + n := by
  obtain ⟨m, rfl⟩ := Int.eq_ofNat_of_zero_le h0
  have := i64_or_nat 240 m (by omega) (by omega)
  have h := Nat.shiftLeft_add_eq_or_of_lt (b := m) (i := 4) (by omega) 15
  rw [show 15 <<< 4 = 240 from rfl] at h
  rw [← h] at this
  exact this

/-- A new block, read. -/
theorem row_new {k : IntKind} (w : World) (t : TypeId) (zs : List Int) : Row k (w.alloc (.cells (zs.map (Value.int k)).toArray t)) (some ⟨w.heap.size, 0, none⟩) zs.length zs := by
  refine ⟨rfl, ?_⟩
  rcases Nat.eq_zero_or_pos zs.length with h | h
  · exact .inl h
  · refine .inr ⟨_, 0, rfl, by simp, fun i hi => ?_⟩
    have hg := World.alloc_heap_new w (.cells (zs.map (Value.int k)).toArray t)
    unfold World.cell?
    simp only [hg]
    simp [List.getElem?_eq_getElem hi]

set_option maxRecDepth 100000 in
set_option maxHeartbeats 2000000 in
theorem utf8_calls (n : Int) (w : World) (h0 : 0 ≤ n) (h1 : n ≤ 1114111) :
    Calls Try.prog 38 #[.int .i64 n] w fun e w' => e = .returned (.slice (some ⟨w.heap.size, 0, none⟩) (enc n).length (enc n).length) ∧ Row .u8 w' (some ⟨w.heap.size, 0, none⟩) (enc n).length (enc n) ∧ Below w.heap.size w w' := by
  have a0 := and_63 n h0 h1
  have a1 := and_63 (n / 64) (by omega) (by omega)
  have a2 := and_63 (n / 4096) (by omega) (by omega)
  have o0 := or_128 (n % 64) (by omega) (by omega)
  have o1 := or_128 (n / 64 % 64) (by omega) (by omega)
  have o2 := or_128 (n / 4096 % 64) (by omega) (by omega)
  have hB : ∀ ob, Below w.heap.size w (w.alloc ob) := fun ob => (Below.refl _ w).alloc (Nat.le_refl _) ob
  by_cases c1 : n < 128
  · rw [show enc n = [n] from by unfold enc; rw [if_pos c1]]
    go_enter Try.func38, Try.ntmps38
    go_wp2
    go_ret
    exact ⟨rfl, row_new w 5 _, hB _⟩
  by_cases c2 : n < 2048
  · rw [show enc n = [192 + n / 64, 128 + n % 64] from by unfold enc; rw [if_neg c1, if_pos c2]]
    have o3 := or_192 (n / 64) (by omega) (by omega)
    go_enter Try.func38, Try.ntmps38
    go_wp2
    go_ret
    exact ⟨rfl, row_new w 5 _, hB _⟩
  by_cases c3 : n < 65536
  · rw [show enc n = [224 + n / 4096, 128 + n / 64 % 64, 128 + n % 64] from by unfold enc; rw [if_neg c1, if_neg c2, if_pos c3]]
    have o3 := or_224 (n / 4096) (by omega) (by omega)
    go_enter Try.func38, Try.ntmps38
    go_wp2
    go_ret
    exact ⟨rfl, row_new w 5 _, hB _⟩
  · rw [show enc n = [240 + n / 262144, 128 + n / 4096 % 64, 128 + n / 64 % 64, 128 + n % 64] from by unfold enc; rw [if_neg c1, if_neg c2, if_neg c3]]
    have o3 := or_240 (n / 262144) (by omega) (by omega)
    go_enter Try.func38, Try.ntmps38
    go_wp2
    go_ret
    exact ⟨rfl, row_new w 5 _, hB _⟩

/-- string(b). -/
theorem conv_row {W : World} {a : Option Addr} {len cap : Nat} {bs : List Int} (h : Row .u8 W a len bs) : (convert 53 9 (.slice a len cap)).run Try.prog W = .ok (.string (strOfNums bs)) W := by
  obtain ⟨hl, h0 | ⟨b, o, rfl, _, hc⟩⟩ := h
  · subst h0
    obtain rfl : bs = [] := List.length_eq_zero_iff.1 hl
    cases a with
    | none => exact run_convert_bytes_nil W 53 5 Try.underlying53 Try.underlying5 _ _ 9 Try.underlying9
    | some p =>
      obtain ⟨b, o, sp⟩ := p
      rw [run_convert_bytes_string W 53 9 5 _ 0 cap Try.underlying53 Try.underlying5 Try.underlying9, run_bytesToString W _ 0 cap [] (by simpa using run_loadCells_list (P := Try.prog) W ⟨b, o, sp⟩ [] (by simp))]
      rfl
  · exact run_convert_bytes_arg W 53 5 Try.underlying53 Try.underlying5 b o len cap bs hl hc 9 Try.underlying9


theorem info5 : (Try.prog.info? 5).map (fun i => (i.zero, i.size, i.bytes)) = some (some (.int .u8 0), 1, 1) := by kernel_rfl
theorem row_cells {k : IntKind} {W : World} {b o len : Nat} {zs : List Int} (h : Row k W (some ⟨b, o, none⟩) len zs) : ∀ j u, (zs.map (Value.int k))[j]? = some u → W.cell? ((⟨b, o, none⟩ : Addr).add j) = some u := by
  intro j u hj
  have hjl : j < zs.length := by
    have := (List.getElem?_eq_some_iff.1 hj).1
    simpa using this
  obtain ⟨hl, h0 | ⟨b', o', e, _, hc⟩⟩ := h
  · omega
  · cases e
    rw [show (⟨b, o, none⟩ : Addr).add j = ⟨b, o + j, none⟩ from by unfold Addr.add; split <;> simp_all, hc j (by omega)]
    rw [List.getElem?_map, List.getElem?_eq_getElem hjl] at hj
    simp at hj
    rw [← hj, List.getD_eq_getElem?_getD, List.getElem?_eq_getElem hjl]
    rfl
theorem own_keep {W W' : World} {base : Nat} {e : TypeId} {v : Value} {n : Nat} {xs : List Value} (h : W.ownsRow base e 1 v n xs) (hB : Below W.heap.size W W') : W'.ownsRow base e 1 v n xs := by
  obtain ⟨hl, h1 | ⟨g, cap, cur, rfl, hb, hg, hc1, hc2, hc3, hc4⟩⟩ := h
  · exact ⟨hl, .inl h1⟩
  · refine ⟨hl, .inr ⟨g, cap, cur, rfl, hb, ?_, hc1, hc2, hc3, hc4⟩⟩
    rw [hB.block g (Array.getElem?_eq_some_iff.1 hg).1, hg]
theorem below_grown {base : Nat} {e : TypeId} {W w1 w2 : World} {u : Value} {k : Nat} {ys : List Value} (hB : Below base W w1) (hrow : w1.ownsRow base e 1 u k ys) (hbase : base ≤ w1.heap.size) (hgrow : w1.grownBy w2 u.ownBlock) : Below base W w2 := by
  refine hB.grown hgrow hbase fun j ej => ?_
  rcases hrow.2 with ⟨rfl, _⟩ | ⟨g, cap, cur, rfl, hb, _, _⟩
  · simp [Value.ownBlock] at ej
  · obtain rfl : g = j := by simpa [Value.ownBlock] using ej
    exact hb

set_option maxRecDepth 100000 in
set_option maxHeartbeats 4000000 in
theorem text_calls (a : Option Addr) (len cap : Nat) (l : List Tok) (w : World) (hl : Toks w a len l) (hsz : len ≤ 4398046511104) :
    Calls Try.prog 24 #[.slice a len cap] w fun e w' => e = .returned (.string (strOfNums (text l))) ∧ Below w.heap.size w w' := by
  obtain ⟨i0, hi, hz0, hz1, hz2⟩ := info_parts info5
  have HT : Hid (text (l.take len) = text l) := by show text (l.take len) = text l; rw [List.take_of_length_le (Nat.le_of_eq hl.1)]
  generalize hTx : text l = T at *
  clear hTx
  generalize hS : strOfNums T = S at *
  go_enter Try.func24, Try.ntmps24
  go_wp2
  go_loopw [3, 4] (fun u i w' => ∃ (k : Nat) (s : List Int), k ≤ len ∧ i = .int .i64 (k : Int) ∧ s = text (l.take k) ∧ s.length ≤ 4 * k ∧ w'.ownsRow w.heap.size 5 1 u s.length (s.map (Value.int .u8)) ∧ Below w.heap.size w w') (fun _ i _ => len - (intOf i).toNat)
  case atStart => exact ⟨0, [], Nat.zero_le _, rfl, rfl, by simp, World.ownsRow_nil _ _ _ _, Below.refl _ _⟩
  case round =>
    obtain ⟨k, s, hk, rfl, hs, hsl, hrow, hB⟩ := hrel
    by_cases hlt : k < len
    · obtain ⟨b, o, x, rfl, hbl, hx, hc⟩ := hl.token hlt
      have hst := text_take l k x hx
      rw [← hs] at hst
      clear hs
      have hr := fun W => rightT_calls x W
      have hpt := rightT_point (x := x)
      obtain ⟨c0, c1, c2, c3⟩ := hc wr hB
      have hcn : ∀ W : World, Below w.heap.size w W → W.cell? ⟨b, o + k * 4 + 2, none⟩ = some (.int .i64 x.n) := fun W hW => (hc W hW).2.2.1
      clear hc hx hl HT
      obtain ⟨xk, xt, xn, xm⟩ := x
      simp only [tokV] at *
      generalize rightT ⟨xk, xt, xn, xm⟩ = p at *
      by_cases k0 : xk = 0
      · subst k0
        cases p
        · have HS : Hid (s = text (l.take (k + 1))) := by show s = _; rw [hst]; simp
          clear hst
          go_wp2_with fail
          refine (hr _).mono ?_
          rintro e W1 ⟨rfl, hB1⟩
          have hB2 := hB.trans (hB1.mono hB.size)
          have hrow2 := own_keep hrow hB1
          go_wp2
          go_roundw
          case rel => exact ⟨k + 1, s, by omega, rfl, HS.out, by omega, hrow2, hB2⟩
          case measure => simp [intOf]; omega
        · have HS : Hid (s ++ enc xn = text (l.take (k + 1))) := by show _ = _; rw [hst]; simp
          obtain ⟨n0, n1⟩ := hpt rfl rfl
          have hE := enc_length xn
          have hU := fun W => utf8_calls xn W n0 n1
          clear hst hpt
          generalize enc xn = E at *
          obtain ⟨m, hm⟩ : ∃ m, E.length = m := ⟨_, rfl⟩
          rw [hm] at hE hU
          go_wp2_with fail
          refine (hr _).mono ?_
          rintro e W1 ⟨rfl, hB1⟩
          have hB2 := hB.trans (hB1.mono hB.size)
          have hrow2 := own_keep hrow hB1
          have hcn1 := hcn W1 hB2
          go_wp2_with fail
          refine (hU _).mono ?_
          rintro e W2 ⟨rfl, hru, hB3⟩
          have hB4 := hB2.trans (hB3.mono hB2.size)
          have hrow3 := own_keep hrow2 hB3
          go_wp2_with (at_builtin; refine wpList_append_own _ rfl _ _ 53 rfl w.heap.size 5 i0 (.int .u8 0) 1 1 Try.underlying53 hi hz0 hz1 hz2 rfl (by decide) _ _ _ rfl hrow3 ⟨W1.heap.size, 0, none⟩ m m (E.map (Value.int .u8)) rfl (by simp [hm]) (row_cells hru) (by simp [Value.oneCell']) (by unfold maxLen; omega) (by omega) (by exact hB4.size) ?_; intro v2 w2 hown2 hgrow hnil2)
          have hB5 := below_grown hB4 hrow3 hB4.size hgrow
          go_wp2
          go_roundw
          case rel =>
            refine ⟨k + 1, s ++ E, by omega, rfl, HS.out, by rw [List.length_append, hm]; omega, ?_, hB5⟩
            rw [List.length_append, hm, List.map_append]
            exact hown2
          case measure => simp [intOf]; omega
      · have e0 : (xk == 0) = false := by simpa using k0
        have HS : Hid (s = text (l.take (k + 1))) := by show s = _; rw [hst, e0]; simp
        clear hst hr
        go_wp2
        go_roundw
        case rel => exact ⟨k + 1, s, by omega, rfl, HS.out, by omega, hrow, hB⟩
        case measure => simp [intOf]; omega
    · obtain rfl : k = len := by omega
      rw [HT.out] at hs
      obtain ⟨a', cap', hu, hrw⟩ := row_of_owns hrow
      have hcv := conv_row (cap := cap') hrw
      rw [hs, hS] at hcv
      rw [hs] at hu
      clear hrow hrw hs hS HT
      generalize T.length = n at *
      subst hu
      go_wp2
      go_ret
      exact ⟨rfl, hB⟩
end Go.Proofs.Ytcakpdehphpibaa
