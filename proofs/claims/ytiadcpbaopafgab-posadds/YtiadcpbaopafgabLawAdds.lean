/-
  PROVED HERE: the statement PosAdds: maps, one behind the other, without mirrors, send a place where each sends it, one by one; no condition.
-/
import Derived.Test.YtiadcpbaopafgabAddP
import Derived.Test.YtiadcpbaopafgabMMap
import Derived.Test.YtiadcpbaopafgabRws
import Derived.Test.YtiadcpbaopafgabOrder
namespace Go.Proofs.Ytiadcpbaopafgab.posAdds
open Go.ChangeShapes Go.WideShapes Go.ChangeAt Go.RowKit

/-- Maps, one behind the other, without mirrors. -/
theorem goM_plain (side : Int) : ∀ (f : Nat) (M : List Lk) (i : Nat) (p : Int) (g : Bool), (∀ x ∈ M, x.m = -1) → M.length ≤ i + f →
    goM M side f i p g = (M.drop i).foldl (fun r x => r.bind fun (q, h) => if within (sendL x.l 0 0 q side).at' = true then some ((sendL x.l 0 0 q side).at', h || (sendL x.l 0 0 q side).gone) else none) (some (p, g)) := by
  have hno : ∀ (l : List Lk), l.foldl (fun (r : Option (Int × Bool)) x => r.bind fun (q, h) => if within (sendL x.l 0 0 q side).at' = true then some ((sendL x.l 0 0 q side).at', h || (sendL x.l 0 0 q side).gone) else none) none = none := by
    intro l
    induction l with
    | nil => rfl
    | cons x r ih => exact ih
  intro f
  induction f with
  | zero =>
    intro M i p g _ h
    rw [goM, List.drop_eq_nil_of_le (by omega)]
    rfl
  | succ f ih =>
    intro M i p g hm h
    rw [goM]
    by_cases hi : i < M.length
    · rw [if_pos hi]
      obtain ⟨x, hx⟩ : ∃ x, M[i]? = some x := ⟨_, List.getElem?_eq_getElem hi⟩
      have hd : M.drop i = x :: M.drop (i + 1) := by
        rw [List.drop_eq_getElem_cons hi]
        congr 1
        rw [List.getElem?_eq_getElem hi] at hx
        exact Option.some.inj hx
      have hla : lAt M i = x.l := by unfold lAt; rw [hx]; rfl
      have hma : mirAt M i = -1 := by unfold mirAt; rw [hx]; exact hm x (List.mem_of_getElem? hx)
      have hrp : recP M i (sendL (lAt M i) 0 0 p side) = none := by unfold recP; rw [hma, if_pos (.inl (by omega))]
      rw [hrp, hla, hd, List.foldl_cons]
      simp only [Option.bind_some]
      split
      · exact ih M (i + 1) _ _ hm (by omega)
      · rw [hno]
    · rw [if_neg hi, List.drop_eq_nil_of_le (by omega)]
      rfl
/-- The same by its ranges alone. -/
def thru (side : Int) (ls : List (List Rng)) (p : Int) : Option (Int × Bool) := ls.foldl (fun r l => r.bind fun (q, h) => if within (sendL l 0 0 q side).at' = true then some ((sendL l 0 0 q side).at', h || (sendL l 0 0 q side).gone) else none) (some (p, false))
theorem mmR_thru (M : List Lk) (p side : Int) (hm : ∀ x ∈ M, x.m = -1) (hp : within p = true) : mmR M 0 p side = thru side (M.map (·.l)) p := by
  unfold mmR thru
  rw [if_neg (by rw [hp]; simp), goM_plain side M.length M _ p false hm (by omega), List.foldl_map]
  simp
theorem mmR_bad (M : List Lk) (p side : Int) (hp : within p = false) : mmR M 0 p side = none := by
  unfold mmR
  rw [if_pos (.inr (.inr hp))]
theorem thru_snoc (side : Int) (ls : List (List Rng)) (l : List Rng) (p : Int) : thru side (ls ++ [l]) p = (thru side ls p).bind fun (q, h) => if within (sendL l 0 0 q side).at' = true then some ((sendL l 0 0 q side).at', h || (sendL l 0 0 q side).gone) else none := by
  unfold thru
  rw [List.foldl_append]
  rfl

set_option maxRecDepth 100000 in
set_option maxHeartbeats 4000000 in
theorem walk (a : Option Addr) (len cap : Nat) (xs : List Rw) (p side : Int) (w : World) (hx : Rws w a len xs) (_hlen : len ≤ 9223372036854775807) :
    Calls Try.prog 5 #[.slice a len cap, .int .i64 p, .int .i64 side] w fun e w' => e = .returned (.bool true) ∧ Below w.heap.size w w' := by
  have HX : Hid (∀ k, k < len → ∃ b o x, a = some ⟨b, o, none⟩ ∧ b < w.heap.size ∧ xs[k]? = some x ∧ ∀ X, Below w.heap.size w X → X.cell? ⟨b, o + k, none⟩ = some (.slice x.a x.len x.cap) ∧ RwOk X x) := fun k hk => hx.at_ hk
  have HRIGHT : Hid (∀ (X : World) (x : Rw), RwOk X x → Calls Try.prog 13 #[.slice x.a x.len x.cap] X fun e w' => e = .returned (.bool (right x.l)) ∧ Below X.heap.size X w') := fun X x h => right_any _ _ _ _ X h.1 (Nat.le_trans h.2.2.1 h.2.2.2)
  have HMAP : Hid (∀ (X : World) (x : Rw) (q : Int), RwOk X x → Calls Try.prog 10 #[.slice x.a x.len x.cap, .int .i64 q, .int .i64 side] X fun e w' => e = .returned (.tuple #[spotV (mapA x.l q side), .int .i64 (mapE x.l q)]) ∧ Below X.heap.size X w') := fun X x q h => map_any _ _ _ _ _ _ X h.1 (Nat.le_trans h.2.2.1 h.2.2.2)
  have HADD : Hid (∀ (X : World) (x : Rw) (B : Nat) (M : List Lk), RwOk X x → MapP X w.heap.size B M → M.length ≤ 100 → w.heap.size ≤ X.heap.size → _) := fun X x B M (h : RwOk X x) (hM : MapP X w.heap.size B M) (hn : M.length ≤ 100) (hs : w.heap.size ≤ X.heap.size) => add_calls w.heap.size B M x.a x.len x.cap x.l X hM h.1 h.2.1 h.2.2.1 (Nat.le_trans h.2.2.1 h.2.2.2) hn hs
  have cn := new_calls w w.heap.size (Nat.le_refl _)
  clear hx
  go_enter Try.func5, Try.ntmps5
  go_wp2_with fail
  refine cn.mono ?_
  rintro e W1 ⟨rfl, hM0, hW1⟩
  have hB1 : Below w.heap.size w W1 := by rw [hW1]; exact (Below.refl _ _).alloc (Nat.le_refl _) _
  have HM0 : Hid (MapP W1 w.heap.size w.heap.size []) := hM0
  clear hM0 hW1 cn
  go_wp2_with fail
  go_loopw [8, 9, 10] (fun y u i w' => ∃ (k : Nat) (q : Int) (g : Bool) (M : List Lk), y = .int .i64 q ∧ u = .bool g ∧ i = .int .i64 (k : Int) ∧ k ≤ len ∧ k ≤ 40 ∧ M.length = k ∧ (∀ x ∈ M, x.m = -1) ∧ ((q = p ∧ g = false ∧ M = []) ∨ (within p = true ∧ (within q = true → thru side (M.map (·.l)) p = some (q, g)) ∧ (within q = false → thru side (M.map (·.l)) p = none ∧ 65536 < q))) ∧ MapP w' w.heap.size w.heap.size M ∧ Below w.heap.size w w') (fun _ _ i _ => 40 - (intOf i).toNat)
  case atStart => exact ⟨0, p, false, [], rfl, rfl, rfl, Nat.zero_le _, by omega, rfl, by simp, .inl ⟨rfl, rfl, rfl⟩, HM0.out, hB1⟩
  case round =>
    obtain ⟨k, q, g, M, rfl, rfl, rfl, hk, hk40, hMl, hMm, hinv, hMP, hB⟩ := hrel
    have HINV : Hid ((q = p ∧ g = false ∧ M = []) ∨ (within p = true ∧ (within q = true → thru side (M.map (·.l)) p = some (q, g)) ∧ (within q = false → thru side (M.map (·.l)) p = none ∧ 65536 < q))) := hinv
    have HMM : Hid (∀ x ∈ M, x.m = -1) := hMm
    have HMP : Hid (MapP wr w.heap.size w.heap.size M) := hMP
    clear hinv hMm hMP
    by_cases hlt : k < len
    · by_cases hlt40 : k < 40
      · obtain ⟨b, o, x, rfl, hbl, _, hc⟩ := HX.out k hlt
        obtain ⟨c0, hok⟩ := hc wr hB
        have cad := HADD.out wr x _ M hok HMP.out (by omega) hB.size
        have HC : Hid (∀ X, Below w.heap.size w X → X.cell? ⟨b, o + k, none⟩ = some (.slice x.a x.len x.cap) ∧ RwOk X x) := hc
        have HRR := HRIGHT.out
        have HRI : Hid (∀ X, Below w.heap.size w X → Calls Try.prog 13 #[.slice x.a x.len x.cap] X fun e w' => e = .returned (.bool (right x.l)) ∧ Below X.heap.size X w') := fun X hX => HRIGHT.out X x (hc X hX).2
        have HMA : Hid (∀ X, Below w.heap.size w X → Calls Try.prog 10 #[.slice x.a x.len x.cap, .int .i64 q, .int .i64 side] X fun e w' => e = .returned (.tuple #[spotV (mapA x.l q side), .int .i64 (mapE x.l q)]) ∧ Below X.heap.size X w') := fun X hX => HMAP.out X x q (hc X hX).2
        have HNEW : Hid (right x.l = true → within q = true → (mapA x.l q side = sendL x.l 0 0 q side ∧ mapE x.l q = 0) ∧ ∀ (a1 : Option Addr) (c1 : Nat), (within p = true ∧ (within (sendL x.l 0 0 q side).at' = true → thru side ((M ++ [(⟨a1, x.len, c1, x.l, -1⟩ : Lk)]).map (·.l)) p = some ((sendL x.l 0 0 q side).at', g || (sendL x.l 0 0 q side).gone)) ∧ (within (sendL x.l 0 0 q side).at' = false → thru side ((M ++ [(⟨a1, x.len, c1, x.l, -1⟩ : Lk)]).map (·.l)) p = none ∧ 65536 < (sendL x.l 0 0 q side).at'))) := fun hr hq => by
          refine ⟨⟨map_send hr hq side, map_zero hr hq⟩, fun a1 c1 => ?_⟩
          have hq' := (within_iff q).1 hq
          have hlow := send_low x.l 0 0 0 q side (right_len hr).2 hq'.1
          rw [List.map_append, List.map_cons, List.map_nil, thru_snoc]
          have hb : within p = true ∧ thru side (M.map (·.l)) p = some (q, g) := by
            rcases HINV.out with ⟨rfl, rfl, rfl⟩ | ⟨h1, h2, _⟩
            · exact ⟨hq, rfl⟩
            · exact ⟨h1, h2 hq⟩
          rw [hb.2]
          simp only [Option.bind_some]
          refine ⟨hb.1, fun h => by rw [if_pos h], fun h => ⟨by rw [if_neg (by rw [h]; simp)], ?_⟩⟩
          have hn : ¬ within (sendL x.l 0 0 q side).at' = true := by rw [h]; simp
          rw [within_iff] at hn
          omega
        have HBAD : Hid (right x.l = true → within q = false → mapE x.l q = 1) := fun h1 h2 => by unfold mapE; rw [h1, h2]; simp
        have hBB : Below w.heap.size w wr := hB
        unfold spotV at HMA
        obtain ⟨xa, xl, xc, xll⟩ := x
        simp only at *
        clear hc hok HINV
        generalize mapA xll q side = s at *
        generalize hss : sendL xll 0 0 q side = ss at *
        clear hss
        go_wp2_with fail
        refine cad.mono ?_
        rintro e X (⟨hr, rfl, hX⟩ | ⟨hr, rfl, a1, c1, hMX, hKX⟩)
        · have hC := hB.trans (hX.mono hB.size)
          obtain ⟨c1, _⟩ := HC.out X hC
          have cri := HRI.out X hC
          rw [hr] at cri
          go_wp2_with fail
          refine cri.mono ?_
          rintro e Y ⟨rfl, hY⟩
          have hCY := hC.trans (hY.mono hC.size)
          go_wp2_with fail
          refine (awake_calls _).mono ?_
          rintro e W9 ⟨rfl, hB9⟩
          go_wp2
          go_ret
          exact ⟨rfl, hCY.trans (hB9.mono hCY.size)⟩
        · have hC := hB.trans hKX.1
          obtain ⟨c2, _⟩ := HC.out X hC
          have cma := HMA.out X hC
          have HMX : Hid (MapP X w.heap.size w.heap.size (M ++ [⟨a1, xl, c1, xll, -1⟩])) := hMX
          clear hMX hKX cad
          by_cases hwq : within q = true
          · obtain ⟨⟨e1, e2⟩, hnx⟩ := HNEW.out hr hwq
            rw [e2] at cma
            subst e1
            obtain ⟨s0, s1, s2, s3⟩ := s
            simp only at *
            have HNX : Hid (within p = true ∧ (within s0 = true → thru side ((M ++ [(⟨a1, xl, c1, xll, -1⟩ : Lk)]).map (·.l)) p = some (s0, g || s1)) ∧ (within s0 = false → thru side ((M ++ [(⟨a1, xl, c1, xll, -1⟩ : Lk)]).map (·.l)) p = none ∧ 65536 < s0)) := hnx a1 c1
            clear hnx HNEW HBAD
            go_wp2_with fail
            refine cma.mono ?_
            rintro e Y ⟨rfl, hY⟩
            have hCY := hC.trans (hY.mono hC.size)
            have hAY : ∀ ob, Below w.heap.size w (Y.alloc ob) := fun ob => hCY.alloc hCY.size _
            have HMY : Hid (∀ ob, MapP (Y.alloc ob) w.heap.size w.heap.size (M ++ [⟨a1, xl, c1, xll, -1⟩])) := fun ob => (HMX.out.below hY hC.size).below ((Below.refl _ _).alloc (Nat.le_refl _) _) hCY.size
            have HML : Hid ((M ++ [(⟨a1, xl, c1, xll, -1⟩ : Lk)]).length = k + 1 ∧ ∀ x ∈ M ++ [(⟨a1, xl, c1, xll, -1⟩ : Lk)], x.m = -1) := ⟨by simp [hMl], fun x hx => by
              rcases List.mem_append.1 hx with h | h
              · exact HMM.out x h
              · obtain rfl : x = ⟨a1, xl, c1, xll, -1⟩ := by simpa using h
                rfl⟩
            cases g with
            | false =>
              go_wp2
              go_roundw
              case rel => exact ⟨k + 1, s0, s1, M ++ [⟨a1, xl, c1, xll, -1⟩], rfl, by simp, by go_num, by omega, by omega, HML.out.1, HML.out.2, .inr (by simpa using HNX.out), HMY.out _, hAY _⟩
              case measure => simp [intOf]; omega
            | true =>
              go_wp2
              go_roundw
              case rel => exact ⟨k + 1, s0, true, M ++ [⟨a1, xl, c1, xll, -1⟩], rfl, by simp, by go_num, by omega, by omega, HML.out.1, HML.out.2, .inr (by simpa using HNX.out), HMY.out _, hAY _⟩
              case measure => simp [intOf]; omega
          · have hwf : within q = false := by simpa using hwq
            rw [HBAD.out hr hwf] at cma
            obtain ⟨s0, s1, s2, s3⟩ := s
            simp only at *
            clear HNEW HBAD
            go_wp2_with fail
            refine cma.mono ?_
            rintro e Y ⟨rfl, hY⟩
            have hCY := hC.trans (hY.mono hC.size)
            have hAY : ∀ ob, Below w.heap.size w (Y.alloc ob) := fun ob => hCY.alloc hCY.size _
            go_wp2_with fail
            refine (awake_calls _).mono ?_
            rintro e W9 ⟨rfl, hB9⟩
            go_wp2
            go_ret
            exact ⟨rfl, (hAY _).trans (hB9.mono (hAY _).size)⟩
      · have hnl : ¬ ((k : Int) < 40) := by omega
        have cmm := mmap_calls w.heap.size w.heap.size M 0 p side wr HMP.out (by omega) (fun i hi => by
          have : mirAt M i = -1 := by
            unfold mirAt
            rw [List.getElem?_eq_getElem hi]
            exact HMM.out _ (List.getElem_mem hi)
          omega) hB.size
        by_cases hpw : within p = true
        · have hp' := (within_iff p).1 hpw
          have hR := mmR_thru M p side HMM.out hpw
          by_cases hqw : within q = true
          · have hT : thru side (M.map (·.l)) p = some (q, g) := by
              rcases HINV.out with ⟨rfl, rfl, rfl⟩ | ⟨h1, h2, _⟩
              · rfl
              · exact h2 hqw
            rw [hR, hT] at cmm
            unfold mmV at cmm
            simp only at cmm
            have eq1 : (q == q) = true := by simp
            have eq2 : (g == g) = true := by simp
            clear hR hT HINV HMM HMP
            go_wp2_with fail
            refine cmm.mono ?_
            rintro e Y ⟨rfl, hY⟩
            have hCY := hB.trans (hY.mono hB.size)
            have hAY : ∀ ob, Below w.heap.size w (Y.alloc ob) := fun ob => hCY.alloc hCY.size _
            go_wp2_with fail
            refine (awake_calls _).mono ?_
            rintro e W9 ⟨rfl, hB9⟩
            go_wp2
            go_ret
            exact ⟨rfl, (hAY _).trans (hB9.mono (hAY _).size)⟩
          · have hqf : within q = false := by simpa using hqw
            have hT : thru side (M.map (·.l)) p = none ∧ 65536 < q := by
              rcases HINV.out with ⟨rfl, rfl, rfl⟩ | ⟨h1, _, h2⟩
              · exact absurd hpw hqw
              · exact h2 hqf
            rw [hR, hT.1] at cmm
            unfold mmV at cmm
            simp only at cmm
            have hq65 := hT.2
            clear hR hT HINV HMM HMP
            go_wp2_with fail
            refine cmm.mono ?_
            rintro e Y ⟨rfl, hY⟩
            have hCY := hB.trans (hY.mono hB.size)
            have hAY : ∀ ob, Below w.heap.size w (Y.alloc ob) := fun ob => hCY.alloc hCY.size _
            go_wp2_with fail
            refine (awake_calls _).mono ?_
            rintro e W9 ⟨rfl, hB9⟩
            go_wp2
            go_ret
            exact ⟨rfl, (hAY _).trans (hB9.mono (hAY _).size)⟩
        · have hpf : within p = false := by simpa using hpw
          rw [mmR_bad M p side hpf] at cmm
          unfold mmV at cmm
          simp only at cmm
          clear HINV HMM HMP
          by_cases hp0 : p < 0
          · go_wp2_with fail
            refine cmm.mono ?_
            rintro e Y ⟨rfl, hY⟩
            have hCY := hB.trans (hY.mono hB.size)
            have hAY : ∀ ob, Below w.heap.size w (Y.alloc ob) := fun ob => hCY.alloc hCY.size _
            go_wp2_with fail
            refine (awake_calls _).mono ?_
            rintro e W9 ⟨rfl, hB9⟩
            go_wp2
            go_ret
            exact ⟨rfl, (hAY _).trans (hB9.mono (hAY _).size)⟩
          · have hp65 : 65536 < p := by
              have : ¬ (0 ≤ p ∧ p ≤ 65536) := fun h => by rw [(within_iff p).2 h] at hpf; cases hpf
              omega
            go_wp2_with fail
            refine cmm.mono ?_
            rintro e Y ⟨rfl, hY⟩
            have hCY := hB.trans (hY.mono hB.size)
            have hAY : ∀ ob, Below w.heap.size w (Y.alloc ob) := fun ob => hCY.alloc hCY.size _
            go_wp2_with fail
            refine (awake_calls _).mono ?_
            rintro e W9 ⟨rfl, hB9⟩
            go_wp2
            go_ret
            exact ⟨rfl, (hAY _).trans (hB9.mono (hAY _).size)⟩
    · have hnl : ¬ ((k : Int) < len) := by omega
      have cmm := mmap_calls w.heap.size w.heap.size M 0 p side wr HMP.out (by omega) (fun i hi => by
        have : mirAt M i = -1 := by
          unfold mirAt
          rw [List.getElem?_eq_getElem hi]
          exact HMM.out _ (List.getElem_mem hi)
        omega) hB.size
      by_cases hpw : within p = true
      · have hp' := (within_iff p).1 hpw
        have hR := mmR_thru M p side HMM.out hpw
        by_cases hqw : within q = true
        · have hT : thru side (M.map (·.l)) p = some (q, g) := by
            rcases HINV.out with ⟨rfl, rfl, rfl⟩ | ⟨h1, h2, _⟩
            · rfl
            · exact h2 hqw
          rw [hR, hT] at cmm
          unfold mmV at cmm
          simp only at cmm
          have eq1 : (q == q) = true := by simp
          have eq2 : (g == g) = true := by simp
          clear hR hT HINV HMM HMP
          go_wp2_with fail
          refine cmm.mono ?_
          rintro e Y ⟨rfl, hY⟩
          have hCY := hB.trans (hY.mono hB.size)
          have hAY : ∀ ob, Below w.heap.size w (Y.alloc ob) := fun ob => hCY.alloc hCY.size _
          go_wp2_with fail
          refine (awake_calls _).mono ?_
          rintro e W9 ⟨rfl, hB9⟩
          go_wp2
          go_ret
          exact ⟨rfl, (hAY _).trans (hB9.mono (hAY _).size)⟩
        · have hqf : within q = false := by simpa using hqw
          have hT : thru side (M.map (·.l)) p = none ∧ 65536 < q := by
            rcases HINV.out with ⟨rfl, rfl, rfl⟩ | ⟨h1, _, h2⟩
            · exact absurd hpw hqw
            · exact h2 hqf
          rw [hR, hT.1] at cmm
          unfold mmV at cmm
          simp only at cmm
          have hq65 := hT.2
          clear hR hT HINV HMM HMP
          go_wp2_with fail
          refine cmm.mono ?_
          rintro e Y ⟨rfl, hY⟩
          have hCY := hB.trans (hY.mono hB.size)
          have hAY : ∀ ob, Below w.heap.size w (Y.alloc ob) := fun ob => hCY.alloc hCY.size _
          go_wp2_with fail
          refine (awake_calls _).mono ?_
          rintro e W9 ⟨rfl, hB9⟩
          go_wp2
          go_ret
          exact ⟨rfl, (hAY _).trans (hB9.mono (hAY _).size)⟩
      · have hpf : within p = false := by simpa using hpw
        rw [mmR_bad M p side hpf] at cmm
        unfold mmV at cmm
        simp only at cmm
        clear HINV HMM HMP
        by_cases hp0 : p < 0
        · go_wp2_with fail
          refine cmm.mono ?_
          rintro e Y ⟨rfl, hY⟩
          have hCY := hB.trans (hY.mono hB.size)
          have hAY : ∀ ob, Below w.heap.size w (Y.alloc ob) := fun ob => hCY.alloc hCY.size _
          go_wp2_with fail
          refine (awake_calls _).mono ?_
          rintro e W9 ⟨rfl, hB9⟩
          go_wp2
          go_ret
          exact ⟨rfl, (hAY _).trans (hB9.mono (hAY _).size)⟩
        · have hp65 : 65536 < p := by
            have : ¬ (0 ≤ p ∧ p ≤ 65536) := fun h => by rw [(within_iff p).2 h] at hpf; cases hpf
            omega
          go_wp2_with fail
          refine cmm.mono ?_
          rintro e Y ⟨rfl, hY⟩
          have hCY := hB.trans (hY.mono hB.size)
          have hAY : ∀ ob, Below w.heap.size w (Y.alloc ob) := fun ob => hCY.alloc hCY.size _
          go_wp2_with fail
          refine (awake_calls _).mono ?_
          rintro e W9 ⟨rfl, hB9⟩
          go_wp2
          go_ret
          exact ⟨rfl, (hAY _).trans (hB9.mono (hAY _).size)⟩

theorem own : ownKnob Try.prog.godebug = none := by kernel_rfl
theorem laidOut : laidOutB Try.prog = true := by kernel_rfl

theorem contract (H : Type) (enc : TypeId × Value → H) (W : World) (base : Nat) (args : Array Value) (ds gs : List (DataW H)) (before : List MemPlace)
    (hval : ∀ (j : Nat) t v, Try.f5.params[j]? = some t → args[j]? = some v → Value.okWide Try.prog W .any base t v)
    (hW : DataW.Whole enc Try.prog Try.f5.params.toList Rows.posAddsSpec.vars false W args.toList ds gs before) (hsz0 : (DataW.weightsEach Try.prog (Try.f5.params.toList ++ Rows.posAddsSpec.plain.varTypes Try.prog) (ds ++ gs)).all (· ≤ reachBytes) = true) :
    Calls Try.prog 5 args W fun e W' => ∃ v, e = .returned v ∧ Rows.posAddsSpec.post enc Try.prog Try.f5 false true false false W args v W' := by
  have hW' := hW
  obtain ⟨p, q, hA0, hV, rfl, hfz, hnd⟩ := hW'
  have hA : DataW.TrodAll enc Try.prog W 0 (fun _ => true) true Try.f5.params.toList args.toList ds p := hA0
  rw [Try.params5] at hA hval
  obtain ⟨v0, vs0, d0, ds0, p0, q0, hargs, rfl, rfl, h0, r0⟩ := trodAll_cons hA
  obtain ⟨v1, vs1, d1, ds1, p1, q1, rfl, rfl, rfl, h1, r1⟩ := trodAll_cons r0
  obtain ⟨v2, vs2, d2, ds2, p2, q2, rfl, rfl, rfl, h2, r2⟩ := trodAll_cons r1
  obtain ⟨rfl, rfl, rfl⟩ := trodAll_nil r2
  obtain rfl : args = #[v0, v1, v2] := by cases args; simp_all
  obtain ⟨rfl, rfl⟩ := trodVars_none hV
  obtain ⟨a0, len0, cap0, rfl⟩ := okWide_slice Try.underlying43 (hval 0 43 v0 rfl rfl)
  have lt0 : ∀ x ∈ p0, x.block < W.heap.size := by obtain ⟨m, hm⟩ := h0; exact DataW.trod_lt m _ _ _ hm
  obtain ⟨l0, w0, s0⟩ := open_rows h0
  obtain ⟨a1, rfl, rfl, rfl, w1⟩ := open_int Try.underlying3 (hval 1 3 v1 rfl rfl) h1
  obtain ⟨a2, rfl, rfl, rfl, w2⟩ := open_int Try.underlying3 (hval 2 3 v2 rfl rfl) h2
  clear hA0 hsz0
  refine (walk a0 len0 cap0 l0 a1 a2 W w0 s0).mono fun e W' ⟨he, bel⟩ => ?_
  subst he
  exact ⟨_, rfl, _, _, _, [], _, [], hW, trodAll_mk1 (shut_bool Try.underlying4 _), (trodAll_cons_mk (Below.trod laidOut (by kernel_rfl) (of_decide_eq_true (by kernel_rfl)) h0 bel lt0) (trodAll_cons_mk (shut_int Try.underlying3 w1) (trodAll_cons_mk (shut_int Try.underlying3 w2) trodAll_mk0))), rfl, bel.frame _, fun h => by cases h⟩

set_option maxRecDepth 100000 in
theorem lifted (os : Os) (started : os.Started) (H : Type) (enc : TypeId × Value → H) :
    ReturnsInHanded {} Try.checked os 5 .any (Rows.posAddsSpec.pre6 enc Try.prog Try.f5 Rows.posAddsRow.domain false) (Rows.posAddsSpec.post enc Try.prog Try.f5 false true false false) := by
  refine returnsInHanded_of_change_sized (C := Try.checked) own started (by kernel_rfl) Try.func5
    (ChangeSpec.witness6 (enc := enc) (C := Try.checked) false ⟨#[], #[.slice none 0 0, .int .i64 0, .int .i64 0], []⟩ 8 (by kernel_rfl) (by kernel_rfl) (by kernel_rfl) (by kernel_rfl)) ?_
  intro W base args ds gs before hval hW _ hsz _
  exact contract H enc W base args ds gs before hval hW hsz

theorem proved : Rows.PosAddsSaid :=
  OpenClaim.holds_of_wide 5 Try.f5 rfl rfl rfl rfl rfl rfl rfl ⟨rfl, rfl, rfl, rfl, rfl⟩ rfl rfl rfl rfl rfl (by kernel_rfl) Try.func5 (by kernel_rfl)
    (of_decide_eq_true (by kernel_rfl)) (by unfold Func.isWrapper; first | (rw [if_pos (by decide +kernel)]; kernel_rfl) | (rw [if_neg (by decide +kernel)]; exact ⟨rfl, rfl⟩))
    (fun os started H enc _ => lifted os started H enc)
end Go.Proofs.Ytiadcpbaopafgab.posAdds
namespace Go.Proofs.Ytiadcpbaopafgab
theorem PosAdds_holds : Rows.PosAddsSaid := posAdds.proved
end Go.Proofs.Ytiadcpbaopafgab
