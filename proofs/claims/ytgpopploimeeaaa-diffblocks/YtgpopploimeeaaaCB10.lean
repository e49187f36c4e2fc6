/-
  PROVED HERE: what the texts RPairs, Sk say (each has its own words below).
-/
import Derived.Test.YtgpopploimeeaaaCB9
/- RPairs: the document's own pairs: the longest, of as many the least. -/
namespace Go.Proofs.Ytgpopploimeeaaa
open Go.RowKit

def pairV (l : List (Nat × Nat)) : List Value := l.flatMap fun x => [.int .i64 (x.1 : Int), .int .i64 (x.2 : Int)]

theorem info_pair : (Try.prog.info? 68).map (fun i => (i.zero, i.size, i.bytes)) = some (some (.agg #[.int .i64 0, .int .i64 0]), 2, 16) := by kernel_rfl
theorem infoPair : ∃ i0, Try.prog.info? 68 = some i0 ∧ i0.zero = some (.agg #[.int .i64 0, .int .i64 0]) ∧ i0.size = 2 ∧ i0.bytes = 16 := by
  obtain ⟨i0, hi, h⟩ := Option.map_eq_some_iff.1 info_pair
  simp only [Prod.mk.injEq] at h
  exact ⟨i0, hi, h.1, h.2.1, h.2.2⟩

theorem wp_run_append {o : Oper} {a : Act} {w : World} {K : Act → World → Prop} {Q : Exit → Act → World → Prop} (s x : Operand) (t : TypeId) (ho : o.op = .call { callee := .builtin .append, args := #[s, x], argTypes := #[t, t] })
    (v u v' : Value) (w' : World) (hs : a.eval s = v) (hx : a.eval x = u) (hr : (Builtin.append_ #[t, t] o.type #[v, u]).run Try.prog w = .ok v' w') (h : K (a.put o.dst v') w') : o.wp Try.prog a w K Q := by
  unfold Oper.wp execOp
  simp only [ho, resolve, invoke, builtin, Sem.run_bind, Sem.run_pure, Result.andThen_ok, List.map_toArray, List.map_cons, List.map_nil, hs, hx, hr]
  exact h
theorem wpList_run_append {ops : Array Oper} {rest : List Oper} {o : Oper} {a : Act} {w : World} {Q : Exit → Act → World → Prop} (hgd : o.guard = none) (s x : Operand) (t : TypeId) (ho : o.op = .call { callee := .builtin .append, args := #[s, x], argTypes := #[t, t] })
    (v u v' : Value) (w' : World) (hs : a.eval s = v) (hx : a.eval x = u) (hr : (Builtin.append_ #[t, t] o.type #[v, u]).run Try.prog w = .ok v' w') (h : wpList Try.prog ops Q rest (a.put o.dst v') w') : wpList Try.prog ops Q (o :: rest) a w :=
  wpList_plain hgd fun _ hK => wp_run_append s x t ho v u v' w' hs hx hr (hK _ _ h)

/-- append of one pair to what the call owns. -/
theorem append_pair (base : Nat) (v : Value) (l : List (Nat × Nat)) (W : World) (hown : W.ownsRow base 68 2 v l.length (pairV l)) (hbase : base ≤ W.heap.size) (hn : l.length ≤ 1000) (b : Nat) (p q : Nat) (h0 : W.cell? ⟨b, 0, none⟩ = some (.int .i64 (p : Int))) (h1 : W.cell? ⟨b, 1, none⟩ = some (.int .i64 (q : Int))) :
    ∃ v' W1, (Builtin.append_ #[26, 26] 26 #[v, .slice (some ⟨b, 0, none⟩) 1 1]).run Try.prog W = .ok v' W1 ∧ W1.ownsRow base 68 2 v' (l ++ [(p, q)]).length (pairV (l ++ [(p, q)])) ∧ W.grownBy W1 v.ownBlock ∧ (v'.ownBlock = v.ownBlock ∨ v'.ownBlock = some W.heap.size) := by
  obtain ⟨i0, hi, hz0, hz1, hz2⟩ := infoPair
  obtain ⟨v', W1, hrun, r1, r2, _, r3⟩ := run_append_own_at (P := Try.prog) W base 26 26 68 i0 (.agg #[.int .i64 0, .int .i64 0]) 2 16 Try.underlying26 hi hz0 hz1 hz2 rfl (by decide) v l.length _ hown ⟨b, 0, none⟩ 1 1 [.int .i64 (p : Int), .int .i64 (q : Int)] (by simp) (fun j u hj => by
    match j, hj with
    | 0, hj => cases hj; exact h0
    | 1, hj => cases hj; exact h1
    | j + 2, hj => simp at hj) (by simp [Value.oneCell']) (by unfold maxLen; omega) (by omega) hbase
  refine ⟨v', W1, hrun, ?_, r2, r3⟩
  have e1 : (l ++ [(p, q)]).length = l.length + 1 := by simp
  have e2 : pairV (l ++ [(p, q)]) = pairV l ++ [.int .i64 (p : Int), .int .i64 (q : Int)] := by unfold pairV; rw [List.flatMap_append]; rfl
  rw [e1, e2]
  exact r1

section
variable (like : Nat → Nat → Bool) (n m : Nat)
/-- The search: rows that have none, and this row up to a place. -/
def NoRows (i j p : Nat) : Prop := ∀ p' q', i ≤ p' → p' < p → j ≤ q' → q' < m → ¬ Opens like n m i j p' q'
def NoRow (i j p q : Nat) : Prop := ∀ q', j ≤ q' → q' < q → ¬ Opens like n m i j p q'
/-- Where the search by rows stands. -/
def OutS (i j p q : Nat) (f : Bool) : Prop := (f = false ∧ i ≤ p ∧ p ≤ n ∧ NoRows like n m i j p) ∨ (f = true ∧ p ≤ n ∧ ∃ p0 q0, p = p0 + 1 ∧ q = q0 + 1 ∧ IsNext like n m i j p0 q0)
/-- Where the search within a row stands. -/
def InS (i j p q : Nat) (f : Bool) : Prop := (f = false ∧ j ≤ q ∧ q ≤ m ∧ NoRow like n m i j p q) ∨ (f = true ∧ q ≤ m ∧ ∃ q0, q = q0 + 1 ∧ j ≤ q0 ∧ Opens like n m i j p q0 ∧ NoRow like n m i j p q0)
end

/-- What stays while the search goes on. -/
structure Pk (like : Nat → Nat → Bool) (w W : World) (lb lg g n m : Nat) (lrb rb : Nat → Nat) (v : Value) (l : List (Nat × Nat)) : Prop where
  own : W.ownsRow w.heap.size 68 2 v l.length (pairV l)
  grid : IntG W w.heap.size g (n + 1) (m + 1) rb (longP like n m)
  b : Below w.heap.size w W
  lik : Grd W lb lg n m lrb (fun i j => .bool (like i j))
  ne : ∀ k, v.ownBlock = some k → k ≠ g ∧ ∀ i, i < n + 1 → k ≠ rb i
theorem Pk.drewN {like : Nat → Nat → Bool} {w W : World} {lb lg g n m : Nat} {lrb rb : Nat → Nat} {v : Value} {l : List (Nat × Nat)} (h : Pk like w W lb lg g n m lrb rb v l) (c : Nat) : Pk like w (W.drewN c) lb lg g n m lrb rb v l :=
  ⟨h.own, h.grid.kept (Nat.le_refl _) rfl (fun _ _ => rfl), below_drewN h.b c, h.lik.kept (Nat.le_refl _) rfl (fun _ _ => rfl), h.ne⟩

/-- One pair more. -/
theorem Pk.more {like : Nat → Nat → Bool} {w W : World} {lb lg g n m : Nat} {lrb rb : Nat → Nat} {v : Value} {l : List (Nat × Nat)} (h : Pk like w W lb lg g n m lrb rb v l) (hl : l.length ≤ 400) (p q : Nat) :
    ∃ v' W1, (Builtin.append_ #[26, 26] 26 #[v, .slice (some ⟨W.heap.size, 0, none⟩) 1 1]).run Try.prog (W.alloc (.cells #[.int .i64 (p : Int), .int .i64 (q : Int)] 68)) = .ok v' W1 ∧
      Hid (W1.ownsRow w.heap.size 68 2 v' (l ++ [(p, q)]).length (pairV (l ++ [(p, q)])) ∧ IntG W1 w.heap.size g (n + 1) (m + 1) rb (longP like n m) ∧ Below w.heap.size w W1 ∧ (∀ k, v'.ownBlock = some k → k ≠ g ∧ ∀ i, i < n + 1 → k ≠ rb i)) := by
  have hown := h.own.alloc (.cells #[.int .i64 (p : Int), .int .i64 (q : Int)] 68)
  have hB := h.b.alloc h.b.size (.cells #[.int .i64 (p : Int), .int .i64 (q : Int)] 68)
  have hG : Grd (W.alloc (.cells #[.int .i64 (p : Int), .int .i64 (q : Int)] 68)) w.heap.size g (n + 1) (m + 1) rb _ := Grd.below h.grid ((Below.refl _ W).alloc (Nat.le_refl _) _)
  have hsz := World.size_alloc W (.cells #[.int .i64 (p : Int), .int .i64 (q : Int)] 68)
  have hnew := World.alloc_heap_new W (.cells #[.int .i64 (p : Int), .int .i64 (q : Int)] 68)
  generalize W.alloc (.cells #[.int .i64 (p : Int), .int .i64 (q : Int)] 68) = V at *
  have hws := h.b.size
  have c0 : V.cell? ⟨W.heap.size, 0, none⟩ = some (.int .i64 (p : Int)) := by simp only [World.cell?]; rw [hnew]; rfl
  have c1 : V.cell? ⟨W.heap.size, 1, none⟩ = some (.int .i64 (q : Int)) := by simp only [World.cell?]; rw [hnew]; rfl
  obtain ⟨v', W1, h1, h2, h3, h4⟩ := append_pair w.heap.size v l V hown (by omega) (by omega) W.heap.size p q c0 c1
  have hsz1 := h3.size
  refine ⟨v', W1, h1, h2, ?_, ?_, ?_⟩
  · exact hG.kept hsz1 (h3.block _ hG.gl (fun e => (h.ne _ e.symm).1 rfl)) (fun i hi => h3.block _ (hG.rl i hi) (fun e => (h.ne _ e.symm).2 i hi rfl))
  · exact hB.grown h3 (by omega) (fun j e => (World.ownsRow.lt hown _ e).1)
  · intro k e
    rcases h4 with h4 | h4
    · exact h.ne k (h4 ▸ e)
    · rw [h4] at e
      cases e
      exact ⟨fun e2 => by have := hG.gl; omega, fun i hi e2 => by have := hG.rl i hi; omega⟩

set_option maxRecDepth 100000 in
set_option maxHeartbeats 4000000 in
theorem pairs_calls (like : Nat → Nat → Bool) (lb lg n m cap : Nat) (lrb : Nat → Nat) (hn : n ≤ 400) (hm : m ≤ 400) (w : World) (hL : BoolG w lb lg n m lrb like) :
    Calls Try.prog 26 #[.slice (some ⟨lg, 0, none⟩) n cap, .int .i64 (n : Int), .int .i64 (m : Int)] w fun e w' => ∃ l v, e = .returned v ∧ IsPairs like n m 0 0 l ∧ l.length ≤ n ∧ w'.ownsRow w.heap.size 68 2 v l.length (pairV l) ∧ Below w.heap.size w w' := by
  have HT := hide_ (table_calls like lb lg n m cap lrb hn hm w hL)
  have hni : (n : Int) ≤ 400 := by omega
  have hmi : (m : Int) ≤ 400 := by omega
  have HL := hide_ hL
  clear hL
  go_enter Try.func26, Try.ntmps26
  go_wp2_with fail
  refine HT.out.mono ?_
  rintro e W1 ⟨g, rb, rfl, hG, hB⟩
  have HG := hide_ hG
  have HB := hide_ hB
  clear hG hB HT
  go_wp2
  go_loopg [8, 9, 10] (n + 1) (fun gk v u1 u2 wr => ∃ (l : List (Nat × Nat)) (i j : Nat), u1 = .int .i64 (i : Int) ∧ u2 = .int .i64 (j : Int) ∧ i ≤ n ∧ j ≤ m ∧ n < i + gk ∧ Hid ((∀ r, IsPairs like n m i j r → IsPairs like n m 0 0 (l ++ r)) ∧ l.length ≤ i ∧ wr.ownsRow w.heap.size 68 2 v l.length (pairV l) ∧ IntG wr w.heap.size g (n + 1) (m + 1) rb (longP like n m) ∧ Below w.heap.size w wr ∧ (∀ k, v.ownBlock = some k → k ≠ g ∧ ∀ i, i < n + 1 → k ≠ rb i)))
  case atStart => exact ⟨[], 0, 0, rfl, rfl, Nat.zero_le _, Nat.zero_le _, by omega, (fun r h => h), Nat.le_refl _, ⟨rfl, .inl ⟨rfl, rfl⟩⟩, HG.out, HB.out, fun k h => by cases h⟩
  case round =>
    obtain ⟨l, i, j, rfl, rfl, hi, hj, hgk, HR⟩ := hrel
    clear HG HB
    have hi0 : (0 : Int) ≤ (i : Int) := by omega
    have hj0 : (0 : Int) ≤ (j : Int) := by omega
    have hin1 : (i : Int) < (n : Int) + 1 := by omega
    have hjm1 : (j : Int) < (m : Int) + 1 := by omega
    have T0 := HR.out.2.2.2.1.top i (by omega)
    have Z := HR.out.2.2.2.1.row i j (by omega) (by omega)
    have bz := longP_le like n m i j
    by_cases hz : longP like n m i j = 0
    · rw [hz] at Z
      have HF : Hid (IsPairs like n m 0 0 l) := by
        have := HR.out.1 [] hz
        rw [List.append_nil] at this
        exact this
      go_wp2
      go_ret
      exact ⟨l, _, rfl, HF.out, by have := HR.out.2.1; omega, HR.out.2.2.1, HR.out.2.2.2.2.1⟩
    · have hzi : (0 : Int) < (longP like n m i j : Int) := by omega
      have hzn : 0 < longP like n m i j := by omega
      have HPK : Hid (Pk like w wr lb lg g n m lrb rb u8 l) := ⟨HR.out.2.2.1, HR.out.2.2.2.1, HR.out.2.2.2.2.1, Grd.below HL.out HR.out.2.2.2.2.1, HR.out.2.2.2.2.2⟩
      have HII : Hid ((∀ r, IsPairs like n m i j r → IsPairs like n m 0 0 (l ++ r)) ∧ l.length ≤ i) := ⟨HR.out.1, HR.out.2.1⟩
      clear HR
      go_wp2
      clear T0 Z
      go_loopg [11, 12, 13] (n + 1 - i) (fun gk a1 a2 a3 WT => ∃ (p q : Nat) (f : Bool), a1 = .int .i64 (p : Int) ∧ a2 = .int .i64 (q : Int) ∧ a3 = .bool f ∧ n < p + gk ∧ Hid (Pk like w WT lb lg g n m lrb rb u8 l) ∧ Hid (OutS like n m i j p q f))
      case atStart => exact ⟨i, j, false, rfl, rfl, rfl, by omega, HPK.out, .inl ⟨rfl, Nat.le_refl _, hi, fun p' q' h1 h2 => by omega⟩⟩
      case round =>
        obtain ⟨p, q, f, rfl, rfl, rfl, hgk2, HP, HC⟩ := hrel
        clear HPK
        have hp0 : (0 : Int) ≤ (p : Int) := by omega
        have hq0 : (0 : Int) ≤ (q : Int) := by omega
        rcases HC.out with ⟨rfl, hip, hpn, hno⟩ | ⟨rfl, hpn, p0, q0, rfl, rfl, hnx⟩
        · rcases Nat.lt_or_ge p n with hlt | hge
          · have hlti : (p : Int) < (n : Int) := by omega
            have HNO := hide_ hno
            clear HC hno
            go_wp2
            go_loopg [12, 13] (m + 1 - j) (fun gk a2 a3 WT => ∃ (q : Nat) (f : Bool), a2 = .int .i64 (q : Int) ∧ a3 = .bool f ∧ m < q + gk ∧ Hid (Pk like w WT lb lg g n m lrb rb u8 l) ∧ Hid (InS like n m i j p q f))
            case atStart => exact ⟨j, false, rfl, rfl, by omega, HP.out, .inl ⟨rfl, Nat.le_refl _, hj, fun q' h1 h2 => by omega⟩⟩
            case round =>
              obtain ⟨q, f, rfl, rfl, hgk3, HP2, HC⟩ := hrel
              clear HP
              have hq0 : (0 : Int) ≤ (q : Int) := by omega
              rcases HC.out with ⟨rfl, hjq, hqm, hnr⟩ | ⟨rfl, hqm, q0, rfl, hjq, hop, hnr⟩
              · rcases Nat.lt_or_ge q m with hql | hqe
                · have hqli : (q : Int) < (m : Int) := by omega
                  have HNR := hide_ hnr
                  have hpn0 : (p : Int) < (n : Int) + 1 := by omega
                  have hpn1 : (p : Int) + 1 < (n : Int) + 1 := by omega
                  have hqm1 : (q : Int) + 1 < (m : Int) + 1 := by omega
                  have L0 := HP2.out.lik.top p hlt
                  have L1 := HP2.out.lik.row p q hlt hql
                  have T0 := HP2.out.grid.top i (by omega)
                  have Z := HP2.out.grid.row i j (by omega) (by omega)
                  have T1 := HP2.out.grid.top (p + 1) (by omega)
                  have X := HP2.out.grid.row (p + 1) (q + 1) (by omega) (by omega)
                  have bx := longP_le like n m (p + 1) (q + 1)
                  have HPD := hide_ (fun c => HP2.out.drewN c)
                  clear HC hnr
                  by_cases hlk : like p q = true
                  · rw [hlk] at L1
                    by_cases heq : 1 + longP like n m (p + 1) (q + 1) = longP like n m i j
                    · have heqb : ((1 : Int) + (longP like n m (p + 1) (q + 1) : Int) == (longP like n m i j : Int)) = true := by rw [beq_iff_eq]; omega
                      have HN : Hid (InS like n m i j p (q + 1) true) := .inr ⟨rfl, by omega, q, rfl, hjq, ⟨hlk, heq⟩, HNR.out⟩
                      clear HNR HP2 heq hlk
                      go_wp2
                      go_quiet (fail)
                      obtain ⟨V, hV⟩ : ∃ V, V = wr.drewN nq := ⟨_, rfl⟩
                      rw [← hV]
                      have HPV : Hid (Pk like w V lb lg g n m lrb rb u8 l) := by rw [hV]; exact HPD.out nq
                      clear hV
                      go_wp2
                      go_roundg (m - q)
                      case measure => omega
                      case rel => exact ⟨q + 1, true, by first | rfl | go_num, rfl, by omega, HPV, HN⟩
                    · have heqb : ((1 : Int) + (longP like n m (p + 1) (q + 1) : Int) == (longP like n m i j : Int)) = false := by rw [beq_eq_false_iff_ne]; omega
                      have HN : Hid (InS like n m i j p (q + 1) false) := .inl ⟨rfl, by omega, by omega, fun q' h1 h2 => by
                        by_cases e : q' = q
                        · subst e
                          exact fun h => heq h.2
                        · exact HNR.out q' h1 (by omega)⟩
                      clear HNR HP2 hlk heq
                      go_wp2
                      go_quiet (fail)
                      obtain ⟨V, hV⟩ : ∃ V, V = wr.drewN nq := ⟨_, rfl⟩
                      rw [← hV]
                      have HPV : Hid (Pk like w V lb lg g n m lrb rb u8 l) := by rw [hV]; exact HPD.out nq
                      clear hV
                      go_wp2
                      go_roundg (m - q)
                      case measure => omega
                      case rel => exact ⟨q + 1, false, by first | rfl | go_num, rfl, by omega, HPV, HN⟩
                  · have hlk' : like p q = false := by simpa using hlk
                    rw [hlk'] at L1
                    have HN : Hid (InS like n m i j p (q + 1) false) := .inl ⟨rfl, by omega, by omega, fun q' h1 h2 => by
                      by_cases e : q' = q
                      · subst e
                        exact fun h => hlk h.1
                      · exact HNR.out q' h1 (by omega)⟩
                    clear HNR HP2 hlk 
                    go_wp2
                    go_quiet (fail)
                    obtain ⟨V, hV⟩ : ∃ V, V = wr.drewN nq := ⟨_, rfl⟩
                    rw [← hV]
                    have HPV : Hid (Pk like w V lb lg g n m lrb rb u8 l) := by rw [hV]; exact HPD.out nq
                    clear hV
                    go_wp2
                    go_roundg (m - q)
                    case measure => omega
                    case rel => exact ⟨q + 1, false, by first | rfl | go_num, rfl, by omega, HPV, HN⟩
                · have hqle : ¬ ((q : Int) < (m : Int)) := by omega
                  have HN : Hid (OutS like n m i j (p + 1) q false) := by
                    refine .inl ⟨rfl, by omega, by omega, fun p' q' h1 h2 h3 h4 => ?_⟩
                    by_cases e : p' = p
                    · subst e
                      exact hnr q' h3 (by omega)
                    · exact HNO.out p' q' h1 (by omega) h3 h4
                  clear HC hnr HNO
                  go_wp2
                  go_roundg (n - p)
                  case measure => omega
                  case rel => exact ⟨p + 1, q, false, by first | rfl | go_num, rfl, rfl, by omega, HP2, HN⟩
              · have HN : Hid (OutS like n m i j (p + 1) (q0 + 1) true) :=
                  .inr ⟨rfl, by omega, p, q0, rfl, rfl, ⟨hip, hlt, hjq, by omega, hop, HNO.out, hnr⟩⟩
                clear HC hnr hop HNO
                by_cases hqq : ((q0 : Int) + 1 < (m : Int))
                · have hqq2 : q0 + 1 < m := by omega
                  go_wp2
                  go_roundg (n - p)
                  case measure => omega
                  case rel => exact ⟨p + 1, q0 + 1, true, by first | rfl | go_num, by first | rfl | go_num, rfl, by omega, HP2, HN⟩
                · have hqq2 : ¬ (q0 + 1 < m) := by omega
                  go_wp2
                  go_roundg (n - p)
                  case measure => omega
                  case rel => exact ⟨p + 1, q0 + 1, true, by first | rfl | go_num, by first | rfl | go_num, rfl, by omega, HP2, HN⟩
          · exfalso
            obtain ⟨p', q', h1, h2, h3, h4, h5⟩ := opens_some _ i j (Nat.le_refl _) (by omega : 0 < longP like n m i j)
            exact hno p' q' h1 (by omega) h3 h4 h5
        · have HNX := hide_ hnx
          have hi1 : ((p0 : Int) + 1 - 1) = (p0 : Int) := by omega
          have hi2 : ((q0 : Int) + 1 - 1) = (q0 : Int) := by omega
          have hp400 : (p0 : Int) ≤ 400 := by omega
          have hq400 : (q0 : Int) ≤ 400 := by have := hnx.qm; omega
          have hl400 : l.length ≤ 400 := by have := HII.out.2; omega
          obtain ⟨v', W1, hrun, HW1⟩ := HP.out.more hl400 p0 q0
          have HRUN := hide_ hrun
          have hq1 : q0 + 1 ≤ m := hnx.qm
          have HN : Hid ((∀ r, IsPairs like n m (p0 + 1) (q0 + 1) r → IsPairs like n m 0 0 ((l ++ [(p0, q0)]) ++ r)) ∧ (l ++ [(p0, q0)]).length ≤ p0 + 1) := by
            refine ⟨fun r h => ?_, ?_⟩
            · rw [List.append_assoc]
              exact HII.out.1 ((p0, q0) :: r) ⟨hzn, hnx, h⟩
            · have := HII.out.2
              have := hnx.ip
              simp only [List.length_append, List.length_cons, List.length_nil]
              omega
          have hip0 : i ≤ p0 := hnx.ip
          clear HC hnx hrun HP
          by_cases hpp : ((p0 : Int) + 1 < (n : Int))
          · have hpp2 : p0 + 1 < n := by omega
            go_wp2_with (first | (at_builtin; refine wpList_run_append rfl (.tmp 75) (.tmp 81) 26 rfl _ _ _ _ rfl rfl HRUN.out ?_) | fail)
            go_roundg (n - i)
            case measure => omega
            case rel => exact ⟨l ++ [(p0, q0)], p0 + 1, q0 + 1, by first | rfl | go_num, by first | rfl | go_num, hpn, hq1, by omega, HN.out.1, HN.out.2, HW1.out⟩
          · have hpp2 : ¬ (p0 + 1 < n) := by omega
            go_wp2_with (first | (at_builtin; refine wpList_run_append rfl (.tmp 75) (.tmp 81) 26 rfl _ _ _ _ rfl rfl HRUN.out ?_) | fail)
            go_roundg (n - i)
            case measure => omega
            case rel => exact ⟨l ++ [(p0, q0)], p0 + 1, q0 + 1, by first | rfl | go_num, by first | rfl | go_num, hpn, hq1, by omega, HN.out.1, HN.out.2, HW1.out⟩
end Go.Proofs.Ytgpopploimeeaaa

/- Sk: what the program's search for the longest pairs leaves as it was, and what it adds. -/
namespace Go.Proofs.Ytgpopploimeeaaa
open Go.RowKit

theorem owns_below {W W' : World} {b : Nat} {e : TypeId} {s : Nat} {v : Value} {n : Nat} {xs : List Value} (h : W.ownsRow b e s v n xs) (hB : Below W.heap.size W W') : W'.ownsRow b e s v n xs := by
  refine ⟨h.1, ?_⟩
  rcases h.2 with hn | ⟨g, cap, cur, rfl, hbb, hg, rest⟩
  · exact .inl hn
  · exact .inr ⟨g, cap, cur, rfl, hbb, (hB.block g (Array.getElem?_eq_some_iff.1 hg).1).trans hg, rest⟩

/-- What stays while the program's search goes on. -/
structure Sk (like : Nat → Nat → Bool) (w W : World) (g n m : Nat) (rb : Nat → Nat) (v : Value) (l : List (Nat × Nat)) : Prop where
  own : W.ownsRow w.heap.size 68 2 v l.length (pairV l)
  grid : IntG W w.heap.size g (n + 1) (m + 1) rb (longP like n m)
  b : Below w.heap.size w W
  ne : ∀ k, v.ownBlock = some k → k ≠ g ∧ ∀ i, i < n + 1 → k ≠ rb i
theorem Sk.below {like : Nat → Nat → Bool} {w W W' : World} {g n m : Nat} {rb : Nat → Nat} {v : Value} {l : List (Nat × Nat)} (h : Sk like w W g n m rb v l) (hB : Below W.heap.size W W') : Sk like w W' g n m rb v l :=
  ⟨owns_below h.own hB, Grd.below h.grid hB, h.b.trans (hB.mono h.b.size), h.ne⟩

/-- One pair more. -/
theorem Sk.more {like : Nat → Nat → Bool} {w W : World} {g n m : Nat} {rb : Nat → Nat} {v : Value} {l : List (Nat × Nat)} (h : Sk like w W g n m rb v l) (hl : l.length ≤ 400) (p q : Nat) :
    ∃ v' W1, (Builtin.append_ #[26, 26] 26 #[v, .slice (some ⟨W.heap.size, 0, none⟩) 1 1]).run Try.prog (W.alloc (.cells #[.int .i64 (p : Int), .int .i64 (q : Int)] 68)) = .ok v' W1 ∧
      Hid (Sk like w W1 g n m rb v' (l ++ [(p, q)])) := by
  have hown := h.own.alloc (.cells #[.int .i64 (p : Int), .int .i64 (q : Int)] 68)
  have hB := h.b.alloc h.b.size (.cells #[.int .i64 (p : Int), .int .i64 (q : Int)] 68)
  have hG : Grd (W.alloc (.cells #[.int .i64 (p : Int), .int .i64 (q : Int)] 68)) w.heap.size g (n + 1) (m + 1) rb _ := Grd.below h.grid ((Below.refl _ W).alloc (Nat.le_refl _) _)
  have hsz := World.size_alloc W (.cells #[.int .i64 (p : Int), .int .i64 (q : Int)] 68)
  have hnew := World.alloc_heap_new W (.cells #[.int .i64 (p : Int), .int .i64 (q : Int)] 68)
  generalize W.alloc (.cells #[.int .i64 (p : Int), .int .i64 (q : Int)] 68) = V at *
  have hws := h.b.size
  have c0 : V.cell? ⟨W.heap.size, 0, none⟩ = some (.int .i64 (p : Int)) := by simp only [World.cell?]; rw [hnew]; rfl
  have c1 : V.cell? ⟨W.heap.size, 1, none⟩ = some (.int .i64 (q : Int)) := by simp only [World.cell?]; rw [hnew]; rfl
  obtain ⟨v', W1, h1, h2, h3, h4⟩ := append_pair w.heap.size v l V hown (by omega) (by omega) W.heap.size p q c0 c1
  have hsz1 := h3.size
  refine ⟨v', W1, h1, h2, ?_, ?_, ?_⟩
  · exact hG.kept hsz1 (h3.block _ hG.gl (fun e => (h.ne _ e.symm).1 rfl)) (fun i hi => h3.block _ (hG.rl i hi) (fun e => (h.ne _ e.symm).2 i hi rfl))
  · exact hB.grown h3 (by omega) (fun j e => (World.ownsRow.lt hown _ e).1)
  · intro k e
    rcases h4 with h4 | h4
    · exact h.ne k (h4 ▸ e)
    · rw [h4] at e
      cases e
      exact ⟨fun e2 => by have := hG.gl; omega, fun i hi e2 => by have := hG.rl i hi; omega⟩
end Go.Proofs.Ytgpopploimeeaaa
