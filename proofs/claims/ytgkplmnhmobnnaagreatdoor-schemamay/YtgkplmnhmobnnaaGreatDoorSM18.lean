/-
  PROVED HERE: what the texts Takes, TakeI say (each has its own words below).
-/
import Derived.Test.YtgkplmnhmobnnaaGreatDoorSM17
/- Takes: reg's takes at every place and number: what it returns; nothing that lay before is turned. -/
namespace Go.Proofs.YtgkplmnhmobnnaaGreatDoor
open Go.RowKit Go.Maps

set_option maxRecDepth 100000 in
set_option maxHeartbeats 1000000 in
theorem takes_calls (m : Nat) (hm : m < 65536) (a : Option Addr) (n c : Nat) (l t : Int) (w : World) :
    Calls Tryz.prog 140 #[.agg #[.int .u16 (m : Int), .slice a n c, .int .i64 l], .int .i64 t] w fun e w' => e = .returned (.bool (takes m t)) ∧ w.grownBy w' none := by
  have HT : Hid (∀ W, Calls Tryz.prog 151 #[.int .i64 t] W fun e w' => e = .returned (.bool (isTy t)) ∧ w' = W) := fun W => istype_calls t W
  have HG : Hid (∀ o, w.grownBy (w.alloc o) none) := fun o => World.grownBy_alloc w o none
  have htk : takes m t = (isTy t && m.testBit t.toNat) := by unfold takes isTy; rfl
  rw [htk]
  cases hi : isTy t with
  | false =>
    rw [hi] at HT
    go_enter Tryz.func140, Tryz.ntmps140
    go_wp2_with fail
    refine (HT.out _).mono ?_
    rintro e W ⟨rfl, hW⟩
    rw [hW]
    go_wp2
    go_ret
    exact ⟨rfl, HG.out _⟩
  | true =>
    rw [hi] at HT
    have ht : 0 ≤ t ∧ t < 16 := by unfold isTy at hi; simpa using hi
    obtain ⟨t0, t1⟩ := ht
    have hb : (bits BinOp.and IntKind.u16 ((m : Int) / 2 ^ t.toNat) 1 != 0) = m.testBit t.toNat := by
      generalize t.toNat = k
      have e1 : ((m : Int) / 2 ^ k) = ((m / 2 ^ k : Nat) : Int) := by
        rw [Int.natCast_ediv]
        simp
      have hlt : m / 2 ^ k < 65536 := Nat.lt_of_le_of_lt (Nat.div_le_self _ _) hm
      have e2 := u16_and_nat (m / 2 ^ k) 1 hlt (by decide)
      rw [e1, show (1 : Int) = ((1 : Nat) : Int) from rfl, e2]
      unfold Nat.testBit
      rw [Nat.shiftRight_eq_div_pow, Nat.and_comm]
      rw [Bool.eq_iff_iff]
      simp
      omega
    go_enter Tryz.func140, Tryz.ntmps140
    go_wp2_with fail
    refine (HT.out _).mono ?_
    rintro e W ⟨rfl, hW⟩
    rw [hW]
    go_wp2
    go_ret
    exact ⟨rfl, HG.out _⟩
end Go.Proofs.YtgkplmnhmobnnaaGreatDoor

/- TakeI: reg's take at every walk and number: what it leaves; nothing else is turned. -/
namespace Go.Proofs.YtgkplmnhmobnnaaGreatDoor
open Go.RowKit Go.Maps

theorem Places.kinds {w w' : World} {lv : Value} {F : List Place} (h : Places w lv F) (hs : ∀ (b : Nat) (c : Array Value) (t : TypeId), w.heap[b]? = some (.cells c t (0, 0)) → (t = 150 ∨ t = 3) → w'.heap[b]? = w.heap[b]?) : Places w' lv F := by
  obtain ⟨rs, h1, h2⟩ := h
  refine ⟨rs, owns_same h1 fun g hg => ?_, fun i x hx => ?_⟩
  · obtain ⟨_, c, hc⟩ := owns_lt h1 hg
    exact hs g _ _ hc (.inl rfl)
  · obtain ⟨r, r1, r2, r3, r4⟩ := h2 i x hx
    exact ⟨r, r1, r2, r3, owns_same r4 fun g hg => by
      obtain ⟨_, c, hc⟩ := owns_lt r4 hg
      exact hs g _ _ hc (.inr rfl)⟩
/-- A walk: the places, where one may be, and an empty set. -/
structure WalkAt (w : World) (Bw : Nat) (lv : Value) (bh bs N : Nat) (F : List Place) (S : Nat → Bool) : Prop where
  blk : w.heap[Bw]? = some (.cells #[lv, .map (some bh), .map (some bs)] 146 (0, 0))
  here : SetAt w bh N S
  spare : SetAt w bs N (fun _ => false)
  ne : bh ≠ bs
  pl : Places w lv F
/-- What is known of places that were laid. -/
structure Sound1 (F : List Place) (N : Nat) : Prop where
  wf : wf F
  len : F.length = N
  small : N ≤ 1000000000
  mask : ∀ (i : Nat) (x : Place), F[i]? = some x → x.1 < 65536
  next : ∀ (i : Nat) (x : Place), F[i]? = some x → x.2.1.length ≤ 2000000000
theorem Sound1.lt {F : List Place} {N : Nat} (h : Sound1 F N) : ∀ (i : Nat) (x : Place), F[i]? = some x → x.1 = 0 → ∀ q ∈ x.2.1, q < N := by
  intro i x hx h0 q hq
  rcases Nat.eq_zero_or_pos i with rfl | hi
  · rw [h.wf.1] at hx
    cases hx
    cases hq
  · rcases h.wf.2 i x hi hx with ⟨h1, _⟩ | ⟨_, h2, _⟩
    · exact absurd h0 h1
    · rw [← h.len]
      exact (h2 q hq).1
theorem Sound1.step {F : List Place} {N : Nat} (h : Sound1 F N) {i : Nat} {x : Place} (hx : F[i]? = some x) (h0 : x.1 ≠ 0) : ∃ q, x.2.1 = [q] ∧ q < N := by
  have hi := (List.getElem?_eq_some_iff.1 hx).1
  rcases Nat.eq_zero_or_pos i with rfl | hp
  · rw [h.wf.1] at hx
    cases hx
    exact absurd rfl h0
  · rcases h.wf.2 i x hp hx with ⟨_, q, h2, h3, _⟩ | ⟨h1, _⟩
    · exact ⟨q, h2, by rw [← h.len]; omega⟩
    · exact absurd h1 h0
theorem cells3 {w : World} {B : Nat} {a b c : Value} {t : TypeId} (h : w.heap[B]? = some (.cells #[a, b, c] t (0, 0))) : w.cell? ⟨B, 0, none⟩ = some a ∧ w.cell? ⟨B, 1, none⟩ = some b ∧ w.cell? ⟨B, 2, none⟩ = some c ∧ w.frozen? ⟨B, 1, none⟩ = false ∧ w.frozen? ⟨B, 2, none⟩ = false := by
  have hc := fun j => cell_of_row w B j _ _ _ h
  exact ⟨hc 0, hc 1, hc 2, by simp [World.frozen?, h], by simp [World.frozen?, h]⟩
/-- What was reached so far by those that have come. -/
def Came (F : List Place) (Sh : Nat → Bool) (t : Int) (left : Lit → Bool) (q : Nat) : Prop := ∃ p x r k, Sh p = true ∧ left (.int .i64 (p : Int)) = false ∧ F[p]? = some x ∧ takes x.1 t = true ∧ x.2.1[0]? = some r ∧ Via F k r q
structure TakeI (F : List Place) (N : Nat) (lv : Value) (Sh : Nat → Bool) (t : Int) (bh bs rr : Nat) (W1 wr : World) (left : Lit → Bool) (cnt : Nat) (D1 : DataW Unit) (S1 : Nat → Bool) : Prop where
  rg : wr.ranges Tryz.prog 3 unitElem bh rr N D1 left cnt
  hs : ∀ kl, Maps.has D1 kl = left kl
  sub : ∀ kl, left kl = true → ∃ p : Nat, kl = .int .i64 (p : Int) ∧ Sh p = true
  sp : SetAt wr bs N S1
  sh : Shut1 F (fun q => S1 q = true)
  iff : ∀ q, S1 q = true ↔ Came F Sh t left q
  cl : ∀ (b : Nat) (c : Array Value) (ty : TypeId), W1.heap[b]? = some (.cells c ty (0, 0)) → wr.heap[b]? = W1.heap[b]?
  bel : Below 0 W1 wr
  same : ∀ k, k < W1.heap.size → k ≠ bh → k ≠ bs → wr.heap[k]? = W1.heap[k]?
theorem grownBy_below {w w' : World} {row : Option Nat} (h : w.grownBy w' row) : Below 0 w w' := ⟨h.os, h.tape, h.output, h.size, fun k hk => absurd hk (by omega)⟩
/-- The set as it was, one step on. -/
theorem TakeI.on {F : List Place} {N : Nat} {lv : Value} {Sh : Nat → Bool} {t : Int} {bh bs rr : Nat} {W1 wr : World} {left : Lit → Bool} {cnt : Nat} {D1 : DataW Unit} {S1 : Nat → Bool} (h : TakeI F N lv Sh t bh bs rr W1 wr left cnt D1 S1) (hr : W1.heap.size ≤ rr) (hne : bh ≠ bs) (hbsr : bs < W1.heap.size)
    {p : Nat} {x : Place} (hp : Sh p = true) (hx : F[p]? = some x) (hwf : (Lit.int .i64 (p : Int)).wf = true) {w1 w2 w3 w4 : World} {cnt2 : Nat} (g1 : wr.grownBy w1 (some rr)) (g2 : w1.grownBy w2 (some bh)) (hrg2 : w2.ranges Tryz.prog 3 unitElem bh rr N (D1.del (.int .i64 (p : Int))) (fun z => left z && !z.sameKey (.int .i64 (p : Int))) cnt2)
    (g3 : w2.grownBy w3 none) (g4 : w3.grownBy w4 (some bs)) {S2 : Nat → Bool} (hS2 : SetAt w4 bs N S2) (hG : (takes x.1 t = true ∧ ∃ r, x.2.1[0]? = some r ∧ Grown F S1 S2 r) ∨ (takes x.1 t = false ∧ S2 = S1)) (hlp : left (.int .i64 (p : Int)) = true) :
    TakeI F N lv Sh t bh bs rr W1 w4 (fun z => left z && !z.sameKey (.int .i64 (p : Int))) cnt2 (D1.del (.int .i64 (p : Int))) S2 := by
  have hrr : w3.ranges Tryz.prog 3 unitElem bh rr N (D1.del (.int .i64 (p : Int))) (fun z => left z && !z.sameKey (.int .i64 (p : Int))) cnt2 := hrg2.kept g3 (by simp) (by simp)
  have hrr4 : w4.ranges Tryz.prog 3 unitElem bh rr N (D1.del (.int .i64 (p : Int))) (fun z => left z && !z.sameKey (.int .i64 (p : Int))) cnt2 := hrr.kept g4 (by simp [hne]) (by simp; omega)
  have hkey : WideAt.IsKeyLit (.int .i64 (p : Int)) := by trivial
  have hsame : ∀ z : Lit, z.sameKey (.int .i64 (p : Int)) = true ↔ z = .int .i64 (p : Int) := fun z => ⟨fun e => WideAt.sameKey_eq e, fun e => by rw [e]; exact WideAt.sameKey_self hkey⟩
  have hcl : ∀ (b : Nat) (c : Array Value) (ty : TypeId), wr.heap[b]? = some (.cells c ty (0, 0)) → w4.heap[b]? = wr.heap[b]? := fun b c ty hb => by
    have hlt := (Array.getElem?_eq_some_iff.1 hb).1
    have e1 : w1.heap[b]? = wr.heap[b]? := g1.block b hlt (fun e => by
      cases e
      obtain ⟨es, clock, since, seen, c0, _, _, _, _, hri, _⟩ := h.rg
      rw [hb] at hri
      cases hri)
    have e2 : w2.heap[b]? = w1.heap[b]? := g2.block b (Nat.lt_of_lt_of_le hlt g1.size) (fun e => by
      cases e
      obtain ⟨es, clock, since, seen, c0, hbb, _⟩ := h.rg
      rw [hb] at hbb
      cases hbb)
    have hlt2 : b < w2.heap.size := Nat.lt_of_lt_of_le hlt (Nat.le_trans g1.size g2.size)
    have e3 : w3.heap[b]? = w2.heap[b]? := g3.block b hlt2 (by simp)
    have e4 : w4.heap[b]? = w3.heap[b]? := g4.block b (Nat.lt_of_lt_of_le hlt2 g3.size) (fun e => by
      cases e
      exact h.sp.notCells hb)
    rw [e4, e3, e2, e1]
  have hleft : ∀ q : Nat, (left (.int .i64 (q : Int)) && !(Lit.int .i64 (q : Int)).sameKey (.int .i64 (p : Int))) = false ↔ (left (.int .i64 (q : Int)) = false ∨ q = p) := fun q => by
    rw [Bool.and_eq_false_iff, Bool.not_eq_false', hsame]
    constructor
    · rintro (e | e)
      · exact .inl e
      · right
        have : (q : Int) = (p : Int) := by injection e
        omega
    · rintro (e | e)
      · exact .inl e
      · exact .inr (by rw [e])
  have hcame : ∀ q, Came F Sh t (fun z => left z && !z.sameKey (.int .i64 (p : Int))) q ↔ (Came F Sh t left q ∨ (takes x.1 t = true ∧ ∃ r k, x.2.1[0]? = some r ∧ Via F k r q)) := fun q => by
    constructor
    · rintro ⟨p', x', r, k, h1, h2, h3, h4, h5, h6⟩
      rcases (hleft p').1 h2 with e | e
      · exact .inl ⟨p', x', r, k, h1, e, h3, h4, h5, h6⟩
      · subst e
        rw [hx] at h3
        cases h3
        exact .inr ⟨h4, r, k, h5, h6⟩
    · rintro (⟨p', x', r, k, h1, h2, h3, h4, h5, h6⟩ | ⟨h4, r, k, h5, h6⟩)
      · exact ⟨p', x', r, k, h1, (hleft p').2 (.inl h2), h3, h4, h5, h6⟩
      · exact ⟨p, x, r, k, hp, (hleft p).2 (.inr rfl), hx, h4, h5, h6⟩
  refine ⟨hrr4, fun kl => ?_, fun kl hk => ?_, hS2, ?_, fun q => ?_, fun b c ty hb => ?_, ?_, fun k hk h1 h2 => ?_⟩
  · by_cases e : kl = .int .i64 (p : Int)
    · rw [e, has_del_same, (hsame _).2 rfl]
      simp
    · rw [has_del_other e, h.hs]
      have : kl.sameKey (.int .i64 (p : Int)) = false := by
        cases hc : kl.sameKey (.int .i64 (p : Int)) with
        | false => rfl
        | true => exact absurd ((hsame kl).1 hc) e
      rw [this]
      simp
  · simp only [Bool.and_eq_true] at hk
    exact h.sub kl hk.1
  · rcases hG with ⟨_, r, hr', hG⟩ | ⟨_, e⟩
    · exact (hG.iff h.sh).1
    · rw [e]; exact h.sh
  · rw [hcame]
    rcases hG with ⟨ht, r, hr', hG⟩ | ⟨ht, e⟩
    · rw [(hG.iff h.sh).2, h.iff]
      constructor
      · rintro (e | ⟨k, e⟩)
        · exact .inl e
        · exact .inr ⟨ht, r, k, hr', e⟩
      · rintro (e | ⟨_, r', k, e1, e2⟩)
        · exact .inl e
        · rw [hr'] at e1
          cases e1
          exact .inr ⟨k, e2⟩
    · rw [e, h.iff, ht]
      constructor
      · intro e; exact .inl e
      · rintro (e | ⟨e, _⟩)
        · exact e
        · cases e
  · rw [hcl b c ty ((h.cl b c ty hb).trans hb), h.cl b c ty hb]
  · exact h.bel.trans ((grownBy_below g1).trans ((grownBy_below g2).trans ((grownBy_below g3).trans (grownBy_below g4))))
  · have hb := h.bel.size
    rw [g4.block k (by have := g1.size; have := g2.size; have := g3.size; omega) (fun e => by cases e; exact h2 rfl), g3.block k (by have := g1.size; have := g2.size; omega) (by simp), g2.block k (by have := g1.size; omega) (fun e => by cases e; exact h1 rfl), g1.block k (by omega) (fun e => by cases e; omega), h.same k hk h1 h2]
end Go.Proofs.YtgkplmnhmobnnaaGreatDoor
