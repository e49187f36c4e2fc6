/-
  PROVED HERE: schema's fits and wordOf: whether a token may stand in a type; the types of what stands at places.
-/
import Derived.Test.YtgkplmnhmobnnaaGreatDoorSMSchF
import Derived.Test.YtgkplmnhmobnnaaGreatDoorSM38
namespace Go.Proofs.YtgkplmnhmobnnaaGreatDoor
open Go.RowKit

def specOf (ks : List KindD) (i : Nat) : SpecD := (ks[i]?.map (·.1)).getD zeroS
theorem specOf_some {ks : List KindD} {i : Nat} {x : KindD} (h : ks[i]? = some x) : specOf ks i = x.1 := by unfold specOf; rw [h]; rfl
/-- Whether a token may stand in a type, whatever stands beside it. -/
def fitsB (ks : List KindD) (s : SpecD) (x : Tok) : Bool := if x.k = 0 then takesR s x else if 1 ≤ x.t ∧ x.t < ks.length then mayBeB (specOf ks x.t.toNat) x else false
set_option maxRecDepth 100000 in
set_option maxHeartbeats 400000 in
theorem sfits_calls {B g c ng nc : Nat} {ks : List KindD} {gs : List Grp} {ts : List (DataW Unit)} (w : World) (h : SchAt w B g c ng nc ks gs ts) (h0 : 0 < ks.length) (x : Tok) (s : SpecD) (o : Nat) (hs : SpecAt w g o s) : Calls Tryz.prog 93 #[.pointer (some ⟨B, 0, none⟩), tokV x, .pointer (some ⟨g, o, none⟩)] w fun e w' => e = .returned (.bool (fitsB ks s x)) ∧ Below w.heap.size w w' := by
  obtain ⟨V, hV⟩ : ∃ V, V = w.alloc (.cells #[.int .i64 x.k, .int .i64 x.t, .int .i64 x.n, .int .i64 x.m] 51) := ⟨_, rfl⟩
  have hBV : Below w.heap.size w V := by rw [hV]; exact (Below.refl _ w).alloc (Nat.le_refl _) _
  have m0 : V.heap[w.heap.size]? = some (.cells #[.int .i64 x.k, .int .i64 x.t, .int .i64 x.n, .int .i64 x.m] 51 (0, 0)) := by rw [hV]; exact World.alloc_heap_new w _
  have hc := fun j => cell_of_row V w.heap.size j _ _ _ m0
  have k0 : V.cell? ⟨w.heap.size, 0, none⟩ = some (.int .i64 x.k) := hc 0
  have k1 : V.cell? ⟨w.heap.size, 1, none⟩ = some (.int .i64 x.t) := hc 1
  have k2 : V.cell? ⟨w.heap.size, 2, none⟩ = some (.int .i64 x.n) := hc 2
  have k3 : V.cell? ⟨w.heap.size, 3, none⟩ = some (.int .i64 x.m) := hc 3
  have HTR := takesrune_calls g o s x V (hs.same (hBV.block g h.glt)) (Nat.lt_of_lt_of_le h.glt hBV.size)
  have HTO := typeof_calls V (h.below hBV) h0 x.t
  have HMB : Hid (1 ≤ x.t ∧ x.t < ks.length → Calls Tryz.prog 121 #[.pointer (some ⟨g, x.t.toNat * 10, none⟩), tokV x] V fun e w' => e = .returned (.bool (mayBeB (specOf ks x.t.toNat) x)) ∧ Below V.heap.size V w') := fun hx => by
    obtain ⟨y, hy⟩ : ∃ y, ks[x.t.toNat]? = some y := ⟨_, List.getElem?_eq_getElem (by omega)⟩
    rw [specOf_some hy]
    exact maybe_calls g _ y.1 x V ((h.below hBV).kinds _ y hy).1 (h.below hBV).glt
  have HB : Hid (Below w.heap.size w V) := hBV
  have HV : Hid (w.alloc (.cells #[.int .i64 x.k, .int .i64 x.t, .int .i64 x.n, .int .i64 x.m] 51) = V) := hV.symm
  unfold fitsB
  unfold tokV at *
  clear h hs m0 hc hV hBV
  by_cases d0 : x.k = 0
  · rw [if_pos d0]
    have hd0 : (x.k == 0) = true := by simpa using d0
    generalize takesR s x = R at *
    clear HTO HMB d0
    go_enter Tryz.func93, Tryz.ntmps93
    go_wp2_with fail
    rw [HV.out]
    refine HTR.mono ?_
    rintro e W ⟨rfl, hB1⟩
    have HB1 : Hid (Below w.heap.size w W) := HB.out.trans (hB1.mono HB.out.size)
    clear hB1 HTR
    go_wp2
    go_ret
    exact ⟨rfl, HB1.out⟩
  · rw [if_neg d0]
    have hd0 : (x.k == 0) = false := by simpa using d0
    clear HTR d0
    by_cases d1 : 1 ≤ x.t ∧ x.t < ks.length
    · rw [if_pos d1] at HTO ⊢
      have HM := HMB.out d1
      generalize mayBeB (specOf ks x.t.toNat) x = R at *
      clear HMB d1
      go_enter Tryz.func93, Tryz.ntmps93
      go_wp2_with fail
      rw [HV.out]
      refine HTO.mono ?_
      rintro e W ⟨rfl, rfl⟩
      go_wp2_with fail
      refine HM.mono ?_
      rintro e W2 ⟨rfl, hB1⟩
      have HB1 : Hid (Below w.heap.size w W2) := HB.out.trans (hB1.mono HB.out.size)
      clear hB1 HM
      go_wp2
      go_ret
      exact ⟨rfl, HB1.out⟩
    · rw [if_neg d1] at HTO ⊢
      clear HMB d1
      go_enter Tryz.func93, Tryz.ntmps93
      go_wp2_with fail
      rw [HV.out]
      refine HTO.mono ?_
      rintro e W ⟨rfl, rfl⟩
      go_wp2
      go_ret
      exact ⟨rfl, HB.out⟩
/-- The types of what stands at places. -/
def typeAt (l : List Tok) (p : Int) : Int := ((l[p.toNat]?).map (·.t)).getD 0
def wordD (l : List Tok) (ps : List Int) : List Int := ps.map (typeAt l)
set_option maxRecDepth 100000 in
set_option maxHeartbeats 400000 in
theorem wordof_calls (a : Option Addr) (len cap : Nat) (l : List Tok) (ka : Option Addr) (kl kc : Nat) (ps : List Int) (w : World) (hl : Toks w a len l) (hk : Ints w ka kl ps) (hsz : len ≤ 2048) (hkl : kl ≤ 5000) (hps : ∀ p ∈ ps, 0 ≤ p ∧ p < len) :
    Calls Tryz.prog 41 #[.slice a len cap, .slice ka kl kc] w fun e w' => ∃ wa wc, e = .returned (.slice wa kl wc) ∧ w'.ownsRow w.heap.size 3 1 (.slice wa kl wc) kl (intsV (wordD l ps)) ∧ Below w.heap.size w w' := by
  have HL : Hid (∀ (X : World) (p : Nat), Below w.heap.size w X → p < len → ∃ b o x, a = some ⟨b, o, none⟩ ∧ l[p]? = some x ∧ X.cell? ⟨b, o + p * 4 + 1, none⟩ = some (.int .i64 x.t)) := fun X p hX hp => by
    obtain ⟨b, o, x, h1, _, h3, h4⟩ := hl.token hp
    exact ⟨b, o, x, h1, h3, (h4 X hX).2.1⟩
  have HK : Hid (∀ (X : World) (i : Nat), Below w.heap.size w X → i < kl → ∃ b o p, ka = some ⟨b, o, none⟩ ∧ ps[i]? = some p ∧ X.cell? ⟨b, o + i, none⟩ = some (.int .i64 p) ∧ 0 ≤ p ∧ p < len) := fun X i hX hi => by
    obtain ⟨b, o, p, h1, h2, h3⟩ := hk.at hi
    exact ⟨b, o, p, h1, h2, h3 X hX, hps p (List.mem_of_getElem? h2)⟩
  have HPL : Hid (ps.length = kl) := hk.1
  have hli : (len : Int) ≤ 2048 := by omega
  have hki : (kl : Int) ≤ 5000 := by omega
  have HO0 : Hid (w.ownsRow w.heap.size 3 1 (.slice none 0 0) 0 (intsV [])) := World.ownsRow_nil ..
  clear hl hk hps
  go_enter Tryz.func41, Tryz.ntmps41
  go_wp2
  go_loopg [5, 10] (kl + 1) (fun gk u v wr => ∃ (i : Nat) (ua : Option Addr) (uc : Nat), i ≤ kl ∧ kl < i + gk ∧ u = .slice ua i uc ∧ v = .int .i64 (i : Int) ∧ wr.ownsRow w.heap.size 3 1 (.slice ua i uc) i (intsV (wordD l (ps.take i))) ∧ Below w.heap.size w wr)
  case atStart => exact ⟨0, none, 0, Nat.zero_le _, by omega, rfl, rfl, HO0.out, Below.refl _ _⟩
  case round =>
    obtain ⟨i, ua, uc, hi, hgk, rfl, rfl, hown, hB⟩ := hrel
    clear HO0
    by_cases hlt : i < kl
    · obtain ⟨b, o, p, rfl, hp, c0, hp0, hp1⟩ := HK.out wr i hB hlt
      obtain ⟨q, rfl⟩ : ∃ q : Nat, p = (q : Int) := ⟨p.toNat, by omega⟩
      obtain ⟨b', o', x, rfl, hx, c1⟩ := HL.out wr q hB (by omega)
      have hii : (i : Int) < (kl : Int) := by omega
      have hi0 : (0 : Int) ≤ (i : Int) := by omega
      have hd : decide ((i : Int) < (kl : Int)) = true := by simpa using hii
      have hown2 := World.ownsRow.alloc hown (.cells #[.int .i64 x.t] 3)
      have hints := Ints.one (World.alloc_heap_new wr (.cells #[.int .i64 x.t] 3))
      have HW : Hid ((wr.alloc (.cells #[.int .i64 x.t] 3)).ownsRow w.heap.size 3 1 (.slice ua i uc) i (intsV (wordD l (ps.take i))) ∧ Ints (wr.alloc (.cells #[.int .i64 x.t] 3)) (some ⟨wr.heap.size, 0, none⟩) 1 [x.t] ∧ Below w.heap.size w (wr.alloc (.cells #[.int .i64 x.t] 3))) := ⟨hown2, hints, hB.alloc hB.size _⟩
      have hs1 : i + 1 ≤ 1000000000 := by omega
      have HT : Hid (wordD l (ps.take (i + 1)) = wordD l (ps.take i) ++ [x.t]) := by
        show wordD l (ps.take (i + 1)) = wordD l (ps.take i) ++ [x.t]
        unfold wordD
        rw [List.take_add_one, hp, List.map_append]
        congr 1
        show [typeAt l (q : Int)] = [x.t]
        unfold typeAt
        rw [Int.toNat_natCast, hx]
        rfl
      clear hown hB hown2 hints HK HL hp hx
      go_wp2_with (first
        | (at_builtin; refine wpList_append_ints rfl (.tmp 14) (.tmp 20) rfl w.heap.size _ i _ rfl HW.out.1 _ 1 1 [x.t] rfl (fun e => by cases e) HW.out.2.1 hs1 HW.out.2.2.size ?_; intro v1 W5 hown3 hB3; obtain ⟨va, vc, rfl⟩ := shape_owns hown3; have HN : Hid (W5.ownsRow w.heap.size 3 1 (.slice va (i + 1) vc) (i + 1) (intsV (wordD l (ps.take (i + 1)))) ∧ Below w.heap.size w W5) := ⟨by rw [HT.out]; exact hown3, HW.out.2.2.trans hB3⟩; clear hown3 hB3 HW HT)
        | fail)
      go_roundg (kl - i)
      case measure => omega
      case rel => exact ⟨i + 1, va, vc, by omega, by omega, rfl, by first | rfl | go_num, HN.out⟩
    · obtain rfl : i = kl := by omega
      have hd : decide ((i : Int) < (i : Int)) = false := by simp
      have HE : Hid (wr.ownsRow w.heap.size 3 1 (.slice ua i uc) i (intsV (wordD l ps)) ∧ Below w.heap.size w wr) := by
        rw [List.take_of_length_le (by have := HPL.out; omega)] at hown
        exact ⟨hown, hB⟩
      clear hown hB HK HL
      go_wp2
      go_ret
      exact ⟨ua, uc, rfl, HE.out⟩
end Go.Proofs.YtgkplmnhmobnnaaGreatDoor
