/-
  PROVED HERE: reg's lay at every right tree: what it returns and leaves; nothing else is turned.
-/
import Derived.Test.YtajabenlkmgjeaaDoorLayName
import Derived.Test.YtajabenlkmgjeaaDoorLaySeq
import Derived.Test.YtajabenlkmgjeaaDoorLayAlt
import Derived.Test.YtajabenlkmgjeaaDoorLayRest
namespace Go.Proofs.YtajabenlkmgjeaaDoor
open Go.RowKit

theorem layD_node (gs : List Grp) (n : Nat) (k : Int) (s : ByteArray) (ts : List (DataW Unit)) (next : Nat) (L : List Place) : layD gs (n + 1) (node k s ts) next L =
    if k = 1 then (L ++ [(maskG gs s, [next], leastAt L next + 1)], L.length)
    else if k = 2 then laySeq (layD gs n) ts.reverse next L
    else if k = 3 then forkL (layAlt (layD gs n) next ts L []).1 (layAlt (layD gs n) next ts L []).2
    else if k = 4 then ((layLoop (layD gs n) ts next L).1, (layLoop (layD gs n) ts next L).2.1)
    else if k = 5 then ((layLoop (layD gs n) ts next L).1, (layLoop (layD gs n) ts next L).2.2)
    else if k = 6 then layOpt (layD gs n) ts next L
    else (L, next) := by
  unfold layD
  rw [lay, kindT_node, subs_node, nameT_node]
theorem saneD_node {gs : List Grp} {n : Nat} {k : Int} {s : ByteArray} {ts : List (DataW Unit)} (h : SaneD gs (n + 1) (node k s ts)) : (k = 1 → maskG gs s ≠ 0) ∧ (k = 2 ∨ k = 3 → ts ≠ []) ∧ (k = 4 ∨ k = 5 ∨ k = 6 → ∃ x, ts = [x]) ∧ ∀ x ∈ ts, SaneD gs n x := by
  unfold SaneD at h
  rw [Sane, kindT_node, subs_node, nameT_node] at h
  exact h
theorem need_node (n : Nat) (k : Int) (s : ByteArray) (x : DataW Unit) : 2 + need subs n x ≤ need subs (n + 1) (node k s [x]) := by
  rw [need, subs_node]
  simp
  omega
theorem len_need (n : Nat) (k : Int) (s : ByteArray) (ts : List (DataW Unit)) {gs : List Grp} (h : ∀ x ∈ ts, SaneD gs n x) : ts.length ≤ need subs (n + 1) (node k s ts) := by
  rw [need, subs_node]
  cases n with
  | zero =>
    cases ts with
    | nil => simp
    | cons x r => exact (h x (List.mem_cons_self ..)).elim
  | succ n =>
    have : ∀ l : List (DataW Unit), l.length ≤ (l.map (need subs (n + 1))).sum := by
      intro l
      induction l with
      | nil => exact Nat.le_refl _
      | cons x r ih =>
        have h1 : 3 ≤ need subs (n + 1) x := by rw [need]; omega
        rw [List.map_cons, List.sum_cons, List.length_cons]
        omega
    have := this ts
    omega
theorem lay_calls (W0 : World) (gs : List Grp) (ga : Option Addr) (gl gc : Nat) (hG : Groups W0 ga gl gs) (hgr : rightG gs = true) : ∀ n, LayC W0 gs ga gl gc n := by
  intro n
  induction n with
  | zero => intro t v w next A B L hE; exact hE.elim
  | succ n ih =>
    intro t v w next A B L hE hS hB hA hP hwf hn hlen
    have hE' := hE
    obtain ⟨k, s, a, len, cap, ts, rfl, rfl, hl, hz, hk⟩ := hE
    obtain ⟨s1, s3, s4, sk⟩ := saneD_node hS
    have hln := len_need n k s ts sk
    rw [layD_node]
    by_cases k1 : k = 1
    · subst k1
      rw [if_pos rfl]
      exact layname_calls W0 gs ga gl gc hG hgr s a len cap w next A B L hB hA hP hwf hn (by omega)
    rw [if_neg k1]
    by_cases k2 : k = 2
    · subst k2
      rw [if_pos rfl]
      exact layseq_calls W0 gs ga gl gc n ih s a len cap ts w next A B L hE' (s3 (.inl rfl)) sk hB hA hP hwf hn hlen
    rw [if_neg k2]
    by_cases k3 : k = 3
    · subst k3
      rw [if_pos rfl]
      exact layalt_calls W0 gs ga gl gc n ih s a len cap ts w next A B L hE' (s3 (.inr rfl)) sk hB hA hP hwf hn hlen (by omega)
    rw [if_neg k3]
    by_cases k4 : k = 4
    · subst k4
      rw [if_pos rfl]
      obtain ⟨x, rfl⟩ := s4 (.inl rfl)
      have := need_node n 4 s x
      exact laystar_calls W0 gs ga gl gc n ih s a len cap x w next A B L hE' (sk x (List.mem_singleton.2 rfl)) hB hA hP hwf hn (by omega)
    rw [if_neg k4]
    by_cases k5 : k = 5
    · subst k5
      rw [if_pos rfl]
      obtain ⟨x, rfl⟩ := s4 (.inr (.inl rfl))
      have := need_node n 5 s x
      exact layplus_calls W0 gs ga gl gc n ih s a len cap x w next A B L hE' (sk x (List.mem_singleton.2 rfl)) hB hA hP hwf hn (by omega)
    rw [if_neg k5]
    by_cases k6 : k = 6
    · subst k6
      rw [if_pos rfl]
      obtain ⟨x, rfl⟩ := s4 (.inr (.inr rfl))
      have := need_node n 6 s x
      exact layopt_calls W0 gs ga gl gc n ih s a len cap x w next A B L hE' (sk x (List.mem_singleton.2 rfl)) hB hA hP hwf hn (by omega)
    rw [if_neg k6]
    exact laynone_calls W0 ga gl gc k (by omega) s a len cap w next A B L hB hP
end Go.Proofs.YtajabenlkmgjeaaDoor
