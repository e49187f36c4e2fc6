/-
  PROVED HERE: the text of a right tree, read, is the tree: as Parse answers it.
-/
import Derived.Test.YtafidabopcgkhaaDoorPrint
import Derived.Test.YtafidabopcgkhaaDoorBlanks
import Derived.Test.YtafidabopcgkhaaDoorBack
import Derived.Test.YtafidabopcgkhaaDoorNam2
namespace Go.Proofs.YtafidabopcgkhaaDoor
open Go.RowKit

theorem back_out {w : World} {t : DataW Unit} {v : Value} (hX : Ex w 200 t v) (hc : checkE 200 t = 0) (hs : (textE 200 t).size ≤ 200) :
    outTree (textE 200 t) = t ∧ outE (textE 200 t) = 0 ∧ outN (textE 200 t) = (textE 200 t).size := by
  have hr := check_right hc
  have key : readT (bts (textE 200 t)) = some t := by
    by_cases h0 : kindT t = 0
    · have hX2 := hX
      obtain ⟨k, nm, a, ln, cp, ts, rfl, _, _, _, _⟩ := hX2
      rw [kindT_node] at h0
      subst h0
      rw [right_same] at hr
      unfold rightP at hr
      rw [if_pos rfl, Bool.and_eq_true] at hr
      have hts : ts = [] := List.length_eq_zero_iff.1 (by simpa using hr.2)
      subst hts
      have hnm : nm = ⟨#[]⟩ := by
        have h1 := hr.1
        rw [List.isEmpty_iff] at h1
        have h2 : nm.data.toList = [] := by rw [← ByteArray.toList_eq]; exact h1
        have h3 : nm.data = #[] := Array.toList_inj.1 h2
        cases nm
        simp_all
      subst hnm
      have ht : textE 200 (node 0 ⟨#[]⟩ []) = ⟨#[]⟩ := by
        rw [textE, kindT_node, subs_node, if_neg (by decide), if_neg (by decide), if_neg (by decide), if_neg (by decide), joinE]
      rw [ht]
      unfold readT
      rw [if_pos (show skipL (bts ⟨#[]⟩) = [] from by decide)]
    · exact read_back hr (Ex.good _ _ _ hX) h0
  obtain ⟨o1, o2, o3⟩ := out_some (by omega) key hc
  refine ⟨?_, o2, o3⟩
  unfold outTree
  rw [o1]
  rfl
theorem read_nam {s : ByteArray} {t : DataW Unit} (h : readT (bts s) = some t) (hs : s.size ≤ 200) : Nam2A t ∧ NamA t := by
  unfold readT at h
  by_cases h0 : skipL (bts s) = []
  · rw [if_pos h0] at h
    cases h
    exact ⟨Nam2A.node (by decide) (fun x hx => by cases hx), NamA.node (by decide) (fun x hx => by cases hx)⟩
  · rw [if_neg h0] at h
    cases hA : altN ((bts s).length + 1) (bts s) with
    | mk o q =>
      rw [hA] at h
      cases o with
      | none => cases h
      | some t0 =>
        cases q with
        | cons c q => cases h
        | nil =>
          cases h
          have hl := bts_length s
          exact ⟨(altN_named2 _ _ _ _ hA (by omega)).1, (altN_named _ _ _ _ hA (by omega)).1⟩
/-- What Print needs of a tree that Parse gave. -/
theorem read_small {s : ByteArray} {w : World} {v : Value} (h : outE s = 0) (hX : Ex w 200 (outTree s) v) :
    checkE 200 (outTree s) = 0 ∧ named 200 (outTree s) ∧ (textE 200 (outTree s)).size + 4 * 200 ≤ 140737488355328 := by
  obtain ⟨hs, t, hr, hc, ht⟩ := out_ok h
  rw [ht] at hX ⊢
  obtain ⟨n2, n1⟩ := read_nam hr hs
  have h1 := nam2_wt 200 t (n2 200)
  have h2 := textE_size 200 t (Ex.fits _ _ _ hX)
  have h3 : cnt 200 t ≤ 200 := by
    have hc2 := hc
    unfold checkE at hc2
    by_cases g : 200 < cnt 200 t ∨ 60 < dp 200 t
    · rw [if_pos g] at hc2
      cases hc2
    · omega
  exact ⟨hc, n1 200, by omega⟩
end Go.Proofs.YtafidabopcgkhaaDoor
