/-
  PROVED HERE: what the texts DFRParse, DFParseD, DFSp, DFNamesA say.
-/
import Derived.Test.YtjkebndkeamijaaGreatDoorCFDFRefChk
import Derived.Laws.Cover3
set_option maxRecDepth 100000
set_option maxHeartbeats 4000000
namespace Go.Proofs.YtjkebndkeamijaaGreatDoor
open Go.RowKit
theorem tree_none {s:ByteArray}(h:outT s=none):outTree s=emptyT:=by
 unfold outTree
 rw[h]
 rfl
theorem tree_some {s:ByteArray}{t:DataW Unit}(h:outT s=some t):outTree s=t:=by
 unfold outTree
 rw[h]
 rfl
def RWh (g:Nat)(s:ByteArray)(lo:Nat)(e:Ending)(w' : World):Prop :=
 ∃k nm a ln cp j f,PAt w' g s j f/\Pl s j/\e=.returned (.agg #[.int .i64 k,.string nm,.slice a ln cp]) ∧
  (((f=true\/j<s.size)/\outT s=none/\outE s=4/\outN s=j) ∨
   (f=false/\j=s.size/\∃t,readT (bts s)=some t/\ExA (fun b=>lo<=b) w' 200 t (.agg #[.int .i64 k,.string nm,.slice a ln cp])/\named 200 t/\cnt 200 t<=1152921504606846976))
theorem RSaid.whole {g:Nat}{s:ByteArray}{lo i:Nat}{e:Ending}{w' : World}(hs:¬200<s.size)(h0:skipL (bts s)≠[])(h:RSaid g s lo i (altN (s.size+1) (bts s)) e w'):RWh g s lo e w' := by
 obtain⟨j,t,m,⟨k,nm,a,ln,cp⟩,f,hP,hPl,hij,hG,h99,hX,rfl,hcase⟩:=h
 refine⟨k,nm,a,ln,cp,j,f,hP,hPl,rfl,?_⟩
 have hl:=bts_length s
 have none_of:∀o q,altN (s.size+1) (bts s)=(o,q)->q=left s j->(o=none\/q≠[])->outT s=none/\outE s=4/\outN s=j:=fun o q h1 h2 h3=>by
  obtain⟨o1,o2,o3⟩:=out_none hs (read_none h0 (by rw[hl];exact h1) h3);rw[h1] at o3;exact⟨o1,o2,o3.trans (left_inj hPl.1 h2)⟩
 rcases hcase with ⟨h1,h2,h3,_⟩ | ⟨h1,h2,_⟩
 ·by_cases hj:j<s.size
  ·refine .inl ⟨.inr hj,none_of _ _ h2 rfl (.inr fun e=>?_)⟩
   have:=left_length s j
   rw[e,List.length_nil] at this;omega
  ·have hj2:j=s.size:=by have:=hPl.1;omega
   rw[hj2,left_end] at h2;have hb:=altN_bound (s.size+1) (bts s) t [] h2 m;have hb2:=altN_bound (s.size+1) (bts s) t [] h2 200;rw[hl] at hb hb2;refine .inr ⟨h1,hj2,t,read_of h0 (n:=s.size+1) oo h2,ExA.down m t _ 200 hX (by simp at hb;omega),(altN_named _ _ _ _ h2 oo).1 200,by simp at hb2;omega⟩
 ·exact .inl ⟨.inl h1,none_of _ _ h2 rfl (.inl rfl)⟩
theorem k28{p:Prop}(h:p:=by
  (go_wp2_with (refine wpList_store_row rfl 69 _ _ rfl w.heap.size #[.int .i64 0,.string ⟨#[]⟩,.slice none 0 0] rfl rfl 69 _ HZ.out sizeExpr rfl (ones3 _ _ _ _ _) ?_));refine bodyPost_ret (results_row_tmp2 rfl _ _ w.heap.size 69 #[.int .i64 0,.string ⟨#[]⟩,.slice none 0 0] (0,0) _ rfl (setRow_heap _ _ _ _ _ _ HZ.out) Tryz.underlying69 rfl sizeExpr) rfl ?_;refine⟨HF.out _,(0,⟨#[]⟩,none,0,0),?_,by rw[HO.out.2.1,HO.out.2.2];rfl⟩;rw[HO.out.1];exact ExA.leaf _ _ 199 0 ⟨#[]⟩ none 0
  ):p:=h
theorem k19{p:Prop}(h:p:=by
  clear hK K
  try simp only[Act.put,List.setIfInBounds_toArray]
  refine takeF 6 (some 3) (v:=?_) hS2 ?_ ?_
  rotate_left
  ·intro w hSw
   obtain⟨s0,s1,s2,s3,s4⟩:=PAt.cells hSw;go_simp
   with_reducible rfl
  try simp only[Act.put]
  refine takeF 7 (some 4) (v:=?_) hS2 ?_ ?_
  rotate_left
  ·intro w hSw
   obtain⟨s0,s1,s2,s3,s4⟩:=PAt.cells hSw;go_simp
   with_reducible rfl
  try simp only[Act.put]
  refine wpAnyH_done kr ?_ _;clear hS hS2;(go_wp2_with fail);refine bodyPost_ret (results_row_tmp2 rfl _ _ w.heap.size 69 #[.int .i64 0,.string ⟨#[]⟩,.slice none 0 0] (0,0) _ rfl (setRow_heap _ _ _ _ _ _ HZ.out) Tryz.underlying69 rfl sizeExpr) rfl ?_;refine⟨HF.out _,(0,⟨#[]⟩,none,0,0),?_,by rw[HO.out.2.1,HO.out.2.2];rfl⟩;rw[HO.out.1];exact ExA.leaf _ _ 199 0 ⟨#[]⟩ none 0
  ):p:=h
theorem rparse_calls (s:ByteArray)(hs:s.size<=9223372036854775807)(w:World) :
  Calls Tryz.prog 94 #[.string s] w fun e w' => Below w.heap.size w w' /\ ∃r,ExA (fun b=>w.heap.size<=b) w' 200 (outTree s) (rawV r)/\e=.returned (.tuple #[rawV r,.int .i64 (outN s:Int),.int .i64 (outE s)]):=by
 have hmx:Tryz.prog.follows .mixedOrders=true:=by kernel_rfl
 by_cases hbig:200<s.size
 ·obtain⟨o1,o2,o3⟩:=out_long hbig
  have HO:Hid (outTree s=emptyT/\outE s=2/\outN s=0):=⟨tree_none o1,o2,o3⟩;(have HF:Hid (∀cs,Below w.heap.size w ((w.alloc (.cells #[.int .i64 0,.string ⟨#[]⟩,.slice none 0 0] 69)).setRow w.heap.size cs)):=fun cs=>below_setRow ((zzd _ w).alloc (zzb _) _) (zzb _) cs);(have hb:(200:Int)<(s.size:Int):=by omega);clear o1 o2 o3;go_enter Tryz.func94,Tryz.ntmps94;(go_wp2_with (refine wpList_store_row rfl 69 _ _ rfl w.heap.size #[.int .i64 0,.string ⟨#[]⟩,.slice none 0 0] rfl rfl 69 _ (heap_alloc_new w _) sizeExpr rfl (ones3 _ _ _ _ _) ?_));refine bodyPost_ret (results_row_tmp2 rfl _ _ w.heap.size 69 #[.int .i64 0,.string ⟨#[]⟩,.slice none 0 0] (0,0) _ rfl (setRow_heap _ _ _ _ _ _ (heap_alloc_new w _)) Tryz.underlying69 rfl sizeExpr) rfl ?_;refine⟨HF.out _,(0,⟨#[]⟩,none,0,0),?_,by rw[HO.out.2.1,HO.out.2.2];rfl⟩;rw[HO.out.1];exact ExA.leaf _ _ 199 0 ⟨#[]⟩ none 0
 ·have hb:¬(200:Int)<(s.size:Int):=by omega
  obtain⟨w1,hw1⟩:∃w1,w1=(w.alloc (.cells #[.int .i64 0,.string ⟨#[]⟩,.slice none 0 0] 69)).alloc (.cells #[.string s,.int .i64 0,.bool false] 181):=⟨_,rfl⟩;(have hB1:Below w.heap.size w w1:=by rw[hw1];exact((zzd _ w).alloc (zzb _) _).alloc (by simp) _);have hs1:w1.heap.size=w.heap.size+1+1:=by rw[hw1];simp
  have hP1:PAt w1 (w.heap.size+1) s 0 false:=by
   unfold PAt
   have:=heap_alloc_new (w.alloc (.cells #[.int .i64 0,.string ⟨#[]⟩,.slice none 0 0] 69)) (.cells #[.string s,.int .i64 0,.bool false] 181)
   rw[World.size_alloc] at this;rw[hw1];exact this
  (have hz1:w1.heap[w.heap.size]? = some (.cells #[.int .i64 0,.string ⟨#[]⟩,.slice none 0 0] 69 (0,0)):=by rw[hw1,zzf _ _ _ (by simp)];exact heap_alloc_new w _);obtain⟨P2,q2,q3⟩:=Pl.skip (s:=s) (i:=0) (zzn _);rw[left_zero] at q3;have hA:altN (s.size+1) (left s (skip s 0))=altN (s.size+1) (bts s):=altN_skip _ (by rw[q3,skip_twice]);have HPK:=peek_calls (w.heap.size+1) s 0 false w1 hP1 (zzn _) oo
  have HPK2:Hid (∀W j,PAt W (w.heap.size+1) s j false->Pl s j->Calls Tryz.prog 125 #[.pointer (some ⟨w.heap.size+1,0,none⟩)] W fun r w' => r=.returned (.int .u8 (peekC s j false))/\PAt w' (w.heap.size+1) s j false/\Only (w.heap.size+1) W w'):=fun W j h hj=>by
   have:=peek_calls (w.heap.size+1) s j false W h hj.1 (by have:=hj.1;omega)
   rwa [hj.stay] at this
  have hk0:=peek_nil (s:=s) (i:=skip s 0) P2.1;have HW1:Hid (Below w.heap.size w w1/\w1.heap.size=w.heap.size+1+1/\w1.heap[w.heap.size]? = some (.cells #[.int .i64 0,.string ⟨#[]⟩,.slice none 0 0] 69 (0,0))/\¬200<s.size):=⟨hB1,hs1,hz1,hbig⟩
  have HAL:Hid (∀W,PAt W (w.heap.size+1) s (skip s 0) false->Calls Tryz.prog 126 #[.pointer (some ⟨w.heap.size+1,0,none⟩)] W fun e W' => Kept (w.heap.size+1) W W' /\ RSaid (w.heap.size+1) s W.heap.size (skip s 0) (altN (s.size+1) (bts s)) e W'):=fun W h=>by
   have:=RCH.all (w.heap.size+1) s oo (s.size+1) W (skip s 0) h P2.1 oo
   rwa [hA] at this
  obtain⟨i0,hi0⟩:∃i0,skip s 0=i0:=⟨_,rfl⟩;rw[hi0] at HAL HPK hk0 q3;clear hB1 hs1 hP1 hz1 P2 q2 hA hi0
  by_cases hnil:skipL (bts s)=[]
  ·have hpk:peekC s i0 false=0:=hk0.2 (q3.trans hnil)
   rw[hpk] at HPK;obtain⟨o1,o2,o3⟩:=out_some (t:=emptyT) hbig (by unfold readT;rw[if_pos hnil];rfl) emptyT_check;have HO:Hid (outTree s=emptyT/\outE s=0/\outN s=s.size):=⟨tree_some o1,o2,o3⟩;clear o1 o2 o3 hnil hpk hk0 q3 HAL HPK2 hbig;go_enter Tryz.func94,Tryz.ntmps94;(go_wp2_with fail);rw[<-hw1];clear hw1;refine HPK.mono ?_;clear HPK;rintro e2 W2 ⟨rfl,hP2,hO2⟩;obtain⟨hB1,hs1,hz1,hbig⟩:=HW1.out;have HZ:Hid (W2.heap[w.heap.size]? = some (.cells #[.int .i64 0,.string ⟨#[]⟩,.slice none 0 0] 69 (0,0))):=(hO2.block _ oo).trans hz1;(have HF:Hid (∀cs,Below w.heap.size w (W2.setRow w.heap.size cs)):=fun cs=>below_setRow (Below.of_kept hB1 hO2.kept oo oo) (zzb _) cs);clear hB1 hs1 hz1 hP2 hO2 HW1;exact k28
  ·have hpk:peekC s i0 false≠0:=fun e=>hnil (q3.symm.trans (hk0.1 e))
   have HN:Hid (skipL (bts s)≠[]):=hnil;generalize peekC s i0 false=C at *;(have b0:(C==0)=false:=by rw[beq_eq_false_iff_ne];exact hpk);clear hnil hpk hk0 q3 hbig;go_enter Tryz.func94,Tryz.ntmps94;(go_wp2_with fail);rw[<-hw1];clear hw1;refine HPK.mono ?_;clear HPK;rintro e2 W2 ⟨rfl,hP2,hO2⟩;obtain⟨hB1,hs1,hz1,hbig⟩:=HW1.out;have HAL2:=HAL.out W2 hP2;(have hs2:W2.heap.size=w.heap.size+1+1:=by rw[hO2.size,hs1]);have HW2:Hid (Below w.heap.size w W2/\W2.heap.size=w.heap.size+1+1/\W2.heap[w.heap.size]? = some (.cells #[.int .i64 0,.string ⟨#[]⟩,.slice none 0 0] 69 (0,0))/\¬200<s.size):=⟨Below.of_kept hB1 hO2.kept oo oo,hs2,(hO2.block _ oo).trans hz1,hbig⟩;clear hB1 hs1 hz1 hbig hP2 hO2 HW1 HAL hs2;(go_wp2_with fail);refine HAL2.mono ?_;clear HAL2 b0;rintro e3 W3 ⟨hK3,hE⟩;obtain⟨hB2,hs2,hz2,hbig⟩:=HW2.out;obtain⟨k,nm,a,ln,cp,j,f,hP3,hPl,rfl,hcase⟩:=hE.whole hbig HN.out;obtain⟨W4,hW4⟩:∃W4,W4=W3.alloc (.cells #[.int .i64 k,.string nm,.slice a ln cp] 69):=⟨_,rfl⟩;have hs3:=hK3.size;(have hP4:PAt W4 (w.heap.size+1) s j f:=by rw[hW4];exact hP3.alloc _);(have hB4:Below w.heap.size w W4:=by rw[hW4];exact(Below.of_kept hB2 hK3 oo oo).alloc oo _);(have hz4:W4.heap[w.heap.size]? = some (.cells #[.int .i64 0,.string ⟨#[]⟩,.slice none 0 0] 69 (0,0)):=by rw[hW4,zzf W3 _ _ oo,hK3.block _ oo oo];exact hz2);(have hev:W4.heap[W3.heap.size]? = some (.cells #[.int .i64 k,.string nm,.slice a ln cp] 69 (0,0)):=by rw[hW4];exact heap_alloc_new W3 _);(have hs4:W4.heap.size=W3.heap.size+1:=by rw[hW4];simp);obtain⟨g0,g1,g2,g3,g4⟩:=hP4.cells;have HW4:Hid (Below w.heap.size w W4/\W4.heap[w.heap.size]? = some (.cells #[.int .i64 0,.string ⟨#[]⟩,.slice none 0 0] 69 (0,0))/\W4.heap[W3.heap.size]? = some (.cells #[.int .i64 k,.string nm,.slice a ln cp] 69 (0,0))/\w.heap.size+1<W3.heap.size/\W4.heap.size=W3.heap.size+1/\¬200<s.size):=⟨hB4,hz4,hev,oo,hs4,hbig⟩;have HP4:Hid (PAt W4 (w.heap.size+1) s j f/\Pl s j):=⟨hP4,hPl⟩;rcases hcase with ⟨hfj,o1,o2,o3⟩ | ⟨rfl,hjs,t,hrd,hX,hnm,hct⟩
   ·have HO:Hid (outTree s=emptyT/\outE s=4/\outN s=j):=⟨tree_none o1,o2,o3⟩
    cases f with
    | true=>
     have HZ:Hid (W4.drew.heap[w.heap.size]? = some (.cells #[.int .i64 0,.string ⟨#[]⟩,.slice none 0 0] 69 (0,0))):=hz4;have hBd:Below w.heap.size w W4.drew:=⟨hB4.os,hB4.tape,hB4.output,hB4.size,hB4.block⟩;(have HF:Hid (∀cs,Below w.heap.size w (W4.drew.setRow w.heap.size cs)):=fun cs=>below_setRow hBd (zzb _) cs);have HPW:Hid (PAt W4 (w.heap.size+1) s j true):=hP4;rw[hW4] at g0 g1 g2 g3 g4;have HWE:Hid (W4=W3.alloc (.cells #[.int .i64 k,.string nm,.slice a ln cp] 69)):=hW4;clear hBd hW4 hP4 hB4 hz4 hev hs4 HW4 HP4 HW2 HPK2 hfj o1 o2 o3 hK3 hE hB2 hs2 hz2 hbig hP3 hPl hs3 HN;(go_wp2_with fail);rw[<-HWE.out];refine wp_region_held_drew (S:=fun w' => PAt w' (w.heap.size+1) s j true) hmx (show PAt W4.drew (w.heap.size+1) s j true from HPW.out) (fun hS=>?_);refine takeG 0 (some 31) hS ?_ (hy:=by intro w hSw;obtain⟨s0,s1,s2,s3,s4⟩:=PAt.cells hSw;go_simp;with_reducible rfl);refine takeG 1 (some 32) hS ?_ (hy:=by intro w hSw;obtain⟨s0,s1,s2,s3,s4⟩:=PAt.cells hSw;go_simp;with_reducible rfl);refine takeG 2 (some 33) hS ?_ (hy:=by intro w hSw;obtain⟨s0,s1,s2,s3,s4⟩:=PAt.cells hSw;go_simp;with_reducible rfl);refine takeG 3 (some 34) hS ?_ (hy:=by intro w hSw;obtain⟨s0,s1,s2,s3,s4⟩:=PAt.cells hSw;go_simp;with_reducible rfl);refine takeG 4 (some 35) hS ?_ (hy:=by intro w hSw;obtain⟨s0,s1,s2,s3,s4⟩:=PAt.cells hSw;go_simp;with_reducible rfl);refine callD 5 kr rfl (fun K hK=>?_);rw[if_pos (by rfl)];refine wp_store_row 69 _ _ rfl w.heap.size #[.int .i64 0,.string ⟨#[]⟩,.slice none 0 0] rfl rfl 69 _ HZ.out sizeExpr rfl (ones3 _ _ _ _ _) ?_;refine hK.out _ _ (PAt.setRow (w:=W4.drew) HPW.out _ _ oo) (fun hS2=>?_);exact k19
    | false=>
     have hjl:j<s.size:=by
      rcases hfj with h | h
      ·cases h
      ·exact h
     have HP5:=HPK2.out W4 j hP4 hPl
     have hpk:peekC s j false≠0:=fun e=>by
      have:=(peek_nil hPl.1).1 e
      have h2:=left_length s j;rw[this,List.length_nil] at h2;omega
     generalize peekC s j false=C at *;(have b0:(C==0)=false:=by rw[beq_eq_false_iff_ne];exact hpk);(have b1:(C != 0)=true:=by rw[bne_iff_ne];exact hpk);rw[hW4] at g0 g1 g2 g3 g4;have HWE:Hid (W4=W3.alloc (.cells #[.int .i64 k,.string nm,.slice a ln cp] 69)):=hW4;clear hW4 hP4 hB4 hz4 hev hs4 HW2 HPK2 hfj o1 o2 o3 hK3 hE hB2 hs2 hz2 hbig hP3 hPl hs3 HN hpk hjl HP4;(go_wp2_with fail);rw[<-HWE.out];refine HP5.mono ?_;clear HP5 g0 g1 g2 g3 g4;rintro e5 W5 ⟨rfl,hP5,hO5⟩;obtain⟨g0,g1,g2,g3,g4⟩:=hP5.cells;obtain⟨hB4,hz4,-,hs3,hs4,-⟩:=HW4.out;have hz5:W5.heap[w.heap.size]? = some (.cells #[.int .i64 0,.string ⟨#[]⟩,.slice none 0 0] 69 (0,0)):=(hO5.block _ oo).trans hz4;have hB5:Below w.heap.size w W5:=Below.of_kept hB4 hO5.kept oo oo;have hBd:Below w.heap.size w W5.drew:=⟨hB5.os,hB5.tape,hB5.output,hB5.size,hB5.block⟩;have HZ:Hid (W5.drew.heap[w.heap.size]? = some (.cells #[.int .i64 0,.string ⟨#[]⟩,.slice none 0 0] 69 (0,0))):=hz5;(have HF:Hid (∀cs,Below w.heap.size w (W5.drew.setRow w.heap.size cs)):=fun cs=>below_setRow hBd (zzb _) cs);have HPW:Hid (PAt W5 (w.heap.size+1) s j false):=hP5;clear hBd hP5 hO5 hB4 hz4 hs3 hs4 HW4 HWE hz5 hB5;(go_wp2_with fail);refine wp_region_held_drew (S:=fun w' => PAt w' (w.heap.size+1) s j false) hmx (show PAt W5.drew (w.heap.size+1) s j false from HPW.out) (fun hS=>?_);refine takeF 0 (some 31) (v:=?_) hS ?_ ?_
     rotate_left
     ·intro w hSw
      obtain⟨s0,s1,s2,s3,s4⟩:=PAt.cells hSw;go_simp
      with_reducible rfl
     try simp only[lay4]
     refine takeG 1 (some 32) hS ?_ (hy:=by intro w hSw;obtain⟨s0,s1,s2,s3,s4⟩:=PAt.cells hSw;go_simp;with_reducible rfl);refine takeG 2 (some 33) hS ?_ (hy:=by intro w hSw;obtain⟨s0,s1,s2,s3,s4⟩:=PAt.cells hSw;go_simp;with_reducible rfl);refine takeG 3 (some 34) hS ?_ (hy:=by intro w hSw;obtain⟨s0,s1,s2,s3,s4⟩:=PAt.cells hSw;go_simp;with_reducible rfl);refine takeG 4 (some 35) hS ?_ (hy:=by intro w hSw;obtain⟨s0,s1,s2,s3,s4⟩:=PAt.cells hSw;go_simp;with_reducible rfl);refine callD 5 kr rfl (fun K hK=>?_);rw[if_pos (by rfl)];refine wp_store_row 69 _ _ rfl w.heap.size #[.int .i64 0,.string ⟨#[]⟩,.slice none 0 0] rfl rfl 69 _ HZ.out sizeExpr rfl (ones3 _ _ _ _ _) ?_;refine hK.out _ _ (PAt.setRow (w:=W5.drew) HPW.out _ _ oo) (fun hS2=>?_);exact k19
   ·have HP5:=HPK2.out W4 j hP4 hPl
    have hpk:peekC s j false=0:=(peek_nil hPl.1).2 (by rw[hjs];exact left_end s);rw[hpk] at HP5;rw[hW4] at g0 g1 g2 g3 g4;have HWE:Hid (W4=W3.alloc (.cells #[.int .i64 k,.string nm,.slice a ln cp] 69)):=hW4;have hX4:ExA (fun b=>W2.heap.size<=b) W4 200 t (.agg #[.int .i64 k,.string nm,.slice a ln cp]):=ExA.kept oo (fun b hb hA=>⟨hA,by rw[hW4];exact zzf W3 _ b hb⟩) _ _ _ hX;have HX4:Hid (ExA (fun b=>W2.heap.size<=b) W4 200 t (.agg #[.int .i64 k,.string nm,.slice a ln cp])/\W2.heap.size=w.heap.size+1+1):=⟨hX4,hs2⟩;have HT:Hid (readT (bts s)=some t/\named 200 t/\cnt 200 t<=1152921504606846976):=⟨hrd,hnm,hct⟩;clear hW4 hP4 hB4 hz4 hev hs4 HW2 HPK2 hK3 hE hB2 hs2 hz2 hbig hP3 hPl hs3 HN hpk HP4 hX hX4 hrd hnm hct hjs;(go_wp2_with fail);rw[<-HWE.out];refine HP5.mono ?_;clear HP5 g0 g1 g2 g3 g4;rintro e5 W5 ⟨rfl,hP5,hO5⟩;obtain⟨hB4,hz4,hev,hs3,hs4,hbig⟩:=HW4.out;obtain⟨hX4,hs2⟩:=HX4.out;have hs5:W5.heap.size=W4.heap.size:=hO5.size;have hev5:W5.heap[W3.heap.size]? = some (.cells #[.int .i64 k,.string nm,.slice a ln cp] 69 (0,0)):=(hO5.block _ oo).trans hev;have hX5:ExA (fun b=>W2.heap.size<=b) W5 200 t (.agg #[.int .i64 k,.string nm,.slice a ln cp]):=ExA.kept oo (fun b hb hA=>⟨hA,hO5.block b oo⟩) _ _ _ hX4;have HCK:=checkE_calls 200 t (.agg #[.int .i64 k,.string nm,.slice a ln cp]) W5 (ExA.ex _ _ _ hX5) HT.out.2.2 HT.out.2.1;have HW5:Hid (Below w.heap.size w W5/\W5.heap[w.heap.size]? = some (.cells #[.int .i64 0,.string ⟨#[]⟩,.slice none 0 0] 69 (0,0))/\W5.heap[W3.heap.size]? = some (.cells #[.int .i64 k,.string nm,.slice a ln cp] 69 (0,0))/\w.heap.size+1<W3.heap.size/\W5.heap.size=W3.heap.size+1/\ExA (fun b=>W2.heap.size<=b) W5 200 t (.agg #[.int .i64 k,.string nm,.slice a ln cp])/\W2.heap.size=w.heap.size+1+1):=⟨Below.of_kept hB4 hO5.kept oo oo,(hO5.block _ oo).trans hz4,hev5,hs3,oo,hX5,hs2⟩;have c0:W5.cell? ⟨W3.heap.size,0,none⟩=some (.int .i64 k):=cell_of_row W5 _ 0 _ _ _ hev5;have c1:W5.cell? ⟨W3.heap.size,1,none⟩=some (.string nm):=cell_of_row W5 _ 1 _ _ _ hev5;have c2:W5.cell? ⟨W3.heap.size,2,none⟩=some (.slice a ln cp):=cell_of_row W5 _ 2 _ _ _ hev5
    by_cases hck:checkE 200 t=0
    ·obtain⟨o1,o2,o3⟩:=out_some hbig HT.out.1 hck
     have HO:Hid (outTree s=t/\outE s=0/\outN s=s.size):=⟨tree_some o1,o2,o3⟩;rw[hck] at HCK;clear o1 o2 o3 hck hB4 hz4 hev hs3 hs4 hbig hX4 hs2 hs5 hev5 hX5 hP5 hO5 HW4 HX4 HT HWE;(go_wp2_with fail);refine HCK.mono ?_;clear HCK c0 c1 c2;rintro e6 W6 ⟨rfl,hB6⟩;obtain⟨hB5,hz5,hev5,hs3,hs5,hX5,hs2⟩:=HW5.out;have hev6:W6.heap[W3.heap.size]? = some (.cells #[.int .i64 k,.string nm,.slice a ln cp] 69 (0,0)):=(hB6.block _ oo).trans hev5;have c0:W6.cell? ⟨W3.heap.size,0,none⟩=some (.int .i64 k):=cell_of_row W6 _ 0 _ _ _ hev6;have c1:W6.cell? ⟨W3.heap.size,1,none⟩=some (.string nm):=cell_of_row W6 _ 1 _ _ _ hev6;have c2:W6.cell? ⟨W3.heap.size,2,none⟩=some (.slice a ln cp):=cell_of_row W6 _ 2 _ _ _ hev6;have HZ:Hid (W6.heap[w.heap.size]? = some (.cells #[.int .i64 0,.string ⟨#[]⟩,.slice none 0 0] 69 (0,0))):=(hB6.block _ oo).trans hz5;(have HF:Hid (∀cs,Below w.heap.size w (W6.setRow w.heap.size cs)):=fun cs=>below_setRow (hB5.trans (hB6.mono oo)) (zzb _) cs);(have HX:Hid (∀cs,ExA (fun b=>w.heap.size<=b) (W6.setRow w.heap.size cs) 200 t (.agg #[.int .i64 k,.string nm,.slice a ln cp])):=fun cs=>ExA.kept (by rw[size_setRow];exact hB6.size) (fun b hb hA=>⟨oo,(setRow_other _ _ _ _ oo).trans (hB6.block b hb)⟩) _ _ _ hX5);clear hB5 hz5 hev5 hs3 hs5 hX5 hs2 hev6 hB6 HW5;(go_wp2_with (refine wpList_store_row rfl 69 _ _ rfl w.heap.size #[.int .i64 k,.string nm,.slice a ln cp] rfl rfl 69 _ HZ.out sizeExpr rfl (ones3 _ _ _ _ _) ?_));refine bodyPost_ret (results_row_tmp2 rfl _ _ w.heap.size 69 #[.int .i64 k,.string nm,.slice a ln cp] (0,0) _ rfl (setRow_heap _ _ _ _ _ _ HZ.out) Tryz.underlying69 rfl sizeExpr) rfl ?_;refine⟨HF.out _,(k,nm,a,ln,cp),?_,by rw[HO.out.2.1,HO.out.2.2];rfl⟩;rw[HO.out.1];exact HX.out _
    ·obtain⟨o1,o2,o3⟩:=out_bad hbig HT.out.1 hck
     have HO:Hid (outTree s=emptyT/\outE s=4/\outN s=0):=⟨tree_none o1,o2,o3⟩;generalize checkE 200 t=C at *;(have e1:(C==0)=false:=by rw[beq_eq_false_iff_ne];exact hck);(have e2:(C != 0)=true:=by rw[bne_iff_ne];exact hck);clear o1 o2 o3 hck hB4 hz4 hev hs3 hs4 hbig hX4 hs2 hs5 hev5 hX5 hP5 hO5 HW4 HX4 HT HWE;(go_wp2_with fail);refine HCK.mono ?_;clear HCK c0 c1 c2;rintro e6 W6 ⟨rfl,hB6⟩;obtain⟨hB5,hz5,hev5,hs3,hs5,hX5,hs2⟩:=HW5.out;have HZ:Hid (W6.heap[w.heap.size]? = some (.cells #[.int .i64 0,.string ⟨#[]⟩,.slice none 0 0] 69 (0,0))):=(hB6.block _ oo).trans hz5;(have HF:Hid (∀cs,Below w.heap.size w (W6.setRow w.heap.size cs)):=fun cs=>below_setRow (hB5.trans (hB6.mono oo)) (zzb _) cs);clear hB5 hz5 hev5 hs3 hs5 hX5 hs2 hB6 HW5;exact k28
theorem parsea_calls (s:ByteArray)(hs:s.size<=9223372036854775807)(w:World)(hg:ETy w) :
  Calls Tryz.prog 124 #[.string s] w fun e w' => Below w.heap.size w w' /\ ∃r,ExA (fun b=>w.heap.size<=b) w' 200 (outTree s) (rawV r)/\e=.returned (.tuple #[rawV r,.int .i64 (outN s:Int),.int .i64 (outE s)]):=by
 have HR:Hid (∀W,Calls Tryz.prog 154 #[.string s] W fun e w' => Below W.heap.size W w' /\ Rdd W.heap.size s e w'):=fun W=>read_calls s hs W
 have HT:Hid (∀W,Below w.heap.size w W->Calls Tryz.prog 155 #[refV (outN s) (outE s)] W fun e w' => e=.returned (.tuple #[.int .i64 (outN s:Int),.int .i64 (outE s)])/\Below W.heap.size W w'):=fun W hW=>told_calls (outN s) (outE s) W (hg.below hW)
 clear hg hs
 go_enter Tryz.func124,Tryz.ntmps124
 go_wp2_with fail
 refine(HR.out _).mono ?_
 rintro e1 W1 ⟨hB1,hE⟩
 have hz1:W1.heap[w.heap.size]? = some (.cells #[.int .i64 0,.string ⟨#[]⟩,.slice none 0 0] 69 (0,0)):=(hB1.block _ (by simp)).trans (heap_alloc_new w _)
 have hB:Below w.heap.size w W1:=((zzd _ w).alloc (zzb _) _).trans (hB1.mono (by simp))
 have hs1:w.heap.size<W1.heap.size:=by have:=hB1.size;simp only[World.size_alloc] at this;omega
 clear HR
 rcases hE with ⟨t,r,o1,o2,o3,hX,rfl⟩ | ⟨o1,o2,rfl⟩
 ·obtain⟨k,nm,a,ln,cp⟩:=r
  unfold rawV at hX ⊢;simp only at hX ⊢;have HO:Hid (outT s=some t/\outE s=0/\outN s=s.size):=⟨o1,o2,o3⟩;(have HZ:Hid (∀o,(W1.alloc o).heap[w.heap.size]? = some (.cells #[.int .i64 0,.string ⟨#[]⟩,.slice none 0 0] 69 (0,0))):=fun o=>(zzf W1 o _ hs1).trans hz1);(have HF:Hid (∀o cs,Below w.heap.size w ((W1.alloc o).setRow w.heap.size cs)):=fun o cs=>below_setRow (hB.alloc oo o) (zzb _) cs);(have HX:Hid (∀o cs,ExA (fun b=>w.heap.size<=b) ((W1.alloc o).setRow w.heap.size cs) 200 t (.agg #[.int .i64 k,.string nm,.slice a ln cp])):=fun o cs=>ExA.kept (by rw[size_setRow];simp) (fun b hb hA=>by simp only[World.size_alloc] at hA;exact⟨oo,(setRow_other _ _ _ _ oo).trans (zzf W1 o b hb)⟩) _ _ _ hX);clear hX hz1 hB hB1 hs1 o1 o2 o3 HT;(go_wp2_with (refine wpList_store_row rfl 69 _ _ rfl w.heap.size #[.int .i64 k,.string nm,.slice a ln cp] rfl rfl 69 _ (HZ.out _) sizeExpr rfl (ones3 _ _ _ _ _) ?_));refine bodyPost_ret (results_row_tmp2 rfl _ _ w.heap.size 69 #[.int .i64 k,.string nm,.slice a ln cp] (0,0) _ rfl (setRow_heap _ _ _ _ _ _ (HZ.out _)) Tryz.underlying69 rfl sizeExpr) rfl ?_;refine⟨HF.out _ _,(k,nm,a,ln,cp),?_,?_⟩
  ·unfold outTree
   rw[HO.out.1];exact HX.out _ _
  ·rw[HO.out.2.1,HO.out.2.2]
   rfl
 ·have HO:Hid (outT s=none):=o1
  have HZ:Hid ((W1.alloc (.cells #[.int .i64 0,.string ⟨#[]⟩,.slice none 0 0] 69)).heap[w.heap.size]? = some (.cells #[.int .i64 0,.string ⟨#[]⟩,.slice none 0 0] 69 (0,0))):=(zzf W1 _ _ hs1).trans hz1;have HB:Hid (Below w.heap.size w (W1.alloc (.cells #[.int .i64 0,.string ⟨#[]⟩,.slice none 0 0] 69))/\w.heap.size<(W1.alloc (.cells #[.int .i64 0,.string ⟨#[]⟩,.slice none 0 0] 69)).heap.size):=⟨hB.alloc oo _,by simp;omega⟩;clear hz1 hB hB1 hs1 o1;unfold zE;obtain⟨N,hN⟩:∃N,outN s=N:=⟨_,rfl⟩;obtain⟨E,hEE⟩:∃E,outE s=E:=⟨_,rfl⟩;have HN:Hid (outN s=N/\outE s=E):=⟨hN,hEE⟩;rw[hN,hEE] at HT ⊢;clear hN hEE o2;unfold refV at HT ⊢;(go_wp2_with fail);refine(HT.out _ HB.out.1).mono ?_;rintro e3 W3 ⟨rfl,hB3⟩;have HZ3:Hid (W3.heap[w.heap.size]? = some (.cells #[.int .i64 0,.string ⟨#[]⟩,.slice none 0 0] 69 (0,0))):=(hB3.block _ HB.out.2).trans HZ.out;(have HF:Hid (∀cs,Below w.heap.size w (W3.setRow w.heap.size cs)):=fun cs=>below_setRow (HB.out.1.trans (hB3.mono HB.out.1.size)) (zzb _) cs);clear hB3 HZ HB HT;(go_wp2_with (refine wpList_store_row rfl 69 _ _ rfl w.heap.size #[.int .i64 0,.string ⟨#[]⟩,.slice none 0 0] rfl rfl 69 _ HZ3.out sizeExpr rfl (ones3 _ _ _ _ _) ?_));refine bodyPost_ret (results_row_tmp2 rfl _ _ w.heap.size 69 #[.int .i64 0,.string ⟨#[]⟩,.slice none 0 0] (0,0) _ rfl (setRow_heap _ _ _ _ _ _ HZ3.out) Tryz.underlying69 rfl sizeExpr) rfl ?_;refine⟨HF.out _,(0,⟨#[]⟩,none,0,0),?_,by rw[HN.out.1,HN.out.2];rfl⟩;unfold outTree;rw[HO.out];exact ExA.leaf _ _ 199 0 ⟨#[]⟩ none 0
structure SpecD where
 name:ByteArray
 expr:ByteArray
 leaf:Bool
 marks:Int
 least:Int
 most:Int
 lines:Bool
def specC (s:SpecD):List Value:=[.string s.name,.string s.expr,.bool s.leaf,.int .i64 s.marks,.int .i64 s.least,.int .i64 s.most,.bool s.lines]
def specV (s:SpecD):Value:=.agg #[.string s.name,.string s.expr,.bool s.leaf,.int .i64 s.marks,.int .i64 s.least,.int .i64 s.most,.bool s.lines]
def SpecAt (w:World)(b o:Nat)(s:SpecD):Prop:=w.cell? ⟨b,o,none⟩=some (.string s.name)/\w.cell? ⟨b,o+1,none⟩=some (.string s.expr)/\w.cell? ⟨b,o+2,none⟩=some (.bool s.leaf)/\w.cell? ⟨b,o+3,none⟩=some (.int .i64 s.marks)/\w.cell? ⟨b,o+4,none⟩=some (.int .i64 s.least)/\w.cell? ⟨b,o+5,none⟩=some (.int .i64 s.most)/\w.cell? ⟨b,o+6,none⟩=some (.bool s.lines)
theorem SpecAt.same {w w' : World}{b o:Nat}{s:SpecD}(h:SpecAt w b o s)(hb:w'.heap[b]? = w.heap[b]?):SpecAt w' b o s:=by
 have e:∀k,w'.cell? ⟨b,k,none⟩=w.cell? ⟨b,k,none⟩:=fun k=>zzi hb
 unfold SpecAt
 rw[e,e,e,e,e,e,e]
 exact h
def Specs (w:World)(a:Option Addr)(len:Nat)(l:List SpecD):Prop :=
 l.length=len/\len<=9223372036854775807/\(len=0\/∃b o,a=some ⟨b,o,none⟩/\b<w.heap.size/\∀i x,l[i]? = some x->SpecAt w b (o+i * 7) x)
theorem Specs.below {w w' : World}{a:Option Addr}{len:Nat}{l:List SpecD}(h:Specs w a len l)(hb:Below w.heap.size w w'):Specs w' a len l:=by
 obtain⟨h1,h2,h3⟩:=h
 refine⟨h1,h2,?_⟩
 rcases h3 with h3 | ⟨b,o,e,hlt,hc⟩
 ·exact .inl h3
 ·exact .inr ⟨b,o,e,zzl hlt hb.size,fun i x hx=>(hc i x hx).same (hb.block b hlt)⟩
theorem Specs.at {w:World}{a:Option Addr}{len:Nat}{l:List SpecD}(h:Specs w a len l){i:Nat}(hi:i<len):∃b o x,a=some ⟨b,o,none⟩/\b<w.heap.size/\l[i]? = some x/\∀W:World,Below w.heap.size w W->SpecAt W b (o+i * 7) x:=by
 obtain⟨h1,_,h3⟩:=h
 rcases h3 with h3 | ⟨b,o,rfl,hlt,hc⟩
 ·omega
 ·have hx:l[i]? = some (l[i]'(by omega)):=zze oo
  exact⟨b,o,_,rfl,hlt,hx,fun W hb=>(hc i _ hx).same (hb.block b hlt)⟩
abbrev KindD:Type:=SpecD×Int×ByteArray×Option Addr×Nat×Nat
def kindC (x:KindD):List Value:=specC x.1++[.int .i64 x.2.1,.string x.2.2.1,.slice x.2.2.2.1 x.2.2.2.2.1 x.2.2.2.2.2]
def flatK:List KindD->List Value
 | []=>[]
 | x::r=>kindC x++flatK r
def zeroS:SpecD:=⟨⟨#[]⟩,⟨#[]⟩,false,0,0,0,false⟩
def bareK (s:SpecD):KindD:=(s,0,⟨#[]⟩,none,0,0)
theorem kindC_length (x:KindD):(kindC x).length=10:=rfl
theorem flatK_append (l m:List KindD):flatK (l++m)=flatK l++flatK m:=by
 induction l with
 | nil=>rfl
 | cons e r ih=>rw[List.cons_append,flatK,flatK,ih,List.append_assoc]
theorem flatK_at:∀{l:List KindD} {i:Nat} {x:KindD} {j:Nat} {u:Value},l[i]? = some x->(kindC x)[j]? = some u->(flatK l)[i * 10+j]? = some u:=by
 intro l
 induction l with
 | nil=>intro i x j u h;simp at h
 | cons y r ih=>
  intro i x j u h hj
  have hj10:j<10:=by
   have:=(zzc.1 hj).1
   rw[kindC_length] at this;exact this
  cases i with
  | zero=>
   simp only[List.getElem?_cons_zero,Option.some.injEq] at h;subst h;rw[flatK,Nat.zero_mul,Nat.zero_add,List.getElem?_append_left (by rw[kindC_length];exact hj10)];exact hj
  | succ i=>
   rw[List.getElem?_cons_succ] at h;rw[flatK,List.getElem?_append_right (by rw[kindC_length];omega),kindC_length];(have e:(i+1) * 10+j - 10=i * 10+j:=by omega);rw[e];exact ih h hj
theorem infoKind:(Tryz.prog.info? 81).map (fun i=>(i.zero,i.size,i.bytes))=some (some (.agg #[.string ⟨#[]⟩,.string ⟨#[]⟩,.bool false,.int .i64 0,.int .i64 0,.int .i64 0,.bool false,.int .i64 0,.string ⟨#[]⟩,.slice none 0 0]),10,120):=by kernel_rfl
theorem kindC_one (x:KindD):∀u∈kindC x,u.oneCell' = true:=by
 intro u hu
 simp only[kindC,specC,List.mem_append,List.mem_cons,List.not_mem_nil,or_false] at hu
 rcases hu with (rfl | rfl | rfl | rfl | rfl | rfl | rfl) | (rfl | rfl | rfl)<;>rfl
theorem ten_new (w:World)(x:KindD)(t:TypeId):∀j u,(kindC x)[j]? = some u->(w.alloc (.cells (kindC x).toArray t)).cell? ((⟨w.heap.size,0,none⟩:Addr).add j)=some u:=by
 intro j u hj
 have hadd:(⟨w.heap.size,0,none⟩:Addr).add j=⟨w.heap.size,j,none⟩:=by unfold Addr.add;split<;>simp_all
 rw[hadd,cell_of_row _ _ j _ _ _ (World.alloc_heap_new w _),List.getElem?_toArray]
 exact hj
theorem kind_put (W:World)(base:Nat)(v:Value)(ks:List KindD)(hown:W.ownsRow base 81 10 v ks.length (flatK ks))(x:KindD)(hlen:ks.length<=1000000)(hbase:base<=W.heap.size)(b cap:Nat)(hc:∀j u,(kindC x)[j]? = some u->W.cell? ((⟨b,0,none⟩:Addr).add j)=some u) :
  ∃g' cap' W1,(Builtin.append_ #[84,84] 84 #[v,.slice (some ⟨b,0,none⟩) 1 cap]).run Tryz.prog W=.ok (.slice (some ⟨g', 0,none⟩) (ks.length+1) cap') W1/\W1.ownsRow base 81 10 (.slice (some ⟨g', 0,none⟩) (ks.length+1) cap') (ks++[x]).length (flatK (ks++[x]))/\Below base W W1:=by
 obtain⟨i0,hi,hz0,hz1,hz2⟩:=info_parts infoKind
 obtain⟨v', W1,hrun,r1,r2,_,_⟩:=run_append_own_at (P:=Tryz.prog) W base 84 84 81 i0 _ 10 120 Tryz.underlying84 hi hz0 hz1 hz2 rfl (by decide) v ks.length _ hown ⟨b,0,none⟩ 1 cap (kindC x) rfl hc (kindC_one x) (by unfold maxLen;omega) oo hbase
 have e1:flatK ks++kindC x=flatK (ks++[x]):=by rw[flatK_append];simp[flatK]
 rw[e1] at r1
 obtain⟨g,cap', rfl,_⟩:=owns_cell r1 (Nat.succ_pos _)
 exact⟨g,cap', W1,hrun,by rw[List.length_append];exact r1,(zzd base W).grown r2 hbase (fun k e=>owned_base hown e)⟩
abbrev GrpD:Type:=ByteArray×Option Addr×Nat×List Int
def grpC (x:GrpD):List Value:=[.string x.1,.slice x.2.1 x.2.2.2.length x.2.2.1]
def flatG:List GrpD->List Value
 | []=>[]
 | x::r=>grpC x++flatG r
def plainG (x:GrpD):Grp:=(x.1,x.2.2.2)
theorem flatG_append (l m:List GrpD):flatG (l++m)=flatG l++flatG m:=by
 induction l with
 | nil=>rfl
 | cons e r ih=>rw[List.cons_append,flatG,flatG,ih,List.append_assoc]
theorem flatG_at:∀{l:List GrpD} {i:Nat} {e:GrpD},l[i]? = some e->(flatG l)[i * 2]? = some (.string e.1)/\(flatG l)[i * 2+1]? = some (.slice e.2.1 e.2.2.2.length e.2.2.1):=by
 intro l
 induction l with
 | nil=>intro i e h;simp at h
 | cons x r ih=>
  intro i e h;cases i with
  | zero=>
   simp only[List.getElem?_cons_zero,Option.some.injEq] at h;subst h;exact⟨rfl,rfl⟩
  | succ i=>
   rw[List.getElem?_cons_succ] at h;obtain⟨h1,h2⟩:=ih h;rw[flatG];(have e1:(i+1) * 2=(grpC x).length+i * 2:=by simp only[grpC,List.length_cons,List.length_nil];omega);rw[e1,Nat.add_assoc,List.getElem?_append_right (Nat.le_add_right ..),List.getElem?_append_right (Nat.le_add_right ..),Nat.add_sub_cancel_left,Nat.add_sub_cancel_left];exact⟨h1,h2⟩
theorem infoGrp:(Tryz.prog.info? 63).map (fun i=>(i.zero,i.size,i.bytes))=some (some (.agg #[.string ⟨#[]⟩,.slice none 0 0]),2,40):=by kernel_rfl
def GrpOk (W:World)(x:GrpD):Prop:=W.ownsRow 0 3 1 (.slice x.2.1 x.2.2.2.length x.2.2.1) x.2.2.2.length (intsV x.2.2.2)/\x.2.2.2.length<=1500000
structure Nms (base:Nat) (W:World) (v:Value) (xs:List GrpD):Prop where
 row:W.ownsRow base 63 2 v xs.length (flatG xs)
 ok:∀x∈xs,GrpOk W x
theorem GrpOk.below {W W' : World}{x:GrpD}(h:GrpOk W x)(hB:Below W.heap.size W W'):GrpOk W' x:=⟨owns_same h.1 fun g hg=>hB.block g (owns_lt h.1 hg).1,h.2⟩
theorem Nms.below {base:Nat}{W W' : World}{v:Value}{xs:List GrpD}(h:Nms base W v xs)(hB:Below W.heap.size W W'):Nms base W' v xs :=
 ⟨owns_same h.row fun g hg=>hB.block g (owns_lt h.row hg).1,fun e he=>(h.ok e he).below hB⟩
theorem grp_type:3≠63:=by decide
theorem k44{p:Prop}(h:p:=by
  obtain⟨g,cap', rfl,_⟩:=owns_cell r1 (Nat.succ_pos _);refine⟨g,cap', W1,hrun,⟨by rw[List.length_append];exact r1,fun y hy=>?_⟩,r2⟩;rcases List.mem_append.1 hy with hy | hy
  ·exact keep y (h.ok y hy)
  ·rw[List.mem_singleton] at hy
   subst hy;exact keep _ hx
  ):p:=h
theorem Nms.put {base:Nat}{W:World}{v:Value}{xs:List GrpD}(h:Nms base W v xs)(x:GrpD)(hx:GrpOk W x)(hlen:xs.length<=1500000)(hbase:base<=W.heap.size)(b cap:Nat)(hc:∀j u,(grpC x)[j]? = some u->W.cell? ((⟨b,0,none⟩:Addr).add j)=some u) :
  ∃g' cap' W1,(Builtin.append_ #[39,39] 39 #[v,.slice (some ⟨b,0,none⟩) 1 cap]).run Tryz.prog W=.ok (.slice (some ⟨g', 0,none⟩) (xs.length+1) cap') W1/\Nms base W1 (.slice (some ⟨g', 0,none⟩) (xs.length+1) cap') (xs++[x])/\W.grownBy W1 v.ownBlock:=by
 obtain⟨i0,hi,hz0,hz1,hz2⟩:=info_parts infoGrp
 obtain⟨v', W1,hrun,r1,r2,_,_⟩:=run_append_own_at (P:=Tryz.prog) W base 39 39 63 i0 _ 2 40 Tryz.underlying39 hi hz0 hz1 hz2 rfl (by decide) v xs.length _ h.row ⟨b,0,none⟩ 1 cap (grpC x) rfl hc (fun u hu=>by
  simp only[grpC,List.mem_cons,List.not_mem_nil,or_false] at hu
  rcases hu with rfl | rfl<;>rfl) (by unfold maxLen;omega) oo hbase
 have e1:flatG xs++grpC x=flatG (xs++[x]):=by rw[flatG_append];simp[flatG]
 rw[e1] at r1
 have keep:∀y,GrpOk W y->GrpOk W1 y:=fun y hy=>⟨owns_same hy.1 fun g hg' => by
  obtain⟨hl,cur,hcur⟩:=owns_lt hy.1 hg';refine r2.block g hl (fun he=>?_);obtain⟨_,cur', hcur'⟩:=owns_lt h.row he.symm;rw[hcur'] at hcur;(injection hcur with hk);injection hk with _ h2 _
  exact grp_type h2.symm,hy.2⟩
 exact k44
theorem Nms.groups {base:Nat}{W:World}{g c:Nat}{n:Nat}{xs:List GrpD}(h:Nms base W (.slice (some ⟨g,0,none⟩) n c) xs)(hn:n=xs.length)(hlen:xs.length<=1500000):Groups W (some ⟨g,0,none⟩) n (xs.map plainG):=by
 subst hn
 refine⟨by rw[List.length_map],oo,?_⟩
 rcases Nat.eq_zero_or_pos xs.length with h0 | h0
 ·exact .inl h0
 ·obtain⟨g', cap', e,hc⟩:=owns_cell h.row h0
  (injection e with e1);(injection e1 with e1);(injection e1 with e1);subst e1;refine .inr ⟨g,0,rfl,(owns_lt h.row (g:=g) rfl).1,fun i y hy=>?_⟩;rw[List.getElem?_map] at hy;cases hx:xs[i]? with
  | none=>rw[hx] at hy;cases hy
  | some x=>
   rw[hx] at hy;cases hy;obtain⟨f1,f2⟩:=flatG_at hx;obtain⟨h1,h2⟩:=h.ok x (zzj hx);obtain⟨a', c', e,hints⟩:=owned_ints h1 oo;(injection e with e1);subst e1;rw[Nat.zero_add];exact⟨x.2.1,x.2.2.2.length,x.2.2.1,hc _ _ f1,hc _ _ f2,hints⟩
theorem two_cells (w:World)(x0 x1:Value)(t:TypeId):∀j u,[x0,x1][j]? = some u->(w.alloc (.cells #[x0,x1] t)).cell? ((⟨w.heap.size,0,none⟩:Addr).add j)=some u:=by
 intro j u hj
 have hadd:(⟨w.heap.size,0,none⟩:Addr).add j=⟨w.heap.size,j,none⟩:=by unfold Addr.add;split<;>simp_all
 rw[hadd]
 match j,hj with
 | 0,hj=>simp at hj;subst hj;simp
 | 1,hj=>simp at hj;subst hj;simp
theorem shape_owns {w:World}{base:Nat}{e:TypeId}{sz:Nat}{v:Value}{n:Nat}{xs:List Value}(h:w.ownsRow base e sz v n xs):∃a c,v=.slice a n c:=by
 rcases h.2 with ⟨e,hn⟩ | ⟨g,cap,cur,e,_⟩
 ·exact⟨none,0,by rw[e,hn]⟩
 ·exact⟨_,_,e⟩
theorem eql_nilI (a:Option Addr)(l c:Nat)(W:World):(binOp .eql 61 (.slice a l c) (.slice none 0 0)).run Tryz.prog W=.ok (.bool a.isNone) W:=by
 simp only[binOp]
 simp[run_equal_slice_nil W 61 _ a l c Tryz.underlying61]
theorem iclone_calls (a:Option Addr)(len cap:Nat)(zs:List Int)(w:World)(hZ:Ints w a len zs)(hlen:len<=1500000) :
  Calls Tryz.prog 88 #[.slice a len cap] w fun e w' => ∃a1 c1,e=.returned (.slice a1 len c1)/\w'.ownsRow w.heap.size 3 1 (.slice a1 len c1) len (intsV zs)/\Below w.heap.size w w' := by
 cases a with
 | none=>
  have h0:len=0:=by
   rcases hZ.2.2 with h | ⟨b,o,e,_⟩
   ·exact h
   ·cases e
  subst h0;have hz:zs=[]:=List.length_eq_zero_iff.1 hZ.1;subst hz;have hq:=eql_nilI none 0 cap w;have HE:Hid (w.ownsRow w.heap.size 3 1 (.slice none 0 0) 0 (intsV [])/\Below w.heap.size w w):=⟨World.ownsRow_nil ..,zzd _ _⟩;clear hZ;go_enter Tryz.func88,Tryz.ntmps88;go_wp2;go_ret;exact⟨none,0,rfl,HE.out⟩
 | some ad=>
  have hq:=eql_nilI (some ad) len cap w;have hB45:Below w.heap.size w (w.alloc (.cells #[] 3)):=(zzd _ w).alloc (zzb _) _;have HOWN0:Hid ((w.alloc (.cells #[] 3)).ownsRow w.heap.size 3 1 (.slice (some ⟨w.heap.size,0,none⟩) 0 0) 0 (intsV [])):=owned_nil w w.heap.size (zzb _);have HXI5:Hid (Ints (w.alloc (.cells #[] 3)) (some ad) len zs):=hZ.below hB45;have HB45:Hid (Below w.heap.size w (w.alloc (.cells #[] 3))):=hB45;(have hs1:0+len<=1000000000:=by omega);clear hZ hB45;go_enter Tryz.func88,Tryz.ntmps88
  go_wp2_with (first
   | (at_builtin;(refine wpList_append_ints rfl (.tmp 5) (.tmp 6) rfl w.heap.size _ 0 [] rfl HOWN0.out (some ad) len cap zs rfl (fun e=>by cases e) HXI5.out hs1 HB45.out.size ?_;intro v1 W6 hown1 hB56;rw[Nat.zero_add,List.nil_append] at hown1;obtain⟨ua1,uc1,rfl⟩:=shape_owns hown1;have HE:Hid (W6.ownsRow w.heap.size 3 1 (.slice ua1 len uc1) len (intsV zs)/\Below w.heap.size w W6):=⟨hown1,HB45.out.trans hB56⟩;clear hown1 hB56 HOWN0 HXI5))
   | fail)
  go_ret;exact⟨ua1,uc1,rfl,HE.out⟩
end Go.Proofs.YtjkebndkeamijaaGreatDoor
