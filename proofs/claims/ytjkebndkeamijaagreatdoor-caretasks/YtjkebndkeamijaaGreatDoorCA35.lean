/-
  PROVED HERE: what the texts DARParse, DARPars7, DATwice say.
-/
import Derived.Test.YtjkebndkeamijaaGreatDoorCA31
import Derived.Test.YtjkebndkeamijaaGreatDoorCADARefChk
set_option maxRecDepth 100000
set_option maxHeartbeats 4000000
namespace Go.Proofs.YtjkebndkeamijaaGreatDoor
open Go.RowKit
theorem gCb {s:ByteArray}(h:rX s=none):gO s=kE:=by
 unfold gO
 rw[h]
 rfl
theorem gIg {s:ByteArray}{t:DataW Unit}(h:rX s=some t):gO s=t:=by
 unfold gO
 rw[h]
 rfl
def RWh (g:Nat)(s:ByteArray)(lo:Nat)(e:Ending)(w' : World):Prop :=
 ∃k nm a ln cp j f,PAt w' g s j f/\Pl s j/\e=.returned (.agg #[.int .i64 k,.string nm,.slice a ln cp]) ∧
  (((f=true\/j<s.size)/\rX s=none/\nZ s=4/\qB s=j) ∨
   (f=false/\j=s.size/\∃t,nQ (bts s)=some t/\ExA (fun b=>lo<=b) w' 200 t (.agg #[.int .i64 k,.string nm,.slice a ln cp])/\oG 200 t/\cnt 200 t<=1152921504606846976))
theorem rO.whole {g:Nat}{s:ByteArray}{lo i:Nat}{e:Ending}{w' : World}(hs:¬200<s.size)(h0:jX (bts s)≠[])(h:rO g s lo i (gZ (s.size+1) (bts s)) e w'):RWh g s lo e w' := by
 obtain⟨j,t,m,⟨k,nm,a,ln,cp⟩,f,hP,hPl,hij,hG,h99,hX,rfl,hcase⟩:=h
 refine⟨k,nm,a,ln,cp,j,f,hP,hPl,rfl,?_⟩
 have hl:=oP s
 have none_of:∀o q,gZ (s.size+1) (bts s)=(o,q)->q=left s j->(o=none\/q≠[])->rX s=none/\nZ s=4/\qB s=j:=fun o q h1 h2 h3=>by
  obtain⟨o1,o2,o3⟩:=gOd hs (yK h0 (by rw[hl];exact h1) h3);rw[h1] at o3;exact⟨o1,o2,o3.trans (gOv hPl.1 h2)⟩
 rcases hcase with ⟨h1,h2,h3,_⟩ | ⟨h1,h2,_⟩
 ·by_cases hj:j<s.size
  ·refine .inl ⟨.inr hj,none_of _ _ h2 rfl (.inr fun e=>?_)⟩
   have:=iL s j
   rw[e,List.length_nil] at this;omega
  ·have hj2:j=s.size:=by have:=hPl.1;omega
   rw[hj2,oI] at h2;have hb:=tI (s.size+1) (bts s) t [] h2 m;have hb2:=tI (s.size+1) (bts s) t [] h2 200;rw[hl] at hb hb2;refine .inr ⟨h1,hj2,t,gUh h0 (n:=s.size+1) oo h2,ExA.down m t _ 200 hX (by simp at hb;omega),(gAe _ _ _ _ h2 oo).1 200,by simp at hb2;omega⟩
 ·exact .inl ⟨.inl h1,none_of _ _ h2 rfl (.inl rfl)⟩
theorem k31{p:Prop}(h:p:=by
  (go_wp2_with (refine wpList_store_row rfl 69 _ _ rfl w.heap.size #[.int .i64 0,.string ⟨#[]⟩,.slice none 0 0] rfl rfl 69 _ HZ.out gE rfl (jF _ _ _ _ _) ?_));refine bodyPost_ret (lQ rfl _ _ w.heap.size 69 #[.int .i64 0,.string ⟨#[]⟩,.slice none 0 0] (0,0) _ rfl (setRow_heap _ _ _ _ _ _ HZ.out) Tryz.underlying69 rfl gE) rfl ?_;refine⟨HF.out _,(0,⟨#[]⟩,none,0,0),?_,by rw[HO.out.2.1,HO.out.2.2];rfl⟩;rw[HO.out.1];exact ExA.leaf _ _ 199 0 ⟨#[]⟩ none 0
  ):p:=h
theorem k20{p:Prop}(h:p:=by
  clear hK K
  try simp only[Act.put,List.setIfInBounds_toArray]
  refine jQ 6 (some 3) (v:=?_) hS2 ?_ ?_
  rotate_left
  ·intro w hSw
   obtain⟨s0,s1,s2,s3,s4⟩:=PAt.cells hSw;go_simp
   with_reducible rfl
  try simp only[Act.put]
  refine jQ 7 (some 4) (v:=?_) hS2 ?_ ?_
  rotate_left
  ·intro w hSw
   obtain⟨s0,s1,s2,s3,s4⟩:=PAt.cells hSw;go_simp
   with_reducible rfl
  try simp only[Act.put]
  refine wpAnyH_done kr ?_ _;clear hS hS2;(go_wp2_with fail);refine bodyPost_ret (lQ rfl _ _ w.heap.size 69 #[.int .i64 0,.string ⟨#[]⟩,.slice none 0 0] (0,0) _ rfl (setRow_heap _ _ _ _ _ _ HZ.out) Tryz.underlying69 rfl gE) rfl ?_;refine⟨HF.out _,(0,⟨#[]⟩,none,0,0),?_,by rw[HO.out.2.1,HO.out.2.2];rfl⟩;rw[HO.out.1];exact ExA.leaf _ _ 199 0 ⟨#[]⟩ none 0
  ):p:=h
theorem gKm (s:ByteArray)(hs:s.size<=9223372036854775807)(w:World) :
  Calls Tryz.prog 94 #[.string s] w fun e w' => Below w.heap.size w w' /\ ∃r,ExA (fun b=>w.heap.size<=b) w' 200 (gO s) (jI r)/\e=.returned (.tuple #[jI r,.int .i64 (qB s:Int),.int .i64 (nZ s)]):=by
 have hmx:Tryz.prog.follows .mixedOrders=true:=by kernel_rfl
 by_cases hbig:200<s.size
 ·obtain⟨o1,o2,o3⟩:=gOe hbig
  have HO:Hid (gO s=kE/\nZ s=2/\qB s=0):=⟨gCb o1,o2,o3⟩;(have HF:Hid (∀cs,Below w.heap.size w ((w.alloc (.cells #[.int .i64 0,.string ⟨#[]⟩,.slice none 0 0] 69)).setRow w.heap.size cs)):=fun cs=>below_setRow ((zzd _ w).alloc (zzb _) _) (zzb _) cs);(have hb:(200:Int)<(s.size:Int):=by omega);clear o1 o2 o3;go_enter Tryz.func94,Tryz.ntmps94;(go_wp2_with (refine wpList_store_row rfl 69 _ _ rfl w.heap.size #[.int .i64 0,.string ⟨#[]⟩,.slice none 0 0] rfl rfl 69 _ (heap_alloc_new w _) gE rfl (jF _ _ _ _ _) ?_));refine bodyPost_ret (lQ rfl _ _ w.heap.size 69 #[.int .i64 0,.string ⟨#[]⟩,.slice none 0 0] (0,0) _ rfl (setRow_heap _ _ _ _ _ _ (heap_alloc_new w _)) Tryz.underlying69 rfl gE) rfl ?_;refine⟨HF.out _,(0,⟨#[]⟩,none,0,0),?_,by rw[HO.out.2.1,HO.out.2.2];rfl⟩;rw[HO.out.1];exact ExA.leaf _ _ 199 0 ⟨#[]⟩ none 0
 ·have hb:¬(200:Int)<(s.size:Int):=by omega
  obtain⟨w1,hw1⟩:∃w1,w1=(w.alloc (.cells #[.int .i64 0,.string ⟨#[]⟩,.slice none 0 0] 69)).alloc (.cells #[.string s,.int .i64 0,.bool false] 181):=⟨_,rfl⟩;(have hB1:Below w.heap.size w w1:=by rw[hw1];exact((zzd _ w).alloc (zzb _) _).alloc (by simp) _);have hs1:w1.heap.size=w.heap.size+1+1:=by rw[hw1];simp
  have hP1:PAt w1 (w.heap.size+1) s 0 false:=by
   unfold PAt
   have:=heap_alloc_new (w.alloc (.cells #[.int .i64 0,.string ⟨#[]⟩,.slice none 0 0] 69)) (.cells #[.string s,.int .i64 0,.bool false] 181)
   rw[World.size_alloc] at this;rw[hw1];exact this
  (have hz1:w1.heap[w.heap.size]? = some (.cells #[.int .i64 0,.string ⟨#[]⟩,.slice none 0 0] 69 (0,0)):=by rw[hw1,zzf _ _ _ (by simp)];exact heap_alloc_new w _);obtain⟨P2,q2,q3⟩:=Pl.skip (s:=s) (i:=0) (zzn _);rw[gIz] at q3;have hA:gZ (s.size+1) (left s (skip s 0))=gZ (s.size+1) (bts s):=gCw _ (by rw[q3,sS]);have HPK:=mF (w.heap.size+1) s 0 false w1 hP1 (zzn _) oo
  have HPK2:Hid (∀W j,PAt W (w.heap.size+1) s j false->Pl s j->Calls Tryz.prog 125 #[.pointer (some ⟨w.heap.size+1,0,none⟩)] W fun r w' => r=.returned (.int .u8 (jD s j false))/\PAt w' (w.heap.size+1) s j false/\jW (w.heap.size+1) W w'):=fun W j h hj=>by
   have:=mF (w.heap.size+1) s j false W h hj.1 (by have:=hj.1;omega)
   rwa [hj.stay] at this
  have hk0:=wM (s:=s) (i:=skip s 0) P2.1;have HW1:Hid (Below w.heap.size w w1/\w1.heap.size=w.heap.size+1+1/\w1.heap[w.heap.size]? = some (.cells #[.int .i64 0,.string ⟨#[]⟩,.slice none 0 0] 69 (0,0))/\¬200<s.size):=⟨hB1,hs1,hz1,hbig⟩
  have HAL:Hid (∀W,PAt W (w.heap.size+1) s (skip s 0) false->Calls Tryz.prog 126 #[.pointer (some ⟨w.heap.size+1,0,none⟩)] W fun e W' => gX (w.heap.size+1) W W' /\ rO (w.heap.size+1) s W.heap.size (skip s 0) (gZ (s.size+1) (bts s)) e W'):=fun W h=>by
   have:=RCH.all (w.heap.size+1) s oo (s.size+1) W (skip s 0) h P2.1 oo
   rwa [hA] at this
  obtain⟨i0,hi0⟩:∃i0,skip s 0=i0:=⟨_,rfl⟩;rw[hi0] at HAL HPK hk0 q3;clear hB1 hs1 hP1 hz1 P2 q2 hA hi0
  by_cases hnil:jX (bts s)=[]
  ·have hpk:jD s i0 false=0:=hk0.2 (q3.trans hnil)
   rw[hpk] at HPK;obtain⟨o1,o2,o3⟩:=gGf (t:=kE) hbig (by unfold nQ;rw[if_pos hnil];rfl) gMb;have HO:Hid (gO s=kE/\nZ s=0/\qB s=s.size):=⟨gIg o1,o2,o3⟩;clear o1 o2 o3 hnil hpk hk0 q3 HAL HPK2 hbig;go_enter Tryz.func94,Tryz.ntmps94;(go_wp2_with fail);rw[<-hw1];clear hw1;refine HPK.mono ?_;clear HPK;rintro e2 W2 ⟨rfl,hP2,hO2⟩;obtain⟨hB1,hs1,hz1,hbig⟩:=HW1.out;have HZ:Hid (W2.heap[w.heap.size]? = some (.cells #[.int .i64 0,.string ⟨#[]⟩,.slice none 0 0] 69 (0,0))):=(hO2.block _ oo).trans hz1;(have HF:Hid (∀cs,Below w.heap.size w (W2.setRow w.heap.size cs)):=fun cs=>below_setRow (Below.of_kept hB1 hO2.kept oo oo) (zzb _) cs);clear hB1 hs1 hz1 hP2 hO2 HW1;exact k31
  ·have hpk:jD s i0 false≠0:=fun e=>hnil (q3.symm.trans (hk0.1 e))
   have HN:Hid (jX (bts s)≠[]):=hnil;generalize jD s i0 false=C at *;(have b0:(C==0)=false:=by rw[beq_eq_false_iff_ne];exact hpk);clear hnil hpk hk0 q3 hbig;go_enter Tryz.func94,Tryz.ntmps94;(go_wp2_with fail);rw[<-hw1];clear hw1;refine HPK.mono ?_;clear HPK;rintro e2 W2 ⟨rfl,hP2,hO2⟩;obtain⟨hB1,hs1,hz1,hbig⟩:=HW1.out;have HAL2:=HAL.out W2 hP2;(have hs2:W2.heap.size=w.heap.size+1+1:=by rw[hO2.size,hs1]);have HW2:Hid (Below w.heap.size w W2/\W2.heap.size=w.heap.size+1+1/\W2.heap[w.heap.size]? = some (.cells #[.int .i64 0,.string ⟨#[]⟩,.slice none 0 0] 69 (0,0))/\¬200<s.size):=⟨Below.of_kept hB1 hO2.kept oo oo,hs2,(hO2.block _ oo).trans hz1,hbig⟩;clear hB1 hs1 hz1 hbig hP2 hO2 HW1 HAL hs2;(go_wp2_with fail);refine HAL2.mono ?_;clear HAL2 b0;rintro e3 W3 ⟨hK3,hE⟩;obtain⟨hB2,hs2,hz2,hbig⟩:=HW2.out;obtain⟨k,nm,a,ln,cp,j,f,hP3,hPl,rfl,hcase⟩:=hE.whole hbig HN.out;obtain⟨W4,hW4⟩:∃W4,W4=W3.alloc (.cells #[.int .i64 k,.string nm,.slice a ln cp] 69):=⟨_,rfl⟩;have hs3:=hK3.size;(have hP4:PAt W4 (w.heap.size+1) s j f:=by rw[hW4];exact hP3.alloc _);(have hB4:Below w.heap.size w W4:=by rw[hW4];exact(Below.of_kept hB2 hK3 oo oo).alloc oo _);(have hz4:W4.heap[w.heap.size]? = some (.cells #[.int .i64 0,.string ⟨#[]⟩,.slice none 0 0] 69 (0,0)):=by rw[hW4,zzf W3 _ _ oo,hK3.block _ oo oo];exact hz2);(have hev:W4.heap[W3.heap.size]? = some (.cells #[.int .i64 k,.string nm,.slice a ln cp] 69 (0,0)):=by rw[hW4];exact heap_alloc_new W3 _);(have hs4:W4.heap.size=W3.heap.size+1:=by rw[hW4];simp);obtain⟨g0,g1,g2,g3,g4⟩:=hP4.cells;have HW4:Hid (Below w.heap.size w W4/\W4.heap[w.heap.size]? = some (.cells #[.int .i64 0,.string ⟨#[]⟩,.slice none 0 0] 69 (0,0))/\W4.heap[W3.heap.size]? = some (.cells #[.int .i64 k,.string nm,.slice a ln cp] 69 (0,0))/\w.heap.size+1<W3.heap.size/\W4.heap.size=W3.heap.size+1/\¬200<s.size):=⟨hB4,hz4,hev,oo,hs4,hbig⟩;have HP4:Hid (PAt W4 (w.heap.size+1) s j f/\Pl s j):=⟨hP4,hPl⟩;rcases hcase with ⟨hfj,o1,o2,o3⟩ | ⟨rfl,hjs,t,hrd,hX,hnm,hct⟩
   ·have HO:Hid (gO s=kE/\nZ s=4/\qB s=j):=⟨gCb o1,o2,o3⟩
    cases f with
    | true=>
     have HZ:Hid (W4.drew.heap[w.heap.size]? = some (.cells #[.int .i64 0,.string ⟨#[]⟩,.slice none 0 0] 69 (0,0))):=hz4;have hBd:Below w.heap.size w W4.drew:=⟨hB4.os,hB4.tape,hB4.output,hB4.size,hB4.block⟩;(have HF:Hid (∀cs,Below w.heap.size w (W4.drew.setRow w.heap.size cs)):=fun cs=>below_setRow hBd (zzb _) cs);have HPW:Hid (PAt W4 (w.heap.size+1) s j true):=hP4;rw[hW4] at g0 g1 g2 g3 g4;have HWE:Hid (W4=W3.alloc (.cells #[.int .i64 k,.string nm,.slice a ln cp] 69)):=hW4;clear hBd hW4 hP4 hB4 hz4 hev hs4 HW4 HP4 HW2 HPK2 hfj o1 o2 o3 hK3 hE hB2 hs2 hz2 hbig hP3 hPl hs3 HN;(go_wp2_with fail);rw[<-HWE.out];refine wp_region_held_drew (S:=fun w' => PAt w' (w.heap.size+1) s j true) hmx (show PAt W4.drew (w.heap.size+1) s j true from HPW.out) (fun hS=>?_);refine gA 0 (some 31) hS ?_ (hy:=by intro w hSw;obtain⟨s0,s1,s2,s3,s4⟩:=PAt.cells hSw;go_simp;with_reducible rfl);refine gA 1 (some 32) hS ?_ (hy:=by intro w hSw;obtain⟨s0,s1,s2,s3,s4⟩:=PAt.cells hSw;go_simp;with_reducible rfl);refine gA 2 (some 33) hS ?_ (hy:=by intro w hSw;obtain⟨s0,s1,s2,s3,s4⟩:=PAt.cells hSw;go_simp;with_reducible rfl);refine gA 3 (some 34) hS ?_ (hy:=by intro w hSw;obtain⟨s0,s1,s2,s3,s4⟩:=PAt.cells hSw;go_simp;with_reducible rfl);refine gA 4 (some 35) hS ?_ (hy:=by intro w hSw;obtain⟨s0,s1,s2,s3,s4⟩:=PAt.cells hSw;go_simp;with_reducible rfl);refine gT 5 kr rfl (fun K hK=>?_);rw[if_pos (by rfl)];refine wp_store_row 69 _ _ rfl w.heap.size #[.int .i64 0,.string ⟨#[]⟩,.slice none 0 0] rfl rfl 69 _ HZ.out gE rfl (jF _ _ _ _ _) ?_;refine hK.out _ _ (PAt.setRow (w:=W4.drew) HPW.out _ _ oo) (fun hS2=>?_);exact k20
    | false=>
     have hjl:j<s.size:=by
      rcases hfj with h | h
      ·cases h
      ·exact h
     have HP5:=HPK2.out W4 j hP4 hPl
     have hpk:jD s j false≠0:=fun e=>by
      have:=(wM hPl.1).1 e
      have h2:=iL s j;rw[this,List.length_nil] at h2;omega
     generalize jD s j false=C at *;(have b0:(C==0)=false:=by rw[beq_eq_false_iff_ne];exact hpk);(have b1:(C != 0)=true:=by rw[bne_iff_ne];exact hpk);rw[hW4] at g0 g1 g2 g3 g4;have HWE:Hid (W4=W3.alloc (.cells #[.int .i64 k,.string nm,.slice a ln cp] 69)):=hW4;clear hW4 hP4 hB4 hz4 hev hs4 HW2 HPK2 hfj o1 o2 o3 hK3 hE hB2 hs2 hz2 hbig hP3 hPl hs3 HN hpk hjl HP4;(go_wp2_with fail);rw[<-HWE.out];refine HP5.mono ?_;clear HP5 g0 g1 g2 g3 g4;rintro e5 W5 ⟨rfl,hP5,hO5⟩;obtain⟨g0,g1,g2,g3,g4⟩:=hP5.cells;obtain⟨hB4,hz4,-,hs3,hs4,-⟩:=HW4.out;have hz5:W5.heap[w.heap.size]? = some (.cells #[.int .i64 0,.string ⟨#[]⟩,.slice none 0 0] 69 (0,0)):=(hO5.block _ oo).trans hz4;have hB5:Below w.heap.size w W5:=Below.of_kept hB4 hO5.kept oo oo;have hBd:Below w.heap.size w W5.drew:=⟨hB5.os,hB5.tape,hB5.output,hB5.size,hB5.block⟩;have HZ:Hid (W5.drew.heap[w.heap.size]? = some (.cells #[.int .i64 0,.string ⟨#[]⟩,.slice none 0 0] 69 (0,0))):=hz5;(have HF:Hid (∀cs,Below w.heap.size w (W5.drew.setRow w.heap.size cs)):=fun cs=>below_setRow hBd (zzb _) cs);have HPW:Hid (PAt W5 (w.heap.size+1) s j false):=hP5;clear hBd hP5 hO5 hB4 hz4 hs3 hs4 HW4 HWE hz5 hB5;(go_wp2_with fail);refine wp_region_held_drew (S:=fun w' => PAt w' (w.heap.size+1) s j false) hmx (show PAt W5.drew (w.heap.size+1) s j false from HPW.out) (fun hS=>?_);refine jQ 0 (some 31) (v:=?_) hS ?_ ?_
     rotate_left
     ·intro w hSw
      obtain⟨s0,s1,s2,s3,s4⟩:=PAt.cells hSw;go_simp
      with_reducible rfl
     try simp only[gQ]
     refine gA 1 (some 32) hS ?_ (hy:=by intro w hSw;obtain⟨s0,s1,s2,s3,s4⟩:=PAt.cells hSw;go_simp;with_reducible rfl);refine gA 2 (some 33) hS ?_ (hy:=by intro w hSw;obtain⟨s0,s1,s2,s3,s4⟩:=PAt.cells hSw;go_simp;with_reducible rfl);refine gA 3 (some 34) hS ?_ (hy:=by intro w hSw;obtain⟨s0,s1,s2,s3,s4⟩:=PAt.cells hSw;go_simp;with_reducible rfl);refine gA 4 (some 35) hS ?_ (hy:=by intro w hSw;obtain⟨s0,s1,s2,s3,s4⟩:=PAt.cells hSw;go_simp;with_reducible rfl);refine gT 5 kr rfl (fun K hK=>?_);rw[if_pos (by rfl)];refine wp_store_row 69 _ _ rfl w.heap.size #[.int .i64 0,.string ⟨#[]⟩,.slice none 0 0] rfl rfl 69 _ HZ.out gE rfl (jF _ _ _ _ _) ?_;refine hK.out _ _ (PAt.setRow (w:=W5.drew) HPW.out _ _ oo) (fun hS2=>?_);exact k20
   ·have HP5:=HPK2.out W4 j hP4 hPl
    have hpk:jD s j false=0:=(wM hPl.1).2 (by rw[hjs];exact oI s);rw[hpk] at HP5;rw[hW4] at g0 g1 g2 g3 g4;have HWE:Hid (W4=W3.alloc (.cells #[.int .i64 k,.string nm,.slice a ln cp] 69)):=hW4;have hX4:ExA (fun b=>W2.heap.size<=b) W4 200 t (.agg #[.int .i64 k,.string nm,.slice a ln cp]):=ExA.kept oo (fun b hb hA=>⟨hA,by rw[hW4];exact zzf W3 _ b hb⟩) _ _ _ hX;have HX4:Hid (ExA (fun b=>W2.heap.size<=b) W4 200 t (.agg #[.int .i64 k,.string nm,.slice a ln cp])/\W2.heap.size=w.heap.size+1+1):=⟨hX4,hs2⟩;have HT:Hid (nQ (bts s)=some t/\oG 200 t/\cnt 200 t<=1152921504606846976):=⟨hrd,hnm,hct⟩;clear hW4 hP4 hB4 hz4 hev hs4 HW2 HPK2 hK3 hE hB2 hs2 hz2 hbig hP3 hPl hs3 HN hpk HP4 hX hX4 hrd hnm hct hjs;(go_wp2_with fail);rw[<-HWE.out];refine HP5.mono ?_;clear HP5 g0 g1 g2 g3 g4;rintro e5 W5 ⟨rfl,hP5,hO5⟩;obtain⟨hB4,hz4,hev,hs3,hs4,hbig⟩:=HW4.out;obtain⟨hX4,hs2⟩:=HX4.out;have hs5:W5.heap.size=W4.heap.size:=hO5.size;have hev5:W5.heap[W3.heap.size]? = some (.cells #[.int .i64 k,.string nm,.slice a ln cp] 69 (0,0)):=(hO5.block _ oo).trans hev;have hX5:ExA (fun b=>W2.heap.size<=b) W5 200 t (.agg #[.int .i64 k,.string nm,.slice a ln cp]):=ExA.kept oo (fun b hb hA=>⟨hA,hO5.block b oo⟩) _ _ _ hX4;have HCK:=gBq 200 t (.agg #[.int .i64 k,.string nm,.slice a ln cp]) W5 (ExA.ex _ _ _ hX5) HT.out.2.2 HT.out.2.1;have HW5:Hid (Below w.heap.size w W5/\W5.heap[w.heap.size]? = some (.cells #[.int .i64 0,.string ⟨#[]⟩,.slice none 0 0] 69 (0,0))/\W5.heap[W3.heap.size]? = some (.cells #[.int .i64 k,.string nm,.slice a ln cp] 69 (0,0))/\w.heap.size+1<W3.heap.size/\W5.heap.size=W3.heap.size+1/\ExA (fun b=>W2.heap.size<=b) W5 200 t (.agg #[.int .i64 k,.string nm,.slice a ln cp])/\W2.heap.size=w.heap.size+1+1):=⟨Below.of_kept hB4 hO5.kept oo oo,(hO5.block _ oo).trans hz4,hev5,hs3,oo,hX5,hs2⟩;have c0:W5.cell? ⟨W3.heap.size,0,none⟩=some (.int .i64 k):=cell_of_row W5 _ 0 _ _ _ hev5;have c1:W5.cell? ⟨W3.heap.size,1,none⟩=some (.string nm):=cell_of_row W5 _ 1 _ _ _ hev5;have c2:W5.cell? ⟨W3.heap.size,2,none⟩=some (.slice a ln cp):=cell_of_row W5 _ 2 _ _ _ hev5
    by_cases hck:kU 200 t=0
    ·obtain⟨o1,o2,o3⟩:=gGf hbig HT.out.1 hck
     have HO:Hid (gO s=t/\nZ s=0/\qB s=s.size):=⟨gIg o1,o2,o3⟩;rw[hck] at HCK;clear o1 o2 o3 hck hB4 hz4 hev hs3 hs4 hbig hX4 hs2 hs5 hev5 hX5 hP5 hO5 HW4 HX4 HT HWE;(go_wp2_with fail);refine HCK.mono ?_;clear HCK c0 c1 c2;rintro e6 W6 ⟨rfl,hB6⟩;obtain⟨hB5,hz5,hev5,hs3,hs5,hX5,hs2⟩:=HW5.out;have hev6:W6.heap[W3.heap.size]? = some (.cells #[.int .i64 k,.string nm,.slice a ln cp] 69 (0,0)):=(hB6.block _ oo).trans hev5;have c0:W6.cell? ⟨W3.heap.size,0,none⟩=some (.int .i64 k):=cell_of_row W6 _ 0 _ _ _ hev6;have c1:W6.cell? ⟨W3.heap.size,1,none⟩=some (.string nm):=cell_of_row W6 _ 1 _ _ _ hev6;have c2:W6.cell? ⟨W3.heap.size,2,none⟩=some (.slice a ln cp):=cell_of_row W6 _ 2 _ _ _ hev6;have HZ:Hid (W6.heap[w.heap.size]? = some (.cells #[.int .i64 0,.string ⟨#[]⟩,.slice none 0 0] 69 (0,0))):=(hB6.block _ oo).trans hz5;(have HF:Hid (∀cs,Below w.heap.size w (W6.setRow w.heap.size cs)):=fun cs=>below_setRow (hB5.trans (hB6.mono oo)) (zzb _) cs);(have HX:Hid (∀cs,ExA (fun b=>w.heap.size<=b) (W6.setRow w.heap.size cs) 200 t (.agg #[.int .i64 k,.string nm,.slice a ln cp])):=fun cs=>ExA.kept (by rw[size_setRow];exact hB6.size) (fun b hb hA=>⟨oo,(setRow_other _ _ _ _ oo).trans (hB6.block b hb)⟩) _ _ _ hX5);clear hB5 hz5 hev5 hs3 hs5 hX5 hs2 hev6 hB6 HW5;(go_wp2_with (refine wpList_store_row rfl 69 _ _ rfl w.heap.size #[.int .i64 k,.string nm,.slice a ln cp] rfl rfl 69 _ HZ.out gE rfl (jF _ _ _ _ _) ?_));refine bodyPost_ret (lQ rfl _ _ w.heap.size 69 #[.int .i64 k,.string nm,.slice a ln cp] (0,0) _ rfl (setRow_heap _ _ _ _ _ _ HZ.out) Tryz.underlying69 rfl gE) rfl ?_;refine⟨HF.out _,(k,nm,a,ln,cp),?_,by rw[HO.out.2.1,HO.out.2.2];rfl⟩;rw[HO.out.1];exact HX.out _
    ·obtain⟨o1,o2,o3⟩:=gUi hbig HT.out.1 hck
     have HO:Hid (gO s=kE/\nZ s=4/\qB s=0):=⟨gCb o1,o2,o3⟩;generalize kU 200 t=C at *;(have e1:(C==0)=false:=by rw[beq_eq_false_iff_ne];exact hck);(have e2:(C != 0)=true:=by rw[bne_iff_ne];exact hck);clear o1 o2 o3 hck hB4 hz4 hev hs3 hs4 hbig hX4 hs2 hs5 hev5 hX5 hP5 hO5 HW4 HX4 HT HWE;(go_wp2_with fail);refine HCK.mono ?_;clear HCK c0 c1 c2;rintro e6 W6 ⟨rfl,hB6⟩;obtain⟨hB5,hz5,hev5,hs3,hs5,hX5,hs2⟩:=HW5.out;have HZ:Hid (W6.heap[w.heap.size]? = some (.cells #[.int .i64 0,.string ⟨#[]⟩,.slice none 0 0] 69 (0,0))):=(hB6.block _ oo).trans hz5;(have HF:Hid (∀cs,Below w.heap.size w (W6.setRow w.heap.size cs)):=fun cs=>below_setRow (hB5.trans (hB6.mono oo)) (zzb _) cs);clear hB5 hz5 hev5 hs3 hs5 hX5 hs2 hB6 HW5;exact k31
theorem gKy (s:ByteArray):cnt 200 (gO s)<=1152921504606846976:=by
 have hc:∀t,s.size<=200->nQ (bts s)=some t->cnt 200 t<=1000:=fun t hs hr=>by
  by_cases hk:iE t≠0
  ·have:=(gRw hr hk 200).2
   rw[oP] at this;omega
  ·unfold nQ at hr
   split at hr
   ·cases hr;decide
   ·split at hr
    ·rename_i t2 ha
     cases hr
     have:=tI _ _ _ _ ha 200
     rw[oP,List.length_nil] at this;omega
    ·cases hr
 have he:cnt 200 kE<=1152921504606846976:=by decide
 unfold gO rX
 split
 ·exact he
 ·split
  ·exact he
  ·rename_i t hr
   split
   ·have:=hc t oo hr
    show cnt 200 t<=1152921504606846976
    omega
   ·exact he
theorem k44{p:Prop}(h:p:=by
  (go_wp2_with (refine wpList_store_row rfl 69 _ _ rfl w.heap.size #[.int .i64 k,.string nm,.slice a ln cp] rfl rfl 69 _ HZ.out gE rfl (jF _ _ _ _ _) ?_));refine bodyPost_ret (gU rfl _ _ w.heap.size 69 #[.int .i64 k,.string nm,.slice a ln cp] (0,0) _ rfl (setRow_heap _ _ _ _ _ _ HZ.out) Tryz.underlying69 rfl gE) rfl ?_;exact⟨(HF.out _).1,(k,nm,a,ln,cp),(HF.out _).2,rfl⟩
  ):p:=h
theorem yY (s:ByteArray)(hs:s.size<=9223372036854775807)(ga:Option Addr)(gl gc:Nat)(gs:List Grp)(w:World)(hG:iS w ga gl gs) :
  Calls Tryz.prog 59 #[.string s,.slice ga gl gc] w fun e w' => Below w.heap.size w w' /\ ∃r:Raw,ExA (fun b=>w.heap.size<=b) w' 200 (gO s) (jI r)/\e=.returned (.tuple #[jI r,.int .i64 (kI s gs)]):=by
 obtain⟨V,hV⟩:∃V,V=w.alloc (.cells #[.int .i64 0,.string ⟨#[]⟩,.slice none 0 0] 69):=⟨_,rfl⟩
 have hBV:Below w.heap.size w V:=by rw[hV];exact(zzd _ w).alloc (zzb _) _
 have hsV:V.heap.size=w.heap.size+1:=by rw[hV,World.size_alloc]
 have hmV:V.heap[w.heap.size]? = some (.cells #[.int .i64 0,.string ⟨#[]⟩,.slice none 0 0] 69 (0,0)):=by rw[hV];exact World.alloc_heap_new w _
 have HP:=gKm s hs V
 have HALL:Hid (∀(X1:World) (k:Int) (nm:ByteArray) (a:Option Addr) (ln cp:Nat),Below V.heap.size V X1->ExA (fun b=>V.heap.size<=b) X1 200 (gO s) (jI (k,nm,a,ln,cp))->∀X2,X2=X1.alloc (.cells #[.int .i64 k,.string nm,.slice a ln cp] 69) →
   (∀X,Below X2.heap.size X2 X->X.heap[w.heap.size]? = some (.cells #[.int .i64 0,.string ⟨#[]⟩,.slice none 0 0] 69 (0,0))/\(X.cell? ⟨X1.heap.size,0,none⟩=some (.int .i64 k)/\X.cell? ⟨X1.heap.size,1,none⟩=some (.string nm)/\X.cell? ⟨X1.heap.size,2,none⟩=some (.slice a ln cp))/\∀cs,Below w.heap.size w (X.setRow w.heap.size cs)/\ExA (fun b=>w.heap.size<=b) (X.setRow w.heap.size cs) 200 (gO s) (jI (k,nm,a,ln,cp))) ∧
   Calls Tryz.prog 74 #[.agg #[.int .i64 k,.string nm,.slice a ln cp],.slice ga gl gc] X2 (fun e w' => e=.returned (.int .i64 (chk 200 (gO s) gs))/\Below X2.heap.size X2 w')):=by
  intro X1 k nm a ln cp hB1 hX1 X2 hX2;have hs1:=hB1.size;(have hB12:Below X1.heap.size X1 X2:=by rw[hX2];exact(zzd _ _).alloc (zzb _) _);(have m2:X2.heap[X1.heap.size]? = some (.cells #[.int .i64 k,.string nm,.slice a ln cp] 69 (0,0)):=by rw[hX2];exact World.alloc_heap_new X1 _);have hl2:=(zza.1 m2).1;have hX2e:ExA (fun b=>V.heap.size<=b) X2 200 (gO s) (jI (k,nm,a,ln,cp)):=ExA.kept hB12.size (fun b hb hA=>⟨hA,hB12.block b hb⟩) _ _ _ hX1;have hB2:Below w.heap.size w X2:=hBV.trans ((hB1.trans (hB12.mono hB1.size)).mono hBV.size);refine⟨fun X hX=>⟨?_,?_,fun cs=>⟨?_,?_⟩⟩,?_⟩
  ·have hs2:=hB12.size
   exact(hX.block _ oo).trans ((hB12.block _ oo).trans ((hB1.block _ oo).trans hmV))
  ·have hc:=fun j=>cell_of_row X X1.heap.size j _ _ _ ((hX.block _ hl2).trans m2)
   exact⟨hc 0,hc 1,hc 2⟩
  ·exact below_setRow (hB2.trans (hX.mono hB2.size)) (zzb _) cs
  ·exact ExA.kept (by rw[size_setRow];exact hX.size) (fun b hb hA=>⟨oo,(setRow_other _ _ _ _ oo).trans (hX.block b hb)⟩) _ _ _ hX2e
  ·exact sW 200 (gO s) _ ga gl gc gs X2 (ExA.ex _ _ _ hX2e) (uN s) (gKy s) (hG.below hB2)
 have hre:kI s gs=if nZ s≠0 then nZ s else chk 200 (gO s) gs:=rfl
 obtain⟨E,hE⟩:∃E,nZ s=E:=⟨_,rfl⟩
 obtain⟨T,hT⟩:∃T,gO s=T:=⟨_,rfl⟩
 obtain⟨C,hC⟩:∃C,chk 200 T gs=C:=⟨_,rfl⟩
 obtain⟨N,hN⟩:∃N,((qB s:Nat):Int)=N:=⟨_,rfl⟩
 rw[hE,hT,hC] at hre
 rw[hE,hT,hN] at HP
 rw[hT,hC] at HALL
 rw[hT,hre]
 clear hre hE hT hC hN hG hmV hsV
 by_cases h0:E=0
 ·subst h0
  rw[if_neg (by simp)];go_enter Tryz.func59,Tryz.ntmps59;(go_wp2_with fail);rw[<-hV];clear hV;refine HP.mono ?_;rintro e X1 ⟨hB1,⟨k,nm,a,ln,cp⟩,hX1,rfl⟩;obtain⟨hq,hck⟩:=HALL.out X1 k nm a ln cp hB1 hX1 _ rfl;have HQ:=Hid.mk_ hq;obtain⟨_,⟨c0,c1,c2⟩,_⟩:=hq _ (zzd _ _);unfold jI;dsimp only at *;clear hq HALL hX1 hB1 hBV HP;(go_wp2_with fail);refine hck.mono ?_;rintro e X3 ⟨rfl,hB3⟩;obtain⟨hz,⟨d0,d1,d2⟩,hf⟩:=HQ.out X3 hB3;have HZ:=Hid.mk_ hz;have HF:=Hid.mk_ hf;clear hck HQ c0 c1 c2 hB3 hz hf;exact k44
 ·rw[if_pos h0]
  (have e0:(E==0)=false:=by rw[beq_eq_false_iff_ne];exact h0);go_enter Tryz.func59,Tryz.ntmps59;(go_wp2_with fail);rw[<-hV];clear hV;refine HP.mono ?_;rintro e X1 ⟨hB1,⟨k,nm,a,ln,cp⟩,hX1,rfl⟩;obtain⟨hq,_⟩:=HALL.out X1 k nm a ln cp hB1 hX1 _ rfl;obtain⟨hz,⟨d0,d1,d2⟩,hf⟩:=hq _ (zzd _ _);have HZ:=Hid.mk_ hz;have HF:=Hid.mk_ hf;unfold jI;dsimp only at *;clear hq HALL hX1 hB1 hBV HP hz hf;exact k44
def gBu (l:List gV)(gs:List Grp):List ByteArray:=l.map (·.name)++gs.map (·.1)
def rS (ns:List ByteArray):List Value:=ns.map Value.string
def gVd (ns:List ByteArray)(j:Nat):Prop:=∀x,ns[j]? = some x->jJ x=true/\(x.toList==lR.toList)=false/\∀k y,k<j->ns[k]? = some y->(y.toList==x.toList)=false
theorem gEi:∀(l:List gV) (i:Nat),(jE i l).map (·.1)=l.map (·.name):=by
 intro l
 induction l with
 | nil=>intro i;rfl
 | cons s r ih=>intro i;rw[jE,List.map_cons,List.map_cons,ih]
theorem gXb (l:List gV)(gs:List Grp):(gJ l gs).map (·.1)=lR::gBu l gs:=by
 unfold gJ gBu
 rw[List.map_cons,List.map_append,gEi]
theorem hFj {gs:List Grp}{ns:List ByteArray}(h:gs.map (·.1)=ns)(j:Nat)(x:ByteArray):ns[j]? = some x↔∃g,gs[j]? = some g/\g.1=x:=by
 rw[<-h,List.getElem?_map]
 cases gs[j]? with
 | none=>simp
 | some g=>simp
theorem gLe:jJ lR=true:=by kernel_rfl
theorem gTn (l:List gV)(gs:List Grp):pQ (gJ l gs)↔∀j,gVd (gBu l gs) j:=by
 have hn:=gXb l gs
 have hat:=fun j x=>hFj hn j x
 unfold pQ gVd vJ
 constructor
 ·intro h j x hx
  obtain⟨g,hg,rfl⟩:=(hat (j+1) x).1 (by rw[List.getElem?_cons_succ];exact hx);obtain⟨h1,h2⟩:=h (j+1) g hg;refine⟨h1,?_,fun k y hk hy=>?_⟩
  ·obtain⟨t,ht,ht2⟩:=(hat 0 lR).1 rfl
   cases e:(g.1.toList==lR.toList) with
   | false=>rfl
   | true=>
    refine absurd ⟨0,t,oo,ht,?_⟩ h2;rw[ht2];rw[beq_iff_eq] at e ⊢;exact e.symm
  ·obtain⟨t,ht,ht2⟩:=(hat (k+1) y).1 (by rw[List.getElem?_cons_succ];exact hy)
   cases e:(y.toList==g.1.toList) with
   | false=>rfl
   | true=>exact absurd ⟨k+1,t,oo,ht,by rw[ht2];exact e⟩ h2
 ·intro h i g hg
  have hx:=(hat i g.1).2 ⟨g,hg,rfl⟩;cases i with
  | zero=>
   rw[List.getElem?_cons_zero] at hx;rw[<-zzo hx];exact⟨gLe,fun ⟨j,_,hj,_⟩=>by omega⟩
  | succ i=>
   rw[List.getElem?_cons_succ] at hx;obtain⟨h1,h2,h3⟩:=h i g.1 hx;refine⟨h1,fun ⟨j,y,hj,hy,he⟩=>?_⟩;have hyx:=(hat j y.1).2 ⟨y,hy,rfl⟩;cases j with
   | zero=>
    rw[List.getElem?_cons_zero] at hyx;rw[<-zzo hyx] at he;rw[beq_iff_eq] at he;rw[he] at h2;simp at h2
   | succ j=>
    rw[List.getElem?_cons_succ] at hyx;rw[h3 j y.1 oo hyx] at he;cases he
theorem hEy:(Tryz.prog.info? 9).map (fun i=>(i.zero,i.size,i.bytes))=some (some (.string ⟨#[]⟩),1,16):=by kernel_rfl
theorem gZm {base:Nat}{W:World}{v:Value}{ns:List ByteArray}{n:Nat}(hn:ns.length=n)(h:W.ownsRow base 9 1 v n (rS ns))(x:ByteArray)(hlen:n<=1000)(hbase:base<=W.heap.size)(b:Nat)(hc:W.heap[b]? = some (.cells #[.string x] 9 (0,0))) :
  ∃g' cap' W1,(Builtin.append_ #[137,137] 137 #[v,.slice (some ⟨b,0,none⟩) 1 1]).run Tryz.prog W=.ok (.slice (some ⟨g', 0,none⟩) (n+1) cap') W1/\W1.ownsRow base 9 1 (.slice (some ⟨g', 0,none⟩) (n+1) cap') (n+1) (rS (ns++[x]))/\W.grownBy W1 v.ownBlock:=by
 obtain⟨i0,hi,hz0,hz1,hz2⟩:=info_parts hEy
 obtain⟨v', W1,hrun,r1,r2,_,_⟩:=run_append_own_at (P:=Tryz.prog) W base 137 137 9 i0 _ 1 16 Tryz.underlying137 hi hz0 hz1 hz2 rfl (by decide) v n _ h ⟨b,0,none⟩ 1 1 [.string x] rfl (fun j u hj=>by
  have hc0:=cell_of_row W b 0 _ _ _ hc
  match j,hj with
  | 0,hj=>cases hj;exact hc0
  | j+1,hj=>simp at hj) (fun u hu=>by rw[List.mem_singleton] at hu;subst hu;rfl) (by unfold maxLen;omega) oo hbase
 have e1:rS ns++[.string x]=rS (ns++[x]):=by unfold rS;rw[List.map_append];rfl
 rw[e1] at r1
 obtain⟨g,cap', rfl,_⟩:=gY r1 (Nat.succ_pos _)
 exact⟨g,cap', W1,hrun,r1,r2⟩
theorem gIk {w wr:World}{v:Value}{ns:List ByteArray}{n:Nat}(hn:ns.length=n)(h:wr.ownsRow w.heap.size 9 1 v n (rS ns))(x:ByteArray)(hlen:n<=1000)(hB:Below w.heap.size w wr) :
  ∃g' cap' W1,(Builtin.append_ #[137,137] 137 #[v,.slice (some ⟨wr.heap.size,0,none⟩) 1 1]).run Tryz.prog (wr.alloc (.cells #[.string x] 9))=.ok (.slice (some ⟨g', 0,none⟩) (n+1) cap') W1/\W1.ownsRow w.heap.size 9 1 (.slice (some ⟨g', 0,none⟩) (n+1) cap') (n+1) (rS (ns++[x]))/\Below w.heap.size w W1:=by
 have hBa:Below w.heap.size w (wr.alloc (.cells #[.string x] 9)):=hB.alloc hB.size _
 obtain⟨g', cap', W1,h1,h2,h3⟩:=gZm hn (World.ownsRow.alloc h (.cells #[.string x] 9)) x hlen hBa.size wr.heap.size (World.alloc_heap_new wr _)
 exact⟨g', cap', W1,h1,h2,hBa.grown h3 hBa.size (fun k e=>iV h e)⟩
theorem hDv {w:World}{base:Nat}{v:Value}{n:Nat}{ns:List ByteArray}(h:w.ownsRow base 9 1 v n (rS ns)){i:Nat}{x:ByteArray}(hx:ns[i]? = some x)(hi:i<n):∃g cap,v=.slice (some ⟨g,0,none⟩) n cap/\w.cell? ⟨g,i,none⟩=some (.string x):=by
 obtain⟨g,cap,e,hc⟩:=gY h oo
 exact⟨g,cap,e,hc i _ (by unfold rS;rw[List.getElem?_map,hx];rfl)⟩
theorem k105{p:Prop}(h:p:=by
  (go_wp2_with fail);refine HL1.mono ?_;rintro e W ⟨rfl,rfl⟩;clear HL1;go_wp2;go_ret;exact⟨true,rfl,iff_of_true rfl HNO.out,HE.out⟩
  ):p:=h
theorem gMr (a:Option Addr)(len cap:Nat)(l:List gV)(ga:Option Addr)(gl gc:Nat)(gs:List Grp)(w:World)(hl:rN w a len l)(hG:iS w ga gl gs)(hsz:len<=15)(hgz:gl<=16)(hls:∀x∈l,x.name.size<=9223372036854775807)(hgs:∀x∈gs,x.1.size<=9223372036854775807) :
  Calls Tryz.prog 58 #[.slice a len cap,.slice ga gl gc] w fun e w' => ∃r:Bool,e=.returned (.bool r)/\(r=true↔¬pQ (gJ l gs))/\Below w.heap.size w w' := by
 have HS:Hid (∀(X:World) (i:Nat),Below w.heap.size w X->i<len->∃b o x,a=some ⟨b,o,none⟩/\l[i]? = some x/\nH X b (o+i * 7) x):=fun X i hX hi=>by
  obtain⟨b,o,x,h1,_,h2,h3⟩:=hl.at hi;exact⟨b,o,x,h1,h2,h3 X hX⟩
 have HGG:Hid (∀(X:World) (i:Nat),Below w.heap.size w X->i<gl->∃b o x,ga=some ⟨b,o,none⟩/\gs[i]? = some x/\X.cell? ⟨b,o+i * 2,none⟩=some (.string x.1)):=fun X i hX hi=>by
  obtain⟨b,o,x,ta,tl,tc,h1,h2,h3,h4⟩:=hG.at hi;exact⟨b,o,x,h1,h2,(h4 X hX).1⟩
 have HLL:Hid (l.length=len/\gs.length=gl):=⟨hl.1,hG.1⟩
 have HNN:Hid (∀x∈gBu l gs,x.size<=9223372036854775807):=fun x hx=>by
  unfold gBu at hx;rcases List.mem_append.1 hx with hx | hx
  ·obtain⟨y,hy,rfl⟩:=List.mem_map.1 hx
   exact hls y hy
  ·obtain⟨y,hy,rfl⟩:=List.mem_map.1 hx
   exact hgs y hy
 have HFR:=Hid.mk_ (gTn l gs)
 have hsi:(len:Int)<=15:=by omega
 have hgi:(gl:Int)<=16:=by omega
 have HO0:Hid (w.ownsRow w.heap.size 9 1 (.slice none 0 0) 0 (rS [])):=World.ownsRow_nil ..
 have HLT:Hid (∀(X:World) (s:ByteArray),s.size<=9223372036854775807->Calls Tryz.prog 93 #[.string s] X fun e w' => e=.returned (.bool (jJ s))/\w' = X):=fun X s hs=>zD s X hs
 clear hl hG hls hgs
 go_enter Tryz.func58,Tryz.ntmps58
 go_wp2
 go_loopg [5,6] (len+1) (fun gk u v wr=>∃(i:Nat) (ua:Option Addr) (uc:Nat),i<=len/\len<i+gk/\u=.slice ua i uc/\v=.int .i64 (i:Int)/\wr.ownsRow w.heap.size 9 1 (.slice ua i uc) i (rS ((l.take i).map (·.name)))/\Below w.heap.size w wr)
 case atStart=>exact⟨0,none,0,zzn _,oo,rfl,rfl,HO0.out,zzd _ _⟩
 case round=>
  obtain⟨i,ua,uc,hi,hgk,rfl,rfl,hown,hB⟩:=hrel;clear HO0
  by_cases hlt:i<len
  ·obtain⟨b,o,x,rfl,hx,c0,c1,c2,c3,c4,c5,c6⟩:=HS.out wr i hB hlt
   (have hii:(i:Int)<(len:Int):=by omega);(have hi0:(0:Int)<=(i:Int):=by omega);(have hd:decide ((i:Int)<(len:Int))=true:=by simpa using hii);obtain⟨g', cap', W1,hrun,hown', hBW⟩:=gIk (by rw[List.length_map,List.length_take];have:=HLL.out.1;omega) hown x.name oo hB
   have HN:Hid (W1.ownsRow w.heap.size 9 1 (.slice (some ⟨g', 0,none⟩) (i+1) cap') (i+1) (rS ((l.take (i+1)).map (·.name)))/\Below w.heap.size w W1):=by
    refine⟨?_,hBW⟩;rw[List.take_add_one,hx,List.map_append];exact hown'
   have HRUN:=Hid.mk_ hrun;clear hown hB hBW hown' hrun HS hx
   go_wp2_with (first
    | (at_builtin;refine iW rfl (.tmp 16) (.tmp 22) 137 rfl _ _ _ _ rfl rfl HRUN.out ?_)
    | fail)
   go_roundg (len - i)
   case measure=>omega
   case rel=>exact⟨i+1,some ⟨g', 0,none⟩,cap', by omega,oo,rfl,by first | rfl | go_num,HN.out⟩
  ·obtain rfl:i=len:=by omega
   have hd:decide ((i:Int)<(i:Int))=false:=by simp
   have HI0:Hid (wr.ownsRow w.heap.size 9 1 (.slice ua (i+0) uc) (i+0) (rS (l.map (·.name)++(gs.take 0).map (·.1)))/\Below w.heap.size w wr):=by
    rw[zzm (by have:=HLL.out.1;omega)] at hown;refine⟨?_,hB⟩;rw[List.take_zero,List.map_nil,List.append_nil];exact hown
   clear hown hB HS hgk;go_wp2
   go_loopg [5,7] (gl+1) (fun gk u v wr=>∃(j:Nat) (ua:Option Addr) (uc:Nat),j<=gl/\gl<j+gk/\u=.slice ua (i+j) uc/\v=.int .i64 (j:Int)/\wr.ownsRow w.heap.size 9 1 (.slice ua (i+j) uc) (i+j) (rS (l.map (·.name)++(gs.take j).map (·.1)))/\Below w.heap.size w wr)
   case atStart=>exact⟨0,ua,uc,zzn _,oo,rfl,rfl,HI0.out⟩
   case round=>
    clear HI0;obtain⟨j,ua,uc,hj,hgk,rfl,rfl,hown,hB⟩:=hrel
    by_cases hlt2:j<gl
    ·obtain⟨b,o,x,rfl,hx,c0⟩:=HGG.out wr j hB hlt2
     (have hii:(j:Int)<(gl:Int):=by omega);(have hj0:(0:Int)<=(j:Int):=by omega);(have hd2:decide ((j:Int)<(gl:Int))=true:=by simpa using hii);obtain⟨g', cap', W1,hrun,hown', hBW⟩:=gIk (by rw[List.length_append,List.length_map,List.length_map,List.length_take];have:=HLL.out.1;have:=HLL.out.2;omega) hown x.1 oo hB
     have HN:Hid (W1.ownsRow w.heap.size 9 1 (.slice (some ⟨g', 0,none⟩) (i+(j+1)) cap') (i+(j+1)) (rS (l.map (·.name)++(gs.take (j+1)).map (·.1)))/\Below w.heap.size w W1):=by
      refine⟨?_,hBW⟩;rw[List.take_add_one,hx,List.map_append,<-List.append_assoc];exact hown'
     have HRUN:=Hid.mk_ hrun;clear hown hB hBW hown' hrun HGG hx
     go_wp2_with (first
      | (at_builtin;refine iW rfl (.tmp 30) (.tmp 36) 137 rfl _ _ _ _ rfl rfl HRUN.out ?_)
      | fail)
     go_roundg (gl - j)
     case measure=>omega
     case rel=>exact⟨j+1,some ⟨g', 0,none⟩,cap', by omega,oo,rfl,by first | rfl | go_num,HN.out⟩
    ·obtain rfl:j=gl:=by omega
     (have hd2:decide ((j:Int)<(j:Int))=false:=by simp);obtain⟨nn,hnn⟩:∃nn,i+j=nn:=⟨_,rfl⟩;(have hnb:nn<=31:=by omega);have hALL:(gBu l gs).length=nn:=by unfold gBu;rw[List.length_append,List.length_map,List.length_map];have:=HLL.out;omega
     have hown2:wr.ownsRow w.heap.size 9 1 (.slice ua nn uc) nn (rS (gBu l gs)):=by
      rw[zzm (by have:=HLL.out.2;omega),hnn] at hown;exact hown
     rw[hnn]
     have HROW:Hid (∀X,Below wr.heap.size wr X->∀k,k<nn->∃g x,ua=some ⟨g,0,none⟩/\(gBu l gs)[k]? = some x/\X.cell? ⟨g,k,none⟩=some (.string x)/\x.size<=9223372036854775807):=fun X hX k hk=>by
      obtain⟨x,hx⟩:∃x,(gBu l gs)[k]? = some x:=⟨_,zze oo⟩;obtain⟨g,cp,e,hc⟩:=hDv hown2 hx hk;(injection e with e1);refine⟨g,x,e1,hx,?_,HNN.out x (zzj hx)⟩;have hgl:=(gC hown2 (g:=g) (by rw[e1];rfl)).1;rw[zzi (hX.block g hgl)];exact hc
     have HBw:=Hid.mk_ hB;(have hni:(nn:Int)<=31:=by omega);have HAL:=Hid.mk_ hALL;obtain⟨W0,rfl⟩:∃W0,W0=wr:=⟨wr,rfl⟩;clear hown hown2 hB HGG HLL HNN hsi hgi hsz hgz hnn hgk hALL hi hj hd hd2 hlt hlt2;go_wp2
     go_loopg [8] (nn+1) (fun gk v wq=>∃j:Nat,j<=nn/\nn<j+gk/\v=.int .i64 (j:Int)/\(∀k,k<j->gVd (gBu l gs) k)/\Below W0.heap.size W0 wq)
     case atStart=>exact⟨0,zzn _,oo,rfl,fun k hk=>absurd hk (Nat.not_lt_zero _),zzd _ _⟩
     case round=>
      obtain⟨j,hj,hgk,rfl,hfine,hBq⟩:=hrel
      by_cases hlt:j<nn
      ·obtain⟨g,x,rfl,hx,c0,hxs⟩:=HROW.out wr hBq j hlt
       (have hii:(j:Int)<(nn:Int):=by omega);(have hj0:(0:Int)<=(j:Int):=by omega);(have hd:decide ((j:Int)<(nn:Int))=true:=by simpa using hii);have HL1:=HLT.out wr x hxs;have HE:Hid (Below w.heap.size w wr):=HBw.out.trans (hBq.mono HBw.out.size);have HX:=Hid.mk_ hx;have HFI:=Hid.mk_ hfine;have HBQ:=Hid.mk_ hBq;cases hle:jJ x with
       | false=>
        rw[hle] at HL1
        have HNO:Hid (¬pQ (gJ l gs)):=fun hr=>by
         have:=((HFR.out.1 hr) j x HX.out).1
         rw[hle] at this;cases this
        clear HLT HFI HBQ HX hBq hfine hx;exact k105
       | true=>
        rw[hle] at HL1;(have htx:lR.toList=[116,101,120,116]:=by kernel_rfl);cases hte:(x.toList==[116,101,120,116]) with
        | true=>
         have HNO:Hid (¬pQ (gJ l gs)):=fun hr=>by
          have:=((HFR.out.1 hr) j x HX.out).2.1
          rw[htx,hte] at this;cases this
         clear HLT HFI HBQ HX hBq hfine hx htx;exact k105
        | false=>
         (have HTX:Hid ((x.toList==lR.toList)=false):=by rw[htx];exact hte);have HLE:=Hid.mk_ hle;clear HLT hBq hfine hx htx hle;(go_wp2_with fail);refine HL1.mono ?_;rintro e W ⟨rfl,rfl⟩;clear HL1;obtain⟨W1,rfl⟩:∃W1,W1=W:=⟨W,rfl⟩;go_wp2
         go_loopg [9] (j+1) (fun gk v wq=>∃k:Nat,k<=j/\j<k+gk/\v=.int .i64 (k:Int)/\(∀q y,q<k->(gBu l gs)[q]? = some y->(y.toList==x.toList)=false)/\Below W0.heap.size W0 wq)
         case atStart=>exact⟨0,zzn _,oo,rfl,fun q y hq=>absurd hq (Nat.not_lt_zero _),HBQ.out⟩
         case round=>
          clear c0 HBQ HE hte;obtain⟨k,hk,hgk2,rfl,hno,hBr⟩:=hrel
          by_cases hlt2:k<j
          ·obtain⟨g1,x1,e1,hx1,c0,_⟩:=HROW.out wr hBr j hlt
           obtain⟨g2,y,e2,hy,c1,_⟩:=HROW.out wr hBr k oo;cases e1;cases e2;obtain rfl:x=x1:=zzo (HX.out.symm.trans hx1);(have hkk:(k:Int)<(j:Int):=by omega);(have hk0:(0:Int)<=(k:Int):=by omega);(have hkn:(k:Int)<(nn:Int):=by omega);(have hd3:decide ((k:Int)<(j:Int))=true:=by simpa using hkk);cases heq:(y.toList==x.toList) with
           | true=>
            have HNO:Hid (¬pQ (gJ l gs)):=fun hr=>by
             have:=((HFR.out.1 hr) j x HX.out).2.2 k y hlt2 hy
             rw[heq] at this;cases this
            have HE:Hid (Below w.heap.size w wr):=HBw.out.trans (hBr.mono HBw.out.size);clear hno hBr HFI HX hx1 hy HROW;go_wp2_with fail
            go_quiet (fail)
            go_wp2;go_ret;exact⟨true,rfl,iff_of_true rfl HNO.out,HE.out.os,HE.out.tape,HE.out.output,HE.out.size,HE.out.block⟩
           | false=>
            have HNX:Hid (∀q y,q<k+1->(gBu l gs)[q]? = some y->(y.toList==x.toList)=false):=fun q z hq hz=>by
             by_cases e:q=k
             ·subst e
              rw[hy] at hz;cases hz;exact heq
             ·exact hno q z oo hz
            have HBR:=Hid.mk_ hBr;clear hno hBr HFI HX hx1 hy HROW;go_wp2_with fail
            go_quiet (fail)
            go_wp2
            go_roundg (j - k)
            case measure=>omega
            case rel=>exact⟨k+1,oo,oo,by first | rfl | go_num,HNX.out,HBR.out.os,HBR.out.tape,HBR.out.output,HBR.out.size,HBR.out.block⟩
          ·obtain rfl:k=j:=by omega
           have hd3:decide ((k:Int)<(k:Int))=false:=by simp
           have HNX:Hid (∀q,q<k+1->gVd (gBu l gs) q):=fun q hq=>by
            by_cases e:q=k
            ·subst e
             intro z hz;obtain rfl:=zzo (HX.out.symm.trans hz);exact⟨HLE.out,HTX.out,fun p y hp hy=>hno p y hp hy⟩
            ·exact HFI.out q oo
           have HBR:=Hid.mk_ hBr;clear hno hBr HFI HX HROW;go_wp2
           go_roundg (nn - k)
           case measure=>omega
           case rel=>exact⟨k+1,oo,oo,by first | rfl | go_num,HNX.out,HBR.out⟩
      ·obtain rfl:j=nn:=by omega
       (have hd:decide ((j:Int)<(j:Int))=false:=by simp);have HE:Hid (pQ (gJ l gs)/\Below w.heap.size w wr):=⟨HFR.out.2 fun k x hx=>hfine k (by have:=(zzc.1 hx).1;have:=HAL.out;omega) x hx,HBw.out.trans (hBq.mono HBw.out.size)⟩;clear hfine hBq HROW HLT;go_wp2;go_ret;exact⟨false,rfl,iff_of_false (by simp) (fun h=>h HE.out.1),HE.out.2⟩
end Go.Proofs.YtjkebndkeamijaaGreatDoor
