/-
  PROVED HERE: the walk through the net: what is reached, one type, a word.
-/
import Derived.Test.YtjkebndkeamijaaGreatDoorCADANetsC
set_option maxRecDepth 100000
set_option maxHeartbeats 4000000
namespace Go.Proofs.YtjkebndkeamijaaGreatDoor
open Go.RowKit
theorem gGx:(Tryz.prog.info? 4).map (fun i=>(i.zero,i.size,i.bytes))=some (some (.bool false),1,1):=by kernel_rfl
theorem gCf (w:World)(base:Nat)(v:Value)(hown:w.ownsRow base 4 1 v 0 [])(ad:Addr)(zl zc:Nat)(zs:List Bool)(hZ:mQ w (some ad) zl zs)(h0:0<zl)(h63:zl<=1000000)(hbase:base<=w.heap.size) :
  ∃v' w', (Builtin.append_ #[116,116] 116 #[v,.slice (some ad) zl zc]).run Tryz.prog w=.ok v' w' /\ w'.ownsRow base 4 1 v' zl (lV zs)/\w.grownBy w' v.ownBlock:=by
 obtain⟨i0,hi,hz0,hz1,hz2⟩:=info_parts gGx
 obtain⟨hl,_,hz⟩:=hZ
 obtain⟨b,o,e,_,hcc⟩:=hz.resolve_left oo
 cases e
 obtain⟨v', w', hr,q1,q2,_,_⟩:=run_append_own_at (P:=Tryz.prog) w base 116 116 4 i0 _ 1 1 Tryz.underlying116 hi hz0 hz1 hz2 rfl (by decide) v 0 _ hown ⟨b,o,none⟩ zl zc (lV zs) (by unfold lV;rw[List.length_map];omega) (fun j u hj=>by
  unfold lV at hj;rw[List.getElem?_map] at hj;cases hq:zs[j]? with
  | none=>rw[hq] at hj;cases hj
  | some y=>
   rw[hq] at hj;cases hj;rw[gQi];exact hcc j y hq) (fun u hu=>by
  unfold lV at hu;obtain⟨y,_,rfl⟩:=List.mem_map.1 hu
  rfl) (by unfold maxLen;omega) oo hbase
 rw[Nat.zero_add,List.nil_append] at q1
 exact⟨v', w', hr,q1,q2⟩
def rY (bs:List Bool):Nat:=bs.count false
theorem hAv:∀{bs:List Bool} {q:Nat},bs[q]? = some false->rY (bs.set q true)+1=rY bs:=by
 intro bs
 induction bs with
 | nil=>intro q h;simp at h
 | cons x r ih=>
  intro q h;cases q with
  | zero=>
   simp at h;subst h;simp[rY]
  | succ q=>
   have:=ih (q:=q) (by simpa using h)
   unfold rY at this ⊢;rw[List.set_cons_succ,List.count_cons,List.count_cons];omega
def ClB (F:List gL)(bs:List Bool)(i:Nat):Prop:=bs[i]? = some true->∀x,F[i]? = some x->∀q∈x.1,bs[q]? = some true
structure Spr (F:List gL) (bs0:List Bool) (W wr:World) (g c:Nat) (bs:List Bool):Prop where
 len:bs.length=F.length
 row:wr.ownsRow W.heap.size 4 1 (.slice (some ⟨g,0,none⟩) F.length c) F.length (lV bs)
 bel:Below W.heap.size W wr
 sub:∀q:Nat,bs0[q]? = some true->bs[q]? = some true
 sound:∀q:Nat,bs[q]? = some true->qH F (fun p=>bs0[p]? = some true) q
theorem Spr.cell {F:List gL}{bs0:List Bool}{W wr:World}{g c:Nat}{bs:List Bool}(h:Spr F bs0 W wr g c bs){i:Nat}(hi:i<F.length):∃x,bs[i]? = some x/\wr.cell? ⟨g,i,none⟩=some (.bool x)/\wr.frozen? ⟨g,i,none⟩=false:=by
 obtain⟨x,hx⟩:∃x,bs[i]? = some x:=⟨_,zze (by rw[h.len];exact hi)⟩
 obtain⟨g', c', e,hc⟩:=gY h.row oo
 injection e with e1
 injection e1 with e2
 injection e2 with e3
 subst e3
 obtain⟨_,cur,hcur⟩:=gC h.row (g:=g) rfl
 exact⟨x,hx,hc i _ (by unfold lV;rw[List.getElem?_map,hx];rfl),by simp[World.frozen?,hcur]⟩
theorem k133{p:Prop}(h:p:=by
  have e:lV (bs.set q true)=(lV bs).set q (.bool true):=by unfold lV;rw[List.map_set]
  rwa [e]
  ):p:=h
theorem Spr.put {F:List gL}{bs0:List Bool}{W wr:World}{g c:Nat}{bs:List Bool}(h:Spr F bs0 W wr g c bs){i q:Nat}{x:gL}(hi:bs[i]? = some true)(hx:F[i]? = some x)(hq:q∈x.1):Spr F bs0 W (wr.setCell ⟨g,q,none⟩ (.bool true)) g c (bs.set q true):=by
 refine⟨by rw[List.length_set];exact h.len,?_,h.bel.setCell (iV h.row (g:=g) rfl) _,fun p hp=>?_,fun p hp=>?_⟩
 ·have:=sH h.row q (.bool true)
  exact k133
 ·rw[List.getElem?_set]
  split
  ·rename_i e
   subst e
   have:=h.sub q hp
   rw[if_pos (zzc.1 this).1]
  ·exact h.sub p hp
 ·rcases wF hp with ⟨rfl,_,_⟩ | ⟨_,hp⟩
  ·exact nM F _ i x (h.sound i hi) hx p hq
  ·exact h.sound p hp
theorem gNc {F:List gL}{bs0 bs:List Bool}(hs:∀q:Nat,bs0[q]? = some true->bs[q]? = some true)(hv:∀q:Nat,bs[q]? = some true->qH F (fun p=>bs0[p]? = some true) q)(hc:∀i,i<F.length->ClB F bs i):∀q:Nat,bs[q]? = some true↔qH F (fun p=>bs0[p]? = some true) q:=by
 intro q
 refine⟨hv q,?_⟩
 rintro⟨p,k,hp,hvia⟩
 have hshut:gHk F (fun p=>bs[p]? = some true):=fun i x hi hx r hr=>hc i (zzc.1 hx).1 hi x hx r hr
 exact hshut.via (hs p hp) hvia
theorem gAm (w0 W:World)(Bn:Nat)(F:List gL)(hN:gW w0 W Bn F)(hF:gHl F)(h0:0<F.length)(hlen:F.length<=50000)(hfew:lW 50000 F)(ad:Addr)(ic:Nat)(bs0:List Bool)(hI:mQ W (some ad) F.length bs0) :
  Calls Tryz.prog 141 #[.pointer (some ⟨Bn,0,none⟩),.slice (some ad) F.length ic] W fun e w' => ∃(a:Addr) (c:Nat) (bs:List Bool),e=.returned (.slice (some a) F.length c)/\mQ w' (some a) F.length bs/\(∀q:Nat,bs[q]? = some true↔qH F (fun p=>bs0[p]? = some true) q)/\Below W.heap.size W w' := by
 obtain⟨gt,ct,gb,cb,gn,cn,hread⟩:=hN.read h0
 have hA:Below W.heap.size W (W.alloc (.cells #[] 4)):=(zzd _ W).alloc (zzb _) _
 have hnil:(W.alloc (.cells #[] 4)).ownsRow W.heap.size 4 1 (.slice (some ⟨W.heap.size,0,none⟩) 0 0) 0 []:=⟨rfl,.inr ⟨W.heap.size,0,_,rfl,zzb _,World.alloc_heap_new W _,zzb _,by unfold maxLen;omega,rfl,rfl⟩⟩
 obtain⟨v', W1,hr,hrow,hg⟩:=gCf (W.alloc (.cells #[] 4)) W.heap.size (.slice (some ⟨W.heap.size,0,none⟩) 0 0) hnil ad F.length ic bs0 (hI.below hA) h0 oo hA.size
 have hB1:Below W.heap.size W W1:=hA.grown hg hA.size (fun k e=>iV hnil e)
 obtain⟨g,c,rfl,_⟩:=gY hrow h0
 have HI0:Hid (Spr F bs0 W W1 g c bs0):=⟨hI.1,hrow,hB1,fun _ h=>h,fun q hq=>⟨q,0,hq,rfl⟩⟩
 have HRD:Hid (∀X,Below W.heap.size W X->X.cell? ⟨Bn,0,none⟩=some (.slice (some ⟨gt,0,none⟩) F.length ct)/\∀(i:Nat) (x:gL),F[i]? = some x->∃ta tc,X.cell? ⟨gt,i,none⟩=some (.slice ta x.1.length tc)/\∀(k q:Nat),x.1[k]? = some q->∃g,ta=some ⟨g,0,none⟩/\X.cell? ⟨g,k,none⟩=some (.int .i64 (q:Int))):=fun X hX=>⟨(hread X hX).1,fun i x hx=>((hread X hX).2.2.2 i x hx).2.1⟩
 have HFIT:Hid (gHl F/\lW 50000 F):=⟨hF,hfew⟩
 have HR:Hid _:=hr
 have hli:(F.length:Int)<=50000:=by omega
 have hl0:(0:Int)<(F.length:Int):=by omega
 clear hread hA hnil hg hrow hB1 hI hN hF hfew hr
 go_enter Tryz.func141,Tryz.ntmps141
 go_wp2_with (first
  | (at_builtin;refine iW rfl (.tmp 9) (.tmp 10) 116 rfl _ _ _ W1 rfl rfl HR.out ?_)
  | fail)
 clear HR
 go_loopg [6] (rY bs0+1) (fun gk u wr=>∃(more:Bool) (bs:List Bool),u=.bool more/\Spr F bs0 W wr g c bs/\((more=true/\rY bs<gk)\/(more=false/\∀i,i<F.length->ClB F bs i)))
 case atStart=>exact⟨true,bs0,rfl,HI0.out,.inl ⟨rfl,Nat.lt_succ_self _⟩⟩
 case round=>
  obtain⟨more,bs,rfl,hS,hmore⟩:=hrel;clear HI0;rcases hmore with ⟨rfl,hgk⟩ | ⟨rfl,hcl⟩
  ·have HGK:Hid (rY bs<gk):=hgk
   have HS:Hid (Spr F bs0 W wr g c bs):=hS;clear hgk hS;go_wp2_with fail
   go_loopg [6,7] (F.length+1) (fun gk2 u v wr2=>∃(i:Nat) (m:Bool) (bs2:List Bool),i<=F.length/\F.length<i+gk2/\u=.bool m/\v=.int .i64 (i:Int)/\Spr F bs0 W wr2 g c bs2/\((m=true/\rY bs2<rY bs)\/(m=false/\bs2=bs/\∀j,j<i->ClB F bs j)))
   case atStart=>exact⟨0,false,bs,zzn _,oo,rfl,rfl,HS.out,.inr ⟨rfl,rfl,fun j hj=>absurd hj (Nat.not_lt_zero j)⟩⟩
   case round=>
    obtain⟨i,m,bs2,hi,hgk2,rfl,rfl,hS2,hm⟩:=hrel
    by_cases hlt:i<F.length
    ·obtain⟨x,hx⟩:∃x,F[i]? = some x:=⟨_,zze hlt⟩
     obtain⟨rd0,rd1⟩:=HRD.out wr hS2.bel;(have hii:(i:Int)<(F.length:Int):=by omega);(have hi0:(0:Int)<=(i:Int):=by omega);have HS2:Hid (Spr F bs0 W wr g c bs2):=hS2;have HM:Hid ((m=true/\rY bs2<rY bs)\/(m=false/\bs2=bs/\∀j,j<i->ClB F bs j)):=hm;have HG2:Hid (F.length<i+gk):=hgk2;have HXF:Hid (F[i]? = some x):=hx;have hxl:x.1.length<=50000:=HFIT.out.2 i x hx;(have HXQ:Hid (∀k q,x.1[k]? = some q->q<F.length):=fun k q hq=>(HFIT.out.1 i x hx).1 q (zzj hq));clear hS2 hm hgk2 hx rd1;go_wp2_with fail
     go_loopg [6,8] (x.1.length+1) (fun gk3 u v wr3=>∃(k:Nat) (m3:Bool) (bs3:List Bool),k<=x.1.length/\x.1.length<k+gk3/\u=.bool m3/\v=.int .i64 (k:Int)/\Spr F bs0 W wr3 g c bs3/\(bs2[i]? = some true->bs3[i]? = some true)/\((m3=true/\rY bs3<rY bs)\/(m3=false/\bs3=bs/\(∀j,j<i->ClB F bs j)/\∀k' q,k' < k->x.1[k']? = some q->bs[q]? = some true)))
     case atStart=>
      refine⟨0,m,bs2,zzn _,oo,rfl,rfl,HS2.out,fun h=>h,?_⟩;rcases HM.out with h | ⟨h1,h2,h3⟩
      ·exact .inl h
      ·exact .inr ⟨h1,h2,h3,fun k' q hk=>absurd hk (Nat.not_lt_zero k')⟩
     case round=>
      obtain⟨k,m3,bs3,hk,hgk3,rfl,rfl,hS3,hkeep,hm3⟩:=hrel;obtain⟨rd0,rd1⟩:=HRD.out wr hS3.bel;obtain⟨ta,tc,r1,r2⟩:=rd1 i x HXF.out;obtain⟨y,hy,cy,_⟩:=hS3.cell hlt;cases y with
      | false=>
       have HE:Hid (∃(i' : Nat) (m' : Bool) (bs' : List Bool),i+1<=F.length/\Spr F bs0 W wr g c bs3/\((m3=true/\rY bs3<rY bs)\/(m3=false/\bs3=bs/\∀j,j<i+1->ClB F bs j))):=by
        refine⟨0,true,[],oo,hS3,?_⟩;rcases hm3 with h | ⟨h1,h2,h3,h4⟩
        ·exact .inl h
        ·refine .inr ⟨h1,h2,fun j hj=>?_⟩
         rcases Nat.lt_or_ge j i with hlt' | hge
         ·exact h3 j hlt'
         ·obtain rfl:j=i:=by omega
          intro ht;rw[<-h2,hy] at ht;cases ht
       clear hS3 hm3 hkeep rd1 r2 hgk3;go_wp2_with fail
       go_roundg (F.length - i)
       case measure=>have:=HG2.out;omega
       case rel=>
        obtain⟨_,_,_,e1,e2,e3⟩:=HE.out;exact⟨i+1,m3,bs3,e1,oo,rfl,by first | rfl | go_num,e2,e3⟩
      | true=>
       by_cases hkl:k<x.1.length
       ·obtain⟨q,hq⟩:∃q,x.1[k]? = some q:=⟨_,zze hkl⟩
        obtain⟨sg,rfl,cq⟩:=r2 k q hq;have hqF:=HXQ.out k q hq;obtain⟨z,hz,cz,fz⟩:=hS3.cell hqF;(have hki:(k:Int)<(x.1.length:Int):=by omega);(have hk0:(0:Int)<=(k:Int):=by omega);(have hqi:(q:Int)<(F.length:Int):=by omega);(have hq0:(0:Int)<=(q:Int):=by omega);(have hxi:(x.1.length:Int)<=50000:=by omega);have HG3:Hid (x.1.length<k+gk):=hgk3;cases z with
        | true=>
         have HE:Hid (Spr F bs0 W wr g c bs3/\(bs2[i]? = some true->bs3[i]? = some true)/\((m3=true/\rY bs3<rY bs)\/(m3=false/\bs3=bs/\(∀j,j<i->ClB F bs j)/\∀k' q,k' < k+1->x.1[k']? = some q->bs[q]? = some true))):=by
          refine⟨hS3,hkeep,?_⟩;rcases hm3 with h | ⟨h1,h2,h3,h4⟩
          ·exact .inl h
          ·refine .inr ⟨h1,h2,h3,fun k' q' hk' hq' => ?_⟩
           rcases Nat.lt_or_ge k' k with hlt' | hge
           ·exact h4 k' q' hlt' hq'
           ·obtain rfl:k' = k:=by omega
            rw[hq] at hq';cases hq';rw[<-h2];exact hz
         clear hS3 hm3 hkeep rd1 r2 hgk3 hq hy hz;go_wp2_with fail
         go_roundg (x.1.length - k)
         case measure=>have:=HG3.out;omega
         case rel=>exact⟨k+1,m3,bs3,oo,oo,rfl,by first | rfl | go_num,HE.out⟩
        | false=>
         have HE:Hid (Spr F bs0 W (wr.setCell ⟨g,q,none⟩ (.bool true)) g c (bs3.set q true)/\(bs2[i]? = some true->(bs3.set q true)[i]? = some true)/\rY (bs3.set q true)<rY bs):=by
          refine⟨hS3.put hy HXF.out (zzj hq),fun h=>?_,?_⟩
          ·rw[List.getElem?_set]
           split
           ·rename_i e
            rw[if_pos (by rw[hS3.len];exact hqF)]
           ·exact hkeep h
          ·have:=hAv hz
           rcases hm3 with h | ⟨h1,h2,_⟩
           ·omega
           ·rw[h2] at this ⊢
            omega
         clear hS3 hm3 hkeep rd1 r2 hgk3 hq hy hz;go_wp2_with fail
         go_roundg (x.1.length - k)
         case measure=>have:=HG3.out;omega
         case rel=>exact⟨k+1,true,bs3.set q true,oo,oo,rfl,by first | rfl | go_num,HE.out.1,HE.out.2.1,.inl ⟨rfl,HE.out.2.2⟩⟩
       ·obtain rfl:k=x.1.length:=by omega
        have HE:Hid (i+1<=F.length/\Spr F bs0 W wr g c bs3/\((m3=true/\rY bs3<rY bs)\/(m3=false/\bs3=bs/\∀j,j<i+1->ClB F bs j))):=by
         refine⟨oo,hS3,?_⟩;rcases hm3 with h | ⟨h1,h2,h3,h4⟩
         ·exact .inl h
         ·refine .inr ⟨h1,h2,fun j hj=>?_⟩
          rcases Nat.lt_or_ge j i with hlt' | hge
          ·exact h3 j hlt'
          ·obtain rfl:j=i:=by omega
           intro ht y hy' q hq;have hxy:=HXF.out;rw[hy'] at hxy;cases hxy;obtain⟨k', hk'⟩:=List.getElem?_of_mem hq;exact h4 k' q (zzc.1 hk').1 hk'
        (have hxi:(x.1.length:Int)<=50000:=by omega);clear hS3 hm3 hkeep rd1 r2 hgk3 hy;go_wp2_with fail
        go_roundg (F.length - i)
        case measure=>have:=HG2.out;omega
        case rel=>exact⟨i+1,m3,bs3,HE.out.1,oo,rfl,by first | rfl | go_num,HE.out.2⟩
    ·obtain rfl:i=F.length:=by omega
     have HE:Hid (Spr F bs0 W wr g c bs2/\((m=true/\rY bs2<rY bs)\/(m=false/\∀j,j<F.length->ClB F bs2 j))):=by
      refine⟨hS2,?_⟩;rcases hm with h | ⟨h1,h2,h3⟩
      ·exact .inl h
      ·exact .inr ⟨h1,by rw[h2];exact h3⟩
     clear hS2 hm hgk2;go_wp2_with fail
     go_roundg (rY bs)
     case measure=>exact HGK.out
     case rel=>exact⟨m,bs2,rfl,HE.out⟩
  ·have HE:Hid (∃c' bs', mQ wr (some ⟨g,0,none⟩) F.length bs' /\ (∀q:Nat,bs'[q]? = some true↔qH F (fun p=>bs0[p]? = some true) q)/\Below W.heap.size W wr/\c' = c):=by
    obtain⟨a,c', e,hb⟩:=wN hS.row oo;(injection e with e1);subst e1;exact⟨c,bs,hb,gNc hS.sub hS.sound hcl,hS.bel,rfl⟩
   clear hS hcl;(go_wp2_with fail);go_ret;obtain⟨c', bs', e1,e2,e3,_⟩:=HE.out
   first | exact⟨⟨g,0,none⟩,⟨c,rfl⟩,bs', e1,e2,e3⟩ | exact⟨⟨g,0,none⟩,c,bs', rfl,e1,e2,e3⟩
end Go.Proofs.YtjkebndkeamijaaGreatDoor
/- NetStep: the document's first and step at every net: where one is at the beginning, and behind a type; nothing that lay before is turned. -/
namespace Go.Proofs.YtjkebndkeamijaaGreatDoor
open Go.RowKit
theorem gGn (n:Nat):(madeCells (Value.bool false).cells (n * 1)).toList=lV (List.replicate n false):=by
 show (madeCells #[Value.bool false] (n * 1)).toList=_
 rw[Nat.mul_one,toList_madeCells_one]
 unfold lV
 rw[List.map_replicate]
structure zO (w0 W:World) (Bn:Nat) (F:List gL):Prop where
 net:gW w0 W Bn F
 fit:gHl F
 two:2<=F.length
 len:F.length<=50000
 few:lW 50000 F
theorem zO.keep {w0 W W' : World}{Bn:Nat}{F:List gL}(h:zO w0 W Bn F)(hB:Below W.heap.size W W'):zO w0 W' Bn F:=⟨h.net.keep hB,h.fit,h.two,h.len,h.few⟩
theorem gYj {n:Nat}(h:0<n)(p:Nat):((List.replicate n false).set 0 true)[p]? = some true↔p=0:=by
 constructor
 ·intro e
  rcases wF e with ⟨h,_⟩ | ⟨_,e⟩
  ·exact h
  ·rw[List.getElem?_replicate] at e
   split at e<;>simp at e
 ·rintro rfl
  rw[List.getElem?_set_self (by simpa using h)]
theorem uG {F:List gL}{S S' : Nat->Prop}(h:∀q,S q↔S' q)(q:Nat):qH F S q↔qH F S' q:=by
 constructor
 ·rintro⟨p,k,hp,hv⟩;exact⟨p,k,(h p).1 hp,hv⟩
 ·rintro⟨p,k,hp,hv⟩;exact⟨p,k,(h p).2 hp,hv⟩
theorem gPo (w0 W:World)(Bn:Nat)(F:List gL)(h:zO w0 W Bn F) :
  Calls Tryz.prog 113 #[.pointer (some ⟨Bn,0,none⟩)] W fun e w' => ∃(a:Addr) (c:Nat) (bs:List Bool),e=.returned (.slice (some a) F.length c)/\mQ w' (some a) F.length bs/\(∀q:Nat,bs[q]? = some true↔wX F q)/\Below W.heap.size W w' := by
 have h2:=h.two
 have hl:=h.len
 obtain⟨gt,ct,gb,cb,gn,cn,hread⟩:=h.net.read oo
 obtain⟨_,_,r2,_⟩:=hread W (zzd _ _)
 obtain⟨i0,hi,hz0,hz1,hz2⟩:=info_parts gGx
 have HSP:Hid (∀(X:World),Below W.heap.size W X->X.ownsRow W.heap.size 4 1 (.slice (some ⟨W.heap.size,0,none⟩) F.length F.length) F.length (lV (List.replicate F.length false))->Calls Tryz.prog 141 #[.pointer (some ⟨Bn,0,none⟩),.slice (some ⟨W.heap.size,0,none⟩) F.length F.length] (X.setCell ⟨W.heap.size,0,none⟩ (.bool true)) fun e w' => ∃(a:Addr) (c:Nat) (bs:List Bool),e=.returned (.slice (some a) F.length c)/\mQ w' (some a) F.length bs/\(∀q:Nat,bs[q]? = some true↔wX F q)/\Below W.heap.size W w'):=fun X hX hrow=>by
  have hB:Below W.heap.size W (X.setCell ⟨W.heap.size,0,none⟩ (.bool true)):=hX.setCell (zzb _) _;have hr:=sH hrow 0 (.bool true);(have e:(lV (List.replicate F.length false)).set 0 (.bool true)=lV ((List.replicate F.length false).set 0 true):=by unfold lV;rw[List.map_set]);rw[e] at hr;obtain⟨a,c,e,hb⟩:=wN hr oo;(injection e with e1);subst e1;have hk:=h.keep hB;refine(gAm w0 _ Bn F hk.net hk.fit oo hk.len hk.few _ _ _ hb).mono ?_;rintro e w' ⟨a,c,bs,h1,h2,h3,h4⟩;refine⟨a,c,bs,h1,h2,fun q=>?_,hB.trans (h4.mono hB.size)⟩;rw[h3];exact uG (gYj oo) q
 have hli:(F.length:Int)<=50000:=by omega
 have hl0:(0:Int)<(F.length:Int):=by omega
 clear hread h
 go_enter Tryz.func113,Tryz.ntmps113
 go_wp2_with (first
  | (at_make;refine wpList_make_full _ rfl (.tmp 8) (.tmp 8) 116 rfl W.heap.size 4 i0 _ 1 Tryz.underlying116 hi hz0 hz1 .i64 .i64 _ _ F.length rfl rfl rfl rfl (by rw[hz2];omega) (by unfold maxLen;omega) (zzb _) ?_;intro X hrow hgr;rw[gGn] at hrow;have hBX:Below W.heap.size W X:=(zzd _ W).grown hgr (zzb _) (fun k e=>by cases e);have HS:=HSP.out X hBX hrow;obtain⟨g', c', eg,hcc⟩:=gY hrow oo;(have hc0:X.cell? ⟨W.heap.size,0,none⟩=some (.bool false):=by injection eg with e1;injection e1 with e2;injection e2 with e3;rw[e3];exact hcc 0 _ (by unfold lV;rw[List.getElem?_map,List.getElem?_replicate,if_pos oo];rfl));(have hf0:X.frozen? ⟨W.heap.size,0,none⟩=false:=by obtain⟨_,cur,hcur⟩:=gC hrow (g:=W.heap.size) rfl;simp[World.frozen?,hcur]);clear hrow hgr hBX hcc eg HSP)
  | fail)
 refine HS.mono ?_
 rintro e X2 ⟨a,c,bs,rfl,e1,e2,e3⟩
 have HE:Hid (mQ X2 (some a) F.length bs/\(∀q:Nat,bs[q]? = some true↔wX F q)/\Below W.heap.size W X2):=⟨e1,e2,e3⟩
 clear e1 e2 e3 HS
 go_wp2
 go_ret
 first | exact⟨a,⟨c,rfl⟩,bs,HE.out⟩ | exact⟨a,c,bs,rfl,HE.out⟩
def qT (F:List gL)(S:Nat->Prop)(t:Int)(i k:Nat)(q:Nat):Prop:=(∃a x,a<i/\S a/\F[a]? = some x/\t∈x.2.1/\x.2.2=(q:Int))\/(S i/\∃x,F[i]? = some x/\t∈x.2.1.take k/\x.2.2=(q:Int))
structure Stp (F:List gL) (W wr:World) (g c:Nat) (bs:List Bool) (P:Nat->Prop) (sm:Bool):Prop where
 len:bs.length=F.length
 row:wr.ownsRow W.heap.size 4 1 (.slice (some ⟨g,0,none⟩) F.length c) F.length (lV bs)
 bel:Below W.heap.size W wr
 iff:∀q:Nat,bs[q]? = some true↔P q
 some:sm=true↔∃q,P q
theorem Stp.cell {F:List gL}{W wr:World}{g c:Nat}{bs:List Bool}{P:Nat->Prop}{sm:Bool}(h:Stp F W wr g c bs P sm){i:Nat}(hi:i<F.length):∃x,wr.cell? ⟨g,i,none⟩=Option.some (.bool x)/\wr.frozen? ⟨g,i,none⟩=false:=by
 obtain⟨x,hx⟩:∃x,bs[i]? = Option.some x:=⟨_,zze (by rw[h.len];exact hi)⟩
 obtain⟨g', c', e,hc⟩:=gY h.row oo
 injection e with e1
 injection e1 with e2
 injection e2 with e3
 subst e3
 obtain⟨_,cur,hcur⟩:=gC h.row (g:=g) rfl
 exact⟨x,hc i _ (by unfold lV;rw[List.getElem?_map,hx];rfl),by simp[World.frozen?,hcur]⟩
theorem Stp.same {F:List gL}{W wr:World}{g c:Nat}{bs:List Bool}{P P' : Nat->Prop}{sm:Bool}(h:Stp F W wr g c bs P sm)(hP:∀q,P q↔P' q):Stp F W wr g c bs P' sm :=
 ⟨h.len,h.row,h.bel,fun q=>(h.iff q).trans (hP q),h.some.trans ⟨fun ⟨q,hq⟩=>⟨q,(hP q).1 hq⟩,fun ⟨q,hq⟩=>⟨q,(hP q).2 hq⟩⟩⟩
theorem Stp.put {F:List gL}{W wr:World}{g c:Nat}{bs:List Bool}{P P' : Nat->Prop}{sm:Bool}(h:Stp F W wr g c bs P sm){q:Nat}(hq:q<F.length)(hP:∀r,P' r↔(P r\/r=q)):Stp F W (wr.setCell ⟨g,q,none⟩ (.bool true)) g c (bs.set q true) P' true:=by
 refine⟨by rw[List.length_set];exact h.len,?_,h.bel.setCell (iV h.row (g:=g) rfl) _,fun r=>?_,⟨fun _=>⟨q,(hP q).2 (.inr rfl)⟩,fun _=>rfl⟩⟩
 ·have:=sH h.row q (.bool true)
  exact k133
 ·rw[hP,<-h.iff,List.getElem?_set]
  constructor
  ·intro e
   split at e
   ·rename_i hqr;exact .inr hqr.symm
   ·exact .inl e
  ·rintro (e | rfl)
   ·split
    ·rename_i hqr;rw[if_pos (by rw[h.len];exact hq)]
    ·exact e
   ·rw[if_pos rfl,if_pos (by rw[h.len];exact hq)]
theorem gPf {F:List gL}{S:Nat->Prop}{t:Int}(q:Nat):qT F S t 0 0 q↔False:=by
 constructor
 ·rintro (⟨a,x,h,_⟩ | ⟨_,x,_,h,_⟩)
  ·omega
  ·simp at h
 ·intro h;cases h
theorem hCr {F:List gL}{S:Nat->Prop}{t:Int}{i:Nat}{x:gL}(hx:F[i]? = some x)(q:Nat):qT F S t i x.2.1.length q↔qT F S t (i+1) 0 q:=by
 constructor
 ·rintro (⟨a,y,h1,h2⟩ | ⟨h1,y,hy,h2,h3⟩)
  ·exact .inl ⟨a,y,oo,h2⟩
  ·rw[hx] at hy
   cases hy;rw[zzm (zzb _)] at h2;exact .inl ⟨i,x,oo,h1,hx,h2,h3⟩
 ·rintro (⟨a,y,h1,h2,h3,h4,h5⟩ | ⟨_,y,_,h2,_⟩)
  ·rcases Nat.lt_or_ge a i with hlt | hge
   ·exact .inl ⟨a,y,hlt,h2,h3,h4,h5⟩
   ·obtain rfl:a=i:=by omega
    rw[hx] at h3;cases h3;exact .inr ⟨h2,x,hx,by rw[zzm (zzb _)];exact h4,h5⟩
  ·simp at h2
theorem hCq {F:List gL}{S:Nat->Prop}{t:Int}{i k:Nat}(hS:¬S i)(q:Nat):qT F S t i k q↔qT F S t (i+1) 0 q:=by
 constructor
 ·rintro (⟨a,y,h1,h2⟩ | ⟨h1,_⟩)
  ·exact .inl ⟨a,y,oo,h2⟩
  ·exact absurd h1 hS
 ·rintro (⟨a,y,h1,h2,h3⟩ | ⟨_,y,_,h2,_⟩)
  ·rcases Nat.lt_or_ge a i with hlt | hge
   ·exact .inl ⟨a,y,hlt,h2,h3⟩
   ·obtain rfl:a=i:=by omega
    exact absurd h2 hS
  ·simp at h2
theorem hCo {F:List gL}{S:Nat->Prop}{t:Int}{i k:Nat}{x:gL}(hx:F[i]? = some x)(hS:S i){z:Int}(hz:x.2.1[k]? = some z)(q:Nat):qT F S t i (k+1) q↔(qT F S t i k q\/(z=t/\x.2.2=(q:Int))):=by
 have htk:x.2.1.take (k+1)=x.2.1.take k++[z]:=by rw[List.take_add_one,hz];rfl
 constructor
 ·rintro (h | ⟨h1,y,hy,h2,h3⟩)
  ·exact .inl (.inl h)
  ·rw[hx] at hy
   cases hy;rw[htk] at h2;rcases List.mem_append.1 h2 with h2 | h2
   ·exact .inl (.inr ⟨h1,x,hx,h2,h3⟩)
   ·simp at h2
    exact .inr ⟨h2.symm,h3⟩
 ·rintro ((h | ⟨h1,y,hy,h2,h3⟩) | ⟨rfl,h3⟩)
  ·exact .inl h
  ·rw[hx] at hy
   cases hy;exact .inr ⟨h1,x,hx,by rw[htk];exact List.mem_append_left _ h2,h3⟩
  ·exact .inr ⟨hS,x,hx,by rw[htk];simp,h3⟩
theorem hFb {F:List gL}{S:Nat->Prop}{t:Int}(q:Nat):qT F S t F.length 0 q↔gPg F S t q:=by
 constructor
 ·rintro (⟨a,x,_,h2,h3,h4,h5⟩ | ⟨_,x,_,h,_⟩)
  ·exact⟨a,x,h2,h3,h4,h5⟩
  ·simp at h
 ·rintro⟨a,x,h2,h3,h4,h5⟩
  exact .inl ⟨a,x,(zzc.1 h3).1,h2,h3,h4,h5⟩
theorem k74{p:Prop}(h:p:=by
  clear hS2 d3 dk hgk2 hy;go_wp2_with fail
  go_roundg (F.length - i)
  case measure=>have:=HGK.out;omega
  case rel=>exact⟨i+1,sm2,bs2,oo,oo,rfl,by first | rfl | go_num,HE.out⟩
  ):p:=h
theorem gQy (w0 W:World)(Bn:Nat)(F:List gL)(h:zO w0 W Bn F)(htf:∀(i:Nat) (x:gL),F[i]? = some x->x.2.1.length<=16)(ia:Addr)(ic:Nat)(bs0:List Bool)(hI:mQ W (some ia) F.length bs0)(t:Int) :
  Calls Tryz.prog 114 #[.pointer (some ⟨Bn,0,none⟩),.slice (some ia) F.length ic,.int .i64 t] W fun e w' => ∃(a:Addr) (c:Nat) (bs:List Bool) (sm:Bool),e=.returned (.tuple #[.slice (some a) F.length c,.bool sm])/\mQ w' (some a) F.length bs/\(∀q:Nat,bs[q]? = some true↔vT F (fun p=>bs0[p]? = some true) t q)/\(sm=true↔∃q,gPg F (fun p=>bs0[p]? = some true) t q)/\Below W.heap.size W w' := by
 have h2:=h.two
 have hl:=h.len
 obtain⟨gt,ct,gb,cb,gn,cn,hread⟩:=h.net.read oo
 obtain⟨_,_,r2,_⟩:=hread W (zzd _ _)
 obtain⟨i0,hi,hz0,hz1,hz2⟩:=info_parts gGx
 have HST:Hid (∀X,Below W.heap.size W X->X.ownsRow W.heap.size 4 1 (.slice (some ⟨W.heap.size,0,none⟩) F.length F.length) F.length (lV (List.replicate F.length false))->Stp F W X W.heap.size F.length (List.replicate F.length false) (qT F (fun p=>bs0[p]? = some true) t 0 0) false):=fun X hX hrow=>by
  refine⟨by simp,hrow,hX,fun q=>?_,⟨fun e=>(by cases e),fun ⟨q,hq⟩=>((gPf q).1 hq).elim⟩⟩;rw[gPf]
  constructor
  ·intro e
   rw[List.getElem?_replicate] at e
   split at e<;>simp at e
  ·intro e;cases e
 have HEND:Hid (∀(X:World) (bs:List Bool) (sm:Bool),Stp F W X W.heap.size F.length bs (qT F (fun p=>bs0[p]? = some true) t F.length 0) sm->Calls Tryz.prog 141 #[.pointer (some ⟨Bn,0,none⟩),.slice (some ⟨W.heap.size,0,none⟩) F.length F.length] X fun e w' => ∃(a:Addr) (c:Nat) (bs:List Bool),e=.returned (.slice (some a) F.length c)/\mQ w' (some a) F.length bs/\(∀q:Nat,bs[q]? = some true↔vT F (fun p=>bs0[p]? = some true) t q)/\(sm=true↔∃q,gPg F (fun p=>bs0[p]? = some true) t q)/\Below W.heap.size W w'):=fun X bs sm hS=>by
  have hS' := hS.same hFb;obtain⟨a,c,e,hb⟩:=wN hS.row oo;(injection e with e1);subst e1;have hk:=h.keep hS.bel;refine(gAm w0 _ Bn F hk.net hk.fit oo hk.len hk.few _ _ _ hb).mono ?_;rintro e w' ⟨a,c,bs', h1,h2,h3,h4⟩;refine⟨a,c,bs', h1,h2,fun q=>?_,hS'.some,hS.bel.trans (h4.mono hS.bel.size)⟩;rw[h3];exact uG hS'.iff q
 have HRD:Hid (∀X,Below W.heap.size W X->X.cell? ⟨Bn,1,none⟩=some (.slice (some ⟨gb,0,none⟩) F.length cb)/\X.cell? ⟨Bn,2,none⟩=some (.slice (some ⟨gn,0,none⟩) F.length cn)/\∀(i:Nat) (x:gL),F[i]? = some x->X.cell? ⟨gn,i,none⟩=some (.int .i64 x.2.2)/\∃ba bc,X.cell? ⟨gb,i,none⟩=some (.slice ba x.2.1.length bc)/\∀(k:Nat) (z:Int),x.2.1[k]? = some z->∃g o,ba=some ⟨g,o,none⟩/\X.cell? ⟨g,o+k,none⟩=some (.int .i64 z)):=fun X hX=>⟨(hread X hX).2.1,(hread X hX).2.2.1,fun i x hx=>⟨((hread X hX).2.2.2 i x hx).1,((hread X hX).2.2.2 i x hx).2.2⟩⟩
 have HIN:Hid (∀X,Below W.heap.size W X->∀i,i<F.length->∃b o y,ia=⟨b,o,none⟩/\bs0[i]? = some y/\X.cell? ⟨b,o+i,none⟩=some (.bool y)):=fun X hX i hi=>by
  obtain⟨b,o,y,e1,e2,e3⟩:=hI.at hi;(injection e1 with e1);exact⟨b,o,y,e1,e2,e3 X hX⟩
 have HFIT:Hid (gHl F):=h.fit
 have HTF:Hid (∀(i:Nat) (x:gL),F[i]? = some x->x.2.1.length<=16):=htf
 have hli:(F.length:Int)<=50000:=by omega
 have hl0:(0:Int)<(F.length:Int):=by omega
 clear hread h hI htf
 go_enter Tryz.func114,Tryz.ntmps114
 go_wp2_with (first
  | (at_make;refine wpList_make_full _ rfl (.tmp 16) (.tmp 16) 116 rfl W.heap.size 4 i0 _ 1 Tryz.underlying116 hi hz0 hz1 .i64 .i64 _ _ F.length rfl rfl rfl rfl (by rw[hz2];omega) (by unfold maxLen;omega) (zzb _) ?_;intro X hrow hgr;rw[gGn] at hrow;have hBX:Below W.heap.size W X:=(zzd _ W).grown hgr (zzb _) (fun k e=>by cases e);have hS0:=HST.out X hBX hrow;clear hrow hgr hBX HST)
  | fail)
 have HS0:Hid (Stp F W X W.heap.size F.length (List.replicate F.length false) (qT F (fun p=>bs0[p]? = some true) t 0 0) false):=hS0
 clear hS0 r2
 go_loopg [9,10] (F.length+1) (fun gk u v wr=>∃(i:Nat) (sm:Bool) (bs:List Bool),i<=F.length/\F.length<i+gk/\u=.bool sm/\v=.int .i64 (i:Int)/\Stp F W wr W.heap.size F.length bs (qT F (fun p=>bs0[p]? = some true) t i 0) sm)
 case atStart=>exact⟨0,false,_,zzn _,oo,rfl,rfl,HS0.out⟩
 case round=>
  obtain⟨i,sm,bs,hi', hgk,rfl,rfl,hS⟩:=hrel;clear HS0;obtain⟨d1,d2,d3⟩:=HRD.out wr hS.bel
  by_cases hlt:i<F.length
  ·obtain⟨x,hx⟩:∃x,F[i]? = some x:=⟨_,zze hlt⟩
   have HXF:Hid (F[i]? = some x):=hx;have hx16:=HTF.out i x hx;have HXN:Hid (x.2.1=[]\/∃q:Nat,x.2.2=(q:Int)/\q<F.length):=(HFIT.out i x hx).2;(have hii:(i:Int)<(F.length:Int):=by omega);(have hi0' : (0:Int)<=(i:Int):=by omega);(have hxi:(x.2.1.length:Int)<=16:=by omega);have HS:Hid (Stp F W wr W.heap.size F.length bs (qT F (fun p=>bs0[p]? = some true) t i 0) sm):=hS;have HGK:Hid (F.length<i+gk):=hgk;clear hS hx d3 hgk;go_wp2_with fail
   go_loopg [9,11] (x.2.1.length+1) (fun gk2 u v wr2=>∃(k:Nat) (sm2:Bool) (bs2:List Bool),k<=x.2.1.length/\x.2.1.length<k+gk2/\u=.bool sm2/\v=.int .i64 (k:Int)/\Stp F W wr2 W.heap.size F.length bs2 (qT F (fun p=>bs0[p]? = some true) t i k) sm2)
   case atStart=>exact⟨0,sm,bs,zzn _,oo,rfl,rfl,HS.out⟩
   case round=>
    obtain⟨k,sm2,bs2,hk,hgk2,rfl,rfl,hS2⟩:=hrel;obtain⟨d1,d2,d3⟩:=HRD.out wr hS2.bel;obtain⟨dn,ba,bc,db,dk⟩:=d3 i x HXF.out;obtain⟨b,o,y,rfl,hy,cy⟩:=HIN.out wr hS2.bel i hlt;cases y with
    | false=>
     have HE:Hid (Stp F W wr W.heap.size F.length bs2 (qT F (fun p=>bs0[p]? = some true) t (i+1) 0) sm2):=hS2.same (hCq (by rw[hy];simp));exact k74
    | true=>
     by_cases hkl:k<x.2.1.length
     ·obtain⟨z,hz⟩:∃z,x.2.1[k]? = some z:=⟨_,zze hkl⟩
      obtain⟨sg,so,rfl,cz⟩:=dk k z hz;(have hki:(k:Int)<(x.2.1.length:Int):=by omega);(have hk0:(0:Int)<=(k:Int):=by omega);have HG2:Hid (x.2.1.length<k+gk):=hgk2;obtain⟨q,hq,hqF⟩:=HXN.out.resolve_left (fun e=>by rw[e] at hkl;simp at hkl);(have hqi:(q:Int)<(F.length:Int):=by omega);(have hq0:(0:Int)<=(q:Int):=by omega);rw[hq] at dn;obtain⟨zc,cq,fq⟩:=hS2.cell hqF;have ht:=fun r=>hCo (t:=t) (S:=fun p=>bs0[p]? = some true) HXF.out hy hz r
      by_cases hzt:z=t
      ·have hzz:(z==t)=true:=by rw[hzt];simp
       have HE:Hid (Stp F W (wr.setCell ⟨W.heap.size,q,none⟩ (.bool true)) W.heap.size F.length (bs2.set q true) (qT F (fun p=>bs0[p]? = some true) t i (k+1)) true):=hS2.put hqF (fun r=>by
        rw[ht r,hq]
        constructor
        ·rintro (e | ⟨_,e⟩)
         ·exact .inl e
         ·exact .inr oo
        ·rintro (e | rfl)
         ·exact .inl e
         ·exact .inr ⟨hzt,rfl⟩)
       clear hS2 d3 dk hgk2 hy hz ht hzt hq;go_wp2_with fail
       go_roundg (x.2.1.length - k)
       case measure=>have:=HG2.out;omega
       case rel=>exact⟨k+1,true,bs2.set q true,oo,oo,rfl,by first | rfl | go_num,HE.out⟩
      ·have hzz:(z==t)=false:=by rw[beq_eq_false_iff_ne];exact hzt
       have HE:Hid (Stp F W wr W.heap.size F.length bs2 (qT F (fun p=>bs0[p]? = some true) t i (k+1)) sm2):=hS2.same (fun r=>by
        rw[ht r]
        constructor
        ·intro e;exact .inl e
        ·rintro (e | ⟨e,_⟩)
         ·exact e
         ·exact absurd e hzt)
       clear hS2 d3 dk hgk2 hy hz ht hzt hq;go_wp2_with fail
       go_roundg (x.2.1.length - k)
       case measure=>have:=HG2.out;omega
       case rel=>exact⟨k+1,sm2,bs2,oo,oo,rfl,by first | rfl | go_num,HE.out⟩
     ·obtain rfl:k=x.2.1.length:=by omega
      have HE:Hid (Stp F W wr W.heap.size F.length bs2 (qT F (fun p=>bs0[p]? = some true) t (i+1) 0) sm2):=hS2.same (hCr HXF.out);exact k74
  ·obtain rfl:i=F.length:=by omega
   have HC:=HEND.out wr bs sm hS;clear hS d3 hgk HEND;(go_wp2_with fail);refine HC.mono ?_;rintro e X2 ⟨a,c,bs', rfl,e1,e2,e3,e4⟩;have HE:Hid (mQ X2 (some a) F.length bs' /\ (∀q:Nat,bs'[q]? = some true↔vT F (fun p=>bs0[p]? = some true) t q)/\(sm=true↔∃q,gPg F (fun p=>bs0[p]? = some true) t q)/\Below W.heap.size W X2):=⟨e1,e2,e3,e4⟩;clear e1 e2 e3 e4 HC;go_wp2;go_ret2
   first | exact⟨a,c,bs', sm,rfl,HE.out⟩ | exact⟨a,⟨c,rfl⟩,bs', sm,HE.out⟩
end Go.Proofs.YtjkebndkeamijaaGreatDoor
/- NetRun: the document's run at every net and word: where one is behind its longest beginning, and how long that is; nothing that lay before is turned. -/
namespace Go.Proofs.YtjkebndkeamijaaGreatDoor
open Go.RowKit
theorem wB {F:List gL}{S S' : Nat->Prop}(h:∀q,S q↔S' q)(t:Int)(q:Nat):vT F S t q↔vT F S' t q:=by
 refine uG (fun r=>?_) q
 constructor
 ·rintro⟨a,x,h1,h2⟩;exact⟨a,x,(h a).1 h1,h2⟩
 ·rintro⟨a,x,h1,h2⟩;exact⟨a,x,(h a).2 h1,h2⟩
theorem hCp {F:List gL}{S:Nat->Prop}{t:Int}:(∃q,gPg F S t q)↔∃q,vT F S t q:=by
 constructor
 ·rintro⟨q,h⟩;exact⟨q,q,0,h,rfl⟩
 ·rintro⟨q,p,k,h,_⟩;exact⟨p,h⟩
def Sit (F:List gL)(zs:List Int)(bs:List Bool)(i:Nat):Prop:=(∃q,qO F (zs.take i) q)/\∀q:Nat,bs[q]? = some true↔qO F (zs.take i) q
def gQl (F:List gL)(zs:List Int)(bs:List Bool)(i:Nat):Prop :=
 i<=zs.length/\Sit F zs bs i/\(i<zs.length->¬∃q,qO F (zs.take (i+1)) q)
theorem gEc {F:List gL}{zs:List Int}{i:Nat}{t:Int}(h:zs[i]? = some t):qO F (zs.take (i+1))=vT F (qO F (zs.take i)) t:=by
 rw[List.take_add_one,h]
 exact yB F _ _
theorem k151{p:Prop}(h:p:=by
  go_wp2_with fail
  go_ret2
  first | exact⟨a,c,bs,i,rfl,HE.out⟩ | exact⟨a,⟨c,rfl⟩,bs,i,HE.out⟩
  ):p:=h
theorem gWa (w0 W:World)(Bn:Nat)(F:List gL)(h:zO w0 W Bn F)(htf:∀(i:Nat) (x:gL),F[i]? = some x->x.2.1.length<=16)(za:Option Addr)(zl zc:Nat)(zs:List Int)(hZ:kA W za zl zs) :
  Calls Tryz.prog 76 #[.pointer (some ⟨Bn,0,none⟩),.slice za zl zc] W fun e w' => ∃(a:Addr) (c:Nat) (bs:List Bool) (i:Nat),e=.returned (.tuple #[.slice (some a) F.length c,.int .i64 (i:Int)])/\mQ w' (some a) F.length bs/\gQl F zs bs i/\Below W.heap.size W w' := by
 have HF:=gPo w0 W Bn F h
 have HST:Hid (∀(X:World) (a:Addr) (c:Nat) (bs:List Bool) (t:Int),Below W.heap.size W X->mQ X (some a) F.length bs->Calls Tryz.prog 114 #[.pointer (some ⟨Bn,0,none⟩),.slice (some a) F.length c,.int .i64 t] X fun e w' => ∃(a' : Addr) (c' : Nat) (bs' : List Bool) (sm:Bool),e=.returned (.tuple #[.slice (some a') F.length c', .bool sm])/\mQ w' (some a') F.length bs' /\ (∀q:Nat,bs'[q]? = some true↔vT F (fun p=>bs[p]? = some true) t q)/\(sm=true↔∃q,gPg F (fun p=>bs[p]? = some true) t q)/\Below X.heap.size X w'):=fun X a c bs t hX hb=>gQy w0 X Bn F (h.keep hX) htf a c bs hb t
 have HZ:Hid (∀(X:World) (i:Nat),Below W.heap.size W X->i<zl->∃b o x,za=some ⟨b,o,none⟩/\zs[i]? = some x/\X.cell? ⟨b,o+i,none⟩=some (.int .i64 x)):=fun X i hX hi=>by
  obtain⟨b,o,x,e1,e2,e3⟩:=hZ.at hi;exact⟨b,o,x,e1,e2,e3 X hX⟩
 have HZL:Hid (zs.length=zl):=hZ.1
 have hzi:(zl:Int)<=9223372036854775807:=by have:=hZ.2.1;omega
 clear h htf hZ
 go_enter Tryz.func76,Tryz.ntmps76
 go_wp2_with fail
 refine HF.mono ?_
 rintro e W1 ⟨a,c,bs,rfl,hb,hq,hB⟩
 have HI0:Hid (mQ W1 (some a) F.length bs/\Sit F zs bs 0/\Below W.heap.size W W1):=⟨hb,⟨⟨0,0,0,rfl,rfl⟩,hq⟩,hB⟩
 clear HF hb hq hB
 go_wp2_with fail
 go_loopg [6,7] (zl+1) (fun gk u v wr=>∃(i:Nat) (a:Addr) (c:Nat) (bs:List Bool),i<=zl/\zl<i+gk/\u=.slice (some a) F.length c/\v=.int .i64 (i:Int)/\mQ wr (some a) F.length bs/\Sit F zs bs i/\Below W.heap.size W wr)
 case atStart=>exact⟨0,a,c,bs,zzn _,oo,rfl,rfl,HI0.out⟩
 case round=>
  obtain⟨i,a,c,bs,hi,hgk,rfl,rfl,hb,hq,hB⟩:=hrel;clear HI0
  by_cases hlt:i<zl
  ·obtain⟨b,o,x,rfl,hx,cx⟩:=HZ.out wr i hB hlt
   have HS:=HST.out wr a c bs x hB hb;(have hii:(i:Int)<(zl:Int):=by omega);(have hi0:(0:Int)<=(i:Int):=by omega);have HG:Hid (zl<i+gk):=hgk;have HB:Hid (Below W.heap.size W wr/\mQ wr (some a) F.length bs/\Sit F zs bs i):=⟨hB,hb,hq⟩;have HX:Hid (zs[i]? = some x):=hx;clear hgk hB hb hq hx;(go_wp2_with fail);refine HS.mono ?_;rintro e W2 ⟨a', c', bs', sm,rfl,hb', hq', hs', hB'⟩;have hBB:Below W.heap.size W W2:=HB.out.1.trans (hB'.mono HB.out.1.size)
   have HSM:Hid (sm=true↔∃q,qO F (zs.take (i+1)) q):=by
    show _↔_
    rw[hs', gEc HX.out,hCp];exact⟨fun ⟨q,h⟩=>⟨q,(wB HB.out.2.2.2 x q).1 h⟩,fun ⟨q,h⟩=>⟨q,(wB HB.out.2.2.2 x q).2 h⟩⟩
   have HN:Hid (sm=true->mQ W2 (some a') F.length bs' /\ Sit F zs bs' (i+1)/\Below W.heap.size W W2):=by
    (refine fun e=>⟨hb', ⟨HSM.out.1 e,fun q=>?_⟩,hBB⟩);rw[hq', gEc HX.out];exact wB HB.out.2.2.2 x q
   have HOLD:Hid (mQ W2 (some a) F.length bs):=HB.out.2.1.below hB';clear HS hb' hq' hs' hB';cases sm with
   | true=>
    go_wp2_with fail
    go_roundg (zl - i)
    case measure=>have:=HG.out;omega
    case rel=>exact⟨i+1,a', c', bs', by omega,oo,rfl,by first | rfl | go_num,HN.out (by first | rfl | trivial)⟩
   | false=>
    have HE:Hid (mQ W2 (some a) F.length bs/\gQl F zs bs i/\Below W.heap.size W W2):=by
     refine⟨HOLD.out,⟨by have:=HZL.out;omega,HB.out.2.2,fun _ hex=>?_⟩,hBB⟩
     have:=HSM.out.2 hex
     cases this
    clear hBB;exact k151
  ·obtain rfl:i=zl:=by omega
   have HE:Hid (mQ wr (some a) F.length bs/\gQl F zs bs i/\Below W.heap.size W wr):=by
    have:=HZL.out
    exact⟨hb,⟨oo,hq,fun h=>by omega⟩,hB⟩
   clear hb hq hB hgk;exact k151
end Go.Proofs.YtjkebndkeamijaaGreatDoor
