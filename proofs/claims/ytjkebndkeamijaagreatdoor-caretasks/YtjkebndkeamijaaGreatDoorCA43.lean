/-
  PROVED HERE: what the texts DAAsksC, DAArgsT say.
-/
import Derived.Test.YtjkebndkeamijaaGreatDoorCA41
import Derived.Test.YtjkebndkeamijaaGreatDoorCA42
set_option maxRecDepth 100000
set_option maxHeartbeats 1600000
namespace Go.Proofs.YtjkebndkeamijaaGreatDoor
open Go.RowKit
theorem gZu {B:Nat}{whole:ByteArray}{aa:Option Addr}{sl cc:Nat}{sp:List gV}{gs:List Grp}{ks:List gN}{w:World}(h:gAg w B whole aa sl cc sp gs)(hks:ks.map (·.1)=jC::sp){a:Option Addr}{len cap:Nat}{l:List Tok}(hl:mC w a len l)(hsz:len<=4398046511104) :
  gQm w B a len cap (iR ks (gJ sp gs) (gS whole sp) l).1 (iR ks (gJ sp gs) (gS whole sp) l).2/\gVa w B a len cap (qG ks (gJ sp gs) (gS whole sp) l):=by
 refine⟨fun X hX=>yX X (h.below hX) hks a len cap l (hl.below hX) oo,fun X hX p=>?_⟩
 refine(gRp X (h.below hX) hks a len cap l (hl.below hX) hsz p 0).mono ?_
 rintro e X' ⟨r,rfl,hr,hB⟩
 refine⟨?_,hB⟩
 have:r=qG ks (gJ sp gs) (gS whole sp) l p:=by
  rw[Bool.eq_iff_iff,hr,qU,hl.1]
 rw[this]
theorem gYw (a:Option Addr)(len cap:Nat)(l:List Tok)(p s b:Int)(w:World)(hl:mC w a len l)(hlie:gBw a len cap)(hb1 : -9223372036854775808<=b)(hb2:b<=9223372036854775807)(hE:ETy w) :
  Calls Tryz.prog 6 #[.slice a len cap,.int .i64 p,.int .i64 s,.int .i64 b] w fun e w' => e=.returned (.bool true)/\Below w.heap.size w w' := by
 have HAW:Hid (∀X,Below w.heap.size w X->Calls Tryz.prog 23 #[] X fun e w' => e=.returned (.bool true)/\Below X.heap.size X w'):=fun X hX=>gMf X (hE.below hX)
 have HH:=Hid.mk_ (gDr w hE)
 have HL:=Hid.mk_ hl
 have HLI:=Hid.mk_ hlie
 have hli:(len:Int)<=9223372036854775807:=by have:=hlie.1;have:=hlie.2.1;omega
 clear hl hlie hE
 by_cases hbig:80<len
 ·have HA:=HAW.out w (zzd _ _)
  (have hb:(80:Int)<(len:Int):=by omega);clear HAW HH HL HLI;go_enter Tryz.func6,Tryz.ntmps6;(go_wp2_with fail);refine HA.mono ?_;rintro e X1 ⟨rfl,hB1⟩;have HE:=Hid.mk_ hB1;clear hB1 HA;go_wp2;go_ret
  first | exact HE.out | exact⟨rfl,HE.out⟩
 have hb:¬(80:Int)<(len:Int):=by omega
 go_enter Tryz.func6,Tryz.ntmps6
 go_wp2_with fail
 refine HH.out.mono ?_
 rintro e X1 ⟨B1,rfl,hm,hB1⟩
 have HM:=Hid.mk_ hm
 have HB1:=Hid.mk_ hB1
 clear HH hm hB1
 go_wp2_with fail
 refine(gKt X1).mono ?_
 rintro e X2 ⟨B2,ha,rfl,hr,hB2⟩
 obtain⟨g,c,ng,nc,ks,hS,hks⟩:=HM.out.below hB2
 have hk0:0<ks.length:=by have:=gGs hks;omega
 have HB2:=Hid.mk_ (HB1.out.trans (hB2.mono HB1.out.size))
 have hT:=HL.out.below HB2.out
 obtain⟨c1,c2⟩:=gUq hS hk0 hT HLI.out oo
 obtain⟨d1,d2⟩:=gZu hr hks hT (cap:=cap) oo
 have hsame:(iR ks (gJ jB lI) (gS kK jB) l).2=0->∀(i:Nat) (x:Tok),l[i]? = some x->x.k=0->qG ks (gJ jB lI) (gS kK jB) l ((i:Int)+1)=qG ks (gJ jB lI) (gS kK jB) l (i:Int):=fun h0 i x hx hk=>gQz h0 hx hk
 generalize (iR ks (gJ jB lI) (gS kK jB) l).1=A at *
 generalize (iR ks (gJ jB lI) (gS kK jB) l).2=E at *
 generalize qG ks (gJ jB lI) (gS kK jB) l=F at *
 have H1:=gQw c1 c2 hli p X2 (zzd _ _)
 have H2:=Hid.mk_ (fun (X:World) (hX:Below X2.heap.size X2 X)=>gNg d1 d2 hli p X hX)
 have H3:=Hid.mk_ (fun (X:World) (hX:Below X2.heap.size X2 X)=>gGm (c1.below hX) (c2.below hX) hli (fun _=>by omega) p s)
 have H4:=Hid.mk_ (fun (X:World) (hX:Below X2.heap.size X2 X)=>gNp (w:=X) (fun Y hY=>d1 Y (hX.trans (hY.mono hX.size))) (fun Y hY=>d2 Y (hX.trans (hY.mono hX.size))) hli (fun _=>by omega) p s)
 have H5:=Hid.mk_ (fun (X:World) (hX:Below X2.heap.size X2 X)=>gSl (c1.below hX) (c2.below hX) (hT.below hX) hsame hli (fun _=>by omega) p b hb1 hb2)
 have H6:=Hid.mk_ (fun (X:World) (hX:Below X2.heap.size X2 X)=>gNq (w:=X) (fun Y hY=>d1 Y (hX.trans (hY.mono hX.size))) (fun Y hY=>d2 Y (hX.trans (hY.mono hX.size))) hli (fun _=>by omega) p b hb1 hb2)
 generalize gMy F E len p=t1 at *
 generalize qC E len p=t2 at *
 generalize (zA F E len p s).1=n1 at *
 generalize (zA F E len p s).2=n2 at *
 generalize (gDm F E len p b).1=m1 at *
 generalize (gDm F E len p b).2=m2 at *
 clear hB2 hr hS hks hk0 HM HL HLI hT c1 c2 d1 d2 hsame HB1
 go_wp2_with fail
 refine H1.mono ?_
 rintro e Y1 ⟨rfl,hY1⟩
 have HY1:=Hid.mk_ hY1
 have K2:=H2.out Y1 hY1
 clear H1 H2 hY1
 go_wp2_with fail
 refine K2.mono ?_
 rintro e Y2 ⟨rfl,hY2⟩
 have HY2:=Hid.mk_ (HY1.out.trans (hY2.mono HY1.out.size))
 have K3:=H3.out Y2 HY2.out
 clear K2 H3 hY2 HY1
 go_wp2_with fail
 refine K3.mono ?_
 rintro e Y3 ⟨rfl,hY3⟩
 have HY3:=Hid.mk_ (HY2.out.trans (hY3.mono HY2.out.size))
 have K4:=H4.out Y3 HY3.out
 clear K3 H4 hY3 HY2
 go_wp2_with fail
 refine K4.mono ?_
 rintro e Y4 ⟨rfl,hY4⟩
 have HY4:=Hid.mk_ (HY3.out.trans (hY4.mono HY3.out.size))
 have K5:=H5.out Y4 HY4.out
 clear K4 H5 hY4 HY3
 go_wp2_with fail
 refine K5.mono ?_
 rintro e Y5 ⟨rfl,hY5⟩
 have HY5:=Hid.mk_ (HY4.out.trans (hY5.mono HY4.out.size))
 have K6:=H6.out Y5 HY5.out
 clear K5 H6 hY5 HY4
 go_wp2_with fail
 refine K6.mono ?_
 rintro e Y6 ⟨rfl,hY6⟩
 have HY6:=Hid.mk_ (HY5.out.trans (hY6.mono HY5.out.size))
 have HYW:=Hid.mk_ (HB2.out.trans (HY6.out.mono HB2.out.size))
 have HA:=HAW.out Y6 HYW.out
 clear K6 hY6 HY5 HY6 HAW
 go_wp2_with fail
 refine HA.mono ?_
 rintro e Y7 ⟨rfl,hY7⟩
 have HE:=Hid.mk_ (HYW.out.trans (hY7.mono HYW.out.size))
 clear hY7 HA
 go_wp2
 go_ret
 first | exact HE.out | exact⟨rfl,HE.out⟩
end Go.Proofs.YtjkebndkeamijaaGreatDoor
namespace Go.Proofs.YtjkebndkeamijaaGreatDoor
open Go.ChangeShapes Go.WideShapes Go.ChangeAt Go.RowKit
def gMj (x:Tok):Prop:=(Lit.int .i64 x.k).wf=true/\(Lit.int .i64 x.t).wf=true/\(Lit.int .i64 x.n).wf=true/\(Lit.int .i64 x.m).wf=true
theorem gKf {H:Type}{enc:TypeId×Value->H}{w:World}{base:Nat}{spare:Nat->Bool}{held:Bool}{fuel:Nat}{cs:List Value}{x:DataW H×List MemPlace}(h:DataW.trod enc Tryz.prog w base spare held fuel 58 cs=some x) :
  ∃y:Tok,cs=[.int .i64 y.k,.int .i64 y.t,.int .i64 y.n,.int .i64 y.m]/\gMj y/\x=(.agg [.lit (.int .i64 y.k),.lit (.int .i64 y.t),.lit (.int .i64 y.n),.lit (.int .i64 y.m)],[]):=by
 obtain⟨xs,k,_,hxy,hlen,hxl,hf⟩:=DataW.trod_struct Tryz.underlying58 h
 rw[show Tryz.prog.cellsOf 58=4 from by kernel_rfl] at hlen
 match xs,hxl,cs,hlen with
 | [y0,y1,y2,y3],_,[v0,v1,v2,v3],_=>
  (have c3:Tryz.prog.cellsOf 3=1:=by kernel_rfl);have g0:=hf 0 _ rfl;have g1:=hf 1 _ rfl;have g2:=hf 2 _ rfl;have g3:=hf 3 _ rfl;simp[c3] at g0 g1 g2 g3;obtain⟨n0,e0,d0,f0⟩:=DataW.trod_int Tryz.underlying3 g0;obtain⟨n1,e1,d1,f1⟩:=DataW.trod_int Tryz.underlying3 g1;obtain⟨n2,e2,d2,f2⟩:=DataW.trod_int Tryz.underlying3 g2;obtain⟨n3,e3,d3,f3⟩:=DataW.trod_int Tryz.underlying3 g3;simp at e0 e1 e2 e3;subst e0 e1 e2 e3 d0 d1 d2 d3;exact⟨⟨n0,n1,n2,n3⟩,rfl,⟨f0,f1,f2,f3⟩,by rw[hxy];rfl⟩
theorem gWu {H:Type}{enc:TypeId×Value->H}{W:World}{a:Option Addr}{len cap:Nat}{d:DataW H}{p:List MemPlace}(h:DataW.Trod enc Tryz.prog W 0 (fun _=>true) true 22 (.slice a len cap) d p) :
  ∃l:List Tok,mC W a len l/\(∀x∈l,gMj x)/\len<=cap/\cap<=maxLen/\(a=none->cap=0)/\(∀x,a=some x->0<cap->x.spot=none)/\(len=0\/∃elems spare,d=.slice elems spare/\len<=elems.length/\cap<=elems.length+spare.length):=by
 obtain⟨fuel,hf⟩:=h
 have hc4:Tryz.prog.cellsOf 58=4:=by kernel_rfl
 rcases Deep.open_slice Tryz.underlying22 hf with ⟨hcs,hx⟩ | ⟨x,l,c,m,n,D,Pl,hcs,_,hl,hm,hmm,hx,hD⟩
 ·simp[Value.cells] at hcs
  obtain⟨rfl,rfl,rfl⟩:=hcs;exact⟨[],⟨rfl,.inl rfl⟩,by simp,zzb _,zzn _,fun _=>rfl,fun _ _ h=>absurd h oo,.inl rfl⟩
 ·simp[Value.cells] at hcs
  obtain⟨rfl,rfl,rfl⟩:=hcs;simp only[if_true] at hmm;subst hmm;rw[hc4] at hD
  have each:∀i,i<m->∃y:Tok,gMj y/\W.cell? (x.add (i * 4))=some (.int .i64 y.k)/\W.cell? ((x.add (i * 4)).add 1)=some (.int .i64 y.t)/\W.cell? ((x.add (i * 4)).add 2)=some (.int .i64 y.n)/\W.cell? ((x.add (i * 4)).add 3)=some (.int .i64 y.m):=by
   intro i hi;obtain⟨cs', h1,h2⟩:=hD i hi;obtain⟨_,_,hcell⟩:=World.cells?_some h1;obtain⟨y,rfl,hy,_⟩:=gKf h2;refine⟨y,hy,?_,hcell 1 oo,hcell 2 oo,hcell 3 oo⟩
   have:=hcell 0 oo
   rw[show (x.add (i * 4)).add 0=x.add (i * 4) from by obtain⟨b,o,s⟩:=x;cases s<;>simp[Addr.add]] at this;exact this
  haveI:Inhabited Tok:=⟨⟨0,0,0,0⟩⟩
  obtain⟨Y,hY⟩:=Deep.choose_lt each
  have hspot:0<m->x.spot=none:=by
   intro h0
   have:=World.cell?_spot (hY 0 h0).2.1
   obtain⟨b,o,s⟩:=x;simpa [Addr.add] using this
  refine⟨(List.range len).map Y,⟨by simp,?_⟩,?_,hl,hm,(fun e=>by cases e),(fun z e h0=>by cases e;exact hspot h0),.inr ⟨_,_,congrArg Prod.fst hx,by simp,by simp;omega⟩⟩
  ·rcases Nat.eq_zero_or_pos len with h0 | h0
   ·exact .inl h0
   ·obtain⟨b,o,s⟩:=x
    obtain rfl:s=none:=hspot oo;refine .inr ⟨b,o,rfl,?_,fun i y hy=>?_⟩
    ·have:=(hY 0 oo).2.1
     rw[gJu] at this;rcases Nat.lt_or_ge b W.heap.size with hlt | hge
     ·exact hlt
     ·simp[World.cell?,Array.getElem?_eq_none hge] at this
    ·have hi:i<len:=by
      have:=(zzc.1 hy).1
      simpa using this
     obtain rfl:Y i=y:=by simpa [List.getElem?_map,List.getElem?_range hi] using hy
     have:=(hY i oo).2
     simp only[gJu] at this;exact this
  ·intro y hy
   obtain⟨i,hi,rfl⟩:=List.mem_map.1 hy;exact(hY i (by have:=List.mem_range.1 hi;omega)).1
end Go.Proofs.YtjkebndkeamijaaGreatDoor
