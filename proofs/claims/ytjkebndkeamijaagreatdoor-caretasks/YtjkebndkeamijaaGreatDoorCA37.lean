/-
  PROVED HERE: what the texts DARToken, DARWord, DAROpen, DARAround say.
-/
import Derived.Test.YtjkebndkeamijaaGreatDoorCA36
set_option maxRecDepth 100000
set_option maxHeartbeats 2000000
namespace Go.Proofs.YtjkebndkeamijaaGreatDoor
open Go.RowKit
theorem gMn {s:Int}(h:0<=s/\s<=4)(t:Int):gEy s t=bits BinOp.and IntKind.i64 s t:=by
 unfold gEy qW
 rw[if_pos (by simp;exact h),gQd s t h.1 h.2]
theorem gMu {B:Nat}{whole:ByteArray}{a:Option Addr}{len cap:Nat}{sp:List gV}{gs:List Grp}{ks:List gN}(w:World)(h:gAg w B whole a len cap sp gs)(hks:ks.map (·.1)=jC::sp)(ta:Option Addr)(tl tc:Nat)(l:List Tok)(hl:mC w ta tl l)(hsz:tl<=2048)(j:Nat)(x:Tok)(hx:l[j]? = some x)(hr:x.k=0->0<=x.m/\x.m<=4)(i:Int)(hp:gAi sp l i) :
  Calls Tryz.prog 72 #[.pointer (some ⟨B,0,none⟩),.slice ta tl tc,.int .i64 (j:Int),.int .i64 i] w fun e w' => e=.returned (.bool (nE ks (oZ ks l i) x))/\Below w.heap.size w w' := by
 have hjl:=(zzc.1 hx).1
 have hll:=hl.1
 have hsl:sp.length=len:=by obtain⟨_,_,_,_,_,_,_,h3,_⟩:=h;exact h3.1
 have hkl:=gGs hks
 obtain⟨b,o,y,rfl,hbl,hy,hc⟩:=hl.token (k:=j) oo
 obtain rfl:x=y:=zzo (hx.symm.trans hy)
 obtain⟨c0,c1,c2,c3⟩:=hc w (zzd _ _)
 obtain⟨xk,xt,xn,xm⟩:=x
 dsimp only at *
 obtain⟨V,hV⟩:∃V,V=w.alloc (.cells #[.int .i64 xk,.int .i64 xt,.int .i64 xn,.int .i64 xm] 58):=⟨_,rfl⟩
 have hBV:Below w.heap.size w V:=by rw[hV];exact(zzd _ w).alloc (zzb _) _
 have m0:V.heap[w.heap.size]? = some (.cells #[.int .i64 xk,.int .i64 xt,.int .i64 xn,.int .i64 xm] 58 (0,0)):=by rw[hV];exact World.alloc_heap_new w _
 have m0l:=(zza.1 m0).1
 have HT:Hid (∀Y,Below V.heap.size V Y->Y.cell? ⟨w.heap.size,0,none⟩=some (.int .i64 xk)/\Y.cell? ⟨w.heap.size,1,none⟩=some (.int .i64 xt)/\Y.cell? ⟨w.heap.size,2,none⟩=some (.int .i64 xn)/\Y.cell? ⟨w.heap.size,3,none⟩=some (.int .i64 xm)):=fun Y hY=>by
  have hb:=(hY.block _ m0l).trans m0;exact⟨cell_of_row Y w.heap.size 0 _ _ _ hb,cell_of_row Y w.heap.size 1 _ _ _ hb,cell_of_row Y w.heap.size 2 _ _ _ hb,cell_of_row Y w.heap.size 3 _ _ _ hb⟩
 have hjt:(j:Int)<(tl:Int):=by omega
 have htl:(tl:Int)<=2048:=by omega
 have HS:Hid (∀Y,Below V.heap.size V Y->∀t:Int,Calls Tryz.prog 19 #[.pointer (some ⟨B,0,none⟩),.int .i64 t] Y fun e w' => e=.returned (.tuple #[gIm (tT sp t),.bool (decide (1<=t/\t<=(len:Int)))])/\Below Y.heap.size Y w'):=fun Y hY t=>gNh Y (h.below (hBV.trans (hY.mono hBV.size))) t
 have HBV:=Hid.mk_ hBV
 obtain⟨t0,t1,t2,t3⟩:=HT.out V (zzd _ _)
 by_cases k0:xk=0
 ·subst k0
  have hw:=gMn (hr rfl)
  have HR:Hid (∀s:gV,nE ks s ⟨0,xt,xn,xm⟩=((bits BinOp.and IntKind.i64 xm s.marks==xm)&&(xn != 10||s.lines))):=fun s=>by
   show nE ks s _=_
   unfold nE gCc;rw[if_pos rfl,hw]
  by_cases hi:i = -1
  ·subst hi
   rw[gRa hks l,HR.out];unfold jC;dsimp only;generalize hq:bits BinOp.and IntKind.i64 xm 0=Q at *;(have HB2:Hid (Below w.heap.size w ((w.alloc (.cells #[.int .i64 0,.int .i64 xt,.int .i64 xn,.int .i64 xm] 58)).alloc (.cells #[.string ⟨#[]⟩,.string ⟨#[]⟩,.bool false,.int .i64 0,.int .i64 0,.int .i64 0,.bool false] 34))):=by rw[<-hV];exact hBV.alloc hBV.size _);clear h hks hl hsz hx hr hp hc hy hw hBV m0 HR HS HT hbl hV t0 t1 t2 t3 HBV m0l hjl hll hsl hkl;generalize e1:(Q==xm)=p1;generalize e2:(xn != 10)=p2;cases p1<;>cases p2
   all_goals
    go_enter Tryz.func72,Tryz.ntmps72;go_wp2;go_ret;exact⟨rfl,HB2.out⟩
  ·have hkn:=hp
   rcases hp with e | ⟨m,n,rfl,hm,ht,hn⟩
   ·exact absurd e hi
   rw[gRb hks hi hkn,HR.out,ht];(have HS2:=fun (Y:World) (hY:Below V.heap.size V Y)=>HS.out Y hY ((n:Int)+1));rw[show decide (1<=(n:Int)+1/\(n:Int)+1<=(len:Int))=true by simp;omega] at HS2;generalize tT sp ((n:Int)+1)=ss at *;obtain⟨sn,se,sf,sm,sl,sk,sb⟩:=ss;unfold gIm at HS2;dsimp only at HS2 ⊢;generalize hq:bits BinOp.and IntKind.i64 xm sm=Q at *;obtain⟨b', o', y,e', hbl', hy', hc'⟩:=hl.token (k:=m) oo;cases e'
   have hyt:y.t=(n:Int)+1:=by
    unfold jP at ht;rw[Int.toNat_natCast,hy'] at ht;exact ht
   obtain⟨V2,hV2⟩:∃V2,V2=V.alloc (.cells #[.string ⟨#[]⟩,.string ⟨#[]⟩,.bool false,.int .i64 0,.int .i64 0,.int .i64 0,.bool false] 34):=⟨_,rfl⟩;(have hB2:Below V.heap.size V V2:=by rw[hV2];exact(zzd _ V).alloc (zzb _) _);(have m2:V2.heap[V.heap.size]? = some (.cells #[.string ⟨#[]⟩,.string ⟨#[]⟩,.bool false,.int .i64 0,.int .i64 0,.int .i64 0,.bool false] 34 (0,0)):=by rw[hV2];exact World.alloc_heap_new V _);have m2l:=(zza.1 m2).1;(have hsV:V.heap.size=w.heap.size+1:=by rw[hV];simp);rw[hsV] at m2;(have HST:Hid (∀Y,Below V2.heap.size V2 Y->Y.heap[w.heap.size+1]? = some (.cells #[.string ⟨#[]⟩,.string ⟨#[]⟩,.bool false,.int .i64 0,.int .i64 0,.int .i64 0,.bool false] 34 (0,0))/\Below V.heap.size V (Y.setRow (w.heap.size+1) #[.string sn,.string se,.bool sf,.int .i64 sm,.int .i64 sl,.int .i64 sk,.bool sb])):=fun Y hY=>⟨(hY.block _ oo).trans m2,below_setRow (hB2.trans (hY.mono hB2.size)) oo _⟩);have d1:=(hc' V2 (hBV.trans (hB2.mono hBV.size))).2.1;rw[hyt] at d1;(have hmt:(m:Int)<(tl:Int):=by omega);(have hm0:(0:Int)<=(m:Int):=by omega);have HS3:=HS2 V2 hB2;rw[hV2,hV] at d1;have HV:=Hid.mk_ hV;have HV2:=Hid.mk_ hV2;clear h hks hl hsz hx hr hkn hc hy hw hB2 m2 m2l hsV m0 HR HS HS2 hbl t0 t1 t2 t3 m0l hjl hll hsl hkl hi hm ht hn hbl' hy' hc' hyt hBV hV hV2;generalize e1:(Q==xm)=p1;generalize e2:(xn != 10)=p2;cases p1<;>cases p2
   all_goals
    go_enter Tryz.func72,Tryz.ntmps72;(go_wp2_with fail);rw[<-HV.out,<-HV2.out];refine HS3.mono ?_;rintro e X ⟨rfl,hX⟩;obtain⟨g1,g2⟩:=HST.out X hX;obtain⟨u0,u1,u2,u3⟩:=HT.out _ g2;have v3:=cell_of_row _ _ 3 _ _ _ (setRow_heap X _ _ #[.string sn,.string se,.bool sf,.int .i64 sm,.int .i64 sl,.int .i64 sk,.bool sb] _ _ g1);have v6:=cell_of_row _ _ 6 _ _ _ (setRow_heap X _ _ #[.string sn,.string se,.bool sf,.int .i64 sm,.int .i64 sl,.int .i64 sk,.bool sb] _ _ g1);have HG1:=Hid.mk_ g1;have HE:=Hid.mk_ (HBV.out.trans (g2.mono HBV.out.size));clear g1 g2 hX HST HT HS3 d1;dsimp at v3 v6;(go_wp2_with (refine wpList_store_row rfl 34 _ _ rfl (w.heap.size+1) #[.string sn,.string se,.bool sf,.int .i64 sm,.int .i64 sl,.int .i64 sk,.bool sb] rfl rfl 34 _ HG1.out wE rfl (hAw _ _ _ _ _ _ _) ?_));go_ret;exact⟨rfl,HE.out⟩
 ·have hkk:(xk==0)=false:=by simpa using k0
  have HR:Hid (nE ks (oZ ks l i) ⟨xk,xt,xn,xm⟩=(decide (1<=xt/\xt<=(len:Int))&&(decide ((tT sp xt).least<=xn)&&(decide (xn<=(tT sp xt).most)&&((tT sp xt).leaf==(xk==3)))))):=by
   show nE ks (oZ ks l i) _=_
   unfold nE;rw[if_neg k0]
   by_cases hin:1<=xt/\xt<=(len:Int)
   ·rw[if_pos (show 1<=xt/\xt<(ks.length:Int) by omega),gOy hks hin.1 oo,show decide (1<=xt/\xt<=(len:Int))=true by simpa using hin]
    unfold gCo;dsimp only;generalize ((tT sp xt).leaf==(xk==3))=p1;generalize decide ((tT sp xt).least<=xn)=p2;generalize decide (xn<=(tT sp xt).most)=p3;cases p1<;>cases p2<;>cases p3<;>rfl
   ·rw[if_neg (show ¬(1<=xt/\xt<(ks.length:Int)) by omega),show decide (1<=xt/\xt<=(len:Int))=false by simpa using hin]
    rfl
  rw[HR.out];have HS2:=HS.out V (zzd _ _) xt;generalize decide (1<=xt/\xt<=(len:Int))=okb at *;generalize tT sp xt=ss at *;obtain⟨sn,se,sf,sm,sl,sk,sb⟩:=ss;unfold gIm at HS2;dsimp only at HS2 ⊢;(have HST:Hid (∀Y,Below V.heap.size V Y->Below V.heap.size V (Y.alloc (.cells #[.string sn,.string se,.bool sf,.int .i64 sm,.int .i64 sl,.int .i64 sk,.bool sb] 34))):=fun Y hY=>hY.alloc hY.size _);have HV:=Hid.mk_ hV;clear h hks hl hsz hx hr hp hc hy HR HS hbl m0 m0l hjl hll hsl hkl hBV hV k0;rw[HV.out] at t0 t1 t2 t3;generalize e1:decide (sl<=xn)=p1;generalize e2:decide (xn<=sk)=p2;generalize e3:(xk==3)=p3;generalize e4:(sf==p3)=p4;cases okb<;>cases p1<;>cases p2
  all_goals
   go_enter Tryz.func72,Tryz.ntmps72;(go_wp2_with fail);rw[<-HV.out];refine HS2.mono ?_;rintro e X ⟨rfl,hX⟩;have g2:=HST.out X hX;obtain⟨u0,u1,u2,u3⟩:=HT.out _ g2;have HE:=Hid.mk_ (HBV.out.trans (g2.mono HBV.out.size));clear g2 hX HST HT HS2;go_wp2;go_ret;exact⟨rfl,HE.out⟩
theorem pD {p:Prop}(h:p):Hid p:=h
theorem k28{p:Prop}(h:p:=by
  have HD:=pD (show uT (kindAt l (k0+j)) d=d - 1 from by rw[iF hx];unfold uT;rw[if_neg oo,if_pos hk2]);have HR:=pD (show qA l (k0+j) (f - j) d=qA l (k0+(j+1)) (f - (j+1)) (d - 1) from by rw[show f - j=(f - (j+1))+1 by omega,qA,if_neg (by rw[iF hx];exact hno),HD.out];rfl);rw[hk2] at hc;obtain⟨c0,c1⟩:=hc wr HB.out;clear hc;go_wp2
  go_roundg (f - j)
  case measure=>omega
  case rel=>exact⟨j+1,ua,uc,d - 1,xs,oo,oo,rfl,by go_num,by go_num,by rw[<-HRF.out,HR.out],oo,oo,HOW.out,HB.out⟩
  ):p:=h
theorem tV (a:Option Addr)(len cap:Nat)(l:List Tok)(i:Int)(k0 to f:Nat)(w:World)(hl:mC w a len l)(hsz:len<=2048)(hi:i+1=(k0:Int))(hto:to<=len)(hf:k0+f=to) :
  Calls Tryz.prog 38 #[.slice a len cap,.int .i64 i,.int .i64 (to:Int)] w fun e w' => ∃wa wc,e=.returned (.slice wa (qA l k0 f 0).length wc)/\w'.ownsRow w.heap.size 3 1 (.slice wa (qA l k0 f 0).length wc) (qA l k0 f 0).length (iG (qA l k0 f 0))/\Below w.heap.size w w' := by
 have HL:Hid (∀p:Nat,p<len->∃b o x,a=some ⟨b,o,none⟩/\l[p]? = some x/\∀X:World,Below w.heap.size w X->X.cell? ⟨b,o+p * 4,none⟩=some (.int .i64 x.k)/\X.cell? ⟨b,o+p * 4+1,none⟩=some (.int .i64 x.t)):=fun p hp=>by
  obtain⟨b,o,x,h1,_,h3,h4⟩:=hl.token hp;exact⟨b,o,x,h1,h3,fun X hX=>⟨(h4 X hX).1,(h4 X hX).2.1⟩⟩
 have hli:(len:Int)<=2048:=by omega
 have hti:(to:Int)<=(len:Int):=by omega
 have HO0:Hid (w.ownsRow w.heap.size 3 1 (.slice none 0 0) 0 (iG [])):=World.ownsRow_nil ..
 obtain⟨R,hR⟩:∃R,qA l k0 f 0=R:=⟨_,rfl⟩
 rw[hR]
 have HR0:=pD hR
 clear hl hR
 go_enter Tryz.func38,Tryz.ntmps38
 go_wp2
 go_loopg [7,8,9] (f+1) (fun gk u v z wr=>∃(j:Nat) (ua:Option Addr) (uc:Nat) (d:Int) (xs:List Int),j<=f/\f<j+gk/\u=.slice ua xs.length uc/\v=.int .i64 d/\z=.int .i64 ((k0+j:Nat):Int)/\xs++qA l (k0+j) (f - j) d=R/\xs.length<=j/\(-(j:Int)<=d/\d<=(j:Int))/\wr.ownsRow w.heap.size 3 1 (.slice ua xs.length uc) xs.length (iG xs)/\Below w.heap.size w wr)
 case atStart=>exact⟨0,none,0,0,[],zzn _,oo,rfl,rfl,by first | rfl | go_num | (congr 1;omega),by rw[<-HR0.out];simp,zzn _,oo,HO0.out,zzd _ _⟩
 case round=>
  obtain⟨j,ua,uc,d,xs,hj,hgk,rfl,rfl,rfl,hrf,hxl,hdd,hown,hB⟩:=hrel;have HRF:=pD hrf;have HOW:=pD hown;have HB:=pD hB;clear hrf hown hB HO0 HR0
  by_cases hlt:j<f
  ·obtain⟨b,o,x,rfl,hx,hc⟩:=HL.out (k0+j) oo
   (have hii:((k0+j:Nat):Int)<(to:Int):=by omega);(have hil:((k0+j:Nat):Int)<(len:Int):=by omega);(have hs1:xs.length+1<=1000000000:=by omega);have htx:jP l ((k0+j:Nat):Int)=x.t:=by unfold jP;rw[Int.toNat_natCast,hx];rfl
   by_cases hd0:d=0
   ·by_cases hk2:x.k=2
    ·have hno:¬(d=0/\x.k≠2):=fun h=>h.2 hk2
     exact k28
    ·by_cases hk1:x.k=1
     ·skip
      have HD:=pD (show uT (kindAt l (k0+j)) d=d+1 from by rw[iF hx];unfold uT;rw[if_pos hk1]);have HR:=pD (show qA l (k0+j) (f - j) d=x.t::qA l (k0+(j+1)) (f - (j+1)) (d+1) from by rw[show f - j=(f - (j+1))+1 by omega,qA,if_pos ⟨hd0,by rw[iF hx];omega⟩,htx,HD.out];rfl);rw[hk1] at hc;subst hd0;obtain⟨c0,c1⟩:=hc wr HB.out;have hown2:=World.ownsRow.alloc HOW.out (.cells #[.int .i64 x.t] 3);have hints:=kA.one (World.alloc_heap_new wr (.cells #[.int .i64 x.t] 3));have HW:=pD (And.intro hown2 (And.intro hints (HB.out.alloc HB.out.size (.cells #[.int .i64 x.t] 3))));have HC:=pD hc;clear hown2 hints hc;go_wp2_with (first | (at_builtin;refine kH rfl (.tmp 27) (.tmp 33) rfl w.heap.size _ xs.length _ rfl HW.out.1 _ 1 1 [x.t] rfl (fun e=>by cases e) HW.out.2.1 hs1 HW.out.2.2.size ?_;intro v1 W5 hown3 hB3;obtain⟨va,vc,rfl⟩:=nO hown3;obtain⟨c0,c1⟩:=HC.out W5 (HW.out.2.2.trans hB3);have HN:=pD (And.intro hown3 (HW.out.2.2.trans hB3));clear hown3 hB3 HW) | fail)
      go_roundg (f - j)
      case measure=>omega
      case rel=>exact⟨j+1,va,vc,(0:Int)+1,xs++[x.t],oo,oo,by rw[List.length_append,List.length_singleton],by go_num,by go_num,by rw[<-HRF.out,HR.out,List.append_assoc,List.singleton_append],by rw[List.length_append,List.length_singleton];omega,oo,by rw[List.length_append,List.length_singleton];exact HN.out.1,HN.out.2⟩
     ·skip
      have HD:=pD (show uT (kindAt l (k0+j)) d=d from by rw[iF hx];unfold uT;rw[if_neg hk1,if_neg hk2]);have HR:=pD (show qA l (k0+j) (f - j) d=x.t::qA l (k0+(j+1)) (f - (j+1)) (d) from by rw[show f - j=(f - (j+1))+1 by omega,qA,if_pos ⟨hd0,by rw[iF hx];omega⟩,htx,HD.out];rfl);(have b1:(x.k==1)=false:=by simpa using hk1);(have b2:(x.k==2)=false:=by simpa using hk2);(have b3:(x.k != 2)=true:=by simpa using hk2);subst hd0;obtain⟨c0,c1⟩:=hc wr HB.out;have hown2:=World.ownsRow.alloc HOW.out (.cells #[.int .i64 x.t] 3);have hints:=kA.one (World.alloc_heap_new wr (.cells #[.int .i64 x.t] 3));have HW:=pD (And.intro hown2 (And.intro hints (HB.out.alloc HB.out.size (.cells #[.int .i64 x.t] 3))));have HC:=pD hc;clear hown2 hints hc;go_wp2_with (first | (at_builtin;refine kH rfl (.tmp 27) (.tmp 33) rfl w.heap.size _ xs.length _ rfl HW.out.1 _ 1 1 [x.t] rfl (fun e=>by cases e) HW.out.2.1 hs1 HW.out.2.2.size ?_;intro v1 W5 hown3 hB3;obtain⟨va,vc,rfl⟩:=nO hown3;obtain⟨c0,c1⟩:=HC.out W5 (HW.out.2.2.trans hB3);have HN:=pD (And.intro hown3 (HW.out.2.2.trans hB3));clear hown3 hB3 HW) | fail)
      go_roundg (f - j)
      case measure=>omega
      case rel=>exact⟨j+1,va,vc,(0:Int),xs++[x.t],oo,oo,by rw[List.length_append,List.length_singleton],by go_num,by go_num,by rw[<-HRF.out,HR.out,List.append_assoc,List.singleton_append],by rw[List.length_append,List.length_singleton];omega,oo,by rw[List.length_append,List.length_singleton];exact HN.out.1,HN.out.2⟩
   ·have hno:¬(d=0/\x.k≠2):=fun h=>hd0 h.1
    have bd:(d==0)=false:=by simpa using hd0
    by_cases hk2:x.k=2
    ·skip
     exact k28
    ·by_cases hk1:x.k=1
     ·skip
      have HD:=pD (show uT (kindAt l (k0+j)) d=d+1 from by rw[iF hx];unfold uT;rw[if_pos hk1]);have HR:=pD (show qA l (k0+j) (f - j) d=qA l (k0+(j+1)) (f - (j+1)) (d+1) from by rw[show f - j=(f - (j+1))+1 by omega,qA,if_neg (by rw[iF hx];exact hno),HD.out];rfl);rw[hk1] at hc;(have b0:(d==0)=false:=by simp only[beq_eq_false_iff_ne];intro e;exact hno ⟨e,oo⟩);obtain⟨c0,c1⟩:=hc wr HB.out;clear hc;go_wp2
      go_roundg (f - j)
      case measure=>omega
      case rel=>exact⟨j+1,ua,uc,d+1,xs,oo,oo,rfl,by go_num,by go_num,by rw[<-HRF.out,HR.out],oo,oo,HOW.out,HB.out⟩
     ·skip
      have HD:=pD (show uT (kindAt l (k0+j)) d=d from by rw[iF hx];unfold uT;rw[if_neg hk1,if_neg hk2]);have HR:=pD (show qA l (k0+j) (f - j) d=qA l (k0+(j+1)) (f - (j+1)) (d) from by rw[show f - j=(f - (j+1))+1 by omega,qA,if_neg (by rw[iF hx];exact hno),HD.out];rfl);(have b1:(x.k==1)=false:=by simpa using hk1);(have b2:(x.k==2)=false:=by simpa using hk2);(have b3:(x.k != 2)=true:=by simpa using hk2);(have b0:(d==0)=false:=by simp only[beq_eq_false_iff_ne];intro e;exact hno ⟨e,oo⟩);obtain⟨c0,c1⟩:=hc wr HB.out;clear hc;go_wp2
      go_roundg (f - j)
      case measure=>omega
      case rel=>exact⟨j+1,ua,uc,d,xs,oo,oo,rfl,by go_num,by go_num,by rw[<-HRF.out,HR.out],oo,oo,HOW.out,HB.out⟩
  ·obtain rfl:j=f:=by omega
   (have hii:¬((k0+j:Nat):Int)<(to:Int):=by omega);have HXR:=pD (show xs=R from by rw[<-HRF.out,Nat.sub_self,qA,List.append_nil]);go_wp2;go_ret;rw[<-HXR.out];exact⟨ua,uc,rfl,HOW.out,HB.out⟩
theorem gSi (a:Option Addr)(len cap:Nat)(l:List Tok)(at' : Int)(w:World)(hl:mC w a len l)(hsz:len<=4398046511104) :
  Calls Tryz.prog 79 #[.slice a len cap,.int .i64 at'] w fun e w' => ∃a' cap', e=.returned (.slice a' (gK l at').length cap')/\Row .i64 w' a' (gK l at').length (gK l at')/\Below w.heap.size w w' := by
 obtain⟨i0,hi,hz0,hz1,hz2⟩:=info_parts gUt
 have hN:=hDp len at'
 have hO:=gOh l at'
 rw[hl.1] at hO
 have HO:Hid (gK l at' = lO ((l.take (gKc len at')).drop 0) 0 []):=hO
 clear hO
 have hU:(gKc len at' = at' /\ 0<at')\/(gKc len at' = 0/\(at' <= 0\/(len:Int)<at')):=by unfold gKc;split<;>omega
 generalize gKc len at' = N at *
 generalize hR:gK l at' = R at *
 clear hR
 go_enter Tryz.func79,Tryz.ntmps79
 go_wp2
 go_loopw [5,6] (fun u i w' => ∃(k:Nat) (s:List Int),k<=N/\i=.int .i64 (k:Int)/\s.length<=k/\w'.ownsRow w.heap.size 3 1 u s.length (s.map (Value.int .i64))/\R=lO ((l.take N).drop k) k s/\Below w.heap.size w w') (fun _ i _=>N - (intOf i).toNat)
 case atStart=>exact⟨0,[],zzn _,rfl,zzb _,World.ownsRow_nil _ _ _ _,HO.out,zzd _ _⟩
 case round=>
  obtain⟨k,s,hk,rfl,hs,hrow,hRs,hB⟩:=hrel
  by_cases hlt:k<N
  ·obtain⟨x,hx,hst⟩:=gGh (l:=l) hlt (by rw[hl.1];exact hN) s
   obtain⟨b,o,rfl,hbl,hc⟩:=hl.kind hx;have hc0:=hc wr hB;rw[hst] at hRs;clear hl hst hx HO;generalize x.k=xk at *;(obtain⟨rfl,hat⟩:at' = (N:Int)/\N<=len:=by omega);clear hU
   by_cases k1:xk=1
   ·subst k1
    rw[if_pos rfl] at hRs;have HR:Hid (R=lO ((l.take N).drop (k+1)) (k+1) (s++[(k:Int)])):=hRs;clear hRs;go_wp2_with (at_builtin;refine wpList_append_own _ rfl _ _ 61 rfl w.heap.size 3 i0 (.int .i64 0) 1 8 Tryz.underlying61 hi hz0 hz1 hz2 rfl (by decide) _ _ _ rfl (hrow.alloc _) ⟨wr.heap.size,0,none⟩ 1 1 [.int .i64 (k:Int)] rfl rfl (cell_one_new _ _ _) (by simp[Value.oneCell']) (by unfold maxLen;omega) oo (by have:=hB.size;simp;omega) ?_;intro v2 w2 hown2 hgrow hnil2;have hB2:=gMc hB hrow hB.size hgrow;have hc2:=hc w2 hB2)
    go_roundw
    case rel=>exact⟨k+1,s++[(k:Int)],oo,rfl,by simp;omega,by simpa using hown2,HR.out,hB2⟩
    case measure=>simp[intOf];omega
   ·rw[if_neg k1] at hRs
    by_cases k2:xk=2
    ·subst k2
     rw[if_pos rfl] at hRs
     by_cases h0:s.length=0
     ·rw[zK h0] at hRs
      have HR:Hid (R=lO ((l.take N).drop (k+1)) (k+1) s):=hRs;have HW:Hid (wr.ownsRow w.heap.size 3 1 u5 s.length (s.map (Value.int .i64))):=hrow;obtain⟨a', cap', hu,hr⟩:=tW hrow;rw[h0] at hu;clear hRs hrow hr;subst hu;go_wp2
      go_roundw
      case rel=>exact⟨k+1,s,oo,rfl,oo,HW.out,HR.out,hB⟩
      case measure=>simp[intOf];omega
     ·have HR:Hid (R=lO ((l.take N).drop (k+1)) (k+1) s.dropLast):=hRs
      obtain⟨n,hn⟩:∃n,s.length=n+1:=⟨s.length - 1,oo⟩;rw[hn] at hrow;obtain⟨g,cp,hu,hc1,hc2,hrow2⟩:=gDk hrow;unfold maxLen at hc2;(have HS:Hid (s.dropLast.length=n):=by show s.dropLast.length=n;rw[List.length_dropLast];omega);clear hRs hrow;subst hu;go_wp2
      go_roundw
      case rel=>exact⟨k+1,s.dropLast,oo,rfl,by rw[HS.out];omega,by rw[HS.out];exact hrow2,HR.out,hB⟩
      case measure=>simp[intOf];omega
    ·rw[if_neg k2] at hRs
     (have e1:(xk==1)=false:=by simpa using k1);(have e2:(xk==2)=false:=by simpa using k2);have HR:Hid (R=lO ((l.take N).drop (k+1)) (k+1) s):=hRs;clear hRs;go_wp2
     go_roundw
     case rel=>exact⟨k+1,s,oo,rfl,oo,hrow,HR.out,hB⟩
     case measure=>simp[intOf];omega
  ·obtain rfl:k=N:=by omega
   rw[show (l.take k).drop k=[] from List.drop_eq_nil_of_le (by rw[List.length_take];omega),lO] at hRs;obtain⟨a', cap', hu,hr⟩:=tW hrow;rw[<-hRs] at hu hr;generalize hn:R.length=n at hu hr;have HN:Hid (R.length=n):=hn;clear hn hrow hRs HO hl;subst hu;rcases hU with ⟨hU,_⟩ | ⟨hU,hat | hat⟩
   ·obtain rfl:at' = (k:Int):=by omega
    go_wp2;go_ret;exact⟨a', ⟨cap', by rw[HN.out];rfl⟩,by rw[HN.out];exact hr,hB⟩
   ·obtain rfl:k=0:=by omega
    go_wp2;go_ret;exact⟨a', ⟨cap', by rw[HN.out];rfl⟩,by rw[HN.out];exact hr,hB⟩
   ·obtain rfl:k=0:=by omega
    go_wp2
    all_goals go_ret
    all_goals exact⟨a', ⟨cap', by rw[HN.out];rfl⟩,by rw[HN.out];exact hr,hB⟩
theorem sE (a:Option Addr)(len cap:Nat)(l:List Tok)(p:Int)(w:World)(hl:mC w a len l)(hsz:len<=4398046511104) :
  Calls Tryz.prog 41 #[.slice a len cap,.int .i64 p] w fun e w' => e=.returned (.int .i64 (gB l p))/\Below w.heap.size w w' := by
 have h1:=gSi a len cap l p w hl hsz
 have hq:=yZ l p
 rw[hl.1] at hq
 unfold gB
 generalize gK l p=R at *
 cases hn:R.length with
 | zero=>
  obtain rfl:R=[]:=List.length_eq_zero_iff.1 hn;go_enter Tryz.func41,Tryz.ntmps41;(go_wp2_with fail);refine h1.mono ?_;rintro e W ⟨a', cap', rfl,hr,hB⟩;clear h1;go_wp2;go_ret;exact⟨rfl,hB⟩
 | succ n=>
  rw[gOx hn];rw[hn] at h1 hq;generalize hy:R.getD n 0=y at *;go_enter Tryz.func41,Tryz.ntmps41;(go_wp2_with fail);refine h1.mono ?_;rintro e W ⟨a', cap', rfl,hr,hB⟩;clear h1
  obtain⟨b,o,rfl,hbl,hc⟩:=(show ∃b o,a' = some ⟨b,o,none⟩/\b<W.heap.size/\∀i,i<n+1->W.cell? ⟨b,o+i,none⟩=some (.int .i64 (R.getD i 0)) from by
   rcases hr.2 with h | h
   ·omega
   ·exact h)
  have hc0:=hc n oo;rw[hy] at hc0;clear hc hy;go_wp2;go_ret;exact⟨rfl,hB⟩
theorem k124{p:Prop}(h:p:=by
  go_enter Tryz.func48,Tryz.ntmps48;go_wp2;go_ret;exact⟨rfl,zzd _ _⟩
  ):p:=h
theorem gHt (a:Option Addr)(len cap:Nat)(l:List Tok)(i:Int)(w:World)(hl:mC w a len l)(hsz:len<=4398046511104) :
  Calls Tryz.prog 48 #[.slice a len cap,.int .i64 i] w fun e w' => e=.returned (.int .i64 (iU l i))/\Below w.heap.size w w' := by
 have hp:iU l i=if i<0\/(len:Int)<=i then -1 else if kindAt l i.toNat=2 then gB l i else if kindAt l i.toNat=1 then rV l i (i.toNat+1) (len - (i.toNat+1)) else -1:=by unfold iU;rw[hl.1]
 by_cases h0:i<0
 ·rw[hp,if_pos (.inl h0)]
  exact k124
 by_cases h1:(len:Int)<=i
 ·rw[hp,if_pos (.inr h1)]
  exact k124
 rw[if_neg oo] at hp
 obtain⟨n,rfl⟩:=Int.eq_ofNat_of_zero_le (show 0<=i by omega)
 have hn:n<len:=by omega
 rw[Int.toNat_natCast] at hp
 obtain⟨b,o,rfl,hbl,hc⟩:=hl.kindAt hn
 have hc0:=hc w (zzd _ _)
 by_cases k2:kindAt l n=2
 ·rw[if_pos k2] at hp
  rw[k2] at hc0;rw[hp];(have hA:=fun W (hW:Below w.heap.size w W)=>sE _ len cap l (n:Int) W (hl.below hW) hsz);generalize gB l (n:Int)=y at *;go_enter Tryz.func48,Tryz.ntmps48;(go_wp2_with fail);refine(hA _ (zzd _ _)).mono ?_;rintro e W1 ⟨rfl,hB⟩;go_wp2;go_ret;exact⟨rfl,hB⟩
 by_cases k1:kindAt l n=1
 ·rw[if_neg k2,if_pos k1] at hp
  rw[k1] at hc0;have HP:Hid (iU l n=rV l n (n+1) (len - (n+1))):=hp;clear hp;go_enter Tryz.func48,Tryz.ntmps48;go_wp2
  go_loopw [5] (fun u w' => ∃k:Nat,k<=len/\n<k/\u=.int .i64 (k:Int)/\iU l n=rV l n k (len - k)/\Below w.heap.size w w') (fun u _=>len - (intOf u).toNat)
  case atStart=>exact⟨n+1,oo,oo,by simp,HP.out,zzd _ _⟩
  case round=>
   obtain⟨k,hk,hnk,rfl,hs,hB⟩:=hrel
   by_cases hlt:k<len
   ·rw[show len - k=(len - (k+1))+1 from by omega,rV] at hs
    obtain⟨b', o', e', _,hc'⟩:=hl.kindAt hlt;cases e';have hc1:=hc' wr hB;(have hA:=fun W (hW:Below w.heap.size w W)=>sE _ len cap l (k:Int) W (hl.below hW) hsz);have hf:=gQc l k;clear hc' HP
    by_cases q2:kindAt l k=2
    ·rw[q2] at hc1
     generalize gB l (k:Int)=y at *
     by_cases hy:y=n
     ·subst hy
      rw[if_pos ⟨q2,rfl⟩] at hs;have HS:Hid (iU l n=k):=hs;clear hs;(go_wp2_with fail);refine(hA _ hB).mono ?_;rintro e W1 ⟨rfl,hB1⟩;go_wp2;go_ret;exact⟨by rw[HS.out];rfl,hB.trans (hB1.mono hB.size)⟩
     ·rw[if_neg oo] at hs
      have HS:Hid (iU l n=rV l n (k+1) (len - (k+1))):=hs;(have ey:(y==(n:Int))=false:=by simpa using hy);clear hs;(go_wp2_with fail);refine(hA _ hB).mono ?_;rintro e W1 ⟨rfl,hB1⟩;go_wp2
      go_roundw
      case rel=>exact⟨k+1,oo,oo,rfl,HS.out,hB.trans (hB1.mono hB.size)⟩
      case measure=>simp[intOf];omega
    ·rw[if_neg (by intro h;exact q2 h.1)] at hs
     have HS:Hid (iU l n=rV l n (k+1) (len - (k+1))):=hs;generalize kindAt l k=z at *;(have ey:(z==2)=false:=by simpa using q2);clear hs hA;go_wp2
     go_roundw
     case rel=>exact⟨k+1,oo,oo,rfl,HS.out,hB⟩
     case measure=>simp[intOf];omega
   ·obtain rfl:k=len:=by omega
    rw[Nat.sub_self,rV] at hs;have HS:Hid (iU l n = -1):=hs;clear hs;go_wp2;go_ret;exact⟨by rw[HS.out];rfl,hB⟩
 ·rw[if_neg k2,if_neg k1] at hp
  rw[hp];generalize kindAt l n=z at *;(have e1:(z==1)=false:=by simpa using k1);(have e2:(z==2)=false:=by simpa using k2);exact k124
end Go.Proofs.YtjkebndkeamijaaGreatDoor
