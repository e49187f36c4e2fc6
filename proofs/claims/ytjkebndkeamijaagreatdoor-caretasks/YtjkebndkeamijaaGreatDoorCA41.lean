/-
  PROVED HERE: what the texts DARSCheck, DARMay, DARCaret, DARCarM say.
-/
import Derived.Test.YtjkebndkeamijaaGreatDoorCA40
import Derived.Test.YtjkebndkeamijaaGreatDoorCA26
set_option maxRecDepth 100000
set_option maxHeartbeats 2000000
namespace Go.Proofs.YtjkebndkeamijaaGreatDoor
open Go.RowKit
theorem gPy {ks:List gN}{sp:List gV}(hks:ks.map (·.1)=jC::sp){whole:ByteArray}{G:List Grp}(h6:kL (whole::sp.map (·.expr)) G=0){l:List Tok}(hok:(iO l).2=0){n:Nat}(hn:n<=l.length)(hall:∀q,q<n->vR ks G (gS whole sp) l q) :
  (n<l.length->¬vR ks G (gS whole sp) l n->iR ks G (gS whole sp) l=((n:Int),9))/\(n=l.length->¬iZ G 200 (gO whole) (iD l (kids l (-1)))->iR ks G (gS whole sp) l=((n:Int),9))/\(n=l.length->iZ G 200 (gO whole) (iD l (kids l (-1)))->iR ks G (gS whole sp) l=((n:Int),0)):=by
 obtain⟨h48,hg⟩:=(rL l).1 hok
 obtain⟨f1,f2,f3⟩:=gYk hg h48 hn (gZv hks h6 hn hall) hall
 unfold iR
 rw[if_neg (by rw[hok];simp)]
 refine⟨fun h1 h2=>?_,fun h1 h2=>?_,fun h1 h2=>?_⟩
 ·rw[f1 h1 h2,if_pos oo]
 ·rw[f2 h1 h2,if_pos oo]
 ·rw[f3 h1 h2,if_neg (by simp),h1]
theorem k90{p:Prop}(h:p:=by
  clear hr HFF;refine gA 13 (some 43) hZ ?_;refine wpAnyH_done kr ?_ _;go_wp2;go_ret2
  have:=HE.out
  cases this;exact⟨rfl,HZ.out⟩
  ):p:=h
theorem yX {B:Nat}{whole:ByteArray}{a:Option Addr}{len cap:Nat}{sp:List gV}{gs:List Grp}{ks:List gN}(w:World)(h:gAg w B whole a len cap sp gs)(hks:ks.map (·.1)=jC::sp)(ta:Option Addr)(tl tc:Nat)(l:List Tok)(hl:mC w ta tl l)(hsz:tl<=35184372088832) :
  Calls Tryz.prog 11 #[.pointer (some ⟨B,0,none⟩),.slice ta tl tc] w fun e w' => e=.returned (.tuple #[.int .i64 (iR ks (gJ sp gs) (gS whole sp) l).1,.int .i64 (iR ks (gJ sp gs) (gS whole sp) l).2])/\Below w.heap.size w w' := by
 have HC:=gNt ta tl tc l w hl hsz
 have hll:=hl.1
 by_cases d0:(iO l).2≠0
 ·have hS:iR ks (gJ sp gs) (gS whole sp) l=iO l:=by unfold iR;rw[if_pos d0]
  rw[hS];generalize (iO l).1=ca at *;generalize (iO l).2=cb at *;(have e1:(cb != 0)=true:=by simp[bne,d0]);(have e0:(cb==0)=false:=by simpa using d0);clear h hks hl hsz hS d0;go_enter Tryz.func11,Tryz.ntmps11;(go_wp2_with fail);refine HC.mono ?_;rintro e X ⟨rfl,hX⟩;have HX:=Hid.mk_ hX;clear HC hX;go_wp2;go_ret2;exact⟨rfl,HX.out⟩
 ·have hok:(iO l).2=0:=Classical.not_not.1 d0
  obtain⟨h48,hg⟩:=(rL l).1 hok;rw[hok] at HC;(have hone:=fun (X:World) (hX:Below w.heap.size w X) (j:Nat) (hj:j<tl)=>gRn X (h.below hX) hks ta tl tc l (hl.below hX) oo hg j hj);(have hwo:=fun (X:World) (hX:Below w.heap.size w X)=>tV ta tl tc l (-1) 0 tl tl X (hl.below hX) oo oo (zzb _) oo);have hwe:=gRt hg;rw[hll] at hwe;rw[hwe] at hwo;obtain⟨⟨rk,rn,ra,rl,rc⟩,ea,ec,ng,nc,h1,h2,_,h4,_,h6,_⟩:=h;have hBl:=(zza.1 h1).1;have hsay:=zR ⟨whole,rfl⟩ h2 h4 (gc:=nc) (sV (whole:=whole) (l:=l) h6 (.inl rfl));(have hF:=fun (n:Nat) (hn:n<=tl) (hall:∀q,q<n->vR ks (gJ sp gs) (gS whole sp) l q)=>gPy hks h6 hok (show n<=l.length by omega) hall);rw[hll] at hF
  have HCE:Hid (∀X,Below w.heap.size w X->X.cell? ⟨B,0,none⟩=some (.int .i64 rk)/\X.cell? ⟨B,1,none⟩=some (.string rn)/\X.cell? ⟨B,2,none⟩=some (.slice ra rl rc)/\X.cell? ⟨B,5,none⟩=some (.slice (some ⟨ng,0,none⟩) (gJ sp gs).length nc)):=fun X hX=>by
   have hm:=(hX.block _ hBl).trans h1;exact⟨cell_of_row X B 0 _ _ _ hm,cell_of_row X B 1 _ _ _ hm,cell_of_row X B 2 _ _ _ hm,cell_of_row X B 5 _ _ _ hm⟩
  have hwl:(iD l (kids l (-1))).length<=2048:=by
   have:=tB l (-1)
   rw[pT];omega
  unfold jI at hsay;dsimp only at hsay;generalize vR ks (gJ sp gs) (gS whole sp) l=P at *;generalize iR ks (gJ sp gs) (gS whole sp) l=cs at *;generalize gO whole=T at *;generalize iD l (kids l (-1))=wd at *;generalize gJ sp gs=G at *;generalize (iO l).1=ca at *;obtain⟨A,E⟩:=cs;dsimp only at *;obtain⟨wl,hwl2⟩:∃wl,wd.length=wl:=⟨_,rfl⟩;obtain⟨gl,hgl2⟩:∃gl,G.length=gl:=⟨_,rfl⟩;rw[hwl2] at hwo hwl;rw[hgl2] at hsay HCE;have HON:=Hid.mk_ hone;have HWO:=Hid.mk_ hwo;have HSY:=Hid.mk_ hsay;have HFF:=Hid.mk_ hF;(have htl:(tl:Int)<=2048:=by omega);clear h1 h2 h4 h6 hBl hsay hF hone hwo hwe hks hg hok d0 hl hsz hll hwl2 hgl2 h48;go_enter Tryz.func11,Tryz.ntmps11;(go_wp2_with fail);refine HC.mono ?_;rintro e X0 ⟨rfl,hX0⟩;have HX0:=Hid.mk_ hX0;clear HC hX0;go_wp2
  go_loopw [8] (fun u w' => ∃k:Nat,k<=tl/\u=.int .i64 (k:Int)/\(∀q,q<k->P q)/\Below w.heap.size w w') (fun u _=>tl - (intOf u).toNat)
  case atStart=>exact⟨0,zzn _,rfl,fun q hq=>absurd hq (Nat.not_lt_zero _),HX0.out⟩
  case round=>
   obtain⟨k,hk,rfl,hall,hB⟩:=hrel;have HAL:=Hid.mk_ hall;have HB:=Hid.mk_ hB;clear hall hB HX0
   by_cases hlt:k<tl
   ·have hki:(k:Int)<(tl:Int):=by omega
    have H1:=HON.out wr HB.out k hlt HAL.out;clear HON;(go_wp2_with fail);refine H1.mono ?_;rintro e X ⟨r,rfl,hr,hX⟩;have HX:=Hid.mk_ (HB.out.trans (hX.mono HB.out.size));clear H1 hX;cases r with
    | false=>
     have HE:=Hid.mk_ ((HFF.out k hk HAL.out).1 hlt (fun p=>by cases hr.2 p));clear hr HFF;go_wp2;go_ret2
     have:=HE.out
     cases this;exact⟨rfl,HX.out⟩
    | true=>
     have HP:=Hid.mk_ (hr.1 rfl);clear hr HFF;go_wp2
     go_roundw
     case rel=>exact⟨k+1,oo,by go_num,fun q hq=>by
      by_cases e:q=k
      ·subst e;exact HP.out
      ·exact HAL.out q oo,HX.out⟩
     case measure=>simp[intOf];omega
   ·obtain rfl:k=tl:=by omega
    clear HON;(go_wp2_with fail);refine wp_region_held_drew (S:=fun X=>Below wr.heap.size wr X) hmx (zzd _ _).drew (fun hS=>?_);refine gA 0 (some 30) hS ?_;refine gA 1 (some 31) hS ?_;refine gA 2 (some 32) hS ?_;refine gA 3 (some 33) hS ?_ (hy:=by intro w hSw;obtain⟨q0,q1,q2,q3⟩:=HCE.out _ (HB.out.trans (hSw.mono HB.out.size));go_simp;with_reducible rfl);refine gA 4 (some 34) hS ?_;refine gA 5 (some 35) hS ?_;refine gA 6 (some 36) hS ?_;refine gA 7 (some 37) hS ?_ (hy:=by intro w hSw;obtain⟨q0,q1,q2,q3⟩:=HCE.out _ (HB.out.trans (hSw.mono HB.out.size));go_simp;with_reducible rfl);refine gA 8 (some 38) hS ?_;refine gA 9 (some 39) hS ?_;refine gA 10 (some 40) hS ?_;refine gT 11 kr rfl (fun K hK=>?_);rw[if_pos (by rfl)];go_simp;refine(HWO.out _ (HB.out.trans (hS.mono HB.out.size))).mono ?_;rintro e Y ⟨wa,wc,rfl,hO,bY⟩;have hY:=hS.trans (bY.mono hS.size);obtain⟨_,_,e1,hI⟩:=pJ hO oo;cases e1;have H2:=(HSY.out Y (HB.out.trans (hY.mono HB.out.size)) wa wl wc wd hI).1;clear bY hO hI;refine hK.out _ _ hY (fun _=>?_);clear hK K;refine gT 12 kr rfl (fun K hK=>?_);rw[if_pos (by rfl)];go_simp;refine H2.mono ?_;rintro e Z ⟨r,rfl,hr,bZ⟩;have hZ:=hY.trans (bZ.mono hY.size);have HZ:=Hid.mk_ (HB.out.trans (hZ.mono HB.out.size));clear bZ H2;refine hK.out _ _ hZ (fun _=>?_);clear hK K;cases r with
    | false=>
     have HE:=Hid.mk_ ((HFF.out k hk HAL.out).2.1 rfl (fun p=>by cases hr.2 p));exact k90
    | true=>
     have HE:=Hid.mk_ ((HFF.out k hk HAL.out).2.2 rfl (hr.1 rfl));exact k90
theorem gRq:∀(ps:List Int) (p:Int),ps.Pairwise (·<·)->(ps.filter fun q=>decide (q<p))=ps.take (ps.countP (·<p))/\(ps.filter fun q=>decide (p<=q))=ps.drop (ps.countP (·<p)):=by
 intro ps p
 induction ps with
 | nil=>intro _;exact⟨rfl,rfl⟩
 | cons x r ih=>
  intro h;obtain⟨hx,hr⟩:=List.pairwise_cons.1 h;obtain⟨i1,i2⟩:=ih hr
  by_cases hlt:x<p
  ·rw[List.countP_cons_of_pos (by simpa using hlt),List.take_succ_cons,List.drop_succ_cons,List.filter_cons_of_pos (by simpa using hlt),List.filter_cons_of_neg (by simp;omega),i1]
   exact⟨rfl,i2⟩
  ·have h0:(x::r).countP (·<p)=0:=List.countP_eq_zero.2 fun q hq=>by
    rcases List.mem_cons.1 hq with rfl | hq
    ·simpa using hlt
    ·have:=hx q hq
     simp
     omega
   rw[h0,List.take_zero,List.drop_zero];refine⟨List.filter_eq_nil_iff.2 fun q hq=>?_,List.filter_eq_self.2 fun q hq=>?_⟩
   all_goals
    rcases List.mem_cons.1 hq with rfl | hq
    ·simp;omega
    ·have:=hx q hq
     simp
     omega
theorem gHm (l:List Tok)(p t:Int):lK l p t=iD l (mO l (gB l p) p)++t::iD l ((kids l (gB l p)).filter fun q=>decide (p<=q)):=by
 obtain⟨h1,h2⟩:=gRq (kids l (gB l p)) p (rB l _)
 unfold lK mO
 rw[h1,h2]
 unfold iD
 rw[List.map_take,List.map_drop]
theorem gRp {B:Nat}{whole:ByteArray}{aa:Option Addr}{sl cc:Nat}{sp:List gV}{gs:List Grp}{ks:List gN}(w:World)(h:gAg w B whole aa sl cc sp gs)(hks:ks.map (·.1)=jC::sp)(a:Option Addr)(len cap:Nat)(l:List Tok)(hl:mC w a len l)(hsz:len<=4398046511104)(p t:Int) :
  Calls Tryz.prog 15 #[.pointer (some ⟨B,0,none⟩),.slice a len cap,.int .i64 p,.int .i64 t] w fun e w' => ∃r:Bool,e=.returned (.bool r)/\(r=true↔(0<=p/\p<=(len:Int)/\(iR ks (gJ sp gs) (gS whole sp) l).2=0/\iZ (gJ sp gs) 200 (iQ (gS whole sp) l (gB l p)) (lK l p t)))/\Below w.heap.size w w' := by
 have HC:=yX w h hks a len cap l hl oo
 have hlen:(len:Int)<=4398046511104:=by omega
 obtain⟨q1,hq1⟩:∃q1,(iR ks (gJ sp gs) (gS whole sp) l).1=q1:=⟨_,rfl⟩
 rw[hq1] at HC
 clear hq1
 by_cases hok:0<=p/\p<=(len:Int)/\(iR ks (gJ sp gs) (gS whole sp) l).2=0
 ·obtain⟨p0,p1,hz⟩:=hok
  obtain⟨n,rfl⟩:∃n:Nat,p=(n:Int):=⟨p.toNat,oo⟩;rw[hz] at HC;obtain⟨ok,wl⟩:=gAc.1 hz;obtain⟨h48,hg⟩:=(rL l).1 ok;have hll:=hl.1;have hsz2:len<=2048:=by omega
  have hkn:gAi sp l (gB l (n:Int)):=by
   rcases lM l n oo with e | ⟨m,e,hm⟩
   ·exact .inl e
   ·obtain⟨x,hx⟩:∃x,l[m]? = some x:=⟨_,zze (sB hm)⟩
    have ht:=gFa (qL hg) wl hx (by rw[<-iF hx];exact hm);have hlk:=gGs hks;rw[e];exact .inr ⟨m,(x.t - 1).toNat,rfl,sB hm,by unfold jP;rw[Int.toNat_natCast,hx];show x.t=_;omega,oo⟩
  have hpl:=lM l n oo;have hge:=pY l n oo;(have hm1 : -1<=gB l (n:Int):=by rcases hpl with e | ⟨m,e,_⟩<;>omega);obtain⟨en,hen⟩:∃e:Nat,qR l (gB l (n:Int))=(e:Int):=⟨(qR l (gB l (n:Int))).toNat,by have:=(nF hg hpl).2.1;omega⟩;(have hel:en<=len:=by have:=(nF hg hpl).2.2.1;omega);have hne:n<=en:=by have:=gAd hg hpl oo rfl;omega
  have hpa:gB l (n:Int) = -1/\en=len\/(0<=gB l (n:Int)/\iU l (gB l (n:Int))=(en:Int)):=by
   unfold qR at hen
   split at hen
   ·rename_i e
    exact .inl ⟨e,oo⟩
   ·rename_i e
    exact .inr ⟨oo,hen⟩
  obtain⟨rk,rn,ra,rl,rc,hex,hru⟩:=gFv w h a len cap l hl hsz2 _ hkn;obtain⟨tr,ea,ec,ng,nc,h1,_,_,h4,_,h6,_⟩:=h;have hBl:=(zza.1 h1).1;have hsay:=zR (gMt (whole:=whole) hkn) hex h4 (gc:=nc) (sV (whole:=whole) h6 hkn);have hahd:=gFx hg (show n<=l.length by omega);have hbeh:=gNu hg (show n<=l.length by omega) hen;(have hwo:=fun (X:World) (hX:Below w.heap.size w X)=>tV a len cap l (gB l (n:Int)) (gB l (n:Int)+1).toNat n (n - (gB l (n:Int)+1).toNat) X (hl.below hX) hsz2 oo oo oo);(have hwb:=fun (X:World) (hX:Below w.heap.size w X)=>tV a len cap l ((n:Int) - 1) n en (en - n) X (hl.below hX) hsz2 oo hel oo);rw[hahd] at hwo;rw[hbeh] at hwb;(have har:=fun (X:World) (hX:Below w.heap.size w X)=>sE a len cap l (n:Int) X (hl.below hX) oo);(have hpr:=fun (X:World) (hX:Below w.heap.size w X)=>gHt a len cap l (gB l (n:Int)) X (hl.below hX) oo);have HCE:Hid (∀X,Below w.heap.size w X->X.cell? ⟨B,5,none⟩=some (.slice (some ⟨ng,0,none⟩) (gJ sp gs).length nc)):=fun X hX=>cell_of_row X B 5 _ _ _ ((hX.block _ hBl).trans h1)
  have hwl:(iD l (mO l (gB l (n:Int)) n)).length<=2048:=by
   have:=tB l (gB l (n:Int))
   have h2:(mO l (gB l (n:Int)) n).length<=(kids l (gB l (n:Int))).length:=List.length_filter_le ..;rw[pT];omega
  have hbl:(iD l ((kids l (gB l (n:Int))).filter fun q=>decide ((n:Int)<=q))).length<=2048:=by
   have:=tB l (gB l (n:Int))
   have h2:((kids l (gB l (n:Int))).filter fun q=>decide ((n:Int)<=q)).length<=(kids l (gB l (n:Int))).length:=List.length_filter_le ..;rw[pT];omega
  rw[gHm];(have HFIN:Hid (∀b:Bool,(b=true↔iZ (gJ sp gs) 200 (iQ (gS whole sp) l (gB l (n:Int))) (iD l (mO l (gB l (n:Int)) n)++t::iD l ((kids l (gB l (n:Int))).filter fun q=>decide ((n:Int)<=q))))->(b=true↔(0<=(n:Int)/\(n:Int)<=(len:Int)/\(iR ks (gJ sp gs) (gS whole sp) l).2=0/\iZ (gJ sp gs) 200 (iQ (gS whole sp) l (gB l (n:Int))) (iD l (mO l (gB l (n:Int)) n)++t::iD l ((kids l (gB l (n:Int))).filter fun q=>decide ((n:Int)<=q)))))):=fun b hb=>hb.trans ⟨fun q=>⟨p0,p1,hz,q⟩,fun q=>q.2.2.2⟩);generalize iQ (gS whole sp) l (gB l (n:Int))=T at *;generalize iD l (mO l (gB l (n:Int)) n)=wd at *;generalize iD l ((kids l (gB l (n:Int))).filter fun q=>decide ((n:Int)<=q))=bd at *;generalize (0<=(n:Int)/\(n:Int)<=(len:Int)/\(iR ks (gJ sp gs) (gS whole sp) l).2=0/\iZ (gJ sp gs) 200 T (wd++t::bd))=PP at *;generalize gJ sp gs=G at *;generalize gB l (n:Int)=ar at *;obtain⟨wl,hwl2⟩:∃wl,wd.length=wl:=⟨_,rfl⟩;obtain⟨bl,hbl2⟩:∃bl,bd.length=bl:=⟨_,rfl⟩;obtain⟨gl,hgl2⟩:∃gl,G.length=gl:=⟨_,rfl⟩;rw[hwl2] at hwo hwl;rw[hbl2] at hwb hbl;rw[hgl2] at hsay HCE;have HAR:=Hid.mk_ har;have HPR:=Hid.mk_ hpr;have HWO:=Hid.mk_ hwo;have HWB:=Hid.mk_ hwb;have HRU:=Hid.mk_ hru;have HSY:=Hid.mk_ hsay;(have hnl:¬(len:Int)<(n:Int):=by omega);(have hn0:¬(n:Int)<0:=by omega);(have hli:(len:Int)<=2048:=by omega);(have hnn : -1<=(n:Int) - 1:=by omega);(have hs1:wl+1<=1000000000:=by omega);(have hs2:wl+1+bl<=1000000000:=by omega);clear h1 h4 h6 hBl hsay hahd hbeh hwo hwb har hpr hex hru hkn hpl hks hll hl hsz hsz2 hg h48 hz ok p0 p1 hge hm1 hen hel hne hwl2 hbl2 hgl2 hlen;rcases hpa with ⟨rfl,rfl⟩ | ⟨ha0,hpa⟩
  all_goals
   try rw[hpa] at HPR
   go_enter Tryz.func15,Tryz.ntmps15;(go_wp2_with fail);refine HC.mono ?_;rintro e X1 ⟨rfl,hB1⟩;have H1:=HAR.out X1 hB1;have HB1:=Hid.mk_ hB1;clear HC hB1 HAR;(go_wp2_with fail);refine H1.mono ?_;rintro e X2 ⟨rfl,hB2⟩;have HB2:=Hid.mk_ (HB1.out.trans (hB2.mono HB1.out.size));have H2:=HPR.out X2 HB2.out;clear H1 hB2 HPR HB1;(go_wp2_with fail);refine H2.mono ?_;rintro e X3 ⟨rfl,hB3⟩;have HB3:=Hid.mk_ (HB2.out.trans (hB3.mono HB2.out.size));have H3:=HWO.out X3 HB3.out;clear H2 hB3 HWO HB2;(go_wp2_with fail);refine H3.mono ?_;rintro e X4 ⟨wa,wc,rfl,hO4,hB4⟩;have hown:=World.ownsRow.alloc hO4 (.cells #[.int .i64 t] 3);have hints:=kA.one (World.alloc_heap_new X4 (.cells #[.int .i64 t] 3));have hB4a:=hB4.alloc hB4.size (.cells #[.int .i64 t] 3);have HW:=Hid.mk_ (And.intro hown (And.intro hints hB4a));clear hown hints hB4a hO4 hB4 H3;(go_wp2_with (first | (at_builtin;refine kH rfl (.tmp 46) (.tmp 48) rfl X3.heap.size _ wl _ rfl HW.out.1 _ 1 1 [t] rfl (fun e=>by cases e) HW.out.2.1 hs1 HW.out.2.2.size ?_;intro v1 X5 hown5 hB5;obtain⟨va,vc,rfl⟩:=nO hown5;have HN:=Hid.mk_ (And.intro hown5 (HW.out.2.2.trans hB5));clear hown5 hB5 HW) | fail));have HB5:=Hid.mk_ (HB3.out.trans (HN.out.2.mono HB3.out.size));have H5:=HWB.out X5 HB5.out;refine H5.mono ?_;rintro e X6 ⟨ba,bc,rfl,hO6,hB6⟩;have hown6:=gGe HN.out.1 hB6;obtain⟨_,_,e1,hI6⟩:=pJ hO6 oo;cases e1;have HW6:=Hid.mk_ (And.intro hown6 (And.intro hI6 (And.intro (gSh hO6) (HN.out.2.trans (hB6.mono HN.out.2.size)))));clear hown6 hI6 hO6 hB6 H5 HWB HN HB5;(go_wp2_with (first | (at_builtin;refine kH rfl (.tmp 50) (.tmp 55) rfl X3.heap.size _ (wl+1) _ rfl HW6.out.1 _ bl bc bd rfl HW6.out.2.2.1 HW6.out.2.1 hs2 HW6.out.2.2.2.size ?_;intro v2 X7 hown7 hB7;obtain⟨ua,uc,rfl⟩:=nO hown7;have HN:=Hid.mk_ (And.intro hown7 (HW6.out.2.2.2.trans hB7));clear hown7 hB7 HW6) | fail));obtain⟨_,_,e1,hI7⟩:=pJ HN.out.1 oo;cases e1;rw[List.append_assoc,List.singleton_append] at hI7;have HI7:=Hid.mk_ hI7;have HB7:=Hid.mk_ (HB3.out.trans (HN.out.2.mono HB3.out.size));obtain⟨ul,hul⟩:∃ul,wl+1+bl=ul:=⟨_,rfl⟩;rw[hul] at HI7;clear hI7 HN HB3;refine wp_region_held_drew (S:=fun X=>Below X7.heap.size X7 X) hmx (zzd _ _).drew (fun hS=>?_);refine gA 0 (some 57) hS ?_;refine gA 1 (some 58) hS ?_;refine gA 2 (some 59) hS ?_;refine gA 4 (some 61) hS ?_;refine gA 5 (some 62) hS ?_;refine gA 6 (some 63) hS ?_;refine gA 7 (some 64) hS ?_ (hy:=by intro w hSw;have q0:=HCE.out _ (HB7.out.trans (hSw.mono HB7.out.size));go_simp;with_reducible rfl);refine gA 8 (some 65) hS ?_;refine gT 3 kr rfl (fun K hK=>?_);rw[if_pos (by rfl)];go_simp;refine(HRU.out _ (HB7.out.trans (hS.mono HB7.out.size))).mono ?_;rintro e Y ⟨rfl,bY⟩;have hY:=hS.trans (bY.mono hS.size);clear bY;refine hK.out _ _ hY (fun _=>?_);clear hK K;refine gT 9 kr rfl (fun K hK=>?_);rw[if_pos (by rfl)];go_simp;refine(HSY.out Y (HB7.out.trans (hY.mono HB7.out.size)) ua ul uc _ (HI7.out.below hY)).1.mono ?_;rintro e Z ⟨r,rfl,hr,bZ⟩;have hZ:=hY.trans (bZ.mono hY.size);have HRR:=Hid.mk_ (And.intro (HFIN.out r hr) (HB7.out.trans (hZ.mono HB7.out.size)));clear bZ hr;refine hK.out _ _ hZ (fun _=>?_);clear hK K;refine gA 10 (some 8) hZ ?_;refine wpAnyH_done kr ?_ _;clear HCE HSY HRU HFIN HI7 HB7;go_wp2;go_ret;exact⟨r,rfl,HRR.out.1,HRR.out.2⟩
 ·have HN:Hid (¬(0<=p/\p<=(len:Int)/\(iR ks (gJ sp gs) (gS whole sp) l).2=0/\iZ (gJ sp gs) 200 (iQ (gS whole sp) l (gB l p)) (lK l p t))):=fun q=>hok ⟨q.1,q.2.1,q.2.2.1⟩
  generalize (0<=p/\p<=(len:Int)/\(iR ks (gJ sp gs) (gS whole sp) l).2=0/\iZ (gJ sp gs) 200 (iQ (gS whole sp) l (gB l p)) (lK l p t))=PP at *;generalize (iR ks (gJ sp gs) (gS whole sp) l).2=q at *
  have hcase:(q != 0)=true\/((q != 0)=false/\decide (p<0)=true)\/((q != 0)=false/\decide (p<0)=false/\decide ((len:Int)<p)=true):=by
   by_cases hz:q=0
   ·subst hz
    by_cases hp:p<0
    ·exact .inr (.inl ⟨rfl,by simpa using hp⟩)
    ·exact .inr (.inr ⟨rfl,by simpa using hp,by simp;apply Classical.byContradiction;intro h;exact hok ⟨oo,oo,rfl⟩⟩)
   ·exact .inl (by simpa using hz)
  clear h hks hl hok hsz;rcases hcase with b1 | ⟨b1,b2⟩ | ⟨b1,b2,b3⟩
  all_goals
   go_enter Tryz.func15,Tryz.ntmps15;(go_wp2_with fail);refine HC.mono ?_;rintro e X1 ⟨rfl,hB1⟩;have HB1:=Hid.mk_ hB1;clear HC hB1;exact k121
def gQm (w:World)(B:Nat)(a:Option Addr)(len cap:Nat)(A E:Int):Prop:=∀X,Below w.heap.size w X->Calls Tryz.prog 11 #[.pointer (some ⟨B,0,none⟩),.slice a len cap] X fun e X' => e=.returned (.tuple #[.int .i64 A,.int .i64 E])/\Below X.heap.size X X'
def gVa (w:World)(B:Nat)(a:Option Addr)(len cap:Nat)(F:Int->Bool):Prop:=∀X,Below w.heap.size w X->∀p,Calls Tryz.prog 15 #[.pointer (some ⟨B,0,none⟩),.slice a len cap,.int .i64 p,.int .i64 0] X fun e X' => e=.returned (.bool (F p))/\Below X.heap.size X X'
theorem vB {w:World}{B:Nat}{a:Option Addr}{len cap:Nat}{A E:Int}(h:gQm w B a len cap A E)(_hlen:(len:Int)<=9223372036854775807)(p:Int)(X:World)(hX:Below w.heap.size w X) :
  Calls Tryz.prog 64 #[.pointer (some ⟨B,0,none⟩),.slice a len cap,.int .i64 p] X fun e X' => e=.returned (.int .i64 (qC E len p))/\Below X.heap.size X X' := by
 have HC:=h X hX
 clear h hX
 have hcase:(E≠0/\(E != 0)=true/\qC E len p=E)\/(E=0/\p<0/\qC E len p=1)\/(E=0/\¬p<0/\(len:Int)<p/\qC E len p=1)\/(E=0/\¬p<0/\¬(len:Int)<p/\qC E len p=0):=by
  unfold qC
  by_cases hE:E=0
  ·by_cases p0:p<0
   ·exact .inr (.inl ⟨hE,p0,by rw[if_pos hE,if_neg (by rw[jM];omega)]⟩)
   ·by_cases p1:(len:Int)<p
    ·exact .inr (.inr (.inl ⟨hE,p0,p1,by rw[if_pos hE,if_neg (by rw[jM];omega)]⟩))
    ·exact .inr (.inr (.inr ⟨hE,p0,p1,by rw[if_pos hE,if_pos (jM.2 ⟨oo,oo⟩)]⟩))
  ·exact .inl ⟨hE,by simpa using hE,by rw[if_neg hE]⟩
 rcases hcase with ⟨_,b1,hc⟩ | ⟨rfl,p0,hc⟩ | ⟨rfl,p0,p1,hc⟩ | ⟨rfl,p0,p1,hc⟩
 all_goals
  rw[hc];clear hc;go_enter Tryz.func64,Tryz.ntmps64;(go_wp2_with fail);refine HC.mono ?_;rintro e X1 ⟨rfl,hB⟩;have HB:=Hid.mk_ hB;clear HC hB;go_wp2;go_ret;exact⟨rfl,HB.out⟩
theorem k112{p:Prop}(h:p:=by
  (go_wp2_with fail);refine HC.mono ?_;rintro e X1 ⟨rfl,hB⟩;have HB:=Hid.mk_ hB;clear HC hB;go_wp2;go_ret2;exact⟨rfl,HB.out⟩
  ):p:=h
theorem gNg {w:World}{B:Nat}{a:Option Addr}{len cap:Nat}{A E:Int}{F:Int->Bool}(h:gQm w B a len cap A E)(hm:gVa w B a len cap F)(hlen:(len:Int)<=9223372036854775807)(p:Int)(X:World)(hX:Below w.heap.size w X) :
  Calls Tryz.prog 25 #[.pointer (some ⟨B,0,none⟩),.slice a len cap,.int .i64 p] X fun e X' => e=.returned (.tuple #[.bool (gMy F E len p),.int .i64 (qC E len p)])/\Below X.heap.size X X' := by
 have HC:=vB h hlen p X hX
 have HM:=Hid.mk_ (fun (W:World) (hW:Below X.heap.size X W)=>hm W (hX.trans (hW.mono hX.size)) p)
 unfold gMy
 clear h hm hX
 generalize qC E len p=q at *
 by_cases hq:q=0
 ·subst hq
  rw[if_pos rfl];have b0:((0:Int) != 0)=false:=rfl;generalize F p=f at *;go_enter Tryz.func25,Tryz.ntmps25;(go_wp2_with fail);refine HC.mono ?_;rintro e X1 ⟨rfl,hB⟩;have HB:=Hid.mk_ hB;have H2:=HM.out X1 hB;clear HC hB HM;(go_wp2_with fail);refine H2.mono ?_;rintro e X2 ⟨rfl,hB2⟩;have HE:=Hid.mk_ (HB.out.trans (hB2.mono HB.out.size));clear H2 hB2;go_wp2;go_ret2;exact⟨rfl,HE.out⟩
 ·rw[if_neg hq]
  (have b1:(q != 0)=true:=by simpa using hq);clear HM;go_enter Tryz.func25,Tryz.ntmps25;exact k112
def gQk (F:Int->Bool)(n:Nat)(a y:Int)(j:Nat):Prop:=∀k,j=k+1->∀q∈nC n a y k,F q=false
theorem gGl {F:Int->Bool}{n:Nat}{a y:Int}(ha:mS n a=true){j:Nat}(hj:j<=n)(hs:gQk F n a y j){p q:Int}(hp:p=a+y * (j:Int))(hq:q=a - y * (j:Int)) :
  (mS n p=true->F p=true->rT F n a y=(p,0))/\((mS n p=true->F p=false)->mS n q=true->F q=true->rT F n a y=(q,0))/\((mS n p=true->F p=false)->(mS n q=true->F q=false)->gQk F n a y (j+1)):=by
 cases j with
 | zero=>
  obtain rfl:p=a:=by rw[hp];simp
  obtain rfl:q=p:=by rw[hq];simp
  have h0:F q=true->rT F n q y=(q,0):=fun h=>by
   unfold rT nC;rw[List.find?_cons_of_pos h]
  refine⟨fun _ h=>h0 h,fun _ _ h=>h0 h,fun h _ k hk r hr=>?_⟩;(obtain rfl:k=0:=by omega);unfold nC at hr;rw[List.range_zero,List.flatMap_nil,List.mem_singleton] at hr;rw[hr];exact h ha
 | succ k=>
  have hpre:=hs k rfl;(have hp' : a+y * ((k:Int)+1)=p:=by rw[hp];rfl);(have hq' : a - y * ((k:Int)+1)=q:=by rw[hq];rfl);obtain⟨r,hr⟩:=gUj n a y hj;rw[sI] at hr;have hpair:gGd n a y k=[p,q].filter (mS n):=by unfold gGd;rw[hp', hq']
  have stop:∀(pre:List Int) (z:Int),(∃t,gGd n a y k=pre++z::t)->(∀x∈pre,F x=false)->F z=true->rT F n a y=(z,0):=fun pre z ⟨t,ht⟩ h1 h2=>by
   have:(nC n a y n).find? F=some z:=gJk (pre:=nC n a y k++pre) ⟨t++r,by rw[hr,ht];simp⟩ (fun x hx=>by
    rcases List.mem_append.1 hx with h | h
    ·exact hpre x h
    ·exact h1 x h) h2
   unfold rT;rw[this]
  refine⟨fun h1 h2=>stop [] p ⟨[q].filter (mS n),by rw[hpair,List.filter_cons_of_pos h1];rfl⟩ (fun x hx=>by cases hx) h2,fun h1 h2 h3=>?_,fun h1 h2 m hm x hx=>?_⟩
  ·by_cases c:mS n p=true
   ·exact stop [p] q ⟨[],by rw[hpair,List.filter_cons_of_pos c,List.filter_cons_of_pos h2];rfl⟩ (fun x hx=>by rw[List.mem_singleton.1 hx];exact h1 c) h3
   ·exact stop [] q ⟨[],by rw[hpair,List.filter_cons_of_neg c,List.filter_cons_of_pos h2];rfl⟩ (fun x hx=>by cases hx) h3
  ·obtain rfl:m=k+1:=by omega
   rw[sI,hpair] at hx;rcases List.mem_append.1 hx with h | h
   ·exact hpre x h
   ·obtain⟨h3,h4⟩:=List.mem_filter.1 h
    rcases List.mem_cons.1 h3 with rfl | h3
    ·exact h1 h4
    ·obtain rfl:=List.mem_singleton.1 h3
     exact h2 h4
theorem gXa {F:Int->Bool}{n:Nat}{a y:Int}(hs:gQk F n a y (n+1)):rT F n a y=(0,6):=by
 unfold rT
 rw[List.find?_eq_none.2 fun q hq=>by rw[hs n rfl q hq];decide]
theorem k67{p:Prop}(h:p:=by
  (obtain rfl:j=len+1:=by omega);have HE:=Hid.mk_ ((gXa HSN.out).symm.trans HN.out);(have hji:¬((len+1:Nat):Int)<=(len:Int):=by omega);clear HM;go_wp2;go_ret2
  have:=HE.out
  cases this;exact⟨rfl,HB.out⟩
  ):p:=h
theorem k65{p:Prop}(h:p:=by
  have HS3:=Hid.mk_ (HR3.out (fun h=>absurd h c1) (fun h=>absurd h c2));clear HM1 HM2 HR1 HR2 HR3 HM;have HB9:=HB;go_wp2
  go_roundg (len+1 - j)
  case measure=>omega
  case rel=>exact⟨j+1,oo,oo,by go_num,HS3.out,HB9.out⟩
  ):p:=h
theorem k51{p:Prop}(h:p:=by
  have HE:=Hid.mk_ ((HR1.out c1 hF1).symm.trans HN.out);have H1:=HM1.out;rw[hF1] at H1;have HH1:=Hid.mk_ H1;clear H1 HM1 HM2 HR1 HR2 HR3 HM;(go_wp2_with fail);refine(HH1.out wr HB.out).mono ?_;rintro e X1 ⟨rfl,hX1⟩;have HB9:=Hid.mk_ (HB.out.trans (hX1.mono HB.out.size));clear hX1;go_wp2;go_ret2
  have:=HE.out
  cases this;exact⟨rfl,HB9.out⟩
  ):p:=h
theorem k50{p:Prop}(h:p:=by
  have HS3:=Hid.mk_ (HR3.out (fun _=>hF1) (fun h=>absurd h c2));clear HM1 HM2 HR1 HR2 HR3 HM;(go_wp2_with fail);refine(HH1.out wr HB.out).mono ?_;rintro e X1 ⟨rfl,hX1⟩;have HB9:=Hid.mk_ (HB.out.trans (hX1.mono HB.out.size));clear hX1;go_wp2
  go_roundg (len+1 - j)
  case measure=>omega
  case rel=>exact⟨j+1,oo,oo,by go_num,HS3.out,HB9.out⟩
  ):p:=h
theorem k49{p:Prop}(h:p:=by
  have HE:=Hid.mk_ ((HR2.out (fun h=>absurd h c1) c2 hF2).symm.trans HN.out);have H2:=HM2.out;rw[hF2] at H2;have HH2:=Hid.mk_ H2;clear H2 HM1 HM2 HR1 HR2 HR3 HM;(go_wp2_with fail);refine(HH2.out wr HB.out).mono ?_;rintro e X2 ⟨rfl,hX2⟩;have HB9:=Hid.mk_ (HB.out.trans (hX2.mono HB.out.size));clear hX2;go_wp2;go_ret2
  have:=HE.out
  cases this;exact⟨rfl,HB9.out⟩
  ):p:=h
theorem k46{p:Prop}(h:p:=by
  have HS3:=Hid.mk_ (HR3.out (fun h=>absurd h c1) (fun _=>hF2));have H2:=HM2.out;rw[hF2] at H2;have HH2:=Hid.mk_ H2;clear H2 HM1 HM2 HR1 HR2 HR3 HM;(go_wp2_with fail);refine(HH2.out wr HB.out).mono ?_;rintro e X2 ⟨rfl,hX2⟩;have HB9:=Hid.mk_ (HB.out.trans (hX2.mono HB.out.size));clear hX2;go_wp2
  go_roundg (len+1 - j)
  case measure=>omega
  case rel=>exact⟨j+1,oo,oo,by go_num,HS3.out,HB9.out⟩
  ):p:=h
theorem k34{p:Prop}(h:p:=by
  have HE:=Hid.mk_ ((HR2.out (fun _=>hF1) c2 hF2).symm.trans HN.out);have H2:=HM2.out;rw[hF2] at H2;have HH2:=Hid.mk_ H2;clear H2 HM1 HM2 HR1 HR2 HR3 HM;(go_wp2_with fail);refine(HH1.out wr HB.out).mono ?_;rintro e X1 ⟨rfl,hX1⟩;have HB1:=Hid.mk_ (HB.out.trans (hX1.mono HB.out.size));clear hX1;(go_wp2_with fail);refine(HH2.out X1 HB1.out).mono ?_;rintro e X2 ⟨rfl,hX2⟩;have HB9:=Hid.mk_ (HB1.out.trans (hX2.mono HB1.out.size));clear hX2;go_wp2;go_ret2
  have:=HE.out
  cases this;exact⟨rfl,HB9.out⟩
  ):p:=h
theorem k29{p:Prop}(h:p:=by
  have HS3:=Hid.mk_ (HR3.out (fun _=>hF1) (fun _=>hF2));have H2:=HM2.out;rw[hF2] at H2;have HH2:=Hid.mk_ H2;clear H2 HM1 HM2 HR1 HR2 HR3 HM;(go_wp2_with fail);refine(HH1.out wr HB.out).mono ?_;rintro e X1 ⟨rfl,hX1⟩;have HB1:=Hid.mk_ (HB.out.trans (hX1.mono HB.out.size));clear hX1;(go_wp2_with fail);refine(HH2.out X1 HB1.out).mono ?_;rintro e X2 ⟨rfl,hX2⟩;have HB9:=Hid.mk_ (HB1.out.trans (hX2.mono HB1.out.size));clear hX2;go_wp2
  go_roundg (len+1 - j)
  case measure=>omega
  case rel=>exact⟨j+1,oo,oo,by go_num,HS3.out,HB9.out⟩
  ):p:=h
theorem gNp {w:World}{B:Nat}{a:Option Addr}{len cap:Nat}{A E:Int}{F:Int->Bool}(h:gQm w B a len cap A E)(hm:gVa w B a len cap F)(hlen:(len:Int)<=9223372036854775807)(hE:E=0->len<=2048)(p s:Int) :
  Calls Tryz.prog 27 #[.pointer (some ⟨B,0,none⟩),.slice a len cap,.int .i64 p,.int .i64 s] w fun e X' => e=.returned (.tuple #[.int .i64 (zA F E len p s).1,.int .i64 (zA F E len p s).2])/\Below w.heap.size w X' := by
 have HC:=vB h hlen p w (zzd _ _)
 have HM:=Hid.mk_ (fun (X:World) (hX:Below w.heap.size w X) q=>hm X hX q)
 have hz:qC E len p=0->0<=p/\p<=(len:Int)/\len<=2048:=fun hc=>by
  obtain⟨h1,h2⟩:=gCv.1 hc
  have:=jM.1 h2
  exact⟨this.1,this.2,hE h1⟩
 unfold zA
 clear h hm hE
 generalize qC E len p=c at *
 by_cases hc:c=0
 ·subst hc
  rw[if_pos rfl];obtain⟨p0,p1,h48⟩:=hz rfl;have hpl:mS len p=true:=jM.2 ⟨p0,p1⟩;(have hli:(len:Int)<=2048:=by omega);have b0:((0:Int) != 0)=false:=rfl;obtain⟨y,hy,hyy⟩:∃y,tM s=y/\((y=1/\0<=s)\/(y = -1/\s<0)):=⟨tM s,rfl,by unfold tM;split<;>omega⟩;rw[hy];clear hz hy;rcases hyy with ⟨rfl,hs⟩ | ⟨rfl,hs⟩
  ·obtain⟨N1,N2,hN⟩:∃N1 N2,rT F len p 1=(N1,N2):=⟨_,_,rfl⟩
   rw[hN];have HN:=Hid.mk_ hN;clear hN;go_enter Tryz.func27,Tryz.ntmps27;(go_wp2_with fail);refine HC.mono ?_;rintro e X0 ⟨rfl,hX0⟩;have HX0:=Hid.mk_ hX0;clear HC hX0;go_wp2
   go_loopg [11] (len+2) (fun gk u wr=>∃j:Nat,j<=len+1/\len+1<j+gk/\u=.int .i64 (j:Int)/\gQk F len p 1 j/\Below w.heap.size w wr)
   case atStart=>exact⟨0,zzn _,oo,rfl,fun k hk=>by omega,HX0.out⟩
   case round=>
    obtain⟨j,hj,hgk,rfl,hsn,hB⟩:=hrel;have HSN:=Hid.mk_ hsn;have HB:=Hid.mk_ hB;clear hsn hB HX0
    by_cases hlt:j<=len
    ·have hji:(j:Int)<=(len:Int):=by omega
     obtain⟨r1,r2,r3⟩:=gGl hpl hlt HSN.out (p:=p+(j:Int)) (q:=p - (j:Int)) oo oo;have HR1:=Hid.mk_ r1;have HR2:=Hid.mk_ r2;have HR3:=Hid.mk_ r3;have HM1:=Hid.mk_ (fun (X:World) (hX:Below w.heap.size w X)=>HM.out X hX (p+(j:Int)));have HM2:=Hid.mk_ (fun (X:World) (hX:Below w.heap.size w X)=>HM.out X hX (p - (j:Int)));clear r1 r2 r3 HSN
     by_cases c1:mS len (p+(j:Int))=true
     ·have c1i:=jM.1 c1
      (have d1:p+(j:Int)<=(len:Int):=by omega);cases hF1:F (p+(j:Int)) with
      | true=>
       exact k51
      | false=>
       have H1:=HM1.out;rw[hF1] at H1;have HH1:=Hid.mk_ H1;clear H1
       by_cases c2:mS len (p - (j:Int))=true
       ·have c2i:=jM.1 c2
        (have d2:0<=p - (j:Int):=by omega);cases hF2:F (p - (j:Int)) with
        | true=>
         exact k34
        | false=>
         exact k29
       ·have d2:¬0<=p - (j:Int):=fun h=>c2 (jM.2 ⟨h,oo⟩)
        exact k50
     ·have d1:¬p+(j:Int)<=(len:Int):=fun h=>c1 (jM.2 ⟨oo,h⟩)
      by_cases c2:mS len (p - (j:Int))=true
      ·have c2i:=jM.1 c2
       (have d2:0<=p - (j:Int):=by omega);cases hF2:F (p - (j:Int)) with
       | true=>
        exact k49
       | false=>
        exact k46
      ·have d2:¬0<=p - (j:Int):=fun h=>c2 (jM.2 ⟨h,oo⟩)
       exact k65
    ·exact k67
  ·obtain⟨N1,N2,hN⟩:∃N1 N2,rT F len p (-1)=(N1,N2):=⟨_,_,rfl⟩
   rw[hN];have HN:=Hid.mk_ hN;clear hN;go_enter Tryz.func27,Tryz.ntmps27;(go_wp2_with fail);refine HC.mono ?_;rintro e X0 ⟨rfl,hX0⟩;have HX0:=Hid.mk_ hX0;clear HC hX0;go_wp2
   go_loopg [11] (len+2) (fun gk u wr=>∃j:Nat,j<=len+1/\len+1<j+gk/\u=.int .i64 (j:Int)/\gQk F len p (-1) j/\Below w.heap.size w wr)
   case atStart=>exact⟨0,zzn _,oo,rfl,fun k hk=>by omega,HX0.out⟩
   case round=>
    obtain⟨j,hj,hgk,rfl,hsn,hB⟩:=hrel;have HSN:=Hid.mk_ hsn;have HB:=Hid.mk_ hB;clear hsn hB HX0
    by_cases hlt:j<=len
    ·have hji:(j:Int)<=(len:Int):=by omega
     obtain⟨r1,r2,r3⟩:=gGl hpl hlt HSN.out (p:=p - (j:Int)) (q:=p+(j:Int)) oo oo;have HR1:=Hid.mk_ r1;have HR2:=Hid.mk_ r2;have HR3:=Hid.mk_ r3;have HM1:=Hid.mk_ (fun (X:World) (hX:Below w.heap.size w X)=>HM.out X hX (p - (j:Int)));have HM2:=Hid.mk_ (fun (X:World) (hX:Below w.heap.size w X)=>HM.out X hX (p+(j:Int)));clear r1 r2 r3 HSN
     by_cases c1:mS len (p - (j:Int))=true
     ·have c1i:=jM.1 c1
      (have d1:0<=p - (j:Int):=by omega);cases hF1:F (p - (j:Int)) with
      | true=>
       exact k51
      | false=>
       have H1:=HM1.out;rw[hF1] at H1;have HH1:=Hid.mk_ H1;clear H1
       by_cases c2:mS len (p+(j:Int))=true
       ·have c2i:=jM.1 c2
        (have d2:p+(j:Int)<=(len:Int):=by omega);cases hF2:F (p+(j:Int)) with
        | true=>
         exact k34
        | false=>
         exact k29
       ·have d2:¬p+(j:Int)<=(len:Int):=fun h=>c2 (jM.2 ⟨oo,h⟩)
        exact k50
     ·have d1:¬0<=p - (j:Int):=fun h=>c1 (jM.2 ⟨h,oo⟩)
      by_cases c2:mS len (p+(j:Int))=true
      ·have c2i:=jM.1 c2
       (have d2:p+(j:Int)<=(len:Int):=by omega);cases hF2:F (p+(j:Int)) with
       | true=>
        exact k49
       | false=>
        exact k46
      ·have d2:¬p+(j:Int)<=(len:Int):=fun h=>c2 (jM.2 ⟨oo,h⟩)
       exact k65
    ·exact k67
 ·rw[if_neg hc]
  (have b1:(c != 0)=true:=by simpa using hc);clear HM hz;go_enter Tryz.func27,Tryz.ntmps27;exact k112
theorem gIw {F:Int->Bool}{n:Nat}{a y b:Int}{j:Nat}{o r:Int}(hj:j<=rC n a y)(h:(sD y j a).foldl (tS F y) (a,b)=(o,r))(hd:r=0\/j=rC n a y):zC F n a y b=o:=by
 unfold zC hBe
 rcases hd with rfl | rfl
 ·obtain⟨k,hk⟩:∃k,rC n a y=j+k:=⟨rC n a y - j,oo⟩
  rw[hk,gBr,List.foldl_append,h,gCu]
 ·rw[h]
theorem gUp {F:Int->Bool}{a y b:Int}{j:Nat}{o r:Int}(h:(sD y j a).foldl (tS F y) (a,b)=(o,r))(hr:r≠0){P:Int}(hP:P=a+y * ((j:Int)+1)):(sD y (j+1) a).foldl (tS F y) (a,b)=if F P=true then (P,r - y) else (o,r):=by
 rw[gJp,List.foldl_append,h,<-hP,List.foldl_cons,List.foldl_nil]
 unfold tS
 rw[if_neg hr]
theorem k117{p:Prop}(h:p:=by
  obtain⟨rfl,rfl,rfl,rfl,hBt⟩:=hrel;have HBT:=Hid.mk_ hBt;clear hBt;go_wp2;go_ret2;exact⟨by rw[HE.out];rfl,HBT.out⟩
  ):p:=h
theorem k48{p:Prop}(h:p:=by
  rw[hF] at hon H1;rw[if_neg (by decide)] at hon;have HON:=Hid.mk_ hon;clear hon hF;(go_wp2_with fail);refine H1.mono ?_;rintro e X1 ⟨rfl,hX1⟩;have HB9:=Hid.mk_ (HB.out.trans (hX1.mono HB.out.size));clear H1 hX1;go_wp2
  go_roundg (K+1 - j)
  case measure=>omega
  case rel=>exact⟨j+1,o,r,oo,oo,rfl,rfl,by first | go_num | (congr 1;omega),HON.out,oo,HB9.out⟩
  ):p:=h
theorem gNq {w:World}{B:Nat}{a:Option Addr}{len cap:Nat}{A E:Int}{F:Int->Bool}(h:gQm w B a len cap A E)(hm:gVa w B a len cap F)(hlen:(len:Int)<=9223372036854775807)(hE:E=0->len<=2048)(p b:Int)(hb1 : -9223372036854775808<=b)(hb2:b<=9223372036854775807) :
  Calls Tryz.prog 29 #[.pointer (some ⟨B,0,none⟩),.slice a len cap,.int .i64 p,.int .i64 b] w fun e X' => e=.returned (.tuple #[.int .i64 (gDm F E len p b).1,.int .i64 (gDm F E len p b).2])/\Below w.heap.size w X' := by
 have HC:=vB h hlen p w (zzd _ _)
 have HM:=Hid.mk_ (fun (X:World) (hX:Below w.heap.size w X) q=>hm X hX q)
 have hz:qC E len p=0->0<=p/\p<=(len:Int)/\len<=2048:=fun hc=>by
  obtain⟨h1,h2⟩:=gCv.1 hc
  have:=jM.1 h2
  exact⟨this.1,this.2,hE h1⟩
 unfold gDm
 clear h hm hE
 generalize qC E len p=c at *
 by_cases hc:c=0
 ·subst hc
  rw[if_pos rfl];obtain⟨p0,p1,h48⟩:=hz rfl;(have hli:(len:Int)<=2048:=by omega);have b0:((0:Int) != 0)=false:=rfl;unfold hBf;clear hz;rcases Int.lt_trichotomy b 0 with hb | hb | hb
  ·have hw:tM b = -1:=by unfold tM;rw[if_pos hb]
   rw[hw];obtain⟨K,hK,hKi⟩:∃K,rC len p (-1)=K/\(K:Int)=p:=⟨_,rfl,by unfold rC;rw[if_pos (by decide)];omega⟩;obtain⟨N,hN⟩:∃N,zC F len p (-1) b=N:=⟨_,rfl⟩
   have HD:Hid (∀(j:Nat) (o r:Int),j<=K->(sD (-1) j p).foldl (tS F (-1)) (p,b)=(o,r)->r=0\/j=K->o=N):=fun j o r hj hs hd=>by
    rw[<-hN];exact(gIw (by rw[hK];exact hj) hs (by rw[hK];exact hd)).symm
   rw[hN];clear hN hK hw;go_enter Tryz.func29,Tryz.ntmps29;(go_wp2_with fail);refine HC.mono ?_;rintro e X0 ⟨rfl,hX0⟩;have HX0:=Hid.mk_ hX0;clear HC hX0;go_wp2
   go_loopg [3,11,12] 1 (fun gk u3 u11 u12 wr=>gk=1/\u3=.int .i64 (b)/\u11=.int .i64 (p)/\u12=.int .i64 (p+1)/\Below w.heap.size w wr)
   case atStart=>exact⟨rfl,by first | rfl | go_num,by first | rfl | go_num,by first | rfl | go_num,HX0.out⟩
   case round=>
    obtain⟨rfl,rfl,rfl,rfl,hBt⟩:=hrel;have HBT:=Hid.mk_ hBt;clear hBt;go_wp2
    go_loopg [3,11,13] (K+2) (fun gk u3 u11 u12 wr=>∃(j:Nat) (o r:Int),j<=K/\K+1<j+gk/\u3=.int .i64 r/\u11=.int .i64 o/\u12=.int .i64 (p - 1 - (j:Int))/\(sD (-1) j p).foldl (tS F (-1)) (p,b)=(o,r)/\(b<=r/\r<=0)/\Below w.heap.size w wr)
    case atStart=>exact⟨0,p,b,zzn _,oo,rfl,rfl,by first | go_num | (congr 1;omega),rfl,oo,HBT.out⟩
    case round=>
     obtain⟨j,o,r,hj,hgk,rfl,rfl,rfl,hst,hrb,hB⟩:=hrel;have HST:=Hid.mk_ hst;have HB:=Hid.mk_ hB;clear hst hB HBT;have hji:(j:Int)<=(K:Int):=by omega
     by_cases hr:r=0
     ·subst hr
      have HE:=Hid.mk_ (HD.out j o 0 hj HST.out (.inl rfl));clear HM HD HST;have HBT:=HB;go_wp2;go_ret2;exact⟨by rw[HE.out];rfl,HBT.out⟩
     ·by_cases hlt:j<K
      ·have hP:0<=p - 1 - (j:Int):=by omega
       (have hr0:r<0:=by omega);have hon:=gUp HST.out hr (P:=p - 1 - (j:Int)) oo;have H1:=HM.out wr HB.out (p - 1 - (j:Int));clear HM HST;cases hF:F (p - 1 - (j:Int)) with
       | true=>
        rw[hF] at hon H1;rw[if_pos rfl] at hon;have HON:=Hid.mk_ hon;clear hon hF;(go_wp2_with fail);refine H1.mono ?_;rintro e X1 ⟨rfl,hX1⟩;have HB9:=Hid.mk_ (HB.out.trans (hX1.mono HB.out.size));clear H1 hX1;go_wp2
        go_roundg (K+1 - j)
        case measure=>omega
        case rel=>exact⟨j+1,p - 1 - (j:Int),r+1,oo,oo,by first | rfl | go_num,rfl,by first | go_num | (congr 1;omega),by rw[HON.out];rfl,oo,HB9.out⟩
       | false=>
        exact k48
      ·obtain rfl:j=K:=by omega
       (have hP:¬0<=p - 1 - (j:Int):=by omega);(have hr0:r<0:=by omega);have HE:=Hid.mk_ (HD.out j o r (zzb _) HST.out (.inr rfl));clear HM HD HST;have HBT:=HB;go_wp2;go_ret2;exact⟨by rw[HE.out];rfl,HBT.out⟩
  ·subst hb
   have hw:zC F len p (tM 0) 0=p:=gSm F len p _;rw[hw];clear hw HM;go_enter Tryz.func29,Tryz.ntmps29;(go_wp2_with fail);refine HC.mono ?_;rintro e X0 ⟨rfl,hX0⟩;have HX0:=Hid.mk_ hX0;clear HC hX0;go_wp2
   go_loopg [3,11,12] 1 (fun gk u3 u11 u12 wr=>gk=1/\u3=.int .i64 (0)/\u11=.int .i64 (p)/\u12=.int .i64 (p+1)/\Below w.heap.size w wr)
   case atStart=>exact⟨rfl,by first | rfl | go_num,by first | rfl | go_num,by first | rfl | go_num,HX0.out⟩
   case round=>
    obtain⟨rfl,rfl,rfl,rfl,hBt⟩:=hrel;have HBT:=Hid.mk_ hBt;clear hBt;go_wp2
    go_loopg [3,11,13] 1 (fun gk u3 u11 u12 wr=>gk=1/\u3=.int .i64 (0)/\u11=.int .i64 (p)/\u12=.int .i64 (p - 1)/\Below w.heap.size w wr)
    case atStart=>exact⟨rfl,by first | rfl | go_num,by first | rfl | go_num,by first | rfl | go_num,HBT.out⟩
    case round=>
     obtain⟨rfl,rfl,rfl,rfl,hBt⟩:=hrel;have HBT:=Hid.mk_ hBt;clear hBt;go_wp2;go_ret2;exact⟨rfl,HBT.out⟩
  ·have hw:tM b=1:=by unfold tM;rw[if_neg oo]
   rw[hw];obtain⟨K,hK,hKi⟩:∃K,rC len p (1)=K/\(K:Int)=(len:Int) - p:=⟨_,rfl,by unfold rC;rw[if_neg (by decide)];omega⟩;obtain⟨N,hN⟩:∃N,zC F len p (1) b=N:=⟨_,rfl⟩
   have HD:Hid (∀(j:Nat) (o r:Int),j<=K->(sD (1) j p).foldl (tS F (1)) (p,b)=(o,r)->r=0\/j=K->o=N):=fun j o r hj hs hd=>by
    rw[<-hN];exact(gIw (by rw[hK];exact hj) hs (by rw[hK];exact hd)).symm
   rw[hN];clear hN hK hw;go_enter Tryz.func29,Tryz.ntmps29;(go_wp2_with fail);refine HC.mono ?_;rintro e X0 ⟨rfl,hX0⟩;have HX0:=Hid.mk_ hX0;clear HC hX0;go_wp2
   go_loopg [3,11,12] (K+2) (fun gk u3 u11 u12 wr=>∃(j:Nat) (o r:Int),j<=K/\K+1<j+gk/\u3=.int .i64 r/\u11=.int .i64 o/\u12=.int .i64 (p+1+(j:Int))/\(sD (1) j p).foldl (tS F (1)) (p,b)=(o,r)/\(0<=r/\r<=b)/\Below w.heap.size w wr)
   case atStart=>exact⟨0,p,b,zzn _,oo,rfl,rfl,by first | go_num | (congr 1;omega),rfl,oo,HX0.out⟩
   case round=>
    obtain⟨j,o,r,hj,hgk,rfl,rfl,rfl,hst,hrb,hB⟩:=hrel;have HST:=Hid.mk_ hst;have HB:=Hid.mk_ hB;clear hst hB HX0;have hji:(j:Int)<=(K:Int):=by omega
    by_cases hr:r=0
    ·subst hr
     have HE:=Hid.mk_ (HD.out j o 0 hj HST.out (.inl rfl));clear HM HD HST;go_wp2
     go_loopg [3,11,13] 1 (fun gk u3 u11 u12 wr=>gk=1/\u3=.int .i64 (0)/\u11=.int .i64 (o)/\u12=.int .i64 (p - 1)/\Below w.heap.size w wr)
     case atStart=>exact⟨rfl,by first | rfl | go_num,by first | rfl | go_num,by first | rfl | go_num,HB.out⟩
     case round=>
      exact k117
    ·by_cases hlt:j<K
     ·have hP:p+1+(j:Int)<=(len:Int):=by omega
      (have hr0:0<r:=by omega);have hon:=gUp HST.out hr (P:=p+1+(j:Int)) oo;have H1:=HM.out wr HB.out (p+1+(j:Int));clear HM HST;cases hF:F (p+1+(j:Int)) with
      | true=>
       rw[hF] at hon H1;rw[if_pos rfl] at hon;have HON:=Hid.mk_ hon;clear hon hF;(go_wp2_with fail);refine H1.mono ?_;rintro e X1 ⟨rfl,hX1⟩;have HB9:=Hid.mk_ (HB.out.trans (hX1.mono HB.out.size));clear H1 hX1;go_wp2
       go_roundg (K+1 - j)
       case measure=>omega
       case rel=>exact⟨j+1,p+1+(j:Int),r - 1,oo,oo,by first | rfl | go_num,rfl,by first | go_num | (congr 1;omega),by exact HON.out,oo,HB9.out⟩
      | false=>
       exact k48
     ·obtain rfl:j=K:=by omega
      (have hP:¬p+1+(j:Int)<=(len:Int):=by omega);(have hr0:0<r:=by omega);have HE:=Hid.mk_ (HD.out j o r (zzb _) HST.out (.inr rfl));clear HM HD HST;go_wp2
      go_loopg [3,11,13] 1 (fun gk u3 u11 u12 wr=>gk=1/\u3=.int .i64 (r)/\u11=.int .i64 (o)/\u12=.int .i64 (p - 1)/\Below w.heap.size w wr)
      case atStart=>exact⟨rfl,by first | rfl | go_num,by first | rfl | go_num,by first | rfl | go_num,HB.out⟩
      case round=>
       exact k117
 ·rw[if_neg hc]
  (have b1:(c != 0)=true:=by simpa using hc);clear HM hz;go_enter Tryz.func29,Tryz.ntmps29;exact k112
end Go.Proofs.YtjkebndkeamijaaGreatDoor
