/-
  PROVED HERE: schema's fillBehind: one of a type, with what must be in it, behind tokens.
-/
import Derived.Test.YtjkebndkeamijaaGreatDoorCF35
set_option maxRecDepth 100000
set_option maxHeartbeats 800000
namespace Go.Proofs.YtjkebndkeamijaaGreatDoor
open Go.RowKit
theorem ints_grown {W W' : World}{b n:Nat}{v v2:Value}{xs:List Value}{base m:Nat}{ys:List Value}(h:W.ownsRow b 3 1 v n xs)(h2:W.ownsRow base 58 4 v2 m ys)(hg:W.grownBy W' v2.ownBlock):W'.ownsRow b 3 1 v n xs:=by
 refine owns_same h fun k hk=>?_
 obtain⟨hl,cur,hcur⟩:=owns_lt h hk
 refine hg.block k hl (fun e=>?_)
 obtain⟨_,cur', hcur'⟩:=owns_lt h2 e.symm
 rw[hcur'] at hcur
 injection hcur with hk
 injection hk with _ h2 _
 exact absurd h2 (by decide)
def Asks (gs:List Grp)(ts:List (DataW Unit))(ask:Nat->Option (List Int)):Prop:=∀(i:Nat) (t:DataW Unit),ts[i]? = some t->(ask i=none->¬PreD gs 200 t [])/\∀xs,ask i=some xs->PreD gs 200 t []/\BestD gs 200 t [] xs
theorem fillbehind_step {B g c0 ng nc:Nat}{ks:List KindD}{gs:List Grp}{ts:List (DataW Unit)}(w0:World)(h:SchAt w0 B g c0 ng nc ks gs ts)(h0:0<ks.length)(hT:Tab w0)(hw0:0<w0.heap.size)(sp:Nat->SpecD)(hsp:∀i,specOf ks i=sp i)(ask:Nat->Option (List Int))(hask:Asks gs ts ask)(n:Nat)(hn:n=ks.length)(f:Nat)(hf:f<=32)
  (ih:f≠0->∀(w:World) (a:Option Addr) (c:Nat) (l:List Tok) (t:Int),Below w0.heap.size w0 w->w.ownsRow w0.heap.size 58 4 (.slice a l.length c) l.length (flat l)->l.length<=2048->Calls Tryz.prog 61 #[.pointer (some ⟨B,0,none⟩),.slice a l.length c,.int .i64 t,.int .i64 ((32 - (f - 1):Nat):Int)] w fun e w' => FilledT w0.heap.size (.slice a l.length c) w0 w w' e (fillS sp n ask f l t))
  (w:World) (a:Option Addr) (c:Nat) (l:List Tok) (tt:Int) (hB:Below w0.heap.size w0 w) (hown:w.ownsRow w0.heap.size 58 4 (.slice a l.length c) l.length (flat l)) (hlen:l.length<=2048):Calls Tryz.prog 61 #[.pointer (some ⟨B,0,none⟩),.slice a l.length c,.int .i64 tt,.int .i64 ((32 - f:Nat):Int)] w fun e w' => FilledT w0.heap.size (.slice a l.length c) w0 w w' e (fillS sp n ask (f+1) l tt):=by
 have HTO:=typeof_calls w (h.below hB) h0 tt
 by_cases hin:1<=tt/\tt<ks.length
 ·rw[if_pos hin] at HTO
  obtain⟨t,rfl⟩:∃t:Nat,tt=(t:Int):=⟨tt.toNat,oo⟩;rw[Int.toNat_natCast] at HTO;obtain⟨x,hx⟩:∃x,ks[t]? = some x:=⟨_,zze oo⟩;(have hspx:x.1=sp t:=by rw[<-hsp t];exact(specOf_some hx).symm);(have HGR:Hid (∀X,Below w.heap.size w X->w.grownBy X (Value.slice a l.length c).ownBlock):=fun X hX=>grown_any _ hX);have HBB:=Hid.mk_ hB;(have HOWN:Hid (∀X,Below w.heap.size w X->X.ownsRow w0.heap.size 58 4 (.slice a l.length c) l.length (flat l)):=fun X hX=>owns_same hown fun k hk=>hX.block k (owns_lt hown hk).1);(have HADD:Hid (∀X,Below w.heap.size w X->∀y:Tok,Calls Tryz.prog 95 #[.slice a l.length c,tokV y] X fun e w' => FilledT w0.heap.size (.slice a l.length c) w0 X w' e (addD l y)):=fun X hX y=>added_calls w0.heap.size w0 X (hB.trans (hX.mono hB.size)) a c l (owns_same hown fun k hk=>hX.block k (owns_lt hown hk).1) hlen (Nat.le_trans hB.size hX.size) y);have HLEN:=Hid.mk_ hlen;have HIH:=Hid.mk_ ih
  have HSPX:Hid (∀X,Below w.heap.size w X->X.cell? ⟨g,t * 10,none⟩=some (.string (sp t).name)/\X.cell? ⟨g,t * 10+1,none⟩=some (.string (sp t).expr)/\X.cell? ⟨g,t * 10+2,none⟩=some (.bool (sp t).leaf)/\X.cell? ⟨g,t * 10+3,none⟩=some (.int .i64 (sp t).marks)/\X.cell? ⟨g,t * 10+4,none⟩=some (.int .i64 (sp t).least)/\True):=fun X hX=>by
   obtain⟨⟨h1,h2,h3,h4,h5,_,_⟩,_⟩:=(h.below (hB.trans (hX.mono hB.size))).kinds t x hx;rw[hspx] at h1 h2 h3 h4 h5;exact⟨h1,h2,h3,h4,h5,trivial⟩
  have hfs:fillS sp n ask (f+1) l (t:Int)=if (sp t).leaf=true then addD l ⟨3,(t:Int),(sp t).least,0⟩ else match ask t with | none=>none | some ws=>if f=0 then none else match addD l ⟨1,(t:Int),(sp t).least,0⟩ with | none=>none | some l1=>match fillL (fun l t=>fillS sp n ask f l t) ws l1 with | none=>none | some l2=>addD l2 ⟨2,0,0,0⟩:=by
   rw[fillS,if_pos (by rw[hn];exact hin),Int.toNat_natCast]<;>rfl
  obtain⟨p0,p1,p2,p3,p4,_⟩:=HSPX.out w (zzd _ _)
  by_cases hleaf:(sp t).leaf=true
  ·rw[if_pos hleaf] at hfs
   rw[hleaf] at p2;have HAD:=HADD.out w (zzd _ _) ⟨3,(t:Int),(sp t).least,0⟩;unfold tokV at HAD;dsimp only at HAD;have HRR:=Hid.mk_ hfs;obtain⟨RR,hRR⟩:∃RR,addD l ⟨3,(t:Int),(sp t).least,0⟩=RR:=⟨_,rfl⟩;rw[hRR] at HAD;have HQ9:=Hid.mk_ hRR;clear hRR;clear h hT hsp hask hB hown hlen ih hx hspx hfs hin HADD HIH HOWN HSPX;go_enter Tryz.func61,Tryz.ntmps61;(go_wp2_with fail);refine HTO.mono ?_;rintro e W ⟨rfl,rfl⟩;(go_wp2_with fail);refine HAD.mono ?_;intro e W9 hres;cases RR with
   | none=>
    obtain⟨hg8,hB8,rfl⟩:=hres;have HN:Hid (W.grownBy W9 (Value.slice a l.length c).ownBlock/\Below w0.heap.size w0 W9):=⟨hg8,hB8⟩;clear hg8 hB8 HAD;go_wp2;go_ret2;rw[HRR.out,HQ9.out];exact⟨HN.out.1,HN.out.2,rfl⟩
   | some l9=>
    obtain⟨hg8,hB8,a8,c8,rfl,hown8,hheir8⟩:=hres;have HN:Hid (W.grownBy W9 (Value.slice a l.length c).ownBlock/\Below w0.heap.size w0 W9/\W9.ownsRow w0.heap.size 58 4 (.slice a8 l9.length c8) l9.length (flat l9)/\Heir W (.slice a l.length c) (.slice a8 l9.length c8)):=⟨hg8,hB8,hown8,hheir8⟩;clear hg8 hB8 hown8 hheir8 HAD;go_wp2;go_ret2;rw[HRR.out,HQ9.out];exact⟨HN.out.1,HN.out.2.1,a8,c8,rfl,HN.out.2.2⟩
  ·have hleaf' : (sp t).leaf=false:=by simpa using hleaf
   rw[if_neg hleaf] at hfs;rw[hleaf'] at p2;(have HRN:Hid (ask t=none->fillS sp n ask (f+1) l (t:Int)=none):=fun e=>by rw[hfs,e]);(have HRZ:Hid (f=0->∀ws,ask t=some ws->fillS sp n ask (f+1) l (t:Int)=none):=fun e ws e2=>by rw[hfs,e2];dsimp only;rw[if_pos e]);(have HRA:Hid (f≠0->∀ws,ask t=some ws->addD l ⟨1,(t:Int),(sp t).least,0⟩=none->fillS sp n ask (f+1) l (t:Int)=none):=fun e ws e2 e3=>by rw[hfs,e2];dsimp only;rw[if_neg e,e3]);(have HRB:Hid (f≠0->∀ws,ask t=some ws->∀l1,addD l ⟨1,(t:Int),(sp t).least,0⟩=some l1->fillS sp n ask (f+1) l (t:Int)=match fillL (fun l t=>fillS sp n ask f l t) ws l1 with | none=>none | some l2=>addD l2 ⟨2,0,0,0⟩):=fun e ws e2 l1 e3=>by rw[hfs,e2];dsimp only;rw[if_neg e,e3]);obtain⟨tr,htr⟩:∃tr,ts[t]? = some tr:=⟨_,zze (by have:=h.len;omega)⟩;obtain⟨⟨xs0,tk,tn,ta,tl,tc⟩,hxx⟩:∃y,x=y:=⟨_,rfl⟩;subst hxx;obtain⟨gl,hgl⟩:∃gl,gl=gs.length:=⟨_,rfl⟩
   have HTC:Hid (∀X,Below w.heap.size w X->X.cell? ⟨g,t * 10+7,none⟩=some (.int .i64 tk)/\X.cell? ⟨g,t * 10+7+1,none⟩=some (.string tn)/\X.cell? ⟨g,t * 10+7+2,none⟩=some (.slice ta tl tc)/\X.cell? ⟨B,1,none⟩=some (.slice (some ⟨ng,0,none⟩) gl nc)):=fun X hX=>by
    have hX0:=hB.trans (hX.mono hB.size);obtain⟨_,h2,h3,h4⟩:=(h.below hX0).kinds t _ hx;exact⟨h2,h3,h4,by rw[hgl];exact(h.cells X hX0).2⟩
   have HRF:Hid (∀X,Below w.heap.size w X->Calls Tryz.prog 96 #[.agg #[.int .i64 tk,.string tn,.slice ta tl tc],.slice (some ⟨ng,0,none⟩) gl nc,.slice none 0 0] X fun e w' => ∃(a6:Option Addr) (c6:Nat) (ws:List Int) (ok6:Bool),e=.returned (.tuple #[.slice a6 ws.length c6,.bool ok6])/\(w'.ownsRow 0 3 1 (.slice a6 ws.length c6) ws.length (intsV ws)/\ws.length<=300)/\((ok6=true->ask t=some ws)/\(ok6=false->ask t=none))/\Below X.heap.size X w'):=fun X hX=>by
    have hX0:=hB.trans (hX.mono hB.size);obtain⟨hEx,hnm,hck⟩:=(h.below hX0).trees t _ tr hx htr;rw[hgl];refine(fill_calls 200 tr _ (some ⟨ng,0,none⟩) gs.length nc gs none 0 0 [] X hEx hnm (h.names.below hX0) (Ints.none0 X) hck (hT.below hX0 hw0) (zzl hw0 hX0.size)).mono ?_;intro e w' hF;obtain⟨ha1,ha2⟩:=hask t tr htr;have hbest:=filled_best hck hF;rcases hF.2 with ⟨hp,rfl⟩ | ⟨hp,a6,c6,ws,m,rfl,hi,ho,hm1,hm2,hmin,hgreedy,hlang⟩
    ·refine⟨none,0,[],false,rfl,⟨World.ownsRow_nil ..,by decide⟩,⟨fun e=>(by cases e),fun _=>?_⟩,hF.1⟩
     cases hq:ask t with
     | none=>rfl
     | some ys=>exact absurd (ha2 ys hq).1 hp
    ·refine⟨a6,c6,ws,true,rfl,⟨ho,oo⟩,⟨fun _=>?_,fun e=>(by cases e)⟩,hF.1⟩
     have hB1:BestD gs 200 tr [] ws:=by
      refine⟨hlang,fun ys hy=>?_⟩;refine greedy_least (plan_sound hck).1.wf m _ ws (afterS_shut (startS_shut _ _) _) hmin hgreedy hm1 ys ?_
      have:=(after_lang hck ([]++ys)).2 hy
      unfold afterS at this ⊢;rw[List.foldl_append] at this;exact this
     cases hq:ask t with
     | none=>exact absurd hp (ha1 hq)
     | some ys=>rw[best_one (ha2 ys hq).2 hB1]
   (have hdi:((32 - f:Nat):Int)<=32:=by omega);clear h hT hsp hask hB hown hlen ih hx hspx hfs hin htr hgl;go_enter Tryz.func61,Tryz.ntmps61;(go_wp2_with fail);refine HTO.mono ?_;rintro e W ⟨rfl,rfl⟩;(go_wp2_with fail);refine wp_region_held_drew (S:=fun X=>Below W.heap.size W X) hmx (zzd _ _).drew (fun hS=>?_);refine takeG 0 (some 36) hS ?_;refine takeG 1 (some 37) hS ?_;refine takeG 2 (some 38) hS ?_;refine takeG 3 (some 39) hS ?_ (hy:=by intro w hSw;obtain⟨q0,q1,q2,q3⟩:=HTC.out _ hSw;go_simp;with_reducible rfl);refine takeG 4 (some 40) hS ?_;refine takeG 5 (some 41) hS ?_;refine takeG 6 (some 42) hS ?_;refine takeG 7 (some 43) hS ?_ (hy:=by intro w hSw;obtain⟨q0,q1,q2,q3⟩:=HTC.out _ hSw;go_simp;with_reducible rfl);refine callD 8 kr rfl (fun K hK=>?_);rw[if_pos (by rfl)];go_simp;refine(HRF.out _ hS).mono ?_;rintro e Y ⟨a6,c6,ws,ok6,rfl,⟨hi6,hw300⟩,hans,bY⟩;have hY:=hS.trans (bY.mono hS.size);clear bY;refine hK.out _ _ hY (fun _=>?_);clear hK K
   try simp only[lay4]
   refine takeG 9 (some 35) hY ?_;refine takeG 10 (some 45) hY ?_;refine takeG 11 (some 46) hY ?_;refine takeG 12 (some 11) hY ?_;refine takeG 13 (some 12) hY ?_;refine wpAnyH_done kr ?_ _;have HY:=Hid.mk_ hY;have HI6:=Hid.mk_ hi6;cases ok6 with
   | false=>
    have HR:Hid (fillS sp n ask (f+1) l (t:Int)=none):=HRN.out (hans.2 (by first | rfl | trivial));have HE:=Hid.mk_ (HBB.out.trans (hY.mono HBB.out.size));clear hans hi6 hY hS HRF;go_wp2;go_ret2;rw[HR.out];exact⟨HGR.out _ HY.out,HE.out,rfl⟩
   | true=>
    have hask:ask t=some ws:=hans.1 (by first | rfl | trivial);have HASK:=Hid.mk_ hask
    by_cases hf0:f=0
    ·have hdd:(((32 - f:Nat):Int)==32)=true:=by rw[hf0];rfl
     have HR:Hid (fillS sp n ask (f+1) l (t:Int)=none):=HRZ.out hf0 ws hask;have HE:=Hid.mk_ (HBB.out.trans (hY.mono HBB.out.size));clear hans hi6 hY hS HRF hask hf0;go_wp2;go_ret2;rw[HR.out];exact⟨HGR.out _ HY.out,HE.out,rfl⟩
    ·have hdeep:((32 - f:Nat):Int)≠32:=by omega
     (have hdd:(((32 - f:Nat):Int)==32)=false:=by rw[beq_eq_false_iff_ne];exact hdeep);have HBY:=Hid.mk_ (HBB.out.trans (hY.mono HBB.out.size));obtain⟨_,_,_,s3,s4,_⟩:=HSPX.out Y hY;have HAD:=HADD.out Y hY (⟨1,(t:Int),(sp t).least,0⟩:Tok);unfold tokV at HAD;dsimp only at HAD;clear hans hi6 hY hS HRF hask hdeep;(go_wp2_with fail);refine HAD.mono ?_;intro e Y2 hres;have hres' : FilledT w0.heap.size (.slice a l.length c) w0 Y Y2 e (addD l ⟨1,(t:Int),(sp t).least,0⟩):=hres;clear hres HAD
     by_cases hfull:l.length=2048
     ·have hz:addD l (⟨1,(t:Int),(sp t).least,0⟩:Tok)=none:=by unfold addD;rw[if_pos hfull]
      rw[hz] at hres';obtain⟨hg2,hB2,rfl⟩:=hres';have HR:Hid (fillS sp n ask (f+1) l (t:Int)=none):=HRA.out hf0 ws HASK.out hz;have HE:Hid (W.grownBy Y2 (Value.slice a l.length c).ownBlock/\Below w0.heap.size w0 Y2):=⟨grown_step (HGR.out Y HY.out) (.inl rfl) hg2,hB2⟩;clear hz hg2 hB2 s3 s4;go_wp2
      go_loopg [1,12,13] 1 (fun gk u v x wr=>0<gk/\v=.bool false/\wr=Y2)
      case atStart=>exact⟨oo,rfl,rfl⟩
      case round=>
       obtain⟨hgk,rfl,rfl⟩:=hrel;go_wp2;go_ret2;rw[HR.out];exact⟨HE.out.1,HE.out.2,rfl⟩
     ·obtain⟨l1,hz⟩:∃l1,addD l (⟨1,(t:Int),(sp t).least,0⟩:Tok)=some l1:=⟨_,by unfold addD;rw[if_neg hfull]⟩
      rw[hz] at hres';obtain⟨hg2,hB2,a7,c7,rfl,hown7,hheir7⟩:=hres';have hl1n:l1.length<=2048:=addD_len hz HLEN.out;have HR1:=Hid.mk_ (HRB.out hf0 ws HASK.out l1 hz);have hi7:Y2.ownsRow 0 3 1 (.slice a6 ws.length c6) ws.length (intsV ws):=ints_grown HI6.out (HOWN.out Y HY.out) hg2;have HO7:Hid (Y2.ownsRow w0.heap.size 58 4 (.slice a7 l1.length c7) l1.length (flat l1)/\Heir W (.slice a l.length c) (.slice a7 l1.length c7)/\W.grownBy Y2 (Value.slice a l.length c).ownBlock/\Below w0.heap.size w0 Y2/\Y2.ownsRow 0 3 1 (.slice a6 ws.length c6) ws.length (intsV ws)):=⟨hown7,(show Heir W (.slice a l.length c) (.slice a l.length c) from .inl rfl).step hheir7 HY.out.size,grown_step (HGR.out Y HY.out) (.inl rfl) hg2,hB2,hi7⟩;have HIHF:=Hid.mk_ (HIH.out hf0);obtain⟨d1,hd1⟩:∃d1,d1=32 - f:=⟨_,rfl⟩;rw[<-hd1];(have hd1n:d1<32:=by omega);(have hd1e:Hid ((d1:Int)+1=((32 - (f - 1):Nat):Int)):=by show _=_;omega);clear hz hown7 hheir7 hg2 hB2 hi7 s3 s4 hd1 hdd HADD;go_wp2
      go_loopg [1,12,13] (ws.length+2) (fun gk u v x wr=>∃i:Nat,i<=ws.length/\ws.length+1<i+gk/\x=.int .i64 (i:Int)/\W.grownBy wr (Value.slice a l.length c).ownBlock/\Below w0.heap.size w0 wr/\((v=.bool false/\fillL (fun l t=>fillS sp n ask f l t) ws l1=none)\/(v=.bool true/\∃ai ci li,u=.slice ai (List.length li) ci/\wr.ownsRow w0.heap.size 58 4 (.slice ai li.length ci) li.length (flat li)/\li.length<=2048/\Heir W (.slice a l.length c) (.slice ai li.length ci)/\wr.ownsRow 0 3 1 (.slice a6 ws.length c6) ws.length (intsV ws)/\fillL (fun l t=>fillS sp n ask f l t) (ws.drop i) li=fillL (fun l t=>fillS sp n ask f l t) ws l1)))
      case atStart=>exact⟨0,zzn _,oo,rfl,HO7.out.2.2.1,HO7.out.2.2.2.1,.inr ⟨rfl,a7,c7,l1,rfl,HO7.out.1,hl1n,HO7.out.2.1,HO7.out.2.2.2.2,by rw[List.drop_zero]⟩⟩
      case round=>
       obtain⟨i,hi,hgk,rfl,hgr,hBr,hcase⟩:=hrel;clear HO7;rcases hcase with ⟨rfl,hnone⟩ | ⟨rfl,ai,ci,li,rfl,hown,hlin,hheir,hints,hfl⟩
       ·have HR:Hid (fillS sp n ask (f+1) l (t:Int)=none):=by
         show _=_
         rw[HR1.out,hnone]
        have HE:Hid (W.grownBy wr (Value.slice a l.length c).ownBlock/\Below w0.heap.size w0 wr):=⟨hgr,hBr⟩;clear hnone hgr hBr;go_wp2;go_ret2;rw[HR.out];exact⟨HE.out.1,HE.out.2,rfl⟩
       ·by_cases hlt:i<ws.length
        ·obtain⟨t2,ht2⟩:∃t2,ws[i]? = some t2:=⟨_,zze hlt⟩
         (have hws:(ws.length:Int)<=1000000:=by omega);(have hii:(i:Int)<(ws.length:Int):=by omega);(have hi0:(0:Int)<=(i:Int):=by omega);obtain⟨b6,cq6,e6,hcell⟩:=owns_cell hints oo;(injection e6 with e61 _ e63);subst e61 e63;have c9:wr.cell? ⟨b6,i,none⟩=some (.int .i64 t2):=hcell i _ (by unfold intsV;rw[List.getElem?_map,ht2];rfl);have HC:=HIHF.out wr ai ci li t2 hBr hown hlin;rw[<-hd1e.out] at HC
         have hdrop:ws.drop i=t2::ws.drop (i+1):=by
          have:=List.drop_eq_getElem_cons hlt
          rw[this]
          congr 1
          exact(zzc.1 ht2).2
         rw[hdrop,fillL] at hfl;have HK2:Hid (W.grownBy wr (Value.slice a l.length c).ownBlock/\Heir W (.slice a l.length c) (.slice ai li.length ci)/\wr.ownsRow 0 3 1 (.slice (some ⟨b6,0,none⟩) ws.length c6) ws.length (intsV ws)/\wr.ownsRow w0.heap.size 58 4 (.slice ai li.length ci) li.length (flat li)):=⟨hgr,hheir,hints,hown⟩;have HFL:=Hid.mk_ hfl;(have hd3:(d1:Int)<=31:=by omega);clear hgr hBr hheir hints hown hfl hdrop hcell ht2;(go_wp2_with fail);refine HC.mono ?_;intro e W8 hres;cases hq:fillS sp n ask f li t2 with
         | none=>
          rw[hq] at hres;obtain⟨hg8,hB8,rfl⟩:=hres;have HN:Hid (W.grownBy W8 (Value.slice a l.length c).ownBlock/\Below w0.heap.size w0 W8/\fillL (fun l t=>fillS sp n ask f l t) ws l1=none):=⟨grown_step HK2.out.1 HK2.out.2.1 hg8,hB8,by have:=HFL.out;rw[hq] at this;exact this.symm⟩;clear hg8 hB8 hq HC HFL HK2;go_wp2
          go_roundg (ws.length+1 - i)
          case measure=>omega
          case rel=>exact⟨i+1,oo,oo,by first | rfl | go_num,HN.out.1,HN.out.2.1,.inl ⟨rfl,HN.out.2.2⟩⟩
         | some l8=>
          rw[hq] at hres;obtain⟨hg8,hB8,a8,c8,rfl,hown8,hheir8⟩:=hres
          have HN:Hid (W.grownBy W8 (Value.slice a l.length c).ownBlock/\Below w0.heap.size w0 W8/\W8.ownsRow w0.heap.size 58 4 (.slice a8 l8.length c8) l8.length (flat l8)/\l8.length<=2048/\Heir W (.slice a l.length c) (.slice a8 l8.length c8)/\W8.ownsRow 0 3 1 (.slice (some ⟨b6,0,none⟩) ws.length c6) ws.length (intsV ws)/\fillL (fun l t=>fillS sp n ask f l t) (ws.drop (i+1)) l8=fillL (fun l t=>fillS sp n ask f l t) ws l1):=by
           refine⟨grown_step HK2.out.1 HK2.out.2.1 hg8,hB8,hown8,fillS_len f li t2 l8 hq hlin,HK2.out.2.1.step hheir8 HK2.out.1.size,ints_grown HK2.out.2.2.1 HK2.out.2.2.2 hg8,?_⟩
           have:=HFL.out
           rw[hq] at this;exact this
          clear hg8 hB8 hq HC HFL HK2 hown8 hheir8;go_wp2
          go_roundg (ws.length+1 - i)
          case measure=>omega
          case rel=>exact⟨i+1,oo,oo,by first | rfl | go_num,HN.out.1,HN.out.2.1,.inr ⟨rfl,a8,c8,l8,rfl,HN.out.2.2⟩⟩
        ·obtain rfl:i=ws.length:=by omega
         rw[List.drop_length,fillL] at hfl;(have hR:fillS sp n ask (f+1) l (t:Int)=addD li ⟨2,0,0,0⟩:=by rw[HR1.out,<-hfl]);have HAD:=added_calls w0.heap.size w0 wr hBr ai ci li hown hlin hBr.size ⟨2,0,0,0⟩;unfold tokV at HAD;dsimp only at HAD;have HRR:=Hid.mk_ hR;(have hws:(ws.length:Int)<=1000000:=by omega);(have hdl:decide ((ws.length:Int)<(ws.length:Int))=false:=by simp);have HK2:Hid (W.grownBy wr (Value.slice a l.length c).ownBlock/\Heir W (.slice a l.length c) (.slice ai li.length ci)):=⟨hgr,hheir⟩;obtain⟨RR,hRR⟩:∃RR,addD li ⟨2,0,0,0⟩=RR:=⟨_,rfl⟩;rw[hRR] at HAD;have HQ9:=Hid.mk_ hRR;clear hRR;clear hgr hBr hheir hints hown hfl hR HR1 HIHF;(go_wp2_with fail);refine HAD.mono ?_;intro e W9 hres;cases RR with
         | none=>
          obtain⟨hg8,hB8,rfl⟩:=hres;have HN:Hid (W.grownBy W9 (Value.slice a l.length c).ownBlock/\Below w0.heap.size w0 W9):=⟨grown_step HK2.out.1 HK2.out.2 hg8,hB8⟩;clear hg8 hB8 HAD HK2;go_wp2;go_ret2;rw[HRR.out,HQ9.out];exact⟨HN.out.1,HN.out.2,rfl⟩
         | some l9=>
          obtain⟨hg8,hB8,a8,c8,rfl,hown8,hheir8⟩:=hres;have HN:Hid (W.grownBy W9 (Value.slice a l.length c).ownBlock/\Below w0.heap.size w0 W9/\W9.ownsRow w0.heap.size 58 4 (.slice a8 l9.length c8) l9.length (flat l9)/\Heir W (.slice a l.length c) (.slice a8 l9.length c8)):=⟨grown_step HK2.out.1 HK2.out.2 hg8,hB8,hown8,HK2.out.2.step hheir8 HK2.out.1.size⟩;clear hg8 hB8 HAD HK2 hown8 hheir8;go_wp2;go_ret2;rw[HRR.out,HQ9.out];exact⟨HN.out.1,HN.out.2.1,a8,c8,rfl,HN.out.2.2⟩
 ·rw[if_neg hin] at HTO
  (have hfs:fillS sp n ask (f+1) l tt=none:=by rw[fillS,if_neg (by rw[hn];exact hin)]);have HB:=Hid.mk_ hB;rw[hfs];clear h hT hsp hask hB hown hlen ih hfs hin;go_enter Tryz.func61,Tryz.ntmps61;(go_wp2_with fail);refine HTO.mono ?_;rintro e W ⟨rfl,rfl⟩;go_wp2;go_ret2;exact⟨⟨rfl,rfl,rfl,zzb _,fun _ _ _=>rfl⟩,HB.out,rfl⟩
theorem fillbehind_calls {B g c0 ng nc:Nat}{ks:List KindD}{gs:List Grp}{ts:List (DataW Unit)}(w0:World)(h:SchAt w0 B g c0 ng nc ks gs ts)(h0:0<ks.length)(hT:Tab w0)(hw0:0<w0.heap.size)(sp:Nat->SpecD)(hsp:∀i,specOf ks i=sp i)(ask:Nat->Option (List Int))(hask:Asks gs ts ask)(n:Nat)(hn:n=ks.length) :
  ∀(f:Nat),f<=32->∀(w:World) (a:Option Addr) (c:Nat) (l:List Tok) (t:Int),Below w0.heap.size w0 w->w.ownsRow w0.heap.size 58 4 (.slice a l.length c) l.length (flat l)->l.length<=2048->Calls Tryz.prog 61 #[.pointer (some ⟨B,0,none⟩),.slice a l.length c,.int .i64 t,.int .i64 ((32 - f:Nat):Int)] w fun e w' => FilledT w0.heap.size (.slice a l.length c) w0 w w' e (fillS sp n ask (f+1) l t):=by
 intro f
 induction f with
 | zero=>exact fun hf w a c l t=>fillbehind_step w0 h h0 hT hw0 sp hsp ask hask n hn 0 hf (fun e=>absurd rfl e) w a c l t
 | succ f ih=>exact fun hf w a c l t=>fillbehind_step w0 h h0 hT hw0 sp hsp ask hask n hn (f+1) hf (fun _ w a c l t=>ih oo w a c l t) w a c l t
end Go.Proofs.YtjkebndkeamijaaGreatDoor
