/-
  PROVED HERE: what the texts DFRFill, DFFillH, DFFillsW, DFAlike7, DFFillsG say.
-/
import Derived.Test.YtjkebndkeamijaaGreatDoorCF40
import Derived.Laws.OwnMore
set_option maxRecDepth 100000
set_option maxHeartbeats 2000000
namespace Go.Proofs.YtjkebndkeamijaaGreatDoor
open Go.RowKit
theorem owns_on {w w' : World}{b e n m:Nat}{v:Value}{xs:List Value}(h:w.ownsRow b e n v m xs)(hB:Below w.heap.size w w'):w'.ownsRow b e n v m xs:=owns_same h fun g hg=>hB.block g (owns_lt h hg).1
theorem toks_own {W:World}{base:Nat}{a:Option Addr}{n c:Nat}{l:List Tok}(h:W.ownsRow base 58 4 (.slice a n c) n (flat l)):Toks W a n l:=by
 by_cases hv:Value.slice a n c=.slice none 0 0
 ·cases hv
  have:=h.1
  rw[flat_length] at this;exact⟨oo,.inl rfl⟩
 ·obtain⟨g,cap,e,_,_,_,ht⟩:=toks_of_owns h hv
  cases e;exact ht
def dcM (DD:Int->Option (List Tok))(o:List Tok):Option (List Int)->Option (List Tok)
 | none=>none
 | some ws=>match dcL DD ws o with
  | none=>none
  | some x=>some (x++[⟨2,0,0,0⟩])
theorem dcM_none {DD:Int->Option (List Tok)}{o:List Tok}{ws:List Int}{R PO:Option (List Tok)}(h:dcM DD o (some ws)=PO)(hR:dcL DD ws o=R)(hN:R=none):PO=none:=by
 rw[<-h,dcM,hR,hN]
theorem dcM_some {DD:Int->Option (List Tok)}{o:List Tok}{ws:List Int}{R PO:Option (List Tok)}{l:List Tok}(h:dcM DD o (some ws)=PO)(hR:dcL DD ws o=R)(hN:R=some l):PO=some (l++[⟨2,0,0,0⟩]):=by
 rw[<-h,dcM,hR,hN]
def FilledF (w w' : World)(e:Ending):Option (List Tok)->Prop
 | none=>Below w.heap.size w w' /\ e=.returned (.tuple #[.slice none 0 0,.bool false])
 | some l=>Below w.heap.size w w' /\ ∃a c,e=.returned (.tuple #[.slice a l.length c,.bool true])/\w'.ownsRow w.heap.size 58 4 (.slice a l.length c) l.length (flat l)
theorem k98{p:Prop}(h:p:=by
  have h4:=HBR.out.trans (hX4.mono HBR.out.size);have h5:=h4.trans b5;exact HB3.out.trans (h5.mono HB3.out.size)
  ):p:=h
theorem k67{p:Prop}(h:p:=by
  (go_wp2_with (at_builtin;refine wpList_tok_run rfl _ _ 22 rfl _ _ _ _ rfl rfl run2 ?_));go_ret2;rw[dcM_none HPO.out HR.out HRN.out];exact⟨HE.out,rfl⟩
  ):p:=h
theorem rfill_step {B:Nat}{whole:ByteArray}{aa:Option Addr}{len cc:Nat}{sp:List SpecD}{gs:List Grp}{ks:List KindD}(w:World)(h:RSch w B whole aa len cc sp gs)(hks:ks.map (·.1)=zeroS::sp)(hsm:∀x∈sp,size subs 200 (outTree x.expr)<=25)(spf:Nat->SpecD)(hsp:∀i,specOf ks i=spf i)(ask:Nat->Option (List Int))(hask:Asks (namesD sp gs) (treesOf whole sp) ask)(n:Nat)(hn:n=ks.length)(f:Nat)(hf:f<=32)
  (ih:∀f', f=f' + 1->∀(X:World) (t:Int),Below w.heap.size w X->Calls Tryz.prog 62 #[.pointer (some ⟨B,0,none⟩),.int .i64 t,.int .i64 (f' : Int)] X fun e X' => FilledF X X' e (dcD spf n ask f' t)) (t:Int) :
  Calls Tryz.prog 62 #[.pointer (some ⟨B,0,none⟩),.int .i64 t,.int .i64 (f:Int)] w fun e w' => FilledF w w' e (dcD spf n ask f t):=by
 have hkl:=ks_len hks
 have HS:=rspec_ks w h hks t
 have hfi:(f:Int)<=32:=by omega
 by_cases hr:1<=t/\t<(ks.length:Int)
 ·have hsr:specR ks t=spf t.toNat:=by unfold specR;rw[if_pos hr];exact hsp _
  rw[hsr,show decide (1<=t/\t<(ks.length:Int))=true by simpa using hr] at HS
  by_cases hlf:(spf t.toNat).leaf=true
  ·have hD:dcD spf n ask f t=some [⟨3,t,(spf t.toNat).least,0⟩]:=by
    cases f with
    | zero=>rw[dcD,if_pos ⟨hr.1,by rw[hn];exact hr.2,hlf⟩]
    | succ f=>rw[dcD,if_pos ⟨hr.1,by rw[hn];exact hr.2⟩,if_pos hlf]
   rw[hD];generalize spf t.toNat=ss at *;obtain⟨sn,se,sf,sm,sl,sk,sb⟩:=ss;unfold specV at HS;dsimp only at HS hlf ⊢;subst hlf;clear h hks hsm hsp hask ih hD hsr hr hkl hn hf;go_enter Tryz.func62,Tryz.ntmps62;(go_wp2_with fail);refine HS.mono ?_;rintro e X ⟨rfl,hX⟩;have hX2:=hX.alloc hX.size (.cells #[.string sn,.string se,.bool true,.int .i64 sm,.int .i64 sl,.int .i64 sk,.bool sb] 34);have HX3:=Hid.mk_ (hX2.alloc hX2.size (.cells #[.int .i64 3,.int .i64 t,.int .i64 sl,.int .i64 0] 58));have how:=(World.ownsRow_lit (base:=w.heap.size) (e:=58) (size:=4) (X.alloc (.cells #[.string sn,.string se,.bool true,.int .i64 sm,.int .i64 sl,.int .i64 sk,.bool sb] 34)) #[.int .i64 3,.int .i64 t,.int .i64 sl,.int .i64 0] 1 hX2.size (by decide) rfl);rw[World.size_alloc] at how;have HOW:=Hid.mk_ how;clear HS hX hX2 how;go_wp2;go_ret2;exact⟨HX3.out,_,_,rfl,HOW.out⟩
  ·cases f with
   | zero=>
    (have hD:dcD spf n ask 0 t=none:=by rw[dcD,if_neg (fun q=>hlf q.2.2)]);rw[hD];generalize spf t.toNat=ss at *;obtain⟨sn,se,sf,sm,sl,sk,sb⟩:=ss;unfold specV at HS;dsimp only at HS hlf;(obtain rfl:sf=false:=by simpa using hlf);clear h hks hsm hsp hask ih hD hsr hr hkl hn hf hlf;go_enter Tryz.func62,Tryz.ntmps62;(go_wp2_with fail);refine HS.mono ?_;rintro e X ⟨rfl,hX⟩;have HX2:=Hid.mk_ (hX.alloc hX.size (.cells #[.string sn,.string se,.bool false,.int .i64 sm,.int .i64 sl,.int .i64 sk,.bool sb] 34));clear HS hX;go_wp2;go_ret2;exact⟨HX2.out,rfl⟩
   | succ f=>
    obtain⟨n0,hn0t⟩:∃n0:Nat,t=(n0:Int)+1:=⟨(t - 1).toNat,oo⟩;(have htn:t.toNat=n0+1:=by omega);rw[htn] at HS hlf hsr
    have hD:dcD spf n ask (f+1) t=dcM (dcD spf n ask f) [⟨1,t,(spf (n0+1)).least,0⟩] (ask (n0+1)):=by
     rw[dcD,if_pos ⟨hr.1,by rw[hn];exact hr.2⟩,htn,if_neg hlf];cases ask (n0+1)<;>rfl
    subst hn0t;obtain⟨tr,ea,ec,ng,nc,h1,_,h3,h4,h5,h6,h15⟩:=h;have hsl:=h3.1;obtain⟨x,hx⟩:∃x,sp[n0]? = some x:=⟨_,zze oo⟩;obtain⟨eg,⟨rk,rn,ra,rl,rc⟩,rfl,hgl,d0,d1,d2,hex⟩:=h5 n0 x hx;have hBl:=(zza.1 h1).1
    have htr:(treesOf whole sp)[n0+1]? = some (outTree x.expr):=by
     unfold treesOf;rw[List.map_cons,List.getElem?_cons_succ,List.getElem?_map,List.getElem?_map,hx]
     rfl
    have hck:chk 200 (outTree x.expr) (namesD sp gs)=0:=readE_zero (firstE_all h6 x.expr (zzk _ (List.mem_map.2 ⟨x,zzj hx,rfl⟩)));have hak:=hask (n0+1) _ htr
    have HRF:Hid (∀X,Below w.heap.size w X->Calls Tryz.prog 97 #[.agg #[.int .i64 rk,.string rn,.slice ra rl rc],.slice (some ⟨ng,0,none⟩) (namesD sp gs).length nc,.slice none 0 0] X fun e X' => Below X.heap.size X X' /\ ((ask (n0+1)=none/\e=.returned (.tuple #[.slice none 0 0,.bool false]))\/∃ws a c,ask (n0+1)=some ws/\e=.returned (.tuple #[.slice a ws.length c,.bool true])/\Ints X' a ws.length ws)):=fun X hX=>by
     refine(reffill_calls 200 (outTree x.expr) _ (some ⟨ng,0,none⟩) (namesD sp gs).length nc (namesD sp gs) none 0 0 [] X (Ex.below hX _ _ _ hex) (out_named x.expr) (hsm x (zzj hx)) (h4.below hX) ⟨rfl,oo,.inl rfl⟩).mono ?_;rintro e X' ⟨hB,⟨hno,he⟩ | ⟨_,hp,a,c,xs,he,hI,hb⟩⟩
     ·refine⟨hB,.inl ⟨?_,he⟩⟩
      cases ha:ask (n0+1) with
      | none=>rfl
      | some ws=>
       exfalso;rcases hno with q | q
       ·exact q hck
       ·exact q (hak.2 ws ha).1
     ·refine⟨hB,.inr ⟨xs,a,c,?_,he,hI⟩⟩
      cases ha:ask (n0+1) with
      | none=>exact absurd hp (hak.1 ha)
      | some ws=>rw[best_one (hak.2 ws ha).2 hb]
    have HIH:=Hid.mk_ (ih f rfl);rw[hD]
    have HCE:Hid (∀X,Below w.heap.size w X->X.cell? ⟨B,4,none⟩=some (.slice (some ⟨eg,0,none⟩) len ec)/\X.cell? ⟨B,5,none⟩=some (.slice (some ⟨ng,0,none⟩) (namesD sp gs).length nc)/\X.cell? ⟨eg,n0 * 3,none⟩=some (.int .i64 rk)/\X.cell? ⟨eg,n0 * 3+1,none⟩=some (.string rn)/\X.cell? ⟨eg,n0 * 3+2,none⟩=some (.slice ra rl rc)):=fun X hX=>by
     have hm:=(hX.block _ hBl).trans h1;(have hq:∀j,X.cell? ⟨eg,j,none⟩=w.cell? ⟨eg,j,none⟩:=fun j=>zzi (hX.block eg hgl));exact⟨cell_of_row X B 4 _ _ _ hm,cell_of_row X B 5 _ _ _ hm,by rw[hq];exact d0,by rw[hq];exact d1,by rw[hq];exact d2⟩
    generalize spf (n0+1)=ss at *;obtain⟨sn,se,sf,sm,sl,sk,sb⟩:=ss;unfold specV at HS;dsimp only at HS hlf ⊢;(obtain rfl:sf=false:=by simpa using hlf);(have HDL:Hid (∀y x,dcD spf n ask f y=some x->x.length<=2049):=fun y x hx=>((dcD_like f y).1 x hx).2);generalize dcD spf n ask f=DD at *;generalize ask (n0+1)=AK at *;obtain⟨PO,hPO⟩:∃PO,dcM DD [⟨1,(n0:Int)+1,sl,0⟩] AK=PO:=⟨_,rfl⟩;rw[hPO];have HPO:=Hid.mk_ hPO;clear hPO;obtain⟨gl,hgl2⟩:∃gl,(namesD sp gs).length=gl:=⟨_,rfl⟩;rw[hgl2] at HRF HCE;(have hn0:(0:Int)<=(n0:Int):=by omega);(have hnl:(n0:Int)<(len:Int):=by omega);(have hli:(len:Int)<=15:=by omega);(have hns:(n0:Int)+1 - 1=(n0:Int):=by omega);(have hwr:IntKind.i64.wrap (n0:Int)=(n0:Int):=by rw[IntKind.wrap_i64];omega);have hff:((f+1:Nat):Int)=(f:Int)+1:=rfl;rw[hff] at hfi ⊢;(have hf0:((f:Int)+1==0)=false:=by rw[beq_eq_false_iff_ne];omega);(have hfs:(f:Int)+1 - 1=(f:Int):=by omega);clear h1 h3 h4 h5 h6 h15 hBl hex hx d0 d1 d2 hgl hck hak htr hsl hask hsm hsp hks ih hD hsr hr hkl hn hf hlf hgl2 hff htn;go_enter Tryz.func62,Tryz.ntmps62;(go_wp2_with fail);refine HS.mono ?_;rintro e X1 ⟨rfl,hX1⟩;obtain⟨X2,hX2⟩:∃X2,X2=X1.alloc (.cells #[.string sn,.string se,.bool false,.int .i64 sm,.int .i64 sl,.int .i64 sk,.bool sb] 34):=⟨_,rfl⟩;(have HB2:Hid (Below w.heap.size w X2):=by rw[hX2];exact hX1.alloc hX1.size _);(have m2:X2.heap[X1.heap.size]? = some (.cells #[.string sn,.string se,.bool false,.int .i64 sm,.int .i64 sl,.int .i64 sk,.bool sb] 34 (0,0)):=by rw[hX2];exact World.alloc_heap_new X1 _);have m2l:=(zza.1 m2).1;(have HSL:Hid (∀Y,Below X2.heap.size X2 Y->Y.cell? ⟨X1.heap.size,4,none⟩=some (.int .i64 sl)):=fun Y hY=>cell_of_row Y X1.heap.size 4 _ _ _ ((hY.block _ m2l).trans m2));clear HS hX1 m2 m2l;(go_wp2_with fail);rw[<-hX2];clear hX2;refine wp_region_held_drew (S:=fun Y=>Below X2.heap.size X2 Y) hmx (zzd _ _).drew (fun hS=>?_);refine takeG 0 (some 40) hS ?_;refine takeG 1 (some 41) hS ?_;refine takeG 2 (some 42) hS ?_;refine takeG 3 (some 43) hS ?_ (hy:=by intro w hSw;obtain⟨q0,q1,q2,q3,q4⟩:=HCE.out _ (HB2.out.trans (hSw.mono HB2.out.size));go_simp;with_reducible rfl);refine takeG 4 (some 44) hS ?_;refine takeG 5 (some 45) hS ?_;refine takeG 6 (some 46) hS ?_;refine takeG 7 (some 47) hS ?_ (hy:=by intro w hSw;obtain⟨q0,q1,q2,q3,q4⟩:=HCE.out _ (HB2.out.trans (hSw.mono HB2.out.size));go_simp;with_reducible rfl);refine takeG 8 (some 48) hS ?_;refine takeG 9 (some 49) hS ?_;refine takeG 10 (some 50) hS ?_;refine takeG 11 (some 51) hS ?_ (hy:=by intro w hSw;obtain⟨q0,q1,q2,q3,q4⟩:=HCE.out _ (HB2.out.trans (hSw.mono HB2.out.size));go_simp;with_reducible rfl);refine callD 12 kr rfl (fun K hK=>?_);rw[if_pos (by rfl)];go_simp;refine(HRF.out _ (HB2.out.trans (hS.mono HB2.out.size))).mono ?_;rintro e X3 ⟨bX,⟨rfl,rfl⟩ | ⟨ws,wa,wc,rfl,rfl,hI3⟩⟩
    ·have h3:=hS.trans (bX.mono hS.size)
     have HE:=Hid.mk_ (HB2.out.trans (h3.mono HB2.out.size));clear bX;refine hK.out _ _ h3 (fun _=>?_);clear hK K;refine takeG 13 (some 39) h3 ?_;refine takeG 14 (some 53) h3 ?_;refine takeG 15 (some 54) h3 ?_;refine takeG 16 (some 10) h3 ?_;refine takeG 17 (some 9) h3 ?_;refine wpAnyH_done kr ?_ _;obtain rfl:none=PO:=HPO.out;clear HRF HIH HCE HSL HPO;go_wp2;go_ret2;exact⟨HE.out,rfl⟩
    ·have h3:=hS.trans (bX.mono hS.size)
     have HB3:=Hid.mk_ (HB2.out.trans (h3.mono HB2.out.size));have HI3:=Hid.mk_ hI3;have HL3:=Hid.mk_ (HSL.out X3 h3);clear bX hI3;refine hK.out _ _ h3 (fun _=>?_);clear hK K;refine takeG 13 (some 39) h3 ?_;refine takeG 14 (some 53) h3 ?_;refine takeG 15 (some 54) h3 ?_;refine takeG 16 (some 10) h3 ?_;refine takeG 17 (some 9) h3 ?_;refine wpAnyH_done kr ?_ _;have c4:=HL3.out;have how:=World.ownsRow_lit (base:=X3.heap.size) (e:=58) (size:=4) X3 #[.int .i64 1,.int .i64 ((n0:Int)+1),.int .i64 sl,.int .i64 0] 1 (zzb _) (by decide) rfl;have HOW:=Hid.mk_ how;have HBA:=Hid.mk_ ((zzd X3.heap.size X3).alloc (zzb _) (.cells #[.int .i64 1,.int .i64 ((n0:Int)+1),.int .i64 sl,.int .i64 0] 58));obtain⟨R,hR⟩:∃R,dcL DD ws [⟨1,(n0:Int)+1,sl,0⟩]=R:=⟨_,rfl⟩;have HR:=Hid.mk_ hR;obtain⟨m,hm⟩:∃m,ws.length=m:=⟨_,rfl⟩;(have hm63:(m:Int)<=9223372036854775807:=by have:=HI3.out.2.1;omega);have HM:=Hid.mk_ hm;rw[hm] at HI3 ⊢;clear HRF HCE HSL HL3 how hR hm h3 hS;go_wp2
     go_loopg [11,12] (m+1) (fun gk u z wr=>∃(j:Nat) (va:Option Addr) (vc:Nat) (l:List Tok),j<=m/\m<j+gk/\u=.slice va l.length vc/\z=.int .i64 (j:Int)/\dcL DD (ws.drop j) l=R/\l.length<=2048/\Value.slice va l.length vc ≠ .slice none 0 0/\wr.ownsRow X3.heap.size 58 4 (.slice va l.length vc) l.length (flat l)/\Below X3.heap.size X3 wr)
     case atStart=>exact⟨0,some ⟨X3.heap.size,0,none⟩,1,[⟨1,(n0:Int)+1,sl,0⟩],zzn _,oo,rfl,rfl,HR.out,by rw[List.length_singleton];omega,(fun e=>by cases e),HOW.out,HBA.out⟩
     case round=>
      obtain⟨j,va,vc,l,hj,hgk,rfl,rfl,hd,hl,hne,hown,hB⟩:=hrel;have HDR:=Hid.mk_ hd;have HOWN:=Hid.mk_ (And.intro hown hne);have HBR:=Hid.mk_ hB;have HWR:=Hid.mk_ (HB3.out.trans (hB.mono HB3.out.size));clear hd hown hne hB HOW HBA
      by_cases hlt:j<m
      ·obtain⟨b,o,y,rfl,hy,hc⟩:=(HI3.out.below HBR.out).at hlt
       have c0:=hc wr (zzd _ _);have hji:(j:Int)<(m:Int):=by omega
       have hwd:ws.drop j=y::ws.drop (j+1):=by
        obtain⟨hlt', e⟩:=zzc.1 hy;rw[<-e];exact List.drop_eq_getElem_cons hlt'
       have H1:=HIH.out wr y HWR.out
       have hdy:R=match DD y with
         | none=>none
         | some x=>if 2048<(l++x).length then none else dcL DD (ws.drop (j+1)) (l++x):=by
        rw[<-HDR.out,hwd,dcL]
        rfl
       have HAP:=Hid.mk_ (fun (X:World) (hX:Below wr.heap.size wr X) (xa:Option Addr) (xl xc:Nat) (x:List Tok) (ht:Toks X xa xl x) (hb:xl<=2049)=>tok_append_own X3.heap.size (.slice va l.length vc) l.length l X (owns_on HOWN.out.1 hX) HOWN.out.2 (Nat.le_trans HBR.out.size hX.size) xa xl xc x ht oo);cases hDy:DD y with
       | none=>
        rw[hDy] at H1 hdy;have HRN:Hid (R=none):=hdy;clear hdy hwd hy hc hDy HIH;(go_wp2_with fail);refine H1.mono ?_;rintro e X4 ⟨hX4,rfl⟩;obtain⟨v2,X5,run2,o5,ne5,b5⟩:=HAP.out X4 hX4 none 0 0 [] ⟨rfl,.inl rfl⟩ oo;obtain⟨gg,cp,rfl,_,_,_,_⟩:=toks_of_owns o5 ne5
        have HE:Hid (Below w.heap.size w X5):=by
         exact k98
        clear H1 HAP hX4 o5 ne5 b5;exact k67
       | some x=>
        rw[hDy] at H1 hdy;have hxl:=HDL.out y x hDy;have HRX:Hid (R=if 2048<(l++x).length then none else dcL DD (ws.drop (j+1)) (l++x)):=hdy;clear hdy hwd hy hc hDy
        by_cases hbig:2048<l.length+x.length
        ·have HRN:Hid (R=none):=by
          show R=none
          rw[HRX.out,if_pos (by rw[List.length_append];exact hbig)]
         (have hbi:(2048:Int)<((l.length+x.length:Nat):Int):=by omega);clear HRX HIH;(go_wp2_with fail);refine H1.mono ?_;rintro e X4 ⟨hX4,xa,xc,rfl,hox⟩;obtain⟨v2,X5,run2,o5,ne5,b5⟩:=HAP.out X4 hX4 xa x.length xc x (toks_own hox) hxl;obtain⟨gg,cp,rfl,_,_,_,_⟩:=toks_of_owns o5 ne5
         have HE:Hid (Below w.heap.size w X5):=by
          exact k98
         clear H1 HAP hX4 o5 ne5 b5 hox;exact k67
        ·have HRN:Hid (dcL DD (ws.drop (j+1)) (l++x)=R):=by
          show _=R
          rw[HRX.out,if_neg (by rw[List.length_append];exact hbig)]
         (have hbi:¬(2048:Int)<((l.length+x.length:Nat):Int):=by omega);clear HRX HIH;(go_wp2_with fail);refine H1.mono ?_;rintro e X4 ⟨hX4,xa,xc,rfl,hox⟩;obtain⟨v2,X5,run2,o5,ne5,b5⟩:=HAP.out X4 hX4 xa x.length xc x (toks_own hox) hxl;obtain⟨gg,cp,rfl,_,_,_,_⟩:=toks_of_owns o5 ne5
         have HE:Hid (Below X3.heap.size X3 X5/\X5.ownsRow X3.heap.size 58 4 (.slice (some ⟨gg,0,none⟩) (l++x).length cp) (l++x).length (flat (l++x))):=by
          have h4:=HBR.out.trans (hX4.mono HBR.out.size);refine⟨h4.trans b5,?_⟩;rw[List.length_append];exact o5
         clear H1 HAP hX4 o5 ne5 b5 hox;go_wp2_with (at_builtin;refine wpList_tok_run rfl _ _ 22 rfl _ _ _ _ rfl rfl run2 ?_)
         go_roundg (m - j)
         case measure=>omega
         case rel=>exact⟨j+1,some ⟨gg,0,none⟩,cp,l++x,oo,oo,by rw[List.length_append],by go_num,HRN.out,by rw[List.length_append];omega,(fun e=>by cases e),HE.out.2,HE.out.1⟩
      ·obtain rfl:j=m:=by omega
       have HRS:Hid (R=some l):=by
        show R=some l
        rw[<-HDR.out,List.drop_of_length_le (by rw[HM.out];exact zzb _),dcL]
       have hBa:=(zzd wr.heap.size wr).alloc (zzb _) (.cells #[.int .i64 2,.int .i64 0,.int .i64 0,.int .i64 0] 58);obtain⟨v2,X5,run2,o5,ne5,b5⟩:=tok_append_own X3.heap.size (.slice va l.length vc) l.length l _ (owns_on HOWN.out.1 hBa) HOWN.out.2 (Nat.le_trans HBR.out.size hBa.size) (some ⟨wr.heap.size,0,none⟩) 1 1 [⟨2,0,0,0⟩] (toks_own (World.ownsRow_lit (base:=wr.heap.size) (e:=58) (size:=4) wr #[.int .i64 2,.int .i64 0,.int .i64 0,.int .i64 0] 1 (zzb _) (by decide) rfl)) oo;obtain⟨gg,cp,rfl,_,_,_,_⟩:=toks_of_owns o5 ne5
       have HE:Hid (Below w.heap.size w X5/\X5.ownsRow w.heap.size 58 4 (.slice (some ⟨gg,0,none⟩) (l++[(⟨2,0,0,0⟩:Tok)]).length cp) (l++[(⟨2,0,0,0⟩:Tok)]).length (flat (l++[(⟨2,0,0,0⟩:Tok)]))):=by
        have h4:=HBR.out.trans (hBa.mono HBR.out.size);have h5:=h4.trans b5;refine⟨HB3.out.trans (h5.mono HB3.out.size),?_⟩;rw[List.length_append,List.length_singleton];exact owns_base o5 HB3.out.size
       clear hBa o5 ne5 b5 HIH;(go_wp2_with (at_builtin;refine wpList_tok_run rfl _ _ 22 rfl _ _ _ _ rfl rfl run2 ?_));go_ret2;rw[dcM_some HPO.out HR.out HRS.out];refine⟨HE.out.1,some ⟨gg,0,none⟩,cp,?_,HE.out.2⟩;rw[List.length_append,List.length_singleton]
       rfl
 ·have hD:dcD spf n ask f t=none:=by
   cases f with
   | zero=>rw[dcD,if_neg (fun q=>hr ⟨q.1,by rw[<-hn];exact q.2.1⟩)]
   | succ f=>rw[dcD,if_neg (fun q=>hr ⟨q.1,by rw[<-hn];exact q.2⟩)]
  rw[hD];rw[show decide (1<=t/\t<(ks.length:Int))=false by simpa using hr] at HS;generalize specR ks t=ss at *;obtain⟨sn,se,sf,sm,sl,sk,sb⟩:=ss;unfold specV at HS;dsimp only at HS;clear h hks hsm hsp hask ih hD hr hkl hn hf;go_enter Tryz.func62,Tryz.ntmps62;(go_wp2_with fail);refine HS.mono ?_;rintro e X ⟨rfl,hX⟩;have HX2:=Hid.mk_ (hX.alloc hX.size (.cells #[.string sn,.string se,.bool sf,.int .i64 sm,.int .i64 sl,.int .i64 sk,.bool sb] 34));clear HS hX;go_wp2;go_ret2;exact⟨HX2.out,rfl⟩
theorem rfill_calls {B:Nat}{whole:ByteArray}{aa:Option Addr}{len cc:Nat}{sp:List SpecD}{gs:List Grp}{ks:List KindD}(hks:ks.map (·.1)=zeroS::sp)(hsm:∀x∈sp,size subs 200 (outTree x.expr)<=25)(spf:Nat->SpecD)(hsp:∀i,specOf ks i=spf i)(ask:Nat->Option (List Int))(hask:Asks (namesD sp gs) (treesOf whole sp) ask)(n:Nat)(hn:n=ks.length) :
  ∀(f:Nat),f<=32->∀(w:World),RSch w B whole aa len cc sp gs->∀t:Int,Calls Tryz.prog 62 #[.pointer (some ⟨B,0,none⟩),.int .i64 t,.int .i64 (f:Int)] w fun e w' => FilledF w w' e (dcD spf n ask f t):=by
 intro f
 induction f with
 | zero=>exact fun hf w h t=>rfill_step w h hks hsm spf hsp ask hask n hn 0 hf (fun f' e=>by omega) t
 | succ f ih=>exact fun hf w h t=>rfill_step w h hks hsm spf hsp ask hask n hn (f+1) hf (fun f' e X t hX=>by
   obtain rfl:f=f' := by omega
   exact ih oo X (h.below hX) t) t
def fillO:Option (List Tok)->Option (List Tok)
 | none=>none
 | some l=>if 2048<l.length then none else some l
theorem rfillT_calls {B:Nat}{whole:ByteArray}{aa:Option Addr}{len cc:Nat}{sp:List SpecD}{gs:List Grp}{ks:List KindD}(w:World)(h:RSch w B whole aa len cc sp gs)(hks:ks.map (·.1)=zeroS::sp)(hsm:∀x∈sp,size subs 200 (outTree x.expr)<=25)(spf:Nat->SpecD)(hsp:∀i,specOf ks i=spf i)(ask:Nat->Option (List Int))(hask:Asks (namesD sp gs) (treesOf whole sp) ask)(n:Nat)(hn:n=ks.length)(t:Int) :
  Calls Tryz.prog 21 #[.pointer (some ⟨B,0,none⟩),.int .i64 t] w fun e w' => FilledF w w' e (fillS spf n ask 33 [] t):=by
 have HF:=rfill_calls hks hsm spf hsp ask hask n hn 32 (zzb _) w h t
 have hs:fillS spf n ask 33 [] t=fillO (dcD spf n ask 32 t):=by
  rw[fill_same];cases dcD spf n ask 32 t<;>rfl
 have hl:∀x,dcD spf n ask 32 t=some x->x.length<=2049:=fun x hx=>((dcD_like 32 t).1 x hx).2
 rw[hs]
 generalize dcD spf n ask 32 t=D at *
 clear h hks hsm hsp hask hs hn
 cases D with
 | none=>
  (have HF2:Calls Tryz.prog 62 #[.pointer (some ⟨B,0,none⟩),.int .i64 t,.int .i64 32] w fun e w' => Below w.heap.size w w' /\ e=.returned (.tuple #[.slice none 0 0,.bool false]):=HF);rw[fillO];clear HF hl;go_enter Tryz.func21,Tryz.ntmps21;(go_wp2_with fail);refine HF2.mono ?_;rintro e X ⟨hX,rfl⟩;have HX:=Hid.mk_ hX;clear HF2 hX;go_wp2;go_ret2;exact⟨HX.out,rfl⟩
 | some l=>
  have hll:=hl l rfl;have HF2:Calls Tryz.prog 62 #[.pointer (some ⟨B,0,none⟩),.int .i64 t,.int .i64 32] w fun e w' => Below w.heap.size w w' /\ ∃a c,e=.returned (.tuple #[.slice a l.length c,.bool true])/\w'.ownsRow w.heap.size 58 4 (.slice a l.length c) l.length (flat l):=HF
  by_cases hb:2048<l.length
  ·rw[fillO,if_pos hb]
   (have hbi:(2048:Int)<(l.length:Int):=by omega);(have hli:(l.length:Int)<=2049:=by omega);clear HF hl;go_enter Tryz.func21,Tryz.ntmps21;(go_wp2_with fail);refine HF2.mono ?_;rintro e X ⟨hX,xa,xc,rfl,_⟩;have HX:=Hid.mk_ hX;clear HF2 hX;go_wp2;go_ret2;exact⟨HX.out,rfl⟩
  ·rw[fillO,if_neg hb]
   (have hbi:¬(2048:Int)<(l.length:Int):=by omega);(have hli:(l.length:Int)<=2049:=by omega);clear HF hl;go_enter Tryz.func21,Tryz.ntmps21;(go_wp2_with fail);refine HF2.mono ?_;rintro e X ⟨hX,xa,xc,rfl,ho⟩;have HX:=Hid.mk_ (And.intro hX ho);clear HF2 hX ho;go_wp2;go_ret2;exact⟨HX.out.1,xa,xc,rfl,HX.out.2⟩
theorem fill_of {B g c0 ng nc:Nat}{ks:List KindD}{gs:List Grp}{ts:List (DataW Unit)}(w:World)(h:SchAt w B g c0 ng nc ks gs ts)(h0:0<ks.length)(hT:Tab w)(hw0:0<w.heap.size)(sp:Nat->SpecD)(hsp:∀i,specOf ks i=sp i)(ask:Nat->Option (List Int))(hask:Asks gs ts ask)(n:Nat)(hn:n=ks.length)(t:Int) :
  Calls Tryz.prog 20 #[.pointer (some ⟨B,0,none⟩),.int .i64 t] w fun e w' => FilledT w.heap.size (.slice none 0 0) w w w' e (fillS sp n ask 33 [] t):=by
 have HF:=fillbehind_calls w h h0 hT hw0 sp hsp ask hask n hn 32 (zzb _) w none 0 [] t (zzd _ _) (World.ownsRow_nil ..) (by decide)
 obtain⟨RR,hRR⟩:∃RR,fillS sp n ask 33 [] t=RR:=⟨_,rfl⟩
 have hRR' : fillS sp n ask (32+1) [] t=RR:=hRR
 rw[hRR'] at HF
 rw[hRR]
 have HF2:Calls Tryz.prog 61 #[.pointer (some ⟨B,0,none⟩),.slice none 0 0,.int .i64 t,.int .i64 0] w fun e w' => FilledT w.heap.size (.slice none 0 0) w w w' e RR:=HF
 clear h hT hsp hask HF hRR hRR'
 go_enter Tryz.func20,Tryz.ntmps20
 go_wp2_with fail
 refine HF2.mono ?_
 intro e W9 hres
 cases RR with
 | none=>
  obtain⟨hg8,hB8,rfl⟩:=hres;have HN:Hid (w.grownBy W9 (Value.slice none 0 0).ownBlock/\Below w.heap.size w W9):=⟨hg8,hB8⟩;clear hg8 hB8 HF2;go_wp2;go_ret2;exact⟨HN.out.1,HN.out.2,rfl⟩
 | some l9=>
  obtain⟨hg8,hB8,a8,c8,rfl,hown8,hheir8⟩:=hres;have HN:Hid (w.grownBy W9 (Value.slice none 0 0).ownBlock/\Below w.heap.size w W9/\W9.ownsRow w.heap.size 58 4 (.slice a8 l9.length c8) l9.length (flat l9)/\Heir w (.slice none 0 0) (.slice a8 l9.length c8)):=⟨hg8,hB8,hown8,hheir8⟩;clear hg8 hB8 hown8 hheir8 HF2;go_wp2;go_ret2;exact⟨HN.out.1,HN.out.2.1,a8,c8,rfl,HN.out.2.2⟩
theorem out_small (s:ByteArray)(h:s.size<=12)(h0:outE s=0):size subs 200 (outTree s)<=25:=by
 have hc:∀t,(∃k,kindT t=k)->readT (bts s)=some t->cnt 200 t<=25:=fun t _ hr=>by
  by_cases hk:kindT t≠0
  ·have:=(read_bound hr hk 200).2
   rw[bts_length] at this;omega
  ·have hk:kindT t=0:=Classical.not_not.1 hk
   unfold readT at hr
   split at hr
   ·cases hr;decide
   ·split at hr
    ·rename_i t2 ha
     cases hr
     have:=altN_bound _ _ _ _ ha 200
     rw[bts_length,List.length_nil] at this;omega
    ·cases hr
 unfold outTree outT
 unfold outE at h0
 rw[if_neg oo] at h0 ⊢
 cases hr:readT (bts s) with
 | none=>rw[hr] at h0;cases h0
 | some t=>
  rw[hr] at h0;dsimp only at h0 ⊢
  by_cases hk:checkE 200 t=0
  ·rw[if_pos hk]
   have:=hc t ⟨_,rfl⟩ hr
   rw[cnt_size] at this
   show size subs 200 t<=25
   omega
  ·rw[if_neg hk] at h0;cases h0
theorem alike7_calls (a1 a2:Option Addr)(n c1 c2:Nat)(l:List Tok)(w:World)(h1:Toks w a1 n l)(h2:Toks w a2 n l)(hsz:n<=2048) :
  Calls Tryz.prog 22 #[.slice a1 n c1,.slice a2 n c2] w fun e w' => e=.returned (.bool true)/\Below w.heap.size w w' := by
 have hni:(n:Int)<=2048:=by omega
 go_enter Tryz.func22,Tryz.ntmps22
 go_wp2
 go_loopw [5] (fun i w' => ∃k:Nat,k<=n/\i=.int .i64 (k:Int)/\Below w.heap.size w w') (fun i _=>n - (intOf i).toNat)
 case atStart=>exact⟨0,zzn _,rfl,zzd _ _⟩
 case round=>
  obtain⟨k,hk,rfl,hB⟩:=hrel
  by_cases hlt:k<n
  ·obtain⟨b,o,x,rfl,hbl,hx,hc⟩:=h1.token hlt
   obtain⟨b', o', y,rfl,hbl', hy,hc'⟩:=h2.token hlt;obtain rfl:x=y:=zzo (hx.symm.trans hy);obtain⟨p0,p1,p2,p3⟩:=hc wr hB;obtain⟨q0,q1,q2,q3⟩:=hc' wr hB;clear hc hc';(have hg:=fun (x y:Operand) (xs ys:Array Value) (W:World)=>tok_eqGuard .neq x y xs ys W);(have hq:=fun W=>tok_neq x x W);rw[(tokEq_iff x x).2 rfl] at hq;simp only[tokV] at hq;obtain⟨xk,xt,xn,xm⟩:=x;simp only at *;clear hx hy h1 h2;go_wp2_with fail
   go_quiet (fail)
   go_wp2
   go_roundw
   case rel=>exact⟨k+1,oo,rfl,below_drewN hB _⟩
   case measure=>simp[intOf];omega
  ·obtain rfl:k=n:=by omega
   clear h1 h2;go_wp2;go_ret
   first | exact hB | exact⟨rfl,hB⟩
theorem made_fill {w:World}{B:Nat}{whole:ByteArray}{l:List SpecD}{gs:List Grp}(h:MadeS w B whole l gs):∃g c ng nc ks,SchAt w B g c ng nc ks (namesD l gs) (treesOf whole l)/\0<ks.length/\ks.map (·.1)=zeroS::l:=by
 obtain⟨g,c,ng,nc,ks,h1,h2⟩:=h
 refine⟨g,c,ng,nc,ks,h1,?_,h2⟩
 have:=ks_len h2
 omega
theorem outE_zero {s:ByteArray}{gs:List Grp}(h:readE s gs=0):outE s=0:=by
 apply Classical.byContradiction
 intro h0
 unfold readE at h
 rw[if_pos h0] at h
 exact h0 h
theorem k37{p:Prop}(h:p:=by
  (go_wp2_with fail);refine HAL.mono ?_;rintro e X5 ⟨rfl,hB5⟩;have HB5:=Hid.mk_ (HB2.out.trans ((HB4.out.trans (hB5.mono HB4.out.size)).mono HB2.out.size));have HA:=HAW.out X5 HB5.out;clear HAL hB5 HB4 HAW;(go_wp2_with fail);refine HA.mono ?_;rintro e X6 ⟨rfl,hB6⟩;have HE:=Hid.mk_ (HB5.out.trans (hB6.mono HB5.out.size));clear hB6 HA;go_wp2;go_ret
  first | exact HE.out | exact⟨rfl,HE.out⟩
  ):p:=h
theorem fills_walk (whole:ByteArray)(a:Option Addr)(len cap:Nat)(l:List SpecD)(ga:Option Addr)(gl gc:Nat)(gs:List Grp)(t:Int)(w:World)(hw:whole.size<=9223372036854775807)(hl:Specs w a len l)(hG:Groups w ga gl gs)(hls:∀x∈l,x.name.size<=9223372036854775807/\x.expr.size<=9223372036854775807)(hgs:∀x∈gs,x.1.size<=9223372036854775807/\x.2.length<=1500000)(hT:Tab w)(hw0:0<w.heap.size)(hE:ETy w) :
  Calls Tryz.prog 5 #[.string whole,.slice a len cap,.slice ga gl gc,.int .i64 t] w fun e w' => e=.returned (.bool true)/\Below w.heap.size w w' := by
 have hll:=hl.1
 have HAW:Hid (∀X,Below w.heap.size w X->Calls Tryz.prog 7 #[] X fun e w' => e=.returned (.bool true)/\Below X.heap.size X w'):=fun X hX=>awakes_calls X (hE.below hX)
 have HN1:Hid (∀X,Below w.heap.size w X->_):=fun X hX=>new_calls whole a len cap l ga gl gc gs X hw (hl.below hX) (hG.below hX) hls hgs (hE.below hX)
 have HN2:Hid (∀X,Below w.heap.size w X->Calls Tryz.prog 17 #[.string whole,.slice a len cap,.slice ga gl gc] X fun e w' => Below X.heap.size X w' /\ ((newE whole l gs≠0/\e=.returned (.tuple #[.pointer none,.int .i64 (newE whole l gs)]))\/(newE whole l gs=0/\∃B,e=.returned (.tuple #[.pointer (some ⟨B,0,none⟩),.int .i64 0])/\RSch w' B whole a len cap l gs))):=fun X hX=>rnew_calls whole a len cap l ga gl gc gs X hw (hl.below hX) (hG.below hX) hls (fun x hx=>(hgs x hx).1)
 have HSL:Hid (∀i,i<len->∃b o x,a=some ⟨b,o,none⟩/\l[i]? = some x/\x.expr.size<=9223372036854775807/\∀W:World,Below w.heap.size w W->W.cell? ⟨b,o+i * 7+1,none⟩=some (.string x.expr)):=fun i hi=>by
  obtain⟨b,o,x,h1,_,h3,h4⟩:=hl.at hi;exact⟨b,o,x,h1,h3,(hls x (zzj h3)).2,fun W hW=>(h4 W hW).2.1⟩
 have HT:=Hid.mk_ (And.intro hT hw0)
 have hli:(len:Int)<=9223372036854775807:=by have:=hl.2.1;omega
 have HR0:Hid (Below w.heap.size w w):=zzd _ _
 obtain⟨NE,hNE⟩:∃NE,newE whole l gs=NE:=⟨_,rfl⟩
 rw[hNE] at HN1 HN2
 clear hl hG hls hgs hE hNE hT hw0
 go_enter Tryz.func5,Tryz.ntmps5
 go_wp2
 go_loopg [9] (len+1) (fun gk u wr=>∃j:Nat,j<=len/\len<j+gk/\u=.int .i64 (j:Int)/\(∀q x,q<j->l[q]? = some x->x.expr.size<=12)/\Below w.heap.size w wr)
 case atStart=>exact⟨0,zzn _,oo,rfl,fun q x hq=>absurd hq (Nat.not_lt_zero _),HR0.out⟩
 case round=>
  obtain⟨j,hj,hgk,rfl,hsm,hB⟩:=hrel;have HSM:=Hid.mk_ hsm;have HB:=Hid.mk_ hB;clear hsm hB HR0
  by_cases hlt:j<len
  ·obtain⟨b,o,x,rfl,hx,hx63,hc⟩:=HSL.out j hlt
   have c1:=hc wr HB.out;(have hji:(j:Int)<(len:Int):=by omega);(have hxi:(x.expr.size:Int)<=9223372036854775807:=by omega);clear hc
   by_cases hb:12<x.expr.size
   ·have hbi:(12:Int)<(x.expr.size:Int):=by omega
    have HA:=HAW.out wr HB.out;clear HAW HN1 HN2 HSL HT hx;(go_wp2_with fail);refine HA.mono ?_;rintro e X1 ⟨rfl,hB1⟩;have HE:=Hid.mk_ (HB.out.trans (hB1.mono HB.out.size));clear hB1 HA;go_wp2;go_ret
    first | exact HE.out | exact⟨rfl,HE.out⟩
   ·have hbi:¬(12:Int)<(x.expr.size:Int):=by omega
    have HX:=Hid.mk_ hx;clear hx HAW HN1 HN2 HSL HT;go_wp2
    go_roundg (len - j)
    case measure=>omega
    case rel=>exact⟨j+1,oo,oo,by go_num,fun q y hq hy=>by
     by_cases e:q=j
     ·subst e
      rw[HX.out] at hy;cases hy;omega
     ·exact HSM.out q y oo hy,HB.out⟩
  ·obtain rfl:j=len:=by omega
   have HS12:Hid (∀x∈l,x.expr.size<=12):=fun x hx=>by
    obtain⟨q,hq⟩:=List.getElem?_of_mem hx;exact HSM.out q x (by have:=(zzc.1 hq).1;omega) hq
   have H1:=HN1.out wr HB.out;clear HSM HSL HN1
   by_cases h0:NE=0
   ·subst h0
    (go_wp2_with fail);refine H1.mono ?_;rintro e X1 ⟨hB1,⟨hx,_⟩ | ⟨_,B1,rfl,hm⟩⟩
    ·exact absurd rfl hx
    have HM:=Hid.mk_ hm;have HB1:=Hid.mk_ (HB.out.trans (hB1.mono HB.out.size));have H2:=HN2.out X1 HB1.out;clear H1 HN2 hm hB1;(go_wp2_with fail);refine H2.mono ?_;rintro e X2 ⟨hB2,⟨hx,_⟩ | ⟨_,B2,rfl,hr⟩⟩
    ·exact absurd rfl hx
    obtain⟨g,c,ng,nc,ks,hS,hk0,hks⟩:=made_fill (HM.out.below hB2);have hB02:=HB1.out.trans (hB2.mono HB1.out.size);have HB2:=Hid.mk_ hB02;(have h6:firstE (whole::l.map (·.expr)) (namesD l gs)=0:=by obtain⟨_,_,_,_,_,_,_,_,_,_,q,_⟩:=hr;exact q);have hsm:∀x∈l,size subs 200 (outTree x.expr)<=25:=fun x hx=>out_small x.expr (HS12.out x hx) (outE_zero (firstE_all h6 x.expr (zzk _ (List.mem_map.2 ⟨x,hx,rfl⟩))))
    obtain⟨ask,hask⟩:=asks_of (gs:=namesD l gs) (ts:=treesOf whole l) (fun i t ht=>by
     unfold treesOf at ht;rw[List.getElem?_map] at ht;cases hs:(whole::l.map (·.expr))[i]? with
     | none=>rw[hs] at ht;cases ht
     | some s=>
      rw[hs] at ht;cases ht
      exact readE_zero (firstE_all h6 s (zzj hs)))
    have HF1:=fill_of X2 hS hk0 (HT.out.1.below hB02 HT.out.2) (zzl HT.out.2 hB02.size) (specOf ks) (fun _=>rfl) ask hask ks.length rfl t;have HF2:=Hid.mk_ (fun (X:World) (hX:Below X2.heap.size X2 X)=>rfillT_calls X (hr.below hX) hks hsm (specOf ks) (fun _=>rfl) ask hask ks.length rfl t);(have hlen:∀L,fillS (specOf ks) ks.length ask 33 [] t=some L->L.length<=2048:=fun L hL=>fillS_len 33 [] t L hL (by rw[List.length_nil];omega));generalize fillS (specOf ks) ks.length ask 33 [] t=RR at *;have b0:((0:Int) != 0)=false:=rfl;clear H2 hB2 hB02 hr hS hks hk0 HM h6 hsm hask HS12 HT;cases RR with
    | none=>
     (have HF3:Calls Tryz.prog 20 #[.pointer (some ⟨B1,0,none⟩),.int .i64 t] X2 fun e w' => X2.grownBy w' (Value.slice none 0 0).ownBlock/\Below X2.heap.size X2 w' /\ e=.returned (.tuple #[.slice none 0 0,.bool false]):=HF1);clear HF1 hlen;(go_wp2_with fail);refine HF3.mono ?_;rintro e X3 ⟨_,hB3,rfl⟩;have HB3:=Hid.mk_ hB3;(have HF4:Calls Tryz.prog 21 #[.pointer (some ⟨B2,0,none⟩),.int .i64 t] X3 fun e w' => Below X3.heap.size X3 w' /\ e=.returned (.tuple #[.slice none 0 0,.bool false]):=HF2.out X3 hB3);clear HF2 HF3 hB3;(go_wp2_with fail);refine HF4.mono ?_;rintro e X4 ⟨hB4,rfl⟩;have HB4:=Hid.mk_ (HB3.out.trans (hB4.mono HB3.out.size));have HAL:=alike7_calls none none 0 0 0 [] X4 ⟨rfl,.inl rfl⟩ ⟨rfl,.inl rfl⟩ oo;clear HF4 hB4 HB3;exact k37
    | some L=>
     have hL:=hlen L rfl;(have HF3:Calls Tryz.prog 20 #[.pointer (some ⟨B1,0,none⟩),.int .i64 t] X2 fun e w' => X2.grownBy w' (Value.slice none 0 0).ownBlock/\Below X2.heap.size X2 w' /\ ∃a c,e=.returned (.tuple #[.slice a L.length c,.bool true])/\w'.ownsRow X2.heap.size 58 4 (.slice a L.length c) L.length (flat L)/\Heir X2 (.slice none 0 0) (.slice a L.length c):=HF1);clear HF1 hlen;(go_wp2_with fail);refine HF3.mono ?_;rintro e X3 ⟨_,hB3,a8,c8,rfl,ho8,_⟩;have HB3:=Hid.mk_ hB3;have HO8:=Hid.mk_ (toks_own ho8);(have HF4:Calls Tryz.prog 21 #[.pointer (some ⟨B2,0,none⟩),.int .i64 t] X3 fun e w' => Below X3.heap.size X3 w' /\ ∃a c,e=.returned (.tuple #[.slice a L.length c,.bool true])/\w'.ownsRow X3.heap.size 58 4 (.slice a L.length c) L.length (flat L):=HF2.out X3 hB3);obtain⟨nL,hnL⟩:∃nL,L.length=nL:=⟨_,rfl⟩;rw[hnL] at HF4 hL HO8 ⊢;clear HF2 HF3 hB3 ho8 hnL;(go_wp2_with fail);refine HF4.mono ?_;rintro e X4 ⟨hB4,b8,d8,rfl,ho9⟩;have HB4:=Hid.mk_ (HB3.out.trans (hB4.mono HB3.out.size));have HAL:=alike7_calls a8 b8 nL c8 d8 L X4 (HO8.out.below hB4) (toks_own ho9) hL;clear HF4 hB4 HB3 HO8 ho9;exact k37
   ·have b0:(NE != 0)=true:=by simpa using h0
    (go_wp2_with fail);refine H1.mono ?_;rintro e X1 ⟨hB1,⟨_,rfl⟩ | ⟨hx,_⟩⟩
    ·have HB1:=Hid.mk_ (HB.out.trans (hB1.mono HB.out.size))
     have H2:=HN2.out X1 HB1.out;clear H1 HN2 hB1;(go_wp2_with fail);refine H2.mono ?_;rintro e X2 ⟨hB2,⟨_,rfl⟩ | ⟨hx,_⟩⟩
     ·have HB2:=Hid.mk_ (HB1.out.trans (hB2.mono HB1.out.size))
      have HA2:=HAW.out X2 HB2.out;clear hB2 H2;(go_wp2_with fail);refine HA2.mono ?_;rintro e X3 ⟨rfl,hB3⟩;have HE:=Hid.mk_ (HB2.out.trans (hB3.mono HB2.out.size));clear hB3 HA2;go_wp2;go_ret
      first | exact HE.out | exact⟨rfl,HE.out⟩
     ·exact absurd hx h0
    ·exact absurd hx h0
end Go.Proofs.YtjkebndkeamijaaGreatDoor
