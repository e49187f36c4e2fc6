/-
  PROVED HERE: what the texts DPRMay, DPRHolds, DPChecksW say.
-/
import Derived.Test.YtjkebndkeamijaaGreatDoorCP40
import Derived.Test.YtjkebndkeamijaaGreatDoorCP42
set_option maxRecDepth 100000
set_option maxHeartbeats 2000000
namespace Go.Proofs.YtjkebndkeamijaaGreatDoor
open Go.RowKit
theorem rise_split:∀(ps:List Int) (p:Int),ps.Pairwise (·<·)->(ps.filter fun q=>decide (q<p))=ps.take (ps.countP (·<p))/\(ps.filter fun q=>decide (p<=q))=ps.drop (ps.countP (·<p)):=by
 intro ps p
 induction ps with
 | nil=>intro _;exact⟨rfl,rfl⟩
 | cons x r ih=>
  intro h;obtain⟨hx,hr⟩:=List.pairwise_cons.1 h;obtain⟨i1,i2⟩:=ih hr
  by_cases hlt:x<p
  ·rw[List.countP_cons_of_pos (by simpa using hlt),List.take_succ_cons,List.drop_succ_cons,List.filter_cons_of_pos (by simpa using hlt),List.filter_cons_of_neg (by simp;omega),i1]
   exact⟨rfl,i2⟩
  ·have h0:(x::r).countP (·<p)=0:=List.countP_eq_zero.2 fun q hq=>by
    rcases List.mem_cons.1 hq with rfl | hq
    ·simpa using hlt
    ·have:=hx q hq
     simp
     omega
   rw[h0,List.take_zero,List.drop_zero];refine⟨List.filter_eq_nil_iff.2 fun q hq=>?_,List.filter_eq_self.2 fun q hq=>?_⟩
   all_goals
    rcases List.mem_cons.1 hq with rfl | hq
    ·simp;omega
    ·have:=hx q hq
     simp
     omega
theorem wordPut_parts (l:List Tok)(p t:Int):wordPut l p t=wordD l (aheadK l (around l p) p)++t::wordD l ((kids l (around l p)).filter fun q=>decide (p<=q)):=by
 obtain⟨h1,h2⟩:=rise_split (kids l (around l p)) p (kids_rise l _)
 unfold wordPut aheadK
 rw[h1,h2]
 unfold wordD
 rw[List.map_take,List.map_drop]
theorem rmay_calls {B:Nat}{whole:ByteArray}{aa:Option Addr}{sl cc:Nat}{sp:List SpecD}{gs:List Grp}{ks:List KindD}(w:World)(h:RSch w B whole aa sl cc sp gs)(hks:ks.map (·.1)=zeroS::sp)(a:Option Addr)(len cap:Nat)(l:List Tok)(hl:Toks w a len l)(hsz:len<=4398046511104)(p t:Int) :
  Calls Tryz.prog 15 #[.pointer (some ⟨B,0,none⟩),.slice a len cap,.int .i64 p,.int .i64 t] w fun e w' => ∃r:Bool,e=.returned (.bool r)/\(r=true↔(0<=p/\p<=(len:Int)/\(checkS ks (namesD sp gs) (treesOf whole sp) l).2=0/\LangD (namesD sp gs) 200 (treeAt (treesOf whole sp) l (around l p)) (wordPut l p t)))/\Below w.heap.size w w' := by
 have HC:=rscheck_calls w h hks a len cap l hl oo
 have hlen:(len:Int)<=4398046511104:=by omega
 obtain⟨q1,hq1⟩:∃q1,(checkS ks (namesD sp gs) (treesOf whole sp) l).1=q1:=⟨_,rfl⟩
 rw[hq1] at HC
 clear hq1
 by_cases hok:0<=p/\p<=(len:Int)/\(checkS ks (namesD sp gs) (treesOf whole sp) l).2=0
 ·obtain⟨p0,p1,hz⟩:=hok
  obtain⟨n,rfl⟩:∃n:Nat,p=(n:Int):=⟨p.toNat,oo⟩;rw[hz] at HC;obtain⟨ok,wl⟩:=checkS_iff.1 hz;obtain⟨h48,hg⟩:=(check_ok l).1 ok;have hll:=hl.1;have hsz2:len<=2048:=by omega
  have hkn:KnownP sp l (around l (n:Int)):=by
   rcases around_place l n oo with e | ⟨m,e,hm⟩
   ·exact .inl e
   ·obtain⟨x,hx⟩:∃x,l[m]? = some x:=⟨_,zze (kind_lt hm)⟩
    have ht:=wellD_type (kinds_rightS hg) wl hx (by rw[<-kindAt_some hx];exact hm);have hlk:=ks_len hks;rw[e];exact .inr ⟨m,(x.t - 1).toNat,rfl,kind_lt hm,by unfold typeAt;rw[Int.toNat_natCast,hx];show x.t=_;omega,oo⟩
  have hpl:=around_place l n oo;have hge:=around_ge l n oo;(have hm1 : -1<=around l (n:Int):=by rcases hpl with e | ⟨m,e,_⟩<;>omega);obtain⟨en,hen⟩:∃e:Nat,endP l (around l (n:Int))=(e:Int):=⟨(endP l (around l (n:Int))).toNat,by have:=(end_place hg hpl).2.1;omega⟩;(have hel:en<=len:=by have:=(end_place hg hpl).2.2.1;omega);have hne:n<=en:=by have:=around_end hg hpl oo rfl;omega
  have hpa:around l (n:Int) = -1/\en=len\/(0<=around l (n:Int)/\partner l (around l (n:Int))=(en:Int)):=by
   unfold endP at hen
   split at hen
   ·rename_i e
    exact .inl ⟨e,oo⟩
   ·rename_i e
    exact .inr ⟨oo,hen⟩
  obtain⟨rk,rn,ra,rl,rc,hex,hru⟩:=rule_calls w h a len cap l hl hsz2 _ hkn;obtain⟨tr,ea,ec,ng,nc,h1,_,_,h4,_,h6,_⟩:=h;have hBl:=(zza.1 h1).1;have hsay:=says_later (tree_out (whole:=whole) hkn) hex h4 (gc:=nc) (right_tree (whole:=whole) h6 hkn);have hahd:=refW_ahead hg (show n<=l.length by omega);have hbeh:=refW_behind hg (show n<=l.length by omega) hen;(have hwo:=fun (X:World) (hX:Below w.heap.size w X)=>rword_calls a len cap l (around l (n:Int)) (around l (n:Int)+1).toNat n (n - (around l (n:Int)+1).toNat) X (hl.below hX) hsz2 oo oo oo);(have hwb:=fun (X:World) (hX:Below w.heap.size w X)=>rword_calls a len cap l ((n:Int) - 1) n en (en - n) X (hl.below hX) hsz2 oo hel oo);rw[hahd] at hwo;rw[hbeh] at hwb;(have har:=fun (X:World) (hX:Below w.heap.size w X)=>around_calls a len cap l (n:Int) X (hl.below hX) oo);(have hpr:=fun (X:World) (hX:Below w.heap.size w X)=>partner_calls a len cap l (around l (n:Int)) X (hl.below hX) oo);have HCE:Hid (∀X,Below w.heap.size w X->X.cell? ⟨B,5,none⟩=some (.slice (some ⟨ng,0,none⟩) (namesD sp gs).length nc)):=fun X hX=>cell_of_row X B 5 _ _ _ ((hX.block _ hBl).trans h1)
  have hwl:(wordD l (aheadK l (around l (n:Int)) n)).length<=2048:=by
   have:=kids_few l (around l (n:Int))
   have h2:(aheadK l (around l (n:Int)) n).length<=(kids l (around l (n:Int))).length:=List.length_filter_le ..;rw[word_length];omega
  have hbl:(wordD l ((kids l (around l (n:Int))).filter fun q=>decide ((n:Int)<=q))).length<=2048:=by
   have:=kids_few l (around l (n:Int))
   have h2:((kids l (around l (n:Int))).filter fun q=>decide ((n:Int)<=q)).length<=(kids l (around l (n:Int))).length:=List.length_filter_le ..;rw[word_length];omega
  rw[wordPut_parts];(have HFIN:Hid (∀b:Bool,(b=true↔LangD (namesD sp gs) 200 (treeAt (treesOf whole sp) l (around l (n:Int))) (wordD l (aheadK l (around l (n:Int)) n)++t::wordD l ((kids l (around l (n:Int))).filter fun q=>decide ((n:Int)<=q))))->(b=true↔(0<=(n:Int)/\(n:Int)<=(len:Int)/\(checkS ks (namesD sp gs) (treesOf whole sp) l).2=0/\LangD (namesD sp gs) 200 (treeAt (treesOf whole sp) l (around l (n:Int))) (wordD l (aheadK l (around l (n:Int)) n)++t::wordD l ((kids l (around l (n:Int))).filter fun q=>decide ((n:Int)<=q)))))):=fun b hb=>hb.trans ⟨fun q=>⟨p0,p1,hz,q⟩,fun q=>q.2.2.2⟩);generalize treeAt (treesOf whole sp) l (around l (n:Int))=T at *;generalize wordD l (aheadK l (around l (n:Int)) n)=wd at *;generalize wordD l ((kids l (around l (n:Int))).filter fun q=>decide ((n:Int)<=q))=bd at *;generalize (0<=(n:Int)/\(n:Int)<=(len:Int)/\(checkS ks (namesD sp gs) (treesOf whole sp) l).2=0/\LangD (namesD sp gs) 200 T (wd++t::bd))=PP at *;generalize namesD sp gs=G at *;generalize around l (n:Int)=ar at *;obtain⟨wl,hwl2⟩:∃wl,wd.length=wl:=⟨_,rfl⟩;obtain⟨bl,hbl2⟩:∃bl,bd.length=bl:=⟨_,rfl⟩;obtain⟨gl,hgl2⟩:∃gl,G.length=gl:=⟨_,rfl⟩;rw[hwl2] at hwo hwl;rw[hbl2] at hwb hbl;rw[hgl2] at hsay HCE;have HAR:=Hid.mk_ har;have HPR:=Hid.mk_ hpr;have HWO:=Hid.mk_ hwo;have HWB:=Hid.mk_ hwb;have HRU:=Hid.mk_ hru;have HSY:=Hid.mk_ hsay;(have hnl:¬(len:Int)<(n:Int):=by omega);(have hn0:¬(n:Int)<0:=by omega);(have hli:(len:Int)<=2048:=by omega);(have hnn : -1<=(n:Int) - 1:=by omega);(have hs1:wl+1<=1000000000:=by omega);(have hs2:wl+1+bl<=1000000000:=by omega);clear h1 h4 h6 hBl hsay hahd hbeh hwo hwb har hpr hex hru hkn hpl hks hll hl hsz hsz2 hg h48 hz ok p0 p1 hge hm1 hen hel hne hwl2 hbl2 hgl2 hlen;rcases hpa with ⟨rfl,rfl⟩ | ⟨ha0,hpa⟩
  all_goals
   try rw[hpa] at HPR
   go_enter Tryz.func15,Tryz.ntmps15;(go_wp2_with fail);refine HC.mono ?_;rintro e X1 ⟨rfl,hB1⟩;have H1:=HAR.out X1 hB1;have HB1:=Hid.mk_ hB1;clear HC hB1 HAR;(go_wp2_with fail);refine H1.mono ?_;rintro e X2 ⟨rfl,hB2⟩;have HB2:=Hid.mk_ (HB1.out.trans (hB2.mono HB1.out.size));have H2:=HPR.out X2 HB2.out;clear H1 hB2 HPR HB1;(go_wp2_with fail);refine H2.mono ?_;rintro e X3 ⟨rfl,hB3⟩;have HB3:=Hid.mk_ (HB2.out.trans (hB3.mono HB2.out.size));have H3:=HWO.out X3 HB3.out;clear H2 hB3 HWO HB2;(go_wp2_with fail);refine H3.mono ?_;rintro e X4 ⟨wa,wc,rfl,hO4,hB4⟩;have hown:=World.ownsRow.alloc hO4 (.cells #[.int .i64 t] 3);have hints:=Ints.one (World.alloc_heap_new X4 (.cells #[.int .i64 t] 3));have hB4a:=hB4.alloc hB4.size (.cells #[.int .i64 t] 3);have HW:=Hid.mk_ (And.intro hown (And.intro hints hB4a));clear hown hints hB4a hO4 hB4 H3;(go_wp2_with (first | (at_builtin;refine wpList_append_ints rfl (.tmp 46) (.tmp 48) rfl X3.heap.size _ wl _ rfl HW.out.1 _ 1 1 [t] rfl (fun e=>by cases e) HW.out.2.1 hs1 HW.out.2.2.size ?_;intro v1 X5 hown5 hB5;obtain⟨va,vc,rfl⟩:=shape_owns hown5;have HN:=Hid.mk_ (And.intro hown5 (HW.out.2.2.trans hB5));clear hown5 hB5 HW) | fail));have HB5:=Hid.mk_ (HB3.out.trans (HN.out.2.mono HB3.out.size));have H5:=HWB.out X5 HB5.out;refine H5.mono ?_;rintro e X6 ⟨ba,bc,rfl,hO6,hB6⟩;have hown6:=owns_later HN.out.1 hB6;obtain⟨_,_,e1,hI6⟩:=owned_ints hO6 oo;cases e1;have HW6:=Hid.mk_ (And.intro hown6 (And.intro hI6 (And.intro (owns_nocap hO6) (HN.out.2.trans (hB6.mono HN.out.2.size)))));clear hown6 hI6 hO6 hB6 H5 HWB HN HB5;(go_wp2_with (first | (at_builtin;refine wpList_append_ints rfl (.tmp 50) (.tmp 55) rfl X3.heap.size _ (wl+1) _ rfl HW6.out.1 _ bl bc bd rfl HW6.out.2.2.1 HW6.out.2.1 hs2 HW6.out.2.2.2.size ?_;intro v2 X7 hown7 hB7;obtain⟨ua,uc,rfl⟩:=shape_owns hown7;have HN:=Hid.mk_ (And.intro hown7 (HW6.out.2.2.2.trans hB7));clear hown7 hB7 HW6) | fail));obtain⟨_,_,e1,hI7⟩:=owned_ints HN.out.1 oo;cases e1;rw[List.append_assoc,List.singleton_append] at hI7;have HI7:=Hid.mk_ hI7;have HB7:=Hid.mk_ (HB3.out.trans (HN.out.2.mono HB3.out.size));obtain⟨ul,hul⟩:∃ul,wl+1+bl=ul:=⟨_,rfl⟩;rw[hul] at HI7;clear hI7 HN HB3;refine wp_region_held_drew (S:=fun X=>Below X7.heap.size X7 X) hmx (zzd _ _).drew (fun hS=>?_);refine takeG 0 (some 57) hS ?_;refine takeG 1 (some 58) hS ?_;refine takeG 2 (some 59) hS ?_;refine takeG 4 (some 61) hS ?_;refine takeG 5 (some 62) hS ?_;refine takeG 6 (some 63) hS ?_;refine takeG 7 (some 64) hS ?_ (hy:=by intro w hSw;have q0:=HCE.out _ (HB7.out.trans (hSw.mono HB7.out.size));go_simp;with_reducible rfl);refine takeG 8 (some 65) hS ?_;refine callD 3 kr rfl (fun K hK=>?_);rw[if_pos (by rfl)];go_simp;refine(HRU.out _ (HB7.out.trans (hS.mono HB7.out.size))).mono ?_;rintro e Y ⟨rfl,bY⟩;have hY:=hS.trans (bY.mono hS.size);clear bY;refine hK.out _ _ hY (fun _=>?_);clear hK K;refine callD 9 kr rfl (fun K hK=>?_);rw[if_pos (by rfl)];go_simp;refine(HSY.out Y (HB7.out.trans (hY.mono HB7.out.size)) ua ul uc _ (HI7.out.below hY)).1.mono ?_;rintro e Z ⟨r,rfl,hr,bZ⟩;have hZ:=hY.trans (bZ.mono hY.size);have HRR:=Hid.mk_ (And.intro (HFIN.out r hr) (HB7.out.trans (hZ.mono HB7.out.size)));clear bZ hr;refine hK.out _ _ hZ (fun _=>?_);clear hK K;refine takeG 10 (some 8) hZ ?_;refine wpAnyH_done kr ?_ _;clear HCE HSY HRU HFIN HI7 HB7;go_wp2;go_ret;exact⟨r,rfl,HRR.out.1,HRR.out.2⟩
 ·have HN:Hid (¬(0<=p/\p<=(len:Int)/\(checkS ks (namesD sp gs) (treesOf whole sp) l).2=0/\LangD (namesD sp gs) 200 (treeAt (treesOf whole sp) l (around l p)) (wordPut l p t))):=fun q=>hok ⟨q.1,q.2.1,q.2.2.1⟩
  generalize (0<=p/\p<=(len:Int)/\(checkS ks (namesD sp gs) (treesOf whole sp) l).2=0/\LangD (namesD sp gs) 200 (treeAt (treesOf whole sp) l (around l p)) (wordPut l p t))=PP at *;generalize (checkS ks (namesD sp gs) (treesOf whole sp) l).2=q at *
  have hcase:(q != 0)=true\/((q != 0)=false/\decide (p<0)=true)\/((q != 0)=false/\decide (p<0)=false/\decide ((len:Int)<p)=true):=by
   by_cases hz:q=0
   ·subst hz
    by_cases hp:p<0
    ·exact .inr (.inl ⟨rfl,by simpa using hp⟩)
    ·exact .inr (.inr ⟨rfl,by simpa using hp,by simp;apply Classical.byContradiction;intro h;exact hok ⟨oo,oo,rfl⟩⟩)
   ·exact .inl (by simpa using hz)
  clear h hks hl hok hsz;rcases hcase with b1 | ⟨b1,b2⟩ | ⟨b1,b2,b3⟩
  all_goals
   go_enter Tryz.func15,Tryz.ntmps15;(go_wp2_with fail);refine HC.mono ?_;rintro e X1 ⟨rfl,hB1⟩;have HB1:=Hid.mk_ hB1;clear HC hB1;exact k110
theorem rholds_calls {B:Nat}{whole:ByteArray}{aa:Option Addr}{sl cc:Nat}{sp:List SpecD}{gs:List Grp}{ks:List KindD}(w:World)(h:RSch w B whole aa sl cc sp gs)(hks:ks.map (·.1)=zeroS::sp)(a:Option Addr)(len cap:Nat)(l:List Tok)(hl:Toks w a len l)(hsz:len<=4398046511104)(p:Int) :
  Calls Tryz.prog 13 #[.pointer (some ⟨B,0,none⟩),.slice a len cap,.int .i64 p] w fun e w' => e=.returned (.tuple #[specV (specR ks (holdsT ks (namesD sp gs) (treesOf whole sp) l p)),.bool (decide (1<=holdsT ks (namesD sp gs) (treesOf whole sp) l p/\holdsT ks (namesD sp gs) (treesOf whole sp) l p<ks.length))])/\Below w.heap.size w w' := by
 obtain⟨V,hV⟩:∃V,V=w.alloc (.cells #[.string ⟨#[]⟩,.string ⟨#[]⟩,.bool false,.int .i64 0,.int .i64 0,.int .i64 0,.bool false] 34):=⟨_,rfl⟩
 have hBV:Below w.heap.size w V:=by rw[hV];exact(zzd _ w).alloc (zzb _) _
 have HZ:Hid (∀X,Below V.heap.size V X->X.heap[w.heap.size]? = some (.cells #[.string ⟨#[]⟩,.string ⟨#[]⟩,.bool false,.int .i64 0,.int .i64 0,.int .i64 0,.bool false] 34 (0,0))):=fun X hX=>by
  exact k58
 have HF:Hid (∀X,Below V.heap.size V X->∀cs,Below w.heap.size w (X.setRow w.heap.size cs)):=fun X hX cs=>below_setRow (hBV.trans (hX.mono hBV.size)) (zzb _) cs
 have HAR:=around_calls a len cap l p V (hl.below hBV) oo
 have HV:Hid (∀X,Below V.heap.size V X->Calls Tryz.prog 11 #[.pointer (some ⟨B,0,none⟩),.slice a len cap] X fun e w' => e=.returned (.tuple #[.int .i64 (checkS ks (namesD sp gs) (treesOf whole sp) l).1,.int .i64 (checkS ks (namesD sp gs) (treesOf whole sp) l).2])/\Below X.heap.size X w'):=fun X hX=>rscheck_calls X (h.below (hBV.trans (hX.mono hBV.size))) hks a len cap l (hl.below (hBV.trans (hX.mono hBV.size))) oo
 have HSP:Hid (∀X t,Below V.heap.size V X->Calls Tryz.prog 19 #[.pointer (some ⟨B,0,none⟩),.int .i64 t] X fun e w' => e=.returned (.tuple #[specV (specR ks t),.bool (decide (1<=t/\t<ks.length))])/\Below X.heap.size X w'):=fun X t hX=>rspec_ks X (h.below (hBV.trans (hX.mono hBV.size))) hks t
 have HTK:Hid (∀X (i:Nat),Below V.heap.size V X->i<len->∃b o,a=some ⟨b,o,none⟩/\X.cell? ⟨b,o+i * 4+1,none⟩=some (.int .i64 (typeAt l (i:Int)))):=fun X i hX hi=>by
  exact k82
 have HAL:Hid (around l p = -1\/(0<=around l p/\around l p<(len:Int))):=by
  exact k48
 obtain⟨q,hq⟩:∃q,(checkS ks (namesD sp gs) (treesOf whole sp) l).2=q:=⟨_,rfl⟩
 generalize (checkS ks (namesD sp gs) (treesOf whole sp) l).1=q1 at *
 unfold holdsT
 rw[hq] at HV ⊢
 have hzero:specR ks 0=zeroS:=by unfold specR;rw[if_neg oo]
 have hd0:decide (1<=(0:Int)/\(0:Int)<(ks.length:Int))=false:=by simp
 have hlen:(len:Int)<=4398046511104:=by omega
 obtain⟨r,hr⟩:∃r,around l p=r:=⟨_,rfl⟩
 rw[hr] at HAR HAL ⊢
 clear h hl hr hq hks
 by_cases hm:q=0/\r ≠ -1
 ·obtain⟨rfl,hm⟩:=hm
  rw[if_pos ⟨rfl,hm⟩];obtain⟨n,rfl⟩:∃n:Nat,r=(n:Int):=⟨r.toNat,by rcases HAL.out with h | h<;>omega⟩;(have hnl:(n:Int)<(len:Int):=by rcases HAL.out with h | h<;>omega);(have hn0:¬(n:Int)<0:=by omega);(have hn1:(0:Int)<=(n:Int):=by omega);obtain⟨b,o,rfl,_⟩:=HTK.out V n (zzd _ _) oo
  have HTC:Hid (∀X,Below V.heap.size V X->X.cell? ⟨b,o+n * 4+1,none⟩=some (.int .i64 (typeAt l (n:Int)))):=fun X hX=>by
   obtain⟨b', o', e,h2⟩:=HTK.out X n hX oo;cases e;exact h2
  obtain⟨tt,htt⟩:∃tt,typeAt l (n:Int)=tt:=⟨_,rfl⟩;rw[htt] at HTC ⊢;have HSP2:=Hid.mk_ (fun X hX=>HSP.out X tt hX);generalize decide (1<=tt/\tt<(ks.length:Int))=rr at *;generalize specR ks tt=ss at *;obtain⟨sn,se,sf,sm,sl,sk,sb⟩:=ss;unfold specV at HSP2 ⊢;dsimp only at *;clear HTK HSP HAL htt hm hzero hd0;go_enter Tryz.func13,Tryz.ntmps13;(go_wp2_with fail);rw[<-hV];clear hV;refine HAR.mono ?_;rintro e X1 ⟨rfl,hB1⟩;have HA:=HV.out X1 hB1;exact k14
 ·rw[if_neg hm,hzero,hd0]
  unfold specV zeroS;dsimp only
  have hcase:(q != 0)=true\/((q != 0)=false/\decide (r<0)=true):=by
   by_cases hz:q=0
   ·subst hz
    exact .inr ⟨rfl,by have:r = -1:=Classical.not_not.1 (fun e=>hm ⟨rfl,e⟩);subst this;rfl⟩
   ·exact .inl (by simpa using hz)
  clear HTK HSP HAL hm;rcases hcase with b1 | ⟨b1,b2⟩
  all_goals
   go_enter Tryz.func13,Tryz.ntmps13;(go_wp2_with fail);rw[<-hV];clear hV;refine HAR.mono ?_;rintro e X1 ⟨rfl,hB1⟩;have HA:=HV.out X1 hB1;exact k24
theorem checks_walk (a:Option Addr)(len cap:Nat)(l:List Tok)(at_ t:Int)(w:World)(hl:Toks w a len l)(hlie:Lies a len cap)(hE:ETy w) :
  Calls Tryz.prog 3 #[.slice a len cap,.int .i64 at_,.int .i64 t] w fun e w' => e=.returned (.bool true)/\Below w.heap.size w w' := by
 have HAW:Hid (∀X,Below w.heap.size w X->Calls Tryz.prog 7 #[] X fun e w' => e=.returned (.bool true)/\Below X.heap.size X w'):=fun X hX=>awakes_calls X (hE.below hX)
 have HH:=Hid.mk_ (house_calls w hE)
 have HL:=Hid.mk_ hl
 have HLI:=Hid.mk_ hlie
 have htl:(len:Int)<=9223372036854775807:=by have:=hlie.1;have:=hlie.2.1;omega
 clear hl hlie hE
 by_cases hbig:300<len
 ·have HA:=HAW.out w (zzd _ _)
  (have hb:(300:Int)<(len:Int):=by omega);clear HAW HH HL HLI;go_enter Tryz.func3,Tryz.ntmps3;(go_wp2_with fail);refine HA.mono ?_;rintro e X1 ⟨rfl,hB1⟩;have HE:=Hid.mk_ hB1;clear hB1 HA;go_wp2;go_ret
  first | exact HE.out | exact⟨rfl,HE.out⟩
 have hb:¬(300:Int)<(len:Int):=by omega
 go_enter Tryz.func3,Tryz.ntmps3
 go_wp2_with fail
 refine HH.out.mono ?_
 rintro e X1 ⟨B1,rfl,hm,hB1⟩
 have HM:=Hid.mk_ hm
 have HB1:=Hid.mk_ hB1
 clear HH hm hB1
 go_wp2_with fail
 refine(rhouse_calls X1).mono ?_
 rintro e X2 ⟨B2,ha,rfl,hr,hB2⟩
 obtain⟨g,c,ng,nc,ks,hS,hk0,hks⟩:=made_ks (HM.out.below hB2)
 have HB2:=Hid.mk_ (HB1.out.trans (hB2.mono HB1.out.size))
 have HL2:=Hid.mk_ (HL.out.below HB2.out)
 obtain⟨v1,X3,run1,o1,ne1,b3⟩:=tok_clone_own a len cap l X2 HL2.out oo
 obtain⟨gg,cp,rfl,_,hcp1,hcp2,tL⟩:=toks_of_owns o1 ne1
 unfold maxLen at hcp2
 have HC1:=scheck_any X3 (hS.below b3) hk0 (some ⟨gg,0,none⟩) len cp l tL ⟨hcp1,hcp2,(fun h=>by cases h),(fun x h _=>by cases h;rfl)⟩ oo
 have HC2:=Hid.mk_ (fun (X:World) (hX:Below X2.heap.size X2 X)=>rscheck_calls X (hr.below hX) hks a len cap l (HL2.out.below hX) oo)
 have HS1:=Hid.mk_ (fun (X:World) (hX:Below X2.heap.size X2 X)=>holds_calls X (hS.below hX) hk0 a len cap l (HL2.out.below hX) HLI.out oo at_)
 have HS2:=Hid.mk_ (fun (X:World) (hX:Below X2.heap.size X2 X)=>rholds_calls X (hr.below hX) hks a len cap l (HL2.out.below hX) oo at_)
 have HM1:=Hid.mk_ (fun (X:World) (hX:Below X2.heap.size X2 X)=>smay_calls X (hS.below hX) hk0 a len cap l (HL2.out.below hX) HLI.out oo at_ t)
 have HM2:=Hid.mk_ (fun (X:World) (hX:Below X2.heap.size X2 X)=>rmay_calls X (hr.below hX) hks a len cap l (HL2.out.below hX) oo at_ t)
 generalize (0<=at_/\at_<=(len:Int)/\(checkS ks (namesD houseL houseG) (treesOf houseW houseL) l).2=0/\LangD (namesD houseL houseG) 200 (treeAt (treesOf houseW houseL) l (around l at_)) (wordPut l at_ t))=PP at *
 generalize (checkS ks (namesD houseL houseG) (treesOf houseW houseL) l).1=c1 at *
 generalize (checkS ks (namesD houseL houseG) (treesOf houseW houseL) l).2=c2 at *
 generalize holdsT ks (namesD houseL houseG) (treesOf houseW houseL) l at_=tt at *
 generalize decide (1<=tt/\tt<(ks.length:Int))=okb at *
 generalize specR ks tt=ss at *
 obtain⟨sn,se,sf,sm,sl,sk,sb⟩:=ss
 unfold specV at HS1 HS2
 dsimp only at HS1 HS2
 have HB3:=Hid.mk_ b3
 clear hB2 hr hS hks hk0 HM HL2 HL HLI o1 ne1 b3 hcp1 hcp2 tL HB1
 go_wp2_with (at_builtin;refine wpList_tok_run rfl _ _ 22 rfl _ _ _ _ rfl rfl run1 ?_)
 refine HC1.mono ?_
 rintro e X4 ⟨rfl,hB4⟩
 have HB4:=Hid.mk_ (HB3.out.trans (hB4.mono HB3.out.size))
 have H4:=HC2.out X4 HB4.out
 clear HC1 HC2 hB4 HB3 run1
 go_wp2_with fail
 refine H4.mono ?_
 rintro e X5 ⟨rfl,hB5⟩
 have HB5:=Hid.mk_ (HB4.out.trans (hB5.mono HB4.out.size))
 have H5:=HS1.out X5 HB5.out
 clear H4 hB5 HB4 HS1
 go_wp2_with fail
 refine H5.mono ?_
 rintro e X6 ⟨rfl,hB6⟩
 have hB26:=HB5.out.trans (hB6.mono HB5.out.size)
 obtain⟨X7,hX7⟩:∃X7,X7=X6.alloc (.cells #[.string sn,.string se,.bool sf,.int .i64 sm,.int .i64 sl,.int .i64 sk,.bool sb] 34):=⟨_,rfl⟩
 have m7:X7.heap[X6.heap.size]? = some (.cells #[.string sn,.string se,.bool sf,.int .i64 sm,.int .i64 sl,.int .i64 sk,.bool sb] 34 (0,0)):=by rw[hX7];exact World.alloc_heap_new X6 _
 have HB7:Hid (Below X2.heap.size X2 X7):=by rw[hX7];exact hB26.alloc hB26.size _
 have H7:=HS2.out X7 HB7.out
 have HM7:=Hid.mk_ m7
 clear H5 hB6 hB26 HB5 HS2 m7
 go_wp2_with fail
 rw[<-hX7]
 clear hX7
 refine H7.mono ?_
 rintro e X8 ⟨rfl,hB8⟩
 have hB28:=HB7.out.trans (hB8.mono HB7.out.size)
 obtain⟨X9,hX9⟩:∃X9,X9=X8.alloc (.cells #[.string sn,.string se,.bool sf,.int .i64 sm,.int .i64 sl,.int .i64 sk,.bool sb] 34):=⟨_,rfl⟩
 have m9:X9.heap[X8.heap.size]? = some (.cells #[.string sn,.string se,.bool sf,.int .i64 sm,.int .i64 sl,.int .i64 sk,.bool sb] 34 (0,0)):=by rw[hX9];exact World.alloc_heap_new X8 _
 have hlt:=(zza.1 HM7.out).1
 have m7:X9.heap[X6.heap.size]? = some (.cells #[.string sn,.string se,.bool sf,.int .i64 sm,.int .i64 sl,.int .i64 sk,.bool sb] 34 (0,0)):=by
  have h1:=(hB8.block _ hlt).trans HM7.out;rw[hX9];exact(zzf _ _ _ (zzl hlt hB8.size)).trans h1
 have HB9:Hid (Below X2.heap.size X2 X9):=by
  rw[hX9];exact hB28.alloc hB28.size _
 have q0:=fun j=>cell_of_row _ _ j _ _ _ m7
 have q1:=fun j=>cell_of_row _ _ j _ _ _ m9
 have p0:=q0 0
 have p1:=q0 1
 have p2:=q0 2
 have p3:=q0 3
 have p4:=q0 4
 have p5:=q0 5
 have p6:=q0 6
 have r0:=q1 0
 have r1:=q1 1
 have r2:=q1 2
 have r3:=q1 3
 have r4:=q1 4
 have r5:=q1 5
 have r6:=q1 6
 have hg:=fun op x y xs ys W=>spec_eqGuard op x y xs ys W
 have he:=spec_eql sn se sf sm sl sk sb
 have H9:=HM1.out X9 HB9.out
 dsimp at p0 p1 p2 p3 p4 p5 p6 r0 r1 r2 r3 r4 r5 r6
 clear q0 q1 m7 m9 hlt H7 hB8 hB28 HB7 HM7 HM1
 rw[hX9] at p0 p1 p2 p3 p4 p5 p6 r0 r1 r2 r3 r4 r5 r6
 go_wp2_with fail
 rw[<-hX9]
 clear hX9 p0 p1 p2 p3 p4 p5 p6 r0 r1 r2 r3 r4 r5 r6
 refine H9.mono ?_
 rintro e Y1 ⟨b1,rfl,hb1,hY1⟩
 have HY1:=Hid.mk_ (HB9.out.trans (hY1.mono HB9.out.size))
 have HQ1:=Hid.mk_ hb1
 have HY:=HM2.out Y1 HY1.out
 clear H9 hY1 hb1 HM2 HB9
 go_wp2_with fail
 refine HY.mono ?_
 rintro e Y2 ⟨b2,rfl,hb2,hY2⟩
 have HY2:=Hid.mk_ (HY1.out.trans (hY2.mono HY1.out.size))
 have HYW:=Hid.mk_ (HB2.out.trans (HY2.out.mono HB2.out.size))
 obtain rfl:b1=b2:=by
  have h:=HQ1.out.trans hb2.symm;cases b1<;>cases b2<;>simp_all
 have HA:=HAW.out Y2 HYW.out
 clear hY2 HY hb2 HQ1 HY1 HY2 HAW
 go_wp2_with fail
 refine HA.mono ?_
 rintro e Y3 ⟨rfl,hY3⟩
 have HE:=Hid.mk_ (HYW.out.trans (hY3.mono HYW.out.size))
 clear hY3 HA
 go_wp2
 go_ret
 first | exact HE.out | exact⟨rfl,HE.out⟩
end Go.Proofs.YtjkebndkeamijaaGreatDoor
