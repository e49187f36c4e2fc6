/-
  PROVED HERE: what the texts DPFirstG, DPHouseE, DPValidS, DPJoinS, DPJoinT, DPMayP say.
-/
import Derived.Test.YtjkebndkeamijaaGreatDoorCP33
set_option maxRecDepth 100000
set_option maxHeartbeats 600000
namespace Go.Proofs.YtjkebndkeamijaaGreatDoor
open Go.RowKit
theorem opened_lt (l:List Tok)(p:Nat)(hp:p<=l.length):∀x∈opened l (p:Int),0<=x/\x<(p:Int):=by
 rw[opened_nat l p hp]
 exact openL_fits (l.take p) 0 [] (p:Int) (by rw[List.length_take];omega) (fun x hx=>by cases hx)
theorem opened_later (l:List Tok)(q:Nat):∀(d:Nat),q+d<=l.length->∀x∈opened l ((q+d:Nat):Int),x∈opened l (q:Int)\/(q:Int)<=x:=by
 intro d
 induction d with
 | zero=>intro _ x hx;exact .inl hx
 | succ d ih=>
  intro hd x hx;obtain⟨y,hy⟩:∃y,l[q+d]? = some y:=⟨_,zze oo⟩;have e:=opened_succ l (q+d) y hy;rw[show q+(d+1)=q+d+1 by omega,e] at hx;unfold turn at hx
  split at hx
  ·rcases List.mem_append.1 hx with hx | hx
   ·exact ih oo x hx
   ·rw[List.mem_singleton] at hx
    subst hx;exact .inr oo
  ·split at hx
   ·exact ih oo x (List.dropLast_subset _ hx)
   ·exact ih oo x hx
theorem opened_kind (l:List Tok):∀(p:Nat),p<=l.length->∀x∈opened l (p:Int),kindAt l x.toNat=1:=by
 intro p
 induction p with
 | zero=>intro _ x hx;rw[show ((0:Nat):Int)=0 from rfl,opened_zero] at hx;cases hx
 | succ p ih=>
  intro hp x hx;obtain⟨y,hy⟩:∃y,l[p]? = some y:=⟨_,zze oo⟩;rw[opened_succ l p y hy] at hx;unfold turn at hx
  split at hx
  ·rename_i hk
   rcases List.mem_append.1 hx with hx | hx
   ·exact ih oo x hx
   ·rw[List.mem_singleton] at hx
    subst hx;rw[Int.toNat_natCast,kindAt_some hy];exact hk
  ·split at hx
   ·exact ih oo x (List.dropLast_subset _ hx)
   ·exact ih oo x hx
theorem around_in (l:List Tok)(p:Nat)(h:around l (p:Int) ≠ -1):around l (p:Int)∈opened l (p:Int):=by
 unfold around at h ⊢
 cases hg:(opened l (p:Int)).getLast? with
 | none=>rw[hg] at h;exact absurd rfl h
 | some x=>exact List.mem_of_getLast? hg
theorem kidsL_keep (l:List Tok)(i:Int):∀(f k:Nat) (out:List Int),∀x∈out,x∈kidsL l i k f out:=by
 intro f
 induction f with
 | zero=>intro k out x hx;rw[kidsL];exact hx
 | succ f ih=>
  intro k out x hx;rw[kidsL]
  split
  ·exact hx
  ·refine ih (k+1) _ x ?_
   split
   ·exact List.mem_append_left _ hx
   ·exact hx
theorem kidsL_has (l:List Tok)(i:Int)(m:Nat)(hm:kindAt l m≠2/\0<=kindAt l m/\kindAt l m<=3/\around l m=i):∀(f k:Nat) (out:List Int),(∀j,k<=j->j<m->¬(kindAt l j=2/\around l j=i/\0<=i))->k<=m->m<k+f->(m:Int)∈kidsL l i k f out:=by
 intro f
 induction f with
 | zero=>intro k out _ h1 h2;omega
 | succ f ih=>
  intro k out hno h1 h2;rw[kidsL]
  by_cases e:k=m
  ·subst e
   rw[if_neg (fun h=>hm.1 h.1),if_pos hm];exact kidsL_keep l i f (k+1) _ _ (List.mem_append_right _ (List.mem_singleton.2 rfl))
  ·rw[if_neg (hno k (zzb _) oo)]
   exact ih (k+1) _ (fun j hj=>hno j oo) oo oo
theorem kids_has (l:List Tok)(m:Nat)(hm:m<l.length)(hk:kindAt l m≠2/\0<=kindAt l m/\kindAt l m<=3):(m:Int)∈kids l (around l (m:Int)):=by
 by_cases hq:around l (m:Int) = -1
 ·rw[hq]
  unfold kids;rw[if_neg oo];exact kidsL_has l (-1) m ⟨hk.1,hk.2.1,hk.2.2,hq⟩ _ _ _ (fun j _ _ h=>absurd h.2.2 (by decide)) oo oo
 ·have hin:=around_in l m hq
  obtain⟨h0,h1⟩:=opened_lt l m oo _ hin;have hkd:=opened_kind l m oo _ hin;obtain⟨n,hn⟩:∃n:Nat,around l (m:Int)=(n:Int):=⟨(around l (m:Int)).toNat,oo⟩;rw[hn] at h1 hkd hin ⊢;rw[Int.toNat_natCast] at hkd;unfold kids;rw[if_neg (by rw[Int.toNat_natCast];omega)];refine kidsL_has l (n:Int) m ⟨hk.1,hk.2.1,hk.2.2,hn⟩ _ _ _ (fun j hj hjm h=>?_) oo oo
  -- it was ended ahead of m
  obtain⟨hj2,hja,_⟩:=h;obtain⟨y,hy⟩:∃y,l[j]? = some y:=⟨_,zze oo⟩;have e1:=around_last l j oo n hja;have e2:=opened_succ l j y hy;rw[kindAt_some hy] at hj2;unfold turn at e2;rw[if_neg oo,if_pos hj2,e1,List.dropLast_concat] at e2
  have:=opened_later l (j+1) (m - (j+1)) oo (n:Int) (by rw[show j+1+(m - (j+1))=m by omega];exact hin)
  rcases this with h3 | h3
  ·rw[e2] at h3
   have:=(opened_lt l n oo _ h3).2
   omega
  ·omega
theorem kidsL_rise (l:List Tok)(i:Int):∀(f k:Nat) (out:List Int),out.Pairwise (·<·)->(∀x∈out,x<(k:Int))->(kidsL l i k f out).Pairwise (·<·):=by
 intro f
 induction f with
 | zero=>intro k out h _;rw[kidsL];exact h
 | succ f ih=>
  intro k out h hk;rw[kidsL]
  split
  ·exact h
  ·split
   ·refine ih (k+1) _ ?_ ?_
    ·rw[List.pairwise_append]
     exact⟨h,List.pairwise_singleton _ _,fun x hx y hy=>by rw[List.mem_singleton] at hy;subst hy;exact hk x hx⟩
    ·intro x hx
     rcases List.mem_append.1 hx with hx | hx
     ·have:=hk x hx;omega
     ·rw[List.mem_singleton] at hx;subst hx;omega
   ·exact ih (k+1) _ h (fun x hx=>by have:=hk x hx;omega)
theorem kids_rise (l:List Tok)(i:Int):(kids l i).Pairwise (·<·):=by
 unfold kids
 split
 ·exact List.Pairwise.nil
 ·exact kidsL_rise l i _ _ _ List.Pairwise.nil (fun x hx=>by cases hx)
theorem fault_fits {ks:List KindD}{gs:List Grp}{t:DataW Unit}{s:SpecD}{l:List Tok}{i:Int}{p:Int}(hp:p∈kids l i)(hlt:p<faultD ks gs t s l i):fitsB ks s ((l[p.toNat]?).getD ⟨0,0,0,0⟩)=true:=by
 have hr:=kids_rise l i
 unfold faultD at hlt
 obtain⟨m,hm⟩:=List.getElem?_of_mem hp
 have key:∀(f j:Nat),j+f=(kids l i).length->j<=m->p<faultK ks gs t s l i (kids l i) j f->fitsB ks s ((l[p.toNat]?).getD ⟨0,0,0,0⟩)=true:=by
  intro f
  induction f with
  | zero=>intro j hj hjm _;have:=(zzc.1 hm).1;omega
  | succ f ih=>
   intro j hj hjm hl;rw[faultK] at hl
   split at hl
   ·rename_i hfit
    by_cases e:j=m
    ·subst e
     rw[List.getD_eq_getElem?_getD,hm] at hfit;exact hfit
    ·exact ih (j+1) oo oo hl
   ·exfalso
    have hjl:j<(kids l i).length:=by omega
    have hge:(kids l i).getD j 0<=p:=by
     rw[List.getD_eq_getElem?_getD,zze hjl]
     show (kids l i)[j]<=p
     obtain⟨hml,hme⟩:=zzc.1 hm
     by_cases e:j=m
     ·subst e;rw[hme];exact Int.le_refl _
     ·have:=List.pairwise_iff_getElem.1 hr j m hjl hml oo
      rw[hme] at this;omega
    omega
 exact key _ 0 oo (zzn _) hlt
theorem type_known {ks:List KindD}{gs:List Grp}{ts:List (DataW Unit)}{l:List Tok}(hg:∀(k:Nat),k<l.length->0<=kindAt l k/\kindAt l k<=3)(i:Nat)(x:Tok)(f:Int)(hx:l[i]? = some x)(hk:x.k=1)(hif:(i:Int)<f)(hw:f<=faultD ks gs (ts.getD 0 emptyT) (specOf ks 0) l (-1))(hall:∀q,q<i->kindAt l q=1->f<=faultAt ks gs ts l q):0<=x.t/\x.t<ks.length:=by
 have hil:=(zzc.1 hx).1
 have hki:=kindAt_some hx
 have hmem:=kids_has l i hil ⟨by rw[hki];omega,hg i hil⟩
 have fin:∀(t:DataW Unit) (s:SpecD),(i:Int)<faultD ks gs t s l (around l (i:Int))->0<=x.t/\x.t<ks.length:=fun t s hlt=>by
  have:=fault_fits hmem hlt
  rw[Int.toNat_natCast,hx] at this;unfold fitsB at this;rw[if_neg (show ¬((some x).getD ⟨0,0,0,0⟩).k=0 by show ¬x.k=0;omega)] at this
  split at this
  ·rename_i h
   have h' : 1<=x.t/\x.t<ks.length:=h;omega
  ·cases this
 by_cases hq:around l (i:Int) = -1
 ·rw[hq] at fin
  exact fin _ _ (Int.lt_of_lt_of_le hif hw)
 ·have hin:=around_in l i hq
  obtain⟨h0,h1⟩:=opened_lt l i oo _ hin;have hkd:=opened_kind l i oo _ hin;obtain⟨n,hn⟩:∃n:Nat,around l (i:Int)=(n:Int):=⟨(around l (i:Int)).toNat,oo⟩;rw[hn] at fin h1 hkd;rw[Int.toNat_natCast] at hkd
  have:=hall n oo hkd
  unfold faultAt at this;exact fin _ _ (Int.lt_of_lt_of_le hif this)
theorem goes_right:∀(l:List Tok) (d e:Int),goes l d=some e->∀x∈l,rightT x=true:=by
 intro l
 induction l with
 | nil=>intro d e _ x hx;cases hx
 | cons y r ih=>
  intro d e h x hx;obtain⟨h1,_,h3⟩:=goes_cons h;rcases List.mem_cons.1 hx with rfl | hx
  ·unfold wrong at h1
   simp only[Bool.or_eq_false_iff,Bool.not_eq_false'] at h1;exact h1.1
  ·exact ih _ _ h3 x hx
theorem kinds_rightS {l:List Tok}(h:goes l 0=some 0):∀(k:Nat),k<l.length->0<=kindAt l k/\kindAt l k<=3:=by
 intro k hk
 obtain⟨x,hx⟩:∃x,l[k]? = some x:=⟨_,zze hk⟩
 rw[kindAt_some hx]
 have:=goes_right l 0 0 h x (zzj hx)
 unfold rightT at this
 split at this
 ·omega
 ·split at this
  ·omega
  ·split at this
   ·omega
   ·cases this
theorem firstfault_any {B g c ng nc:Nat}{ks:List KindD}{gs:List Grp}{ts:List (DataW Unit)}(w:World)(h:SchAt w B g c ng nc ks gs ts)(h0:0<ks.length)(a:Option Addr)(len cap:Nat)(l:List Tok)(hl:Toks w a len l)(hlie:Lies a len cap)(hsz:len<=2048)(hty:∀(i:Nat) (x:Tok) (f:Int),l[i]? = some x->x.k=1->(i:Int)<f->f<=faultD ks gs (ts.getD 0 emptyT) (specOf ks 0) l (-1)->(∀q,q<i->kindAt l q=1->f<=faultAt ks gs ts l q)->0<=x.t/\x.t<ks.length) :
  Calls Tryz.prog 34 #[.pointer (some ⟨B,0,none⟩),.slice a len cap] w fun e w' => e=.returned (.int .i64 (firstS ks gs ts l))/\Below w.heap.size w w' := by
 have hll:=hl.1
 have HF0:Hid (Calls Tryz.prog 70 #[.pointer (some ⟨B,0,none⟩),.slice a len cap,.int .i64 (-1)] w fun e w' => e=.returned (.int .i64 (faultD ks gs (ts.getD 0 emptyT) (specOf ks 0) l (-1)))/\Below w.heap.size w w') :=
  faultin_calls w h h0 a len cap l hl hlie hsz (-1) 0 _ (getD_at (by have:=h.len;omega)) (fun X hX=>kindat_out X (h.below hX) h0 _) (by have:=kids_few l (-1);omega) (fun p hp=>by have:=kids_in l (-1) p hp;omega)
 have HFI:Hid (∀(X:World) (i:Nat) (x:Tok),Below w.heap.size w X->l[i]? = some x->x.k=1->(0<=x.t/\x.t<ks.length)->Calls Tryz.prog 70 #[.pointer (some ⟨B,0,none⟩),.slice a len cap,.int .i64 (i:Int)] X fun e w' => e=.returned (.int .i64 (faultAt ks gs ts l i))/\Below X.heap.size X w'):=fun X i x hX hx _ ⟨t0,t1⟩=>by
  exact k42
 have HL:Hid (∀(X:World) (p:Nat),Below w.heap.size w X->p<len->∃b o y,a=some ⟨b,o,none⟩/\l[p]? = some y/\X.cell? ⟨b,o+p * 4,none⟩=some (.int .i64 y.k)/\X.cell? ⟨b,o+p * 4+1,none⟩=some (.int .i64 y.t)/\X.cell? ⟨b,o+p * 4+2,none⟩=some (.int .i64 y.n)/\X.cell? ⟨b,o+p * 4+3,none⟩=some (.int .i64 y.m)):=fun X p hX hp=>by
  exact k130
 have HTY:=Hid.mk_ hty
 unfold firstS
 obtain⟨f0,hf0⟩:∃f0,faultD ks gs (ts.getD 0 emptyT) (specOf ks 0) l (-1)=f0:=⟨_,rfl⟩
 rw[hf0] at HF0 HTY ⊢
 rw[hll]
 have hli:(len:Int)<=2048:=by omega
 clear h hl hlie hty hf0
 go_enter Tryz.func34,Tryz.ntmps34
 go_wp2_with fail
 refine HF0.out.mono ?_
 rintro e W1 ⟨rfl,hB1⟩
 have HB1:=Hid.mk_ hB1
 clear hB1 HF0
 go_wp2
 go_loopg [5,13] (len+1) (fun gk u v wr=>∃(i:Nat) (f:Int),i<=len/\len<i+gk/\u=.int .i64 f/\v=.int .i64 (i:Int)/\foldF ks gs ts l i (len - i) f=foldF ks gs ts l 0 len f0/\(f<=f0/\∀q,q<i->kindAt l q=1->f<=faultAt ks gs ts l q)/\Below w.heap.size w wr)
 case atStart=>exact⟨0,f0,zzn _,oo,rfl,rfl,by rw[Nat.sub_zero],⟨Int.le_refl _,fun q hq=>by omega⟩,HB1.out⟩
 case round=>
  obtain⟨i,f,hi,hgk,rfl,rfl,hF,⟨hle,hall⟩,hB⟩:=hrel;have HIN:Hid (f<=f0/\∀q,q<i->kindAt l q=1->f<=faultAt ks gs ts l q):=⟨hle,hall⟩;clear hle hall;clear HB1
  by_cases hlt:i<len
  ·obtain⟨b,o,y,rfl,hy,d1,d2,d3,d4⟩:=HL.out wr i hB hlt
   (have hii:(i:Int)<(len:Int):=by omega);(have hi0:(0:Int)<=(i:Int):=by omega);(have hd:decide ((i:Int)<(len:Int))=true:=by simpa using hii);(have hst:len - i=(len - (i+1))+1:=by omega);rw[hst,foldF,kindAt_some hy] at hF;obtain⟨V,hV⟩:∃V,V=wr.alloc (.cells #[.int .i64 y.k,.int .i64 y.t,.int .i64 y.n,.int .i64 y.m] 58):=⟨_,rfl⟩;(have hBV:Below w.heap.size w V:=by rw[hV];exact hB.alloc hB.size _);(have m0:V.heap[wr.heap.size]? = some (.cells #[.int .i64 y.k,.int .i64 y.t,.int .i64 y.n,.int .i64 y.m] 58 (0,0)):=by rw[hV];exact World.alloc_heap_new wr _);have k0:V.cell? ⟨wr.heap.size,0,none⟩=some (.int .i64 y.k):=cell_of_row V wr.heap.size 0 _ _ _ m0;have HV:Hid (wr.alloc (.cells #[.int .i64 y.k,.int .i64 y.t,.int .i64 y.n,.int .i64 y.m] 58)=V):=hV.symm;have HBV:=Hid.mk_ hBV
   by_cases dg:f<=(i:Int)
   ·exact k45
   ·have hdg:decide (f<=(i:Int))=false:=by simpa using dg
    rw[if_neg dg] at hF
    by_cases dk:y.k=1
    ·have hdk:(y.k==1)=true:=by simpa using dk
     rw[if_pos dk] at hF;have HFX:=HFI.out V i y hBV hy dk (HTY.out i y f hy dk oo HIN.out.1 HIN.out.2)
     have HINN:Hid (min f (faultAt ks gs ts l i)<=f0/\∀q,q<i+1->kindAt l q=1->min f (faultAt ks gs ts l i)<=faultAt ks gs ts l q):=⟨by have:=HIN.out.1;omega,fun q hq hk=>by
      by_cases e:q=i
      ·subst e;omega
      ·have:=HIN.out.2 q oo hk;omega⟩
     have HFF:=Hid.mk_ hF;obtain⟨fa,hfa⟩:∃fa,faultAt ks gs ts l i=fa:=⟨_,rfl⟩;rw[hfa] at HFX HFF HINN;clear hfa;clear hF hB hBV m0 hV hst hy dk dg;(go_wp2_with fail);rw[HV.out];refine HFX.mono ?_;rintro e W3 ⟨rfl,hB3⟩;have HB3:=Hid.mk_ (HBV.out.trans (hB3.mono HBV.out.size));clear hB3 HFX;go_wp2
     go_roundg (len - i)
     case measure=>omega
     case rel=>exact⟨i+1,min f fa,oo,oo,by first | rfl | (congr 1;omega),by first | rfl | go_num,HFF.out,HINN.out,HB3.out⟩
    ·have hdk:(y.k==1)=false:=by simpa using dk
     rw[if_neg dk] at hF
     have HINN:Hid (f<=f0/\∀q,q<i+1->kindAt l q=1->f<=faultAt ks gs ts l q):=⟨HIN.out.1,fun q hq hk=>by
      by_cases e:q=i
      ·subst e;rw[kindAt_some hy] at hk;exact absurd hk dk
      ·exact HIN.out.2 q oo hk⟩
     have HFF:=Hid.mk_ hF;(have HBA:Hid (∀o,Below w.heap.size w (wr.alloc o)):=fun o=>hB.alloc hB.size o);clear hF hB hBV m0 hV hst hy dk dg;go_wp2
     go_roundg (len - i)
     case measure=>omega
     case rel=>exact⟨i+1,f,oo,oo,rfl,by first | rfl | go_num,HFF.out,HINN.out,HBA.out _⟩
  ·exact k52
theorem scheck_any {B g c ng nc:Nat}{ks:List KindD}{gs:List Grp}{ts:List (DataW Unit)}(w:World)(h:SchAt w B g c ng nc ks gs ts)(h0:0<ks.length)(a:Option Addr)(len cap:Nat)(l:List Tok)(hl:Toks w a len l)(hlie:Lies a len cap)(hsz:len<=4398046511104) :
  Calls Tryz.prog 10 #[.pointer (some ⟨B,0,none⟩),.slice a len cap] w fun e w' => e=.returned (.tuple #[.int .i64 (checkS ks gs ts l).1,.int .i64 (checkS ks gs ts l).2])/\Below w.heap.size w w' := by
 have HM:=Hid.mk_ (ismade_calls w h h0)
 have HC:Hid (Calls Tryz.prog 33 #[.slice a len cap] w fun e w' => e=.returned (.tuple #[.int .i64 (check l).1,.int .i64 (check l).2])/\Below w.heap.size w w'):=fcheck_calls a len cap l w hl hsz
 have hll:=hl.1
 obtain⟨ca,cb,hc⟩:∃ca cb,check l=(ca,cb):=⟨_,_,rfl⟩
 have HFF:Hid (cb=0->∀X,Below w.heap.size w X->Calls Tryz.prog 34 #[.pointer (some ⟨B,0,none⟩),.slice a len cap] X fun e w' => e=.returned (.int .i64 (firstS ks gs ts l))/\Below X.heap.size X w'):=fun hz X hX=>by
  (have hc2:(check l).2=0:=by rw[hc];exact hz);have h20:=((check_ok l).1 hc2).1;exact firstfault_any X (h.below hX) h0 a len cap l (hl.below hX) hlie oo (type_known (kinds_rightS ((check_ok l).1 hc2).2))
 unfold checkS
 rw[hc] at HC ⊢
 dsimp only at HC ⊢
 generalize firstS ks gs ts l=ff at *
 rw[hll]
 have hli:(len:Int)<=4398046511104:=by omega
 clear h hl hlie hc hll
 exact k06
theorem pow_ones {P:Int->Prop}:∀(m:Nat) (w:List Int),LPow (fun v=>∃a,v=[a]/\P a) m w↔(w.length=m/\∀a∈w,P a):=by
 intro m
 induction m with
 | zero=>
  intro w;rw[LPow]
  constructor
  ·rintro rfl
   exact⟨rfl,fun a h=>by cases h⟩
  ·exact fun h=>List.length_eq_zero_iff.1 h.1
 | succ m ih=>
  intro w;rw[LPow]
  constructor
  ·rintro⟨u,v,rfl,⟨a,rfl,ha⟩,hv⟩
   obtain⟨h1,h2⟩:=(ih v).1 hv;refine⟨by rw[List.length_append,List.length_singleton];omega,fun b hb=>?_⟩;rcases List.mem_append.1 hb with hb | hb
   ·rw[List.mem_singleton] at hb;subst hb;exact ha
   ·exact h2 b hb
  ·rintro⟨h1,h2⟩
   cases w with
   | nil=>cases h1
   | cons a r=>
    exact⟨[a],r,rfl,⟨a,rfl,h2 a (zzg ..)⟩,(ih r).2 ⟨by rw[List.length_cons] at h1;omega,fun b hb=>h2 b (zzk _ hb)⟩⟩
theorem lang_inner (gs:List Grp)(nm:ByteArray):(fun v=>∃x∈[node 1 nm []],Lang kindT (fun t=>maskG gs (nameT t)) subs 199 x v)=fun v=>∃a,v=[a]/\takes (maskG gs nm) a=true:=by
 funext v
 refine propext ⟨?_,?_⟩
 ·rintro⟨x,hx,h⟩
  rw[List.mem_singleton] at hx;subst hx;rw[Lang,if_pos (show kindT (node 1 nm [])=1 from rfl)] at h;exact h
 ·intro h
  refine⟨_,List.mem_singleton.2 rfl,?_⟩;rw[Lang,if_pos (show kindT (node 1 nm [])=1 from rfl)];exact h
theorem lang_plusN (gs:List Grp)(s nm:ByteArray)(w:List Int):LangD gs 200 (node 5 s [node 1 nm []]) w↔(w≠[]/\∀a∈w,takes (maskG gs nm) a=true):=by
 have e:LangD gs 200 (node 5 s [node 1 nm []]) w↔∃m,LPow (fun v=>∃x∈[node 1 nm []],Lang kindT (fun t=>maskG gs (nameT t)) subs 199 x v) (m+1) w:=by
  unfold LangD;rw[Lang,if_neg (show ¬kindT (node 5 s [node 1 nm []])=1 by rw[kindT_node];decide),if_neg (show ¬kindT (node 5 s [node 1 nm []])=2 by rw[kindT_node];decide),if_neg (show ¬kindT (node 5 s [node 1 nm []])=3 by rw[kindT_node];decide),if_neg (show ¬kindT (node 5 s [node 1 nm []])=4 by rw[kindT_node];decide),if_pos (show kindT (node 5 s [node 1 nm []])=5 from rfl)];exact Iff.rfl
 rw[e,lang_inner]
 constructor
 ·rintro⟨m,h⟩
  obtain⟨h1,h2⟩:=(pow_ones _ _).1 h;exact⟨fun e=>(by rw[e] at h1;cases h1),h2⟩
 ·rintro⟨h1,h2⟩
  refine⟨w.length - 1,(pow_ones _ _).2 ⟨?_,h2⟩⟩
  have:w.length≠0:=fun e=>h1 (List.length_eq_zero_iff.1 e)
  omega
theorem lang_starN (gs:List Grp)(s nm:ByteArray)(w:List Int):LangD gs 200 (node 4 s [node 1 nm []]) w↔∀a∈w,takes (maskG gs nm) a=true:=by
 have e:LangD gs 200 (node 4 s [node 1 nm []]) w↔∃m,LPow (fun v=>∃x∈[node 1 nm []],Lang kindT (fun t=>maskG gs (nameT t)) subs 199 x v) m w:=by
  unfold LangD;rw[Lang,if_neg (show ¬kindT (node 4 s [node 1 nm []])=1 by rw[kindT_node];decide),if_neg (show ¬kindT (node 4 s [node 1 nm []])=2 by rw[kindT_node];decide),if_neg (show ¬kindT (node 4 s [node 1 nm []])=3 by rw[kindT_node];decide),if_pos (show kindT (node 4 s [node 1 nm []])=4 from rfl)];exact Iff.rfl
 rw[e,lang_inner]
 constructor
 ·rintro⟨m,h⟩
  exact((pow_ones _ _).1 h).2
 ·intro h
  exact⟨w.length,(pow_ones _ _).2 ⟨rfl,h⟩⟩
def gsH:List Grp:=namesD houseL houseG
def blockB:ByteArray:=⟨#[98,108,111,99,107]⟩
theorem tree_block:outTree houseW=node 5 ⟨#[]⟩ [node 1 blockB []]:=by kernel_rfl
theorem tree_text:outTree textS=node 4 ⟨#[]⟩ [node 1 textB []]:=by kernel_rfl
theorem mask_block:maskG gsH blockB=190:=by kernel_rfl
theorem mask_text:maskG gsH textB=1:=by kernel_rfl
theorem words_block (w:List Int):LangD gsH 200 (outTree houseW) w↔(w≠[]/\∀a∈w,takes 190 a=true):=by rw[tree_block,lang_plusN,mask_block]
theorem words_text (w:List Int):LangD gsH 200 (outTree textS) w↔∀a∈w,takes 1 a=true:=by rw[tree_text,lang_starN,mask_text]
theorem house_kinds {w:World}{B:Nat}(h:MadeS w B houseW houseL houseG):∃g c ng nc ks,SchAt w B g c ng nc ks gsH (treesOf houseW houseL)/\ks.length=8/\∀i,specOf ks i=((zeroS::houseL)[i]?).getD zeroS:=by
 obtain⟨g,c,ng,nc,ks,h1,h2⟩:=h
 refine⟨g,c,ng,nc,ks,h1,?_,fun i=>?_⟩
 ·have:=congrArg List.length h2
  rw[List.length_map] at this;exact this
 ·unfold specOf
  rw[<-List.getElem?_map,h2]
theorem pre_of {n:Nat}{t:DataW Unit}{gs:List Grp}(h:chk n t gs=0){w v:List Int}(hl:LangD gs n t (w++v)):PreD gs n t w:=pre_less ⟨0,(after_lang h _).2 hl⟩
theorem long_nil {gs:List Grp}{t:DataW Unit}(h:PreD gs 200 t []):LongD gs 200 t [] 0:=⟨zzb _,h,fun h=>absurd h (Nat.not_lt_zero _)⟩
def openP:Tok:=⟨1,1,0,0⟩
def closeT:Tok:=⟨2,0,0,0⟩
theorem wordF_lang {gs:List Grp}{t:DataW Unit}{l:List Tok}{i:Int}{ps:List Int}(h:LangD gs 200 t (wordD l ps)):wordF gs t l i ps=2049:=by
 unfold wordF
 rw[if_pos h]
theorem faultD_fit {ks:List KindD}{gs:List Grp}{t:DataW Unit}{s:SpecD}{l:List Tok}{i:Int}(hf:∀p∈kids l i,fitsB ks s ((l[p.toNat]?).getD ⟨0,0,0,0⟩)=true):faultD ks gs t s l i=wordF gs t l i (kids l i):=by
 unfold faultD
 have key:∀(f j:Nat),j+f=(kids l i).length->faultK ks gs t s l i (kids l i) j f=wordF gs t l i (kids l i):=by
  intro f
  induction f with
  | zero=>intro j _;rw[faultK]
  | succ f ih=>
   intro j hj
   have hm:(kids l i).getD j 0∈kids l i:=by
    rw[List.getD_eq_getElem?_getD,zze (show j<(kids l i).length by omega)];exact List.getElem_mem _
   rw[faultK,if_pos (hf _ hm)];exact ih (j+1) oo
 exact key _ 0 oo
theorem check_pp:check [openP,closeT]=(2,0):=by decide
theorem check_nil:check []=(0,0):=by decide
theorem check_para {ks:List KindD}(h8:ks.length=8)(hs:∀i,specOf ks i=((zeroS::houseL)[i]?).getD zeroS):checkS ks gsH (treesOf houseW houseL) [openP,closeT]=(2,0):=by
 have k1:kids [openP,closeT] (-1)=[0]:=by decide
 have k2:kids [openP,closeT] 0=[]:=by decide
 have f1:faultD ks gsH ((treesOf houseW houseL).getD 0 emptyT) (specOf ks 0) [openP,closeT] (-1)=2049:=by
  rw[faultD_fit,k1]
  ·exact wordF_lang ((words_block _).2 ⟨by decide,by decide⟩)
  ·intro p hp
   rw[k1,List.mem_singleton] at hp;subst hp
   show fitsB ks (specOf ks 0) openP=true
   unfold fitsB;rw[if_neg (by decide),if_pos (by rw[h8];decide),hs]
   decide
 have f2:faultAt ks gsH (treesOf houseW houseL) [openP,closeT] 0=2049:=by
  unfold faultAt;(have ht:typeAt [openP,closeT] ((0:Nat):Int)=1:=by decide);rw[ht,faultD_fit]
  ·show wordF gsH (outTree textS) [openP,closeT] 0 (kids [openP,closeT] 0)=2049
   rw[k2];exact wordF_lang ((words_text _).2 (fun a ha=>by cases ha))
  ·intro p hp
   have:kids [openP,closeT] ((0:Nat):Int)=[]:=k2
   rw[this] at hp;cases hp
 have ff:firstS ks gsH (treesOf houseW houseL) [openP,closeT]=2049:=by
  unfold firstS;rw[f1]
  show foldF ks gsH (treesOf houseW houseL) [openP,closeT] 0 2 2049=2049
  rw[foldF,if_neg (by decide),if_pos (by decide),f2,foldF,if_neg (by decide),if_neg (by decide),foldF]
  decide
 unfold checkS
 rw[check_pp,if_neg (by decide),ff,if_neg (by decide)]
 rfl
theorem check_none {ks:List KindD}(hck:chk 200 (outTree houseW) gsH=0):checkS ks gsH (treesOf houseW houseL) []=(0,9):=by
 have k1:kids [] (-1)=[]:=by decide
 have hpre:PreD gsH 200 (outTree houseW) []:=pre_of (v:=[1]) hck ((words_block _).2 ⟨by decide,by decide⟩)
 have f1:faultD ks gsH ((treesOf houseW houseL).getD 0 emptyT) (specOf ks 0) [] (-1)=0:=by
  rw[faultD_fit,k1]
  ·show wordF gsH (outTree houseW) [] (-1) []=0
   unfold wordF;rw[show wordD [] []=([]:List Int) from rfl,if_neg (fun h=>((words_block _).1 h).1 rfl),begN_eq (long_nil hpre),if_neg (by decide),if_pos rfl]
   rfl
  ·intro p hp
   rw[k1] at hp;cases hp
 have ff:firstS ks gsH (treesOf houseW houseL) []=0:=by
  unfold firstS;rw[f1]
  rfl
 unfold checkS
 rw[check_nil,if_neg (by decide),ff,if_pos (by decide)]
def WellIn (ks:List KindD)(gs:List Grp)(t:DataW Unit)(s:SpecD)(l:List Tok)(i:Int):Prop:=(∀p∈kids l i,fitsB ks s ((l[p.toNat]?).getD ⟨0,0,0,0⟩)=true)/\LangD gs 200 t (wordD l (kids l i))
def WellAt (ks:List KindD)(gs:List Grp)(ts:List (DataW Unit))(l:List Tok)(i:Nat):Prop:=WellIn ks gs (ts.getD (typeAt l i).toNat emptyT) (specOf ks (typeAt l i).toNat) l i
def WellD (ks:List KindD)(gs:List Grp)(ts:List (DataW Unit))(l:List Tok):Prop:=WellIn ks gs (ts.getD 0 emptyT) (specOf ks 0) l (-1)/\∀i,kindAt l i=1->WellAt ks gs ts l i
theorem partner_lt (l:List Tok)(i:Int):partner l i<l.length\/partner l i = -1:=by
 unfold partner
 split
 ·exact .inr rfl
 ·rename_i h
  split
  ·by_cases hq:around l i = -1
   ·exact .inr hq
   ·obtain⟨n,rfl⟩:∃n:Nat,i=(n:Int):=⟨i.toNat,oo⟩
    have:=(opened_lt l n oo _ (around_in l n hq)).2
    exact .inl oo
  ·split
   ·rcases partner_fits l i (i.toNat+1) (l.length - (i.toNat+1)) with h1 | ⟨j,h1,h2⟩
    ·exact .inr h1
    ·rw[h1];exact .inl oo
   ·exact .inr rfl
theorem wordF_le {gs:List Grp}{t:DataW Unit}{l:List Tok}{i:Int}{ps:List Int}(hl:l.length<=2048)(hp:∀p∈ps,p<2049):wordF gs t l i ps<=2049/\(wordF gs t l i ps=2049->LangD gs 200 t (wordD l ps)):=by
 unfold wordF
 split
 ·rename_i h
  exact⟨Int.le_refl _,fun _=>h⟩
 ·split
  ·rename_i hb
   have:ps.getD (begN gs t (wordD l ps)) 0∈ps:=by
    rw[List.getD_eq_getElem?_getD,zze hb];exact List.getElem_mem _
   have:=hp _ this
   exact⟨oo,fun e=>by omega⟩
  ·split
   ·exact⟨oo,fun e=>by omega⟩
   ·have:=partner_lt l i
    exact⟨oo,fun e=>by omega⟩
theorem faultK_le {ks:List KindD}{gs:List Grp}{t:DataW Unit}{s:SpecD}{l:List Tok}{i:Int}{ps:List Int}(hl:l.length<=2048)(hp:∀p∈ps,p<2049):∀(f j:Nat),j+f=ps.length->faultK ks gs t s l i ps j f<=2049/\(faultK ks gs t s l i ps j f=2049->(∀m,j<=m->m<ps.length->fitsB ks s ((l[(ps.getD m 0).toNat]?).getD ⟨0,0,0,0⟩)=true)/\LangD gs 200 t (wordD l ps)):=by
 intro f
 induction f with
 | zero=>
  intro j hj;rw[faultK]
  have:=wordF_le (gs:=gs) (t:=t) (i:=i) hl hp
  exact⟨this.1,fun e=>⟨fun m h1 h2=>by omega,this.2 e⟩⟩
 | succ f ih=>
  intro j hj
  have hm:ps.getD j 0∈ps:=by
   rw[List.getD_eq_getElem?_getD,zze (show j<ps.length by omega)];exact List.getElem_mem _
  have hm' := hp _ hm;rw[faultK]
  split
  ·rename_i hfit
   obtain⟨h1,h2⟩:=ih (j+1) oo;refine⟨h1,fun e=>?_⟩;obtain⟨h3,h4⟩:=h2 e;refine⟨fun m h5 h6=>?_,h4⟩
   by_cases e' : m=j
   ·subst e';exact hfit
   ·exact h3 m oo h6
  ·exact⟨oo,fun e=>by omega⟩
theorem faultD_iff {ks:List KindD}{gs:List Grp}{t:DataW Unit}{s:SpecD}{l:List Tok}{i:Int}(hl:l.length<=2048):faultD ks gs t s l i<=2049/\(faultD ks gs t s l i=2049↔WellIn ks gs t s l i):=by
 have hp:∀p∈kids l i,p<2049:=fun p hp=>by have:=(kids_in l i p hp).2;omega
 have h:=faultK_le (ks:=ks) (gs:=gs) (t:=t) (s:=s) (i:=i) hl hp (kids l i).length 0 oo
 refine⟨h.1,fun e=>?_,fun ⟨h1,h2⟩=>?_⟩
 ·obtain⟨h1,h2⟩:=h.2 e
  refine⟨fun p hp=>?_,h2⟩;obtain⟨m,hm⟩:=List.getElem?_of_mem hp
  have:=h1 m (zzn _) (zzc.1 hm).1
  rw[List.getD_eq_getElem?_getD,hm] at this;exact this
 ·rw[faultD_fit h1]
  exact wordF_lang h2
theorem foldF_iff {ks:List KindD}{gs:List Grp}{ts:List (DataW Unit)}{l:List Tok}(hl:l.length<=2048):∀(n i:Nat) (f:Int),i+n=l.length->f<=2049->(foldF ks gs ts l i n f=2049↔(f=2049/\∀q,i<=q->q<l.length->kindAt l q=1->WellAt ks gs ts l q)):=by
 intro n
 induction n with
 | zero=>
  intro i f hi hf;rw[foldF];exact⟨fun e=>⟨e,fun q h1 h2=>by omega⟩,fun e=>e.1⟩
 | succ n ih=>
  intro i f hi hf;rw[foldF]
  split
  ·exact⟨fun e=>by omega,fun e=>by omega⟩
  ·split
   ·rename_i hk
    obtain⟨h1,h2⟩:=faultD_iff (ks:=ks) (gs:=gs) (t:=ts.getD (typeAt l i).toNat emptyT) (s:=specOf ks (typeAt l i).toNat) (i:=(i:Int)) hl;have hfa:faultAt ks gs ts l i<=2049/\(faultAt ks gs ts l i=2049↔WellAt ks gs ts l i):=⟨h1,h2⟩;rw[ih (i+1) _ oo oo]
    constructor
    ·rintro⟨e1,e2⟩
     refine⟨oo,fun q q1 q2 q3=>?_⟩
     by_cases e:q=i
     ·subst e;exact hfa.2.1 oo
     ·exact e2 q oo q2 q3
    ·rintro⟨e1,e2⟩
     have:=hfa.2.2 (e2 i (zzb _) oo hk)
     exact⟨oo,fun q q1 q2 q3=>e2 q oo q2 q3⟩
   ·rename_i hk
    rw[ih (i+1) f oo hf]
    constructor
    ·rintro⟨e1,e2⟩
     refine⟨e1,fun q q1 q2 q3=>?_⟩
     by_cases e:q=i
     ·subst e;exact absurd q3 hk
     ·exact e2 q oo q2 q3
    ·rintro⟨e1,e2⟩
     exact⟨e1,fun q q1 q2 q3=>e2 q oo q2 q3⟩
theorem firstS_iff {ks:List KindD}{gs:List Grp}{ts:List (DataW Unit)}{l:List Tok}(hl:l.length<=2048):firstS ks gs ts l=2049↔WellD ks gs ts l:=by
 unfold firstS WellD
 have h:=faultD_iff (ks:=ks) (gs:=gs) (t:=ts.getD 0 emptyT) (s:=specOf ks 0) (i := -1) hl
 rw[foldF_iff hl _ _ _ oo h.1,h.2]
 constructor
 ·rintro⟨h1,h2⟩
  refine⟨h1,fun i hk=>?_⟩
  by_cases hi:i<l.length
  ·exact h2 i (zzn _) hi hk
  ·unfold kindAt at hk
   rw[List.getElem?_eq_none oo] at hk;exact absurd hk (by decide)
 ·rintro⟨h1,h2⟩
  exact⟨h1,fun q _ _ hk=>h2 q hk⟩
theorem checkS_iff {ks:List KindD}{gs:List Grp}{ts:List (DataW Unit)}{l:List Tok}:(checkS ks gs ts l).2=0↔((check l).2=0/\WellD ks gs ts l):=by
 unfold checkS
 by_cases h0:(check l).2≠0
 ·rw[if_pos h0]
  exact⟨fun e=>absurd e h0,fun e=>absurd e.1 h0⟩
 ·have h0' : (check l).2=0:=Classical.not_not.1 h0
  have hl:=((check_ok l).1 h0').1;rw[if_neg h0,<-firstS_iff hl]
  split
  ·rename_i h1
   exact⟨fun e=>(by cases e),fun e=>absurd e.2 h1⟩
  ·rename_i h1
   exact⟨fun _=>⟨h0', Classical.not_not.1 h1⟩,fun _=>rfl⟩
theorem kidsL_mem (l:List Tok)(i:Int):∀(f k:Nat) (out:List Int),∀x∈kidsL l i k f out,x∈out\/∃m:Nat,x=(m:Int)/\k<=m/\m<k+f/\kindAt l m≠2/\0<=kindAt l m/\kindAt l m<=3/\around l (m:Int)=i:=by
 intro f
 induction f with
 | zero=>intro k out x hx;rw[kidsL] at hx;exact .inl hx
 | succ f ih=>
  intro k out x hx;rw[kidsL] at hx
  split at hx
  ·exact .inl hx
  ·rcases ih _ _ x hx with h | ⟨m,h1,h2,h3,h4⟩
   ·split at h
    ·rename_i hk
     rcases List.mem_append.1 h with h | h
     ·exact .inl h
     ·rw[List.mem_singleton] at h
      exact .inr ⟨k,h,zzb _,oo,hk⟩
    ·exact .inl h
   ·exact .inr ⟨m,h1,oo,oo,h4⟩
theorem kids_mem (l:List Tok)(i x:Int):x∈kids l i↔∃m:Nat,x=(m:Int)/\m<l.length/\kindAt l m≠2/\0<=kindAt l m/\kindAt l m<=3/\around l (m:Int)=i:=by
 constructor
 ·intro h
  unfold kids at h
  split at h
  ·cases h
  ·rcases kidsL_mem l i _ _ _ x h with h | ⟨m,h1,h2,h3,h4⟩
   ·cases h
   ·exact⟨m,h1,oo,h4⟩
 ·rintro⟨m,rfl,h1,h2,h3,h4,rfl⟩
  exact kids_has l m h1 ⟨h2,h3,h4⟩
theorem rise_eq:∀(u v:List Int),u.Pairwise (·<·)->v.Pairwise (·<·)->(∀x,x∈u↔x∈v)->u=v:=by
 intro u
 induction u with
 | nil=>
  intro v _ _ h;cases v with
  | nil=>rfl
  | cons y r=>exact absurd ((h y).2 (zzg ..)) (by simp)
 | cons x u ih=>
  intro v hu hv h;cases v with
  | nil=>exact absurd ((h x).1 (zzg ..)) (by simp)
  | cons y r=>
   rw[List.pairwise_cons] at hu hv
   have e:x=y:=by
    rcases List.mem_cons.1 ((h x).1 (zzg ..)) with e | e
    ·exact e
    ·rcases List.mem_cons.1 ((h y).2 (zzg ..)) with e' | e'
     ·exact e'.symm
     ·have:=hv.1 x e
      have:=hu.1 y e'
      omega
   subst e;rw[ih r hu.2 hv.2 fun z=>?_]
   constructor
   ·intro hz
    rcases List.mem_cons.1 ((h z).1 (zzk _ hz)) with e | e
    ·have:=hu.1 z hz
     omega
    ·exact e
   ·intro hz
    rcases List.mem_cons.1 ((h z).2 (zzk _ hz)) with e | e
    ·have:=hv.1 z hz
     omega
    ·exact e
theorem around_ge (l:List Tok)(p:Nat)(hp:p<=l.length):around l (p:Int) = -1\/(0<=around l (p:Int)/\around l (p:Int)<p):=by
 by_cases h:around l (p:Int) = -1
 ·exact .inl h
 ·exact .inr (opened_lt l p hp _ (around_in l p h))
theorem seek_none (l:List Tok)(i:Int):∀(f k:Nat),(∃j:Nat,seek l i k f=j/\k<=j/\j<k+f/\kindAt l j=2/\around l (j:Int)=i)\/∀m:Nat,k<=m->m<k+f->¬(kindAt l m=2/\around l (m:Int)=i):=by
 intro f
 induction f with
 | zero=>intro k;exact .inr fun m h1 h2=>by omega
 | succ f ih=>
  intro k;rw[seek]
  by_cases h:kindAt l k=2/\around l (k:Int)=i
  ·rw[if_pos h]
   exact .inl ⟨k,rfl,zzb _,oo,h⟩
  ·rw[if_neg h]
   rcases ih (k+1) with ⟨j,h1,h2,h3⟩ | h1
   ·exact .inl ⟨j,h1,oo,oo,h3.2⟩
   ·refine .inr fun m h2 h3=>?_
    by_cases e:m=k
    ·subst e;exact h
    ·exact h1 m oo oo
theorem around_none {l:List Tok}{p:Nat}(hp:p<=l.length)(h:around l (p:Int) = -1):opened l (p:Int)=[]:=by
 unfold around at h
 cases hg:(opened l (p:Int)).getLast? with
 | none=>exact List.getLast?_eq_none_iff.1 hg
 | some x=>
  have:=(opened_lt l p hp x (List.mem_of_getLast? hg)).1
  rw[hg] at h;simp only[Option.getD_some] at h;omega
def treeAt (ts:List (DataW Unit))(l:List Tok)(i:Int):DataW Unit:=if i = -1 then ts.getD 0 emptyT else ts.getD (typeAt l i).toNat emptyT
def specAt (ks:List KindD)(l:List Tok)(i:Int):SpecD:=if i = -1 then specOf ks 0 else specOf ks (typeAt l i).toNat
def PlaceP (l:List Tok)(i:Int):Prop:=i = -1\/∃m:Nat,i=(m:Int)/\kindAt l m=1
theorem wellD_places {ks:List KindD}{gs:List Grp}{ts:List (DataW Unit)}{l:List Tok}:WellD ks gs ts l↔∀i,PlaceP l i->WellIn ks gs (treeAt ts l i) (specAt ks l i) l i:=by
 unfold WellD
 constructor
 ·rintro⟨h1,h2⟩ i (rfl | ⟨m,rfl,hm⟩)
  ·exact h1
  ·unfold treeAt specAt
   rw[if_neg oo,if_neg oo];exact h2 m hm
 ·intro h
  refine⟨h (-1) (.inl rfl),fun m hm=>?_⟩
  have:=h (m:Int) (.inr ⟨m,rfl,hm⟩)
  unfold treeAt specAt at this;rw[if_neg oo,if_neg oo] at this;exact this
theorem around_place (l:List Tok)(n:Nat)(hn:n<=l.length):PlaceP l (around l (n:Int)):=by
 by_cases h:around l (n:Int) = -1
 ·exact .inl h
 ·have h1:=around_in l n h
  have h2:=(opened_lt l n hn _ h1).1;exact .inr ⟨(around l (n:Int)).toNat,oo,opened_kind l n hn _ h1⟩
theorem kind_lt {l:List Tok}{m:Nat}(h:kindAt l m=1):m<l.length:=Nat.lt_of_not_le fun e=>by
 unfold kindAt at h
 rw[List.getElem?_eq_none e] at h
 exact absurd h (by decide)
end Go.Proofs.YtjkebndkeamijaaGreatDoor
