/-
  PROVED HERE: what the texts DAFirstF, DAFirstG, DAHouseE, DAValidS, DAJoinS, DAJoinT, DAMayP, DAMayC, DASpecC say.
-/
import Derived.Test.YtjkebndkeamijaaGreatDoorCA23
set_option maxRecDepth 100000
set_option maxHeartbeats 600000
namespace Go.Proofs.YtjkebndkeamijaaGreatDoor
open Go.RowKit
theorem gLk (l:List Tok)(i:Int)(k f:Nat)(out:List Int):(nW l i k f out).length<=out.length+f:=by
 induction f generalizing k out with
 | zero=>rw[nW];omega
 | succ f ih=>
  rw[nW]
  split
  ·omega
  ·split
   ·have:=ih (k+1) (out++[(k:Int)])
    rw[List.length_append,List.length_singleton] at this;omega
   ·have:=ih (k+1) out
    omega
theorem hCh (l:List Tok)(i:Int)(n:Nat):∀(f k:Nat) (out:List Int),k+f<=n->(∀p∈out,0<=p/\p<n)->∀p∈nW l i k f out,0<=p/\p<n:=by
 intro f
 induction f with
 | zero=>intro k out _ h;rw[nW];exact h
 | succ f ih=>
  intro k out hk h;rw[nW]
  split
  ·exact h
  ·refine ih (k+1) _ oo ?_
   split
   ·intro p hp
    rcases List.mem_append.1 hp with hp | hp
    ·exact h p hp
    ·rw[List.mem_singleton] at hp
     subst hp;omega
   ·exact h
theorem tB (l:List Tok)(i:Int):(kids l i).length<=l.length:=by
 unfold kids
 split
 ·exact zzn _
 ·have:=gLk l i (i+1).toNat (l.length - (i+1).toNat) []
  rw[List.length_nil] at this;omega
theorem vL (l:List Tok)(i:Int):∀p∈kids l i,0<=p/\p<l.length:=by
 unfold kids
 split
 ·intro p hp;cases hp
 ·rename_i h
  exact hCh l i l.length _ _ _ oo (fun p hp=>by cases hp)
noncomputable def kM (ks:List gN)(gs:List Grp)(ts:List (DataW Unit))(l:List Tok)(i:Nat):Int:=nU ks gs (ts.getD (jP l i).toNat kE) (kR ks (jP l i).toNat) l i
noncomputable def oL (ks:List gN)(gs:List Grp)(ts:List (DataW Unit))(l:List Tok):Nat->Nat->Int->Int
 | _,0,f=>f
 | i,n+1,f=>if f<=(i:Int) then f else if kindAt l i=1 then oL ks gs ts l (i+1) n (min f (kM ks gs ts l i)) else oL ks gs ts l (i+1) n f
noncomputable def lL (ks:List gN)(gs:List Grp)(ts:List (DataW Unit))(l:List Tok):Int:=oL ks gs ts l 0 l.length (nU ks gs (ts.getD 0 kE) (kR ks 0) l (-1))
theorem gLs {ts:List (DataW Unit)}{i:Nat}(h:i<ts.length):ts[i]? = some (ts.getD i kE):=by
 rw[List.getD_eq_getElem?_getD,zze h]
 rfl
noncomputable def iR (ks:List gN)(gs:List Grp)(ts:List (DataW Unit))(l:List Tok):Int×Int :=
 if (iO l).2≠0 then iO l else if lL ks gs ts l≠2049 then (lL ks gs ts l,9) else ((l.length:Int),0)
theorem qZ (l:List Tok)(p:Nat)(hp:p<=l.length):∀x∈gK l (p:Int),0<=x/\x<(p:Int):=by
 rw[vH l p hp]
 exact gGi (l.take p) 0 [] (p:Int) (by rw[List.length_take];omega) (fun x hx=>by cases hx)
theorem gKz (l:List Tok)(q:Nat):∀(d:Nat),q+d<=l.length->∀x∈gK l ((q+d:Nat):Int),x∈gK l (q:Int)\/(q:Int)<=x:=by
 intro d
 induction d with
 | zero=>intro _ x hx;exact .inl hx
 | succ d ih=>
  intro hd x hx;obtain⟨y,hy⟩:∃y,l[q+d]? = some y:=⟨_,zze oo⟩;have e:=lX l (q+d) y hy;rw[show q+(d+1)=q+d+1 by omega,e] at hx;unfold lA at hx
  split at hx
  ·rcases List.mem_append.1 hx with hx | hx
   ·exact ih oo x hx
   ·rw[List.mem_singleton] at hx
    subst hx;exact .inr oo
  ·split at hx
   ·exact ih oo x (List.dropLast_subset _ hx)
   ·exact ih oo x hx
theorem wO (l:List Tok):∀(p:Nat),p<=l.length->∀x∈gK l (p:Int),kindAt l x.toNat=1:=by
 intro p
 induction p with
 | zero=>intro _ x hx;rw[show ((0:Nat):Int)=0 from rfl,pW] at hx;cases hx
 | succ p ih=>
  intro hp x hx;obtain⟨y,hy⟩:∃y,l[p]? = some y:=⟨_,zze oo⟩;rw[lX l p y hy] at hx;unfold lA at hx
  split at hx
  ·rename_i hk
   rcases List.mem_append.1 hx with hx | hx
   ·exact ih oo x hx
   ·rw[List.mem_singleton] at hx
    subst hx;rw[Int.toNat_natCast,iF hy];exact hk
  ·split at hx
   ·exact ih oo x (List.dropLast_subset _ hx)
   ·exact ih oo x hx
theorem uU (l:List Tok)(p:Nat)(h:gB l (p:Int) ≠ -1):gB l (p:Int)∈gK l (p:Int):=by
 unfold gB at h ⊢
 cases hg:(gK l (p:Int)).getLast? with
 | none=>rw[hg] at h;exact absurd rfl h
 | some x=>exact List.mem_of_getLast? hg
theorem gTb (l:List Tok)(i:Int):∀(f k:Nat) (out:List Int),∀x∈out,x∈nW l i k f out:=by
 intro f
 induction f with
 | zero=>intro k out x hx;rw[nW];exact hx
 | succ f ih=>
  intro k out x hx;rw[nW]
  split
  ·exact hx
  ·refine ih (k+1) _ x ?_
   split
   ·exact List.mem_append_left _ hx
   ·exact hx
theorem gJg (l:List Tok)(i:Int)(m:Nat)(hm:kindAt l m≠2/\0<=kindAt l m/\kindAt l m<=3/\gB l m=i):∀(f k:Nat) (out:List Int),(∀j,k<=j->j<m->¬(kindAt l j=2/\gB l j=i/\0<=i))->k<=m->m<k+f->(m:Int)∈nW l i k f out:=by
 intro f
 induction f with
 | zero=>intro k out _ h1 h2;omega
 | succ f ih=>
  intro k out hno h1 h2;rw[nW]
  by_cases e:k=m
  ·subst e
   rw[if_neg (fun h=>hm.1 h.1),if_pos hm];exact gTb l i f (k+1) _ _ (List.mem_append_right _ (List.mem_singleton.2 rfl))
  ·rw[if_neg (hno k (zzb _) oo)]
   exact ih (k+1) _ (fun j hj=>hno j oo) oo oo
theorem wR (l:List Tok)(m:Nat)(hm:m<l.length)(hk:kindAt l m≠2/\0<=kindAt l m/\kindAt l m<=3):(m:Int)∈kids l (gB l (m:Int)):=by
 by_cases hq:gB l (m:Int) = -1
 ·rw[hq]
  unfold kids;rw[if_neg oo];exact gJg l (-1) m ⟨hk.1,hk.2.1,hk.2.2,hq⟩ _ _ _ (fun j _ _ h=>absurd h.2.2 (by decide)) oo oo
 ·have hin:=uU l m hq
  obtain⟨h0,h1⟩:=qZ l m oo _ hin;have hkd:=wO l m oo _ hin;obtain⟨n,hn⟩:∃n:Nat,gB l (m:Int)=(n:Int):=⟨(gB l (m:Int)).toNat,oo⟩;rw[hn] at h1 hkd hin ⊢;rw[Int.toNat_natCast] at hkd;unfold kids;rw[if_neg (by rw[Int.toNat_natCast];omega)];refine gJg l (n:Int) m ⟨hk.1,hk.2.1,hk.2.2,hn⟩ _ _ _ (fun j hj hjm h=>?_) oo oo
  -- it was ended ahead of m
  obtain⟨hj2,hja,_⟩:=h;obtain⟨y,hy⟩:∃y,l[j]? = some y:=⟨_,zze oo⟩;have e1:=mB l j oo n hja;have e2:=lX l j y hy;rw[iF hy] at hj2;unfold lA at e2;rw[if_neg oo,if_pos hj2,e1,List.dropLast_concat] at e2
  have:=gKz l (j+1) (m - (j+1)) oo (n:Int) (by rw[show j+1+(m - (j+1))=m by omega];exact hin)
  rcases this with h3 | h3
  ·rw[e2] at h3
   have:=(qZ l n oo _ h3).2
   omega
  ·omega
theorem gTa (l:List Tok)(i:Int):∀(f k:Nat) (out:List Int),out.Pairwise (·<·)->(∀x∈out,x<(k:Int))->(nW l i k f out).Pairwise (·<·):=by
 intro f
 induction f with
 | zero=>intro k out h _;rw[nW];exact h
 | succ f ih=>
  intro k out h hk;rw[nW]
  split
  ·exact h
  ·split
   ·refine ih (k+1) _ ?_ ?_
    ·rw[List.pairwise_append]
     exact⟨h,List.pairwise_singleton _ _,fun x hx y hy=>by rw[List.mem_singleton] at hy;subst hy;exact hk x hx⟩
    ·intro x hx
     rcases List.mem_append.1 hx with hx | hx
     ·have:=hk x hx;omega
     ·rw[List.mem_singleton] at hx;subst hx;omega
   ·exact ih (k+1) _ h (fun x hx=>by have:=hk x hx;omega)
theorem rB (l:List Tok)(i:Int):(kids l i).Pairwise (·<·):=by
 unfold kids
 split
 ·exact List.Pairwise.nil
 ·exact gTa l i _ _ _ List.Pairwise.nil (fun x hx=>by cases hx)
theorem gTq {ks:List gN}{gs:List Grp}{t:DataW Unit}{s:gV}{l:List Tok}{i:Int}{p:Int}(hp:p∈kids l i)(hlt:p<nU ks gs t s l i):nE ks s ((l[p.toNat]?).getD ⟨0,0,0,0⟩)=true:=by
 have hr:=rB l i
 unfold nU at hlt
 obtain⟨m,hm⟩:=List.getElem?_of_mem hp
 have key:∀(f j:Nat),j+f=(kids l i).length->j<=m->p<lJ ks gs t s l i (kids l i) j f->nE ks s ((l[p.toNat]?).getD ⟨0,0,0,0⟩)=true:=by
  intro f
  induction f with
  | zero=>intro j hj hjm _;have:=(zzc.1 hm).1;omega
  | succ f ih=>
   intro j hj hjm hl;rw[lJ] at hl
   split at hl
   ·rename_i hfit
    by_cases e:j=m
    ·subst e
     rw[List.getD_eq_getElem?_getD,hm] at hfit;exact hfit
    ·exact ih (j+1) oo oo hl
   ·exfalso
    have hjl:j<(kids l i).length:=by omega
    have hge:(kids l i).getD j 0<=p:=by
     rw[List.getD_eq_getElem?_getD,zze hjl]
     show (kids l i)[j]<=p
     obtain⟨hml,hme⟩:=zzc.1 hm
     by_cases e:j=m
     ·subst e;rw[hme];exact Int.le_refl _
     ·have:=List.pairwise_iff_getElem.1 hr j m hjl hml oo
      rw[hme] at this;omega
    omega
 exact key _ 0 oo (zzn _) hlt
theorem gQs {ks:List gN}{gs:List Grp}{ts:List (DataW Unit)}{l:List Tok}(hg:∀(k:Nat),k<l.length->0<=kindAt l k/\kindAt l k<=3)(i:Nat)(x:Tok)(f:Int)(hx:l[i]? = some x)(hk:x.k=1)(hif:(i:Int)<f)(hw:f<=nU ks gs (ts.getD 0 kE) (kR ks 0) l (-1))(hall:∀q,q<i->kindAt l q=1->f<=kM ks gs ts l q):0<=x.t/\x.t<ks.length:=by
 have hil:=(zzc.1 hx).1
 have hki:=iF hx
 have hmem:=wR l i hil ⟨by rw[hki];omega,hg i hil⟩
 have fin:∀(t:DataW Unit) (s:gV),(i:Int)<nU ks gs t s l (gB l (i:Int))->0<=x.t/\x.t<ks.length:=fun t s hlt=>by
  have:=gTq hmem hlt
  rw[Int.toNat_natCast,hx] at this;unfold nE at this;rw[if_neg (show ¬((some x).getD ⟨0,0,0,0⟩).k=0 by show ¬x.k=0;omega)] at this
  split at this
  ·rename_i h
   have h' : 1<=x.t/\x.t<ks.length:=h;omega
  ·cases this
 by_cases hq:gB l (i:Int) = -1
 ·rw[hq] at fin
  exact fin _ _ (Int.lt_of_lt_of_le hif hw)
 ·have hin:=uU l i hq
  obtain⟨h0,h1⟩:=qZ l i oo _ hin;have hkd:=wO l i oo _ hin;obtain⟨n,hn⟩:∃n:Nat,gB l (i:Int)=(n:Int):=⟨(gB l (i:Int)).toNat,oo⟩;rw[hn] at fin h1 hkd;rw[Int.toNat_natCast] at hkd
  have:=hall n oo hkd
  unfold kM at this;exact fin _ _ (Int.lt_of_lt_of_le hif this)
theorem zX:∀(l:List Tok) (d e:Int),oA l d=some e->∀x∈l,qV x=true:=by
 intro l
 induction l with
 | nil=>intro d e _ x hx;cases hx
 | cons y r ih=>
  intro d e h x hx;obtain⟨h1,_,h3⟩:=yP h;rcases List.mem_cons.1 hx with rfl | hx
  ·unfold uK at h1
   simp only[Bool.or_eq_false_iff,Bool.not_eq_false'] at h1;exact h1.1
  ·exact ih _ _ h3 x hx
theorem qL {l:List Tok}(h:oA l 0=some 0):∀(k:Nat),k<l.length->0<=kindAt l k/\kindAt l k<=3:=by
 intro k hk
 obtain⟨x,hx⟩:∃x,l[k]? = some x:=⟨_,zze hk⟩
 rw[iF hx]
 have:=zX l 0 0 h x (zzj hx)
 unfold qV at this
 split at this
 ·omega
 ·split at this
  ·omega
  ·split at this
   ·omega
   ·cases this
theorem gHb {B g c ng nc:Nat}{ks:List gN}{gs:List Grp}{ts:List (DataW Unit)}(w:World)(h:qP w B g c ng nc ks gs ts)(h0:0<ks.length)(a:Option Addr)(len cap:Nat)(l:List Tok)(hl:mC w a len l)(hlie:gBw a len cap)(hsz:len<=2048)(hty:∀(i:Nat) (x:Tok) (f:Int),l[i]? = some x->x.k=1->(i:Int)<f->f<=nU ks gs (ts.getD 0 kE) (kR ks 0) l (-1)->(∀q,q<i->kindAt l q=1->f<=kM ks gs ts l q)->0<=x.t/\x.t<ks.length) :
  Calls Tryz.prog 34 #[.pointer (some ⟨B,0,none⟩),.slice a len cap] w fun e w' => e=.returned (.int .i64 (lL ks gs ts l))/\Below w.heap.size w w' := by
 have hll:=hl.1
 have HF0:Hid (Calls Tryz.prog 70 #[.pointer (some ⟨B,0,none⟩),.slice a len cap,.int .i64 (-1)] w fun e w' => e=.returned (.int .i64 (nU ks gs (ts.getD 0 kE) (kR ks 0) l (-1)))/\Below w.heap.size w w') :=
  zI w h h0 a len cap l hl hlie hsz (-1) 0 _ (gLs (by have:=h.len;omega)) (fun X hX=>gGt X (h.below hX) h0 _) (by have:=tB l (-1);omega) (fun p hp=>by have:=vL l (-1) p hp;omega)
 have HFI:Hid (∀(X:World) (i:Nat) (x:Tok),Below w.heap.size w X->l[i]? = some x->x.k=1->(0<=x.t/\x.t<ks.length)->Calls Tryz.prog 70 #[.pointer (some ⟨B,0,none⟩),.slice a len cap,.int .i64 (i:Int)] X fun e w' => e=.returned (.int .i64 (kM ks gs ts l i))/\Below X.heap.size X w'):=fun X i x hX hx _ ⟨t0,t1⟩=>by
  (have hta:jP l (i:Int)=x.t:=by unfold jP;rw[Int.toNat_natCast,hx];rfl);unfold kM;rw[hta];exact zI X (h.below hX) h0 a len cap l (hl.below hX) hlie hsz (i:Int) x.t.toNat _ (gLs (by have:=h.len;omega)) (fun Y hY=>gJe Y (h.below (hX.trans (hY.mono hX.size))) a len cap l (hl.below (hX.trans (hY.mono hX.size))) hsz i x hx t0 t1) (by have:=tB l i;omega) (fun p hp=>by have:=vL l i p hp;omega)
 have HL:Hid (∀(X:World) (p:Nat),Below w.heap.size w X->p<len->∃b o y,a=some ⟨b,o,none⟩/\l[p]? = some y/\X.cell? ⟨b,o+p * 4,none⟩=some (.int .i64 y.k)/\X.cell? ⟨b,o+p * 4+1,none⟩=some (.int .i64 y.t)/\X.cell? ⟨b,o+p * 4+2,none⟩=some (.int .i64 y.n)/\X.cell? ⟨b,o+p * 4+3,none⟩=some (.int .i64 y.m)):=fun X p hX hp=>by
  exact k141
 have HTY:=Hid.mk_ hty
 unfold lL
 obtain⟨f0,hf0⟩:∃f0,nU ks gs (ts.getD 0 kE) (kR ks 0) l (-1)=f0:=⟨_,rfl⟩
 rw[hf0] at HF0 HTY ⊢
 rw[hll]
 have hli:(len:Int)<=2048:=by omega
 clear h hl hlie hty hf0
 go_enter Tryz.func34,Tryz.ntmps34
 go_wp2_with fail
 refine HF0.out.mono ?_
 rintro e W1 ⟨rfl,hB1⟩
 have HB1:=Hid.mk_ hB1
 clear hB1 HF0
 go_wp2
 go_loopg [5,13] (len+1) (fun gk u v wr=>∃(i:Nat) (f:Int),i<=len/\len<i+gk/\u=.int .i64 f/\v=.int .i64 (i:Int)/\oL ks gs ts l i (len - i) f=oL ks gs ts l 0 len f0/\(f<=f0/\∀q,q<i->kindAt l q=1->f<=kM ks gs ts l q)/\Below w.heap.size w wr)
 case atStart=>exact⟨0,f0,zzn _,oo,rfl,rfl,by rw[Nat.sub_zero],⟨Int.le_refl _,fun q hq=>by omega⟩,HB1.out⟩
 case round=>
  obtain⟨i,f,hi,hgk,rfl,rfl,hF,⟨hle,hall⟩,hB⟩:=hrel;have HIN:Hid (f<=f0/\∀q,q<i->kindAt l q=1->f<=kM ks gs ts l q):=⟨hle,hall⟩;clear hle hall;clear HB1
  by_cases hlt:i<len
  ·obtain⟨b,o,y,rfl,hy,d1,d2,d3,d4⟩:=HL.out wr i hB hlt
   (have hii:(i:Int)<(len:Int):=by omega);(have hi0:(0:Int)<=(i:Int):=by omega);(have hd:decide ((i:Int)<(len:Int))=true:=by simpa using hii);(have hst:len - i=(len - (i+1))+1:=by omega);rw[hst,oL,iF hy] at hF;obtain⟨V,hV⟩:∃V,V=wr.alloc (.cells #[.int .i64 y.k,.int .i64 y.t,.int .i64 y.n,.int .i64 y.m] 58):=⟨_,rfl⟩;(have hBV:Below w.heap.size w V:=by rw[hV];exact hB.alloc hB.size _);(have m0:V.heap[wr.heap.size]? = some (.cells #[.int .i64 y.k,.int .i64 y.t,.int .i64 y.n,.int .i64 y.m] 58 (0,0)):=by rw[hV];exact World.alloc_heap_new wr _);have k0:V.cell? ⟨wr.heap.size,0,none⟩=some (.int .i64 y.k):=cell_of_row V wr.heap.size 0 _ _ _ m0;have HV:Hid (wr.alloc (.cells #[.int .i64 y.k,.int .i64 y.t,.int .i64 y.n,.int .i64 y.m] 58)=V):=hV.symm;have HBV:=Hid.mk_ hBV
   by_cases dg:f<=(i:Int)
   ·have hdg:decide (f<=(i:Int))=true:=by simpa using dg
    (have HE:Hid (oL ks gs ts l 0 len f0=f):=by rw[if_pos dg] at hF;exact hF.symm);(have HBA:Hid (∀o,Below w.heap.size w (wr.alloc o)):=fun o=>hB.alloc hB.size o);clear hF hB hBV m0 hV hst hy;go_wp2;go_ret;exact⟨by rw[HE.out];rfl,HBA.out _⟩
   ·have hdg:decide (f<=(i:Int))=false:=by simpa using dg
    rw[if_neg dg] at hF
    by_cases dk:y.k=1
    ·have hdk:(y.k==1)=true:=by simpa using dk
     rw[if_pos dk] at hF;have HFX:=HFI.out V i y hBV hy dk (HTY.out i y f hy dk oo HIN.out.1 HIN.out.2)
     have HINN:Hid (min f (kM ks gs ts l i)<=f0/\∀q,q<i+1->kindAt l q=1->min f (kM ks gs ts l i)<=kM ks gs ts l q):=⟨by have:=HIN.out.1;omega,fun q hq hk=>by
      by_cases e:q=i
      ·subst e;omega
      ·have:=HIN.out.2 q oo hk;omega⟩
     have HFF:=Hid.mk_ hF;obtain⟨fa,hfa⟩:∃fa,kM ks gs ts l i=fa:=⟨_,rfl⟩;rw[hfa] at HFX HFF HINN;clear hfa;clear hF hB hBV m0 hV hst hy dk dg;(go_wp2_with fail);rw[HV.out];refine HFX.mono ?_;rintro e W3 ⟨rfl,hB3⟩;have HB3:=Hid.mk_ (HBV.out.trans (hB3.mono HBV.out.size));clear hB3 HFX;go_wp2
     go_roundg (len - i)
     case measure=>omega
     case rel=>exact⟨i+1,min f fa,oo,oo,by first | rfl | (congr 1;omega),by first | rfl | go_num,HFF.out,HINN.out,HB3.out⟩
    ·have hdk:(y.k==1)=false:=by simpa using dk
     rw[if_neg dk] at hF
     have HINN:Hid (f<=f0/\∀q,q<i+1->kindAt l q=1->f<=kM ks gs ts l q):=⟨HIN.out.1,fun q hq hk=>by
      by_cases e:q=i
      ·subst e;rw[iF hy] at hk;exact absurd hk dk
      ·exact HIN.out.2 q oo hk⟩
     have HFF:=Hid.mk_ hF;(have HBA:Hid (∀o,Below w.heap.size w (wr.alloc o)):=fun o=>hB.alloc hB.size o);clear hF hB hBV m0 hV hst hy dk dg;go_wp2
     go_roundg (len - i)
     case measure=>omega
     case rel=>exact⟨i+1,f,oo,oo,rfl,by first | rfl | go_num,HFF.out,HINN.out,HBA.out _⟩
  ·obtain rfl:i=len:=by omega
   have hd:decide ((i:Int)<(i:Int))=false:=by simp
   have HE:Hid (oL ks gs ts l 0 i f0=f/\Below w.heap.size w wr):=by
    rw[Nat.sub_self,oL] at hF;exact⟨hF.symm,hB⟩
   clear hF hB;go_wp2;go_ret;exact⟨by rw[HE.out.1];rfl,HE.out.2⟩
theorem k45{p:Prop}(h:p:=by
  go_enter Tryz.func10,Tryz.ntmps10;(go_wp2_with fail);refine HM.out.mono ?_;rintro e W ⟨rfl,rfl⟩;(go_wp2_with fail);refine HC.out.mono ?_;rintro e W1 ⟨rfl,hB1⟩;have HB1:=Hid.mk_ hB1;have HF1:=HF.out W1 hB1;clear hB1 HC HM HF;(go_wp2_with fail);refine HF1.mono ?_;rintro e W2 ⟨rfl,hB2⟩;have HB2:=Hid.mk_ (HB1.out.trans (hB2.mono HB1.out.size));clear hB2 HF1;go_wp2;go_ret2;exact⟨rfl,HB2.out⟩
  ):p:=h
theorem gFq {B g c ng nc:Nat}{ks:List gN}{gs:List Grp}{ts:List (DataW Unit)}(w:World)(h:qP w B g c ng nc ks gs ts)(h0:0<ks.length)(a:Option Addr)(len cap:Nat)(l:List Tok)(hl:mC w a len l)(hlie:gBw a len cap)(hsz:len<=4398046511104) :
  Calls Tryz.prog 10 #[.pointer (some ⟨B,0,none⟩),.slice a len cap] w fun e w' => e=.returned (.tuple #[.int .i64 (iR ks gs ts l).1,.int .i64 (iR ks gs ts l).2])/\Below w.heap.size w w' := by
 have HM:=Hid.mk_ (gBg w h h0)
 have HC:Hid (Calls Tryz.prog 33 #[.slice a len cap] w fun e w' => e=.returned (.tuple #[.int .i64 (iO l).1,.int .i64 (iO l).2])/\Below w.heap.size w w'):=gLy a len cap l w hl hsz
 have hll:=hl.1
 obtain⟨ca,cb,hc⟩:∃ca cb,iO l=(ca,cb):=⟨_,_,rfl⟩
 have HFF:Hid (cb=0->∀X,Below w.heap.size w X->Calls Tryz.prog 34 #[.pointer (some ⟨B,0,none⟩),.slice a len cap] X fun e w' => e=.returned (.int .i64 (lL ks gs ts l))/\Below X.heap.size X w'):=fun hz X hX=>by
  (have hc2:(iO l).2=0:=by rw[hc];exact hz);have h20:=((rL l).1 hc2).1;exact gHb X (h.below hX) h0 a len cap l (hl.below hX) hlie oo (gQs (qL ((rL l).1 hc2).2))
 unfold iR
 rw[hc] at HC ⊢
 dsimp only at HC ⊢
 generalize lL ks gs ts l=ff at *
 rw[hll]
 have hli:(len:Int)<=4398046511104:=by omega
 clear h hl hlie hc hll
 by_cases d0:cb≠0
 ·rw[if_pos d0]
  (have e0:(cb==0)=false:=by simpa using d0);(have e1:(cb != 0)=true:=by simp[bne,e0]);clear HFF;go_enter Tryz.func10,Tryz.ntmps10;(go_wp2_with fail);refine HM.out.mono ?_;rintro e W ⟨rfl,rfl⟩;(go_wp2_with fail);refine HC.out.mono ?_;rintro e W1 ⟨rfl,hB1⟩;have HB1:=Hid.mk_ hB1;clear hB1 HC HM;go_wp2;go_ret2;exact⟨rfl,HB1.out⟩
 ·rw[if_neg d0]
  have d0:cb=0:=Classical.not_not.1 d0;subst d0;have e1:((0:Int) != 0)=false:=rfl;have HF:=Hid.mk_ (HFF.out rfl);clear HFF
  by_cases d1:ff≠2049
  ·rw[if_pos d1]
   (have e2:(ff==2049)=false:=by simpa using d1);(have e3:(ff != 2049)=true:=by simp[bne,e2]);exact k45
  ·rw[if_neg d1]
   have d1:ff=2049:=Classical.not_not.1 d1;subst d1;have e3:((2049:Int) != 2049)=false:=rfl;exact k45
theorem gAu {P:Int->Prop}:∀(m:Nat) (w:List Int),gBx (fun v=>∃a,v=[a]/\P a) m w↔(w.length=m/\∀a∈w,P a):=by
 intro m
 induction m with
 | zero=>
  intro w;rw[gBx]
  constructor
  ·rintro rfl
   exact⟨rfl,fun a h=>by cases h⟩
  ·exact fun h=>List.length_eq_zero_iff.1 h.1
 | succ m ih=>
  intro w;rw[gBx]
  constructor
  ·rintro⟨u,v,rfl,⟨a,rfl,ha⟩,hv⟩
   obtain⟨h1,h2⟩:=(ih v).1 hv;refine⟨by rw[List.length_append,List.length_singleton];omega,fun b hb=>?_⟩;rcases List.mem_append.1 hb with hb | hb
   ·rw[List.mem_singleton] at hb;subst hb;exact ha
   ·exact h2 b hb
  ·rintro⟨h1,h2⟩
   cases w with
   | nil=>cases h1
   | cons a r=>
    exact⟨[a],r,rfl,⟨a,rfl,h2 a (zzg ..)⟩,(ih r).2 ⟨by rw[List.length_cons] at h1;omega,fun b hb=>h2 b (zzk _ hb)⟩⟩
theorem gGr (gs:List Grp)(nm:ByteArray):(fun v=>∃x∈[node 1 nm []],qE iE (fun t=>kD gs (nV t)) subs 199 x v)=fun v=>∃a,v=[a]/\mW (kD gs nm) a=true:=by
 funext v
 refine propext ⟨?_,?_⟩
 ·rintro⟨x,hx,h⟩
  rw[List.mem_singleton] at hx;subst hx;rw[qE,if_pos (show iE (node 1 nm [])=1 from rfl)] at h;exact h
 ·intro h
  refine⟨_,List.mem_singleton.2 rfl,?_⟩;rw[qE,if_pos (show iE (node 1 nm [])=1 from rfl)];exact h
theorem gSz (gs:List Grp)(s nm:ByteArray)(w:List Int):iZ gs 200 (node 5 s [node 1 nm []]) w↔(w≠[]/\∀a∈w,mW (kD gs nm) a=true):=by
 have e:iZ gs 200 (node 5 s [node 1 nm []]) w↔∃m,gBx (fun v=>∃x∈[node 1 nm []],qE iE (fun t=>kD gs (nV t)) subs 199 x v) (m+1) w:=by
  unfold iZ;rw[qE,if_neg (show ¬iE (node 5 s [node 1 nm []])=1 by rw[iN];decide),if_neg (show ¬iE (node 5 s [node 1 nm []])=2 by rw[iN];decide),if_neg (show ¬iE (node 5 s [node 1 nm []])=3 by rw[iN];decide),if_neg (show ¬iE (node 5 s [node 1 nm []])=4 by rw[iN];decide),if_pos (show iE (node 5 s [node 1 nm []])=5 from rfl)];exact Iff.rfl
 rw[e,gGr]
 constructor
 ·rintro⟨m,h⟩
  obtain⟨h1,h2⟩:=(gAu _ _).1 h;exact⟨fun e=>(by rw[e] at h1;cases h1),h2⟩
 ·rintro⟨h1,h2⟩
  refine⟨w.length - 1,(gAu _ _).2 ⟨?_,h2⟩⟩
  have:w.length≠0:=fun e=>h1 (List.length_eq_zero_iff.1 e)
  omega
theorem gSy (gs:List Grp)(s nm:ByteArray)(w:List Int):iZ gs 200 (node 4 s [node 1 nm []]) w↔∀a∈w,mW (kD gs nm) a=true:=by
 have e:iZ gs 200 (node 4 s [node 1 nm []]) w↔∃m,gBx (fun v=>∃x∈[node 1 nm []],qE iE (fun t=>kD gs (nV t)) subs 199 x v) m w:=by
  unfold iZ;rw[qE,if_neg (show ¬iE (node 4 s [node 1 nm []])=1 by rw[iN];decide),if_neg (show ¬iE (node 4 s [node 1 nm []])=2 by rw[iN];decide),if_neg (show ¬iE (node 4 s [node 1 nm []])=3 by rw[iN];decide),if_pos (show iE (node 4 s [node 1 nm []])=4 from rfl)];exact Iff.rfl
 rw[e,gGr]
 constructor
 ·rintro⟨m,h⟩
  exact((gAu _ _).1 h).2
 ·intro h
  exact⟨w.length,(gAu _ _).2 ⟨rfl,h⟩⟩
def gsH:List Grp:=gJ jB lI
def hDd:ByteArray:=⟨#[98,108,111,99,107]⟩
theorem gQt:gO kK=node 5 ⟨#[]⟩ [node 1 hDd []]:=by kernel_rfl
theorem gVj:gO gIi=node 4 ⟨#[]⟩ [node 1 lR []]:=by kernel_rfl
theorem gSo:kD gsH hDd=190:=by kernel_rfl
theorem gXf:kD gsH lR=1:=by kernel_rfl
theorem gCz (w:List Int):iZ gsH 200 (gO kK) w↔(w≠[]/\∀a∈w,mW 190 a=true):=by rw[gQt,gSz,gSo]
theorem gEx (w:List Int):iZ gsH 200 (gO gIi) w↔∀a∈w,mW 1 a=true:=by rw[gVj,gSy,gXf]
theorem gPe {w:World}{B:Nat}(h:vV w B kK jB lI):∃g c ng nc ks,qP w B g c ng nc ks gsH (gS kK jB)/\ks.length=8/\∀i,kR ks i=((jC::jB)[i]?).getD jC:=by
 obtain⟨g,c,ng,nc,ks,h1,h2⟩:=h
 refine⟨g,c,ng,nc,ks,h1,?_,fun i=>?_⟩
 ·have:=congrArg List.length h2
  rw[List.length_map] at this;exact this
 ·unfold kR
  rw[<-List.getElem?_map,h2]
def pB:Tok:=⟨1,1,0,0⟩
def nG:Tok:=⟨2,0,0,0⟩
theorem zQ {gs:List Grp}{t:DataW Unit}{l:List Tok}{i:Int}{ps:List Int}(h:iZ gs 200 t (iD l ps)):oC gs t l i ps=2049:=by
 unfold oC
 rw[if_pos h]
theorem gAb {ks:List gN}{gs:List Grp}{t:DataW Unit}{s:gV}{l:List Tok}{i:Int}(hf:∀p∈kids l i,nE ks s ((l[p.toNat]?).getD ⟨0,0,0,0⟩)=true):nU ks gs t s l i=oC gs t l i (kids l i):=by
 unfold nU
 have key:∀(f j:Nat),j+f=(kids l i).length->lJ ks gs t s l i (kids l i) j f=oC gs t l i (kids l i):=by
  intro f
  induction f with
  | zero=>intro j _;rw[lJ]
  | succ f ih=>
   intro j hj
   have hm:(kids l i).getD j 0∈kids l i:=by
    rw[List.getD_eq_getElem?_getD,zze (show j<(kids l i).length by omega)];exact List.getElem_mem _
   rw[lJ,if_pos (hf _ hm)];exact ih (j+1) oo
 exact key _ 0 oo
theorem hDb:iO [pB,nG]=(2,0):=by decide
theorem gHd {ks:List gN}(h8:ks.length=8)(hs:∀i,kR ks i=((jC::jB)[i]?).getD jC):iR ks gsH (gS kK jB) [pB,nG]=(2,0):=by
 have k1:kids [pB,nG] (-1)=[0]:=by decide
 have k2:kids [pB,nG] 0=[]:=by decide
 have f1:nU ks gsH ((gS kK jB).getD 0 kE) (kR ks 0) [pB,nG] (-1)=2049:=by
  rw[gAb,k1]
  ·exact zQ ((gCz _).2 ⟨by decide,by decide⟩)
  ·intro p hp
   rw[k1,List.mem_singleton] at hp;subst hp
   show nE ks (kR ks 0) pB=true
   unfold nE;rw[if_neg (by decide),if_pos (by rw[h8];decide),hs]
   decide
 have f2:kM ks gsH (gS kK jB) [pB,nG] 0=2049:=by
  unfold kM;(have ht:jP [pB,nG] ((0:Nat):Int)=1:=by decide);rw[ht,gAb]
  ·show oC gsH (gO gIi) [pB,nG] 0 (kids [pB,nG] 0)=2049
   rw[k2];exact zQ ((gEx _).2 (fun a ha=>by cases ha))
  ·intro p hp
   have:kids [pB,nG] ((0:Nat):Int)=[]:=k2
   rw[this] at hp;cases hp
 have ff:lL ks gsH (gS kK jB) [pB,nG]=2049:=by
  unfold lL;rw[f1]
  show oL ks gsH (gS kK jB) [pB,nG] 0 2 2049=2049
  rw[oL,if_neg (by decide),if_pos (by decide),f2,oL,if_neg (by decide),if_neg (by decide),oL]
  decide
 unfold iR
 rw[hDb,if_neg (by decide),ff,if_neg (by decide)]
 rfl
def gMh (ks:List gN)(gs:List Grp)(t:DataW Unit)(s:gV)(l:List Tok)(i:Int):Prop:=(∀p∈kids l i,nE ks s ((l[p.toNat]?).getD ⟨0,0,0,0⟩)=true)/\iZ gs 200 t (iD l (kids l i))
def gTw (ks:List gN)(gs:List Grp)(ts:List (DataW Unit))(l:List Tok)(i:Nat):Prop:=gMh ks gs (ts.getD (jP l i).toNat kE) (kR ks (jP l i).toNat) l i
def gJw (ks:List gN)(gs:List Grp)(ts:List (DataW Unit))(l:List Tok):Prop:=gMh ks gs (ts.getD 0 kE) (kR ks 0) l (-1)/\∀i,kindAt l i=1->gTw ks gs ts l i
theorem gSc (l:List Tok)(i:Int):iU l i<l.length\/iU l i = -1:=by
 unfold iU
 split
 ·exact .inr rfl
 ·rename_i h
  split
  ·by_cases hq:gB l i = -1
   ·exact .inr hq
   ·obtain⟨n,rfl⟩:∃n:Nat,i=(n:Int):=⟨i.toNat,oo⟩
    have:=(qZ l n oo _ (uU l n hq)).2
    exact .inl oo
  ·split
   ·rcases gKu l i (i.toNat+1) (l.length - (i.toNat+1)) with h1 | ⟨j,h1,h2⟩
    ·exact .inr h1
    ·rw[h1];exact .inl oo
   ·exact .inr rfl
theorem gZi {gs:List Grp}{t:DataW Unit}{l:List Tok}{i:Int}{ps:List Int}(hl:l.length<=2048)(hp:∀p∈ps,p<2049):oC gs t l i ps<=2049/\(oC gs t l i ps=2049->iZ gs 200 t (iD l ps)):=by
 unfold oC
 split
 ·rename_i h
  exact⟨Int.le_refl _,fun _=>h⟩
 ·split
  ·rename_i hb
   have:ps.getD (gTu gs t (iD l ps)) 0∈ps:=by
    rw[List.getD_eq_getElem?_getD,zze hb];exact List.getElem_mem _
   have:=hp _ this
   exact⟨oo,fun e=>by omega⟩
  ·split
   ·exact⟨oo,fun e=>by omega⟩
   ·have:=gSc l i
    exact⟨oo,fun e=>by omega⟩
theorem gYn {ks:List gN}{gs:List Grp}{t:DataW Unit}{s:gV}{l:List Tok}{i:Int}{ps:List Int}(hl:l.length<=2048)(hp:∀p∈ps,p<2049):∀(f j:Nat),j+f=ps.length->lJ ks gs t s l i ps j f<=2049/\(lJ ks gs t s l i ps j f=2049->(∀m,j<=m->m<ps.length->nE ks s ((l[(ps.getD m 0).toNat]?).getD ⟨0,0,0,0⟩)=true)/\iZ gs 200 t (iD l ps)):=by
 intro f
 induction f with
 | zero=>
  intro j hj;rw[lJ]
  have:=gZi (gs:=gs) (t:=t) (i:=i) hl hp
  exact⟨this.1,fun e=>⟨fun m h1 h2=>by omega,this.2 e⟩⟩
 | succ f ih=>
  intro j hj
  have hm:ps.getD j 0∈ps:=by
   rw[List.getD_eq_getElem?_getD,zze (show j<ps.length by omega)];exact List.getElem_mem _
  have hm' := hp _ hm;rw[lJ]
  split
  ·rename_i hfit
   obtain⟨h1,h2⟩:=ih (j+1) oo;refine⟨h1,fun e=>?_⟩;obtain⟨h3,h4⟩:=h2 e;refine⟨fun m h5 h6=>?_,h4⟩
   by_cases e' : m=j
   ·subst e';exact hfit
   ·exact h3 m oo h6
  ·exact⟨oo,fun e=>by omega⟩
theorem gAa {ks:List gN}{gs:List Grp}{t:DataW Unit}{s:gV}{l:List Tok}{i:Int}(hl:l.length<=2048):nU ks gs t s l i<=2049/\(nU ks gs t s l i=2049↔gMh ks gs t s l i):=by
 have hp:∀p∈kids l i,p<2049:=fun p hp=>by have:=(vL l i p hp).2;omega
 have h:=gYn (ks:=ks) (gs:=gs) (t:=t) (s:=s) (i:=i) hl hp (kids l i).length 0 oo
 refine⟨h.1,fun e=>?_,fun ⟨h1,h2⟩=>?_⟩
 ·obtain⟨h1,h2⟩:=h.2 e
  refine⟨fun p hp=>?_,h2⟩;obtain⟨m,hm⟩:=List.getElem?_of_mem hp
  have:=h1 m (zzn _) (zzc.1 hm).1
  rw[List.getD_eq_getElem?_getD,hm] at this;exact this
 ·rw[gAb h1]
  exact zQ h2
theorem gYf {ks:List gN}{gs:List Grp}{ts:List (DataW Unit)}{l:List Tok}(hl:l.length<=2048):∀(n i:Nat) (f:Int),i+n=l.length->f<=2049->(oL ks gs ts l i n f=2049↔(f=2049/\∀q,i<=q->q<l.length->kindAt l q=1->gTw ks gs ts l q)):=by
 intro n
 induction n with
 | zero=>
  intro i f hi hf;rw[oL];exact⟨fun e=>⟨e,fun q h1 h2=>by omega⟩,fun e=>e.1⟩
 | succ n ih=>
  intro i f hi hf;rw[oL]
  split
  ·exact⟨fun e=>by omega,fun e=>by omega⟩
  ·split
   ·rename_i hk
    obtain⟨h1,h2⟩:=gAa (ks:=ks) (gs:=gs) (t:=ts.getD (jP l i).toNat kE) (s:=kR ks (jP l i).toNat) (i:=(i:Int)) hl;have hfa:kM ks gs ts l i<=2049/\(kM ks gs ts l i=2049↔gTw ks gs ts l i):=⟨h1,h2⟩;rw[ih (i+1) _ oo oo]
    constructor
    ·rintro⟨e1,e2⟩
     refine⟨oo,fun q q1 q2 q3=>?_⟩
     by_cases e:q=i
     ·subst e;exact hfa.2.1 oo
     ·exact e2 q oo q2 q3
    ·rintro⟨e1,e2⟩
     have:=hfa.2.2 (e2 i (zzb _) oo hk)
     exact⟨oo,fun q q1 q2 q3=>e2 q oo q2 q3⟩
   ·rename_i hk
    rw[ih (i+1) f oo hf]
    constructor
    ·rintro⟨e1,e2⟩
     refine⟨e1,fun q q1 q2 q3=>?_⟩
     by_cases e:q=i
     ·subst e;exact absurd q3 hk
     ·exact e2 q oo q2 q3
    ·rintro⟨e1,e2⟩
     exact⟨e1,fun q q1 q2 q3=>e2 q oo q2 q3⟩
theorem gTm {ks:List gN}{gs:List Grp}{ts:List (DataW Unit)}{l:List Tok}(hl:l.length<=2048):lL ks gs ts l=2049↔gJw ks gs ts l:=by
 unfold lL gJw
 have h:=gAa (ks:=ks) (gs:=gs) (t:=ts.getD 0 kE) (s:=kR ks 0) (i := -1) hl
 rw[gYf hl _ _ _ oo h.1,h.2]
 constructor
 ·rintro⟨h1,h2⟩
  refine⟨h1,fun i hk=>?_⟩
  by_cases hi:i<l.length
  ·exact h2 i (zzn _) hi hk
  ·unfold kindAt at hk
   rw[List.getElem?_eq_none oo] at hk;exact absurd hk (by decide)
 ·rintro⟨h1,h2⟩
  exact⟨h1,fun q _ _ hk=>h2 q hk⟩
theorem gAc {ks:List gN}{gs:List Grp}{ts:List (DataW Unit)}{l:List Tok}:(iR ks gs ts l).2=0↔((iO l).2=0/\gJw ks gs ts l):=by
 unfold iR
 by_cases h0:(iO l).2≠0
 ·rw[if_pos h0]
  exact⟨fun e=>absurd e h0,fun e=>absurd e.1 h0⟩
 ·have h0' : (iO l).2=0:=Classical.not_not.1 h0
  have hl:=((rL l).1 h0').1;rw[if_neg h0,<-gTm hl]
  split
  ·rename_i h1
   exact⟨fun e=>(by cases e),fun e=>absurd e.2 h1⟩
  ·rename_i h1
   exact⟨fun _=>⟨h0', Classical.not_not.1 h1⟩,fun _=>rfl⟩
theorem gXx (l:List Tok)(i:Int):∀(f k:Nat) (out:List Int),∀x∈nW l i k f out,x∈out\/∃m:Nat,x=(m:Int)/\k<=m/\m<k+f/\kindAt l m≠2/\0<=kindAt l m/\kindAt l m<=3/\gB l (m:Int)=i:=by
 intro f
 induction f with
 | zero=>intro k out x hx;rw[nW] at hx;exact .inl hx
 | succ f ih=>
  intro k out x hx;rw[nW] at hx
  split at hx
  ·exact .inl hx
  ·rcases ih _ _ x hx with h | ⟨m,h1,h2,h3,h4⟩
   ·split at h
    ·rename_i hk
     rcases List.mem_append.1 h with h | h
     ·exact .inl h
     ·rw[List.mem_singleton] at h
      exact .inr ⟨k,h,zzb _,oo,hk⟩
    ·exact .inl h
   ·exact .inr ⟨m,h1,oo,oo,h4⟩
theorem gGu (l:List Tok)(i x:Int):x∈kids l i↔∃m:Nat,x=(m:Int)/\m<l.length/\kindAt l m≠2/\0<=kindAt l m/\kindAt l m<=3/\gB l (m:Int)=i:=by
 constructor
 ·intro h
  unfold kids at h
  split at h
  ·cases h
  ·rcases gXx l i _ _ _ x h with h | ⟨m,h1,h2,h3,h4⟩
   ·cases h
   ·exact⟨m,h1,oo,h4⟩
 ·rintro⟨m,rfl,h1,h2,h3,h4,rfl⟩
  exact wR l m h1 ⟨h2,h3,h4⟩
theorem hEa:∀(u v:List Int),u.Pairwise (·<·)->v.Pairwise (·<·)->(∀x,x∈u↔x∈v)->u=v:=by
 intro u
 induction u with
 | nil=>
  intro v _ _ h;cases v with
  | nil=>rfl
  | cons y r=>exact absurd ((h y).2 (zzg ..)) (by simp)
 | cons x u ih=>
  intro v hu hv h;cases v with
  | nil=>exact absurd ((h x).1 (zzg ..)) (by simp)
  | cons y r=>
   rw[List.pairwise_cons] at hu hv
   have e:x=y:=by
    rcases List.mem_cons.1 ((h x).1 (zzg ..)) with e | e
    ·exact e
    ·rcases List.mem_cons.1 ((h y).2 (zzg ..)) with e' | e'
     ·exact e'.symm
     ·have:=hv.1 x e
      have:=hu.1 y e'
      omega
   subst e;rw[ih r hu.2 hv.2 fun z=>?_]
   constructor
   ·intro hz
    rcases List.mem_cons.1 ((h z).1 (zzk _ hz)) with e | e
    ·have:=hu.1 z hz
     omega
    ·exact e
   ·intro hz
    rcases List.mem_cons.1 ((h z).2 (zzk _ hz)) with e | e
    ·have:=hv.1 z hz
     omega
    ·exact e
theorem pY (l:List Tok)(p:Nat)(hp:p<=l.length):gB l (p:Int) = -1\/(0<=gB l (p:Int)/\gB l (p:Int)<p):=by
 by_cases h:gB l (p:Int) = -1
 ·exact .inl h
 ·exact .inr (qZ l p hp _ (uU l p h))
theorem gVz (l:List Tok)(i:Int):∀(f k:Nat),(∃j:Nat,rV l i k f=j/\k<=j/\j<k+f/\kindAt l j=2/\gB l (j:Int)=i)\/∀m:Nat,k<=m->m<k+f->¬(kindAt l m=2/\gB l (m:Int)=i):=by
 intro f
 induction f with
 | zero=>intro k;exact .inr fun m h1 h2=>by omega
 | succ f ih=>
  intro k;rw[rV]
  by_cases h:kindAt l k=2/\gB l (k:Int)=i
  ·rw[if_pos h]
   exact .inl ⟨k,rfl,zzb _,oo,h⟩
  ·rw[if_neg h]
   rcases ih (k+1) with ⟨j,h1,h2,h3⟩ | h1
   ·exact .inl ⟨j,h1,oo,oo,h3.2⟩
   ·refine .inr fun m h2 h3=>?_
    by_cases e:m=k
    ·subst e;exact h
    ·exact h1 m oo oo
theorem gEa {l:List Tok}{p:Nat}(hp:p<=l.length)(h:gB l (p:Int) = -1):gK l (p:Int)=[]:=by
 unfold gB at h
 cases hg:(gK l (p:Int)).getLast? with
 | none=>exact List.getLast?_eq_none_iff.1 hg
 | some x=>
  have:=(qZ l p hp x (List.mem_of_getLast? hg)).1
  rw[hg] at h;simp only[Option.getD_some] at h;omega
def iQ (ts:List (DataW Unit))(l:List Tok)(i:Int):DataW Unit:=if i = -1 then ts.getD 0 kE else ts.getD (jP l i).toNat kE
def oZ (ks:List gN)(l:List Tok)(i:Int):gV:=if i = -1 then kR ks 0 else kR ks (jP l i).toNat
def rR (l:List Tok)(i:Int):Prop:=i = -1\/∃m:Nat,i=(m:Int)/\kindAt l m=1
theorem gKb {ks:List gN}{gs:List Grp}{ts:List (DataW Unit)}{l:List Tok}:gJw ks gs ts l↔∀i,rR l i->gMh ks gs (iQ ts l i) (oZ ks l i) l i:=by
 unfold gJw
 constructor
 ·rintro⟨h1,h2⟩ i (rfl | ⟨m,rfl,hm⟩)
  ·exact h1
  ·unfold iQ oZ
   rw[if_neg oo,if_neg oo];exact h2 m hm
 ·intro h
  refine⟨h (-1) (.inl rfl),fun m hm=>?_⟩
  have:=h (m:Int) (.inr ⟨m,rfl,hm⟩)
  unfold iQ oZ at this;rw[if_neg oo,if_neg oo] at this;exact this
theorem lM (l:List Tok)(n:Nat)(hn:n<=l.length):rR l (gB l (n:Int)):=by
 by_cases h:gB l (n:Int) = -1
 ·exact .inl h
 ·have h1:=uU l n h
  have h2:=(qZ l n hn _ h1).1;exact .inr ⟨(gB l (n:Int)).toNat,oo,wO l n hn _ h1⟩
theorem sB {l:List Tok}{m:Nat}(h:kindAt l m=1):m<l.length:=Nat.lt_of_not_le fun e=>by
 unfold kindAt at h
 rw[List.getElem?_eq_none e] at h
 exact absurd h (by decide)
theorem gIa {B g c ng nc:Nat}{ks:List gN}{gs:List Grp}{ts:List (DataW Unit)}(w:World)(h:qP w B g c ng nc ks gs ts)(h0:0<ks.length)(a:Option Addr)(len cap:Nat)(l:List Tok)(hl:mC w a len l)(hlie:gBw a len cap)(hsz:len<=4398046511104) :
  Calls Tryz.prog 39 #[.pointer (some ⟨B,0,none⟩),.slice a len cap] w fun e w' => e=.returned (.bool ((iR ks gs ts l).2==0))/\Below w.heap.size w w' := by
 have HC:=Hid.mk_ (gFq w h h0 a len cap l hl hlie hsz)
 obtain⟨c1,hc1⟩:∃c1,(iR ks gs ts l).1=c1:=⟨_,rfl⟩
 obtain⟨c2,hc2⟩:∃c2,(iR ks gs ts l).2=c2:=⟨_,rfl⟩
 rw[hc1,hc2] at HC
 rw[hc2]
 clear h hl hlie hc1 hc2
 go_enter Tryz.func39,Tryz.ntmps39
 go_wp2_with fail
 refine HC.out.mono ?_
 rintro e W ⟨rfl,hB⟩
 have HE:=Hid.mk_ hB
 clear hB HC
 go_wp2
 go_ret
 first | exact HE.out | exact⟨rfl,HE.out⟩
theorem wE:(Tryz.prog.info? 34).map (·.size)=some 7:=by kernel_rfl
theorem hAw (n e:ByteArray)(f:Bool)(m l k:Int)(b:Bool):(#[Value.string n,.string e,.bool f,.int .i64 m,.int .i64 l,.int .i64 k,.bool b]:Array Value).all (·.oneCell')=true:=by
 rw[Array.all_eq_true_iff_forall_mem]
 intro v hv
 simp at hv
 rcases hv with rfl | rfl | rfl | rfl | rfl | rfl | rfl<;>rfl
end Go.Proofs.YtjkebndkeamijaaGreatDoor
