/-
  PROVED HERE: what the texts DAOneP, DAWordP, DARPeek, DAHeldP say.
-/
import Derived.Test.YtjkebndkeamijaaGreatDoorCA24
set_option maxRecDepth 100000
set_option maxHeartbeats 2000000
namespace Go.Proofs.YtjkebndkeamijaaGreatDoor
open Go.RowKit
theorem hEk (gs:List Grp)(n:Nat)(t:DataW Unit):rQ gs n t []:=⟨rP gs n t,0,rfl⟩
theorem gOt (gs:List Grp)(n:Nat)(t:DataW Unit)(zs:List Int):∃i,pZ gs n t zs i:=by
 have key:∀(f i:Nat),i+f=zs.length->rQ gs n t (zs.take i)->∃i,pZ gs n t zs i:=by
  intro f
  induction f with
  | zero=>intro i hi hp;exact⟨i,oo,hp,fun h=>by omega⟩
  | succ f ih=>
   intro i hi hp
   by_cases h:rQ gs n t (zs.take (i+1))
   ·exact ih (i+1) oo h
   ·exact⟨i,oo,hp,fun _=>h⟩
 exact key zs.length 0 oo (hEk gs n t)
theorem gJq (gs:List Grp)(t:DataW Unit)(zs:List Int):pZ gs 200 t zs (gTu gs t zs):=Classical.epsilon_spec (gOt gs 200 t zs)
theorem wK {gs:List Grp}{n:Nat}{t:DataW Unit}{zs:List Int}{i j:Nat}(h:rQ gs n t (zs.take j))(hij:i<=j):rQ gs n t (zs.take i):=by
 have e:zs.take j=zs.take i++(zs.take j).drop i:=by
  have:=(List.take_append_drop i (zs.take j)).symm
  rw[List.take_take,Nat.min_eq_left hij] at this;exact this
 rw[e] at h
 exact gGa h
theorem gJc {gs:List Grp}{n:Nat}{t:DataW Unit}{zs:List Int}(hc:chk n t gs=0)(h:iZ gs n t zs)(i:Nat):rQ gs n t (zs.take i):=by
 have hp:rQ gs n t zs:=⟨0,(gAf hc _).2 h⟩
 rw[<-List.take_append_drop i zs] at hp
 exact gGa hp
theorem gKp {ps:List Int}(h:ps.Pairwise (·<·)){m n:Nat}(hm:m<ps.length)(hn:n<ps.length)(hlt:ps.getD m 0<ps.getD n 0):m<n:=by
 rcases Nat.lt_or_ge m n with h1 | h1
 ·exact h1
 ·exfalso
  rw[List.getD_eq_getElem?_getD,List.getD_eq_getElem?_getD,zze hm,zze hn] at hlt;simp only[Option.getD_some] at hlt;rcases Nat.eq_or_lt_of_le h1 with e | h2
  ·subst e;omega
  ·have:=List.pairwise_iff_getElem.1 h n m hn hm h2
   omega
theorem gCg {ps:List Int}(h:ps.Pairwise (·<·)){m n:Nat}(hn:n<ps.length)(hmn:m<n):ps.getD m 0<ps.getD n 0:=by
 rw[List.getD_eq_getElem?_getD,List.getD_eq_getElem?_getD,zze oo,zze hn]
 exact List.pairwise_iff_getElem.1 h m n oo hn hmn
def qR (l:List Tok)(i:Int):Int:=if i = -1 then (l.length:Int) else iU l i
def hFt (ks:List gN)(gs:List Grp)(t:DataW Unit)(s:gV)(l:List Tok)(ps:List Int)(n:Nat):Prop:=nE ks s ((l[(ps.getD n 0).toNat]?).getD ⟨0,0,0,0⟩)=true/\rQ gs 200 t (iD l (ps.take (n+1)))
def gUa (ks:List gN)(gs:List Grp)(t:DataW Unit)(s:gV)(l:List Tok)(i:Int)(ps:List Int)(f:Int):Prop :=
 (∀n,n<ps.length->ps.getD n 0<f->hFt ks gs t s l ps n)/\(qR l i<f->iZ gs 200 t (iD l ps)) ∧
 (f=2049\/(∃n,n<ps.length/\ps.getD n 0=f/\¬hFt ks gs t s l ps n)\/(f=qR l i/\¬iZ gs 200 t (iD l ps)))
theorem pS (l:List Tok)(ps:List Int)(n:Nat):iD l (ps.take n)=(iD l ps).take n:=by unfold iD;rw[List.map_take]
theorem pT (l:List Tok)(ps:List Int):(iD l ps).length=ps.length:=by unfold iD;rw[List.length_map]
theorem gPr {ks:List gN}{gs:List Grp}{t:DataW Unit}{s:gV}{l:List Tok}{i:Int}{ps:List Int}(hc:chk 200 t gs=0)(hr:ps.Pairwise (·<·))(he:∀n,n<ps.length->ps.getD n 0<qR l i)(h49:qR l i<2049):∀(f j:Nat),j+f=ps.length->(∀m,m<j->nE ks s ((l[(ps.getD m 0).toNat]?).getD ⟨0,0,0,0⟩)=true)->gUa ks gs t s l i ps (lJ ks gs t s l i ps j f):=by
 intro f
 induction f with
 | zero=>
  intro j hj hfit;rw[lJ];have hL:=gJq gs t (iD l ps);have hwl:=pT l ps;unfold oC
  split
  ·rename_i hl
   refine⟨fun n hn _=>⟨hfit n oo,?_⟩,fun _=>hl,.inl rfl⟩;rw[pS];exact gJc hc hl _
  ·rename_i hl
   generalize gTu gs t (iD l ps)=b at *
   split
   ·rename_i hb
    refine⟨fun n hn hlt=>⟨hfit n oo,?_⟩,fun h=>?_,.inr (.inl ⟨b,hb,rfl,fun h=>?_⟩)⟩
    ·have:=gKp hr hn hb hlt
     rw[pS];exact wK hL.2.1 oo
    ·have:=he b hb
     omega
    ·have h2:=h.2
     rw[pS] at h2;exact hL.2.2 oo h2
   ·rename_i hb
    have hp:rQ gs 200 t ((iD l ps).take ps.length):=wK hL.2.1 oo;have ee:(if i = -1 then (l.length:Int) else iU l i)=qR l i:=rfl;rw[ee];refine⟨fun n hn _=>⟨hfit n oo,?_⟩,fun h=>by omega,.inr (.inr ⟨rfl,hl⟩)⟩;rw[pS];exact wK hp oo
 | succ f ih=>
  intro j hj hfit;rw[lJ]
  split
  ·rename_i h
   refine ih (j+1) oo fun m hm=>?_
   by_cases e:m=j
   ·subst e;exact h
   ·exact hfit m oo
  ·rename_i h
   (have hjl:j<ps.length:=by omega);have hej:=he j hjl;have hL:=gJq gs t (iD l (ps.take (j+1)));have hwl:=pT l (ps.take (j+1));rw[List.length_take,Nat.min_eq_left oo] at hwl
   have pre_low:∀b,rQ gs 200 t ((iD l (ps.take (j+1))).take b)->∀n,n+1<=b->n<=j->rQ gs 200 t (iD l (ps.take (n+1))):=fun b hb n hn hnj=>by
    have:=wK (i:=n+1) hb hn
    rw[pS,List.take_take,Nat.min_eq_left oo] at this;rw[pS];exact this
   have atj:∀b,b=j+1->rQ gs 200 t ((iD l (ps.take (j+1))).take b)->gUa ks gs t s l i ps (ps.getD j 0):=fun b hb hp=>
    ⟨fun n hn hlt=>by
     have:=gKp hr hn hjl hlt
     exact⟨hfit n this,pre_low b hp n oo oo⟩,fun h' => by omega,.inr (.inl ⟨j,hjl,rfl,fun h' => h h'.1⟩)⟩
   unfold oC
   split
   ·rename_i hl
    rw[Int.min_eq_left oo];exact atj _ rfl (gJc hc hl _)
   ·rename_i hl
    generalize gTu gs t (iD l (ps.take (j+1)))=b at *;rw[List.length_take,Nat.min_eq_left (by omega:j+1<=ps.length)]
    split
    ·rename_i hb
     have eb:(ps.take (j+1)).getD b 0=ps.getD b 0:=by
      rw[List.getD_eq_getElem?_getD,List.getD_eq_getElem?_getD,List.getElem?_take,if_pos hb]
     have hbl:b<ps.length:=by omega
     have hmin:min (ps.getD j 0) (ps.getD b 0)=ps.getD b 0:=by
      by_cases e:b=j
      ·subst e;omega
      ·have:=gCg hr hjl (show b<j by omega)
       omega
     rw[eb,hmin];refine⟨fun n hn hlt=>?_,fun h' => ?_,.inr (.inl ⟨b,hbl,rfl,fun h' => ?_⟩)⟩
     ·have:=gKp hr hn hbl hlt
      exact⟨hfit n oo,pre_low b hL.2.1 n oo oo⟩
     ·have:=he b hbl
      omega
     ·have h2:=h'.2
      rw[pS] at h2;refine hL.2.2 oo ?_;rw[pS,List.take_take,Nat.min_eq_left oo];exact h2
    ·rename_i hb
     have ee:(if i = -1 then (l.length:Int) else iU l i)=qR l i:=rfl;rw[ee,Int.min_eq_left oo]
     have:=hL.1
     exact atj b oo hL.2.1
theorem k93{p:Prop}(h:p:=by
  rw[hs,gMs oo,hoe,List.dropLast_concat] at hpre
  have:=hpre.length_le
  rw[List.length_append,List.length_singleton] at this;omega
  ):p:=h
theorem nF {l:List Tok}(h:oA l 0=some 0){i:Int}(hp:rR l i):(∀p∈kids l i,i<p/\p<qR l i)/\i<qR l i/\qR l i<=l.length/\(i ≠ -1->∃e:Nat,qR l i=(e:Int)/\e<l.length/\kindAt l e=2/\gB l (e:Int)=i):=by
 rcases hp with rfl | ⟨m,rfl,hm⟩
 ·refine⟨fun p hp=>?_,?_,?_,fun h=>absurd rfl h⟩
  ·have:=vL l _ p hp
   unfold qR;rw[if_pos rfl];omega
  ·unfold qR;rw[if_pos rfl];omega
  ·unfold qR;rw[if_pos rfl];omega
 ·have hml:=sB hm
  obtain⟨e,e1,e2,e3,e4,e5,_⟩:=gWq l h m hml hm;have ee:qR l (m:Int)=(e:Int):=by unfold qR;rw[if_neg oo,e3]
  have hk2:kindAt l e=2:=by
   obtain⟨x,hx,hxk,_⟩:=lY l e e2;apply Classical.byContradiction;intro hne
   by_cases h1:kindAt l e=1
   ·rw[rW l e e2 h1] at e4
    rcases gVz l (e:Int) (l.length - (e+1)) (e+1) with ⟨j,hj,hj1,_⟩ | hno
    ·rw[hj] at e4;omega
    ·have hz:∀(f k:Nat),(∀m:Nat,k<=m->m<k+f->¬(kindAt l m=2/\gB l (m:Int)=e))->rV l (e:Int) k f = -1:=by
      intro f
      induction f with
      | zero=>intro k _;rfl
      | succ f ih=>
       intro k hk;rw[rV,if_neg (hk k (zzb _) oo)];exact ih (k+1) fun m h1 h2=>hk m oo oo
     rw[hz _ _ hno] at e4;omega
   ·rw[gKv l e h1 hne] at e4
    omega
  refine⟨fun p hp=>?_,oo,oo,fun _=>⟨e,ee,e2,hk2,e5⟩⟩;obtain⟨q,rfl,hq,q1,q2,q3,qa⟩:=(gGu l _ _).1 hp
  have:=pY l q oo
  rw[qa] at this;refine⟨oo,?_⟩;rw[ee];rcases Nat.lt_or_ge q e with h1 | h1
  ·omega
  ·exfalso
   by_cases hqe:q=e
   ·subst hqe;exact q1 hk2
   ·-- behind its end it is open no more
    have ho:=mB l q oo m qa;obtain⟨n,n1,n2,_,_,n5⟩:=qI l q oo (gK l (m:Int)) (m:Int) (by rw[ho];exact List.prefix_refl _);(obtain rfl:m=n:=by omega);have hpre:=n5 (e+1) oo oo;obtain⟨x,hx,hxk,hs⟩:=lY l e e2;have hoe:=mB l e oo m e5;exact k93
theorem hEv {l:List Tok}{j:Nat}(hj:j<l.length)(hk:kindAt l j≠2/\0<=kindAt l j/\kindAt l j<=3):∃n,n<(kids l (gB l (j:Int))).length/\(kids l (gB l (j:Int))).getD n 0=(j:Int):=by
 have hm:=wR l j hj hk
 obtain⟨n,hn⟩:=List.getElem?_of_mem hm
 exact⟨n,(zzc.1 hn).1,by rw[List.getD_eq_getElem?_getD,hn];rfl⟩
def mO (l:List Tok)(i:Int)(j:Int):List Int:=(kids l i).filter fun p=>decide (p<j)
theorem gTo {ps:List Int}(h:ps.Pairwise (·<·)){n:Nat}(hn:n<ps.length):(ps.filter fun p=>decide (p<ps.getD n 0))=ps.take n:=by
 have hs:ps=ps.take n++ps.drop n:=(List.take_append_drop n ps).symm
 have h1:∀p∈ps.take n,p<ps.getD n 0:=fun p hp=>by
  obtain⟨m,hm⟩:=List.getElem?_of_mem hp;rw[List.getElem?_take] at hm
  split at hm
  ·rename_i hmn
   have:=gCg h hn hmn
   rw[List.getD_eq_getElem?_getD,hm] at this;exact this
  ·cases hm
 have h2:∀p∈ps.drop n,¬p<ps.getD n 0:=fun p hp=>by
  obtain⟨m,hm⟩:=List.getElem?_of_mem hp;rw[List.getElem?_drop] at hm;have hl:=(zzc.1 hm).1
  by_cases e:m=0
  ·subst e
   rw[List.getD_eq_getElem?_getD,show n=n+0 from rfl,hm]
   simp
  ·have:=gCg h hl (show n<n+m by omega)
   rw[List.getD_eq_getElem?_getD (i:=n+m),hm,Option.getD_some] at this;omega
 generalize ps.getD n 0=q at *
 conv=>lhs;rw[hs]
 rw[List.filter_append,List.filter_eq_self.2 (fun p hp=>by simpa using h1 p hp),List.filter_eq_nil_iff.2 (fun p hp=>by simpa using h2 p hp),List.append_nil]
def vR (ks:List gN)(gs:List Grp)(ts:List (DataW Unit))(l:List Tok)(j:Nat):Prop :=
 (kindAt l j=2->iZ gs 200 (iQ ts l (gB l (j:Int))) (iD l (mO l (gB l (j:Int)) j))) ∧
 (kindAt l j≠2->nE ks (oZ ks l (gB l (j:Int))) ((l[j]?).getD ⟨0,0,0,0⟩)=true/\rQ gs 200 (iQ ts l (gB l (j:Int))) (iD l (mO l (gB l (j:Int)) j)++[jP l (j:Int)]))
noncomputable def tD (ks:List gN)(gs:List Grp)(ts:List (DataW Unit))(l:List Tok)(i:Int):Int:=nU ks gs (iQ ts l i) (oZ ks l i) l i
theorem gJm (ks:List gN)(gs:List Grp)(ts:List (DataW Unit))(l:List Tok)(q:Nat):tD ks gs ts l (q:Int)=kM ks gs ts l q:=by
 unfold tD kM iQ oZ
 rw[if_neg oo,if_neg oo]
theorem gTj {ks:List gN}{gs:List Grp}{ts:List (DataW Unit)}{l:List Tok}:∀(n i:Nat) (f:Int),i+n=l.length->(oL ks gs ts l i n f<=f/\(∀q:Nat,i<=q->(q:Int)<oL ks gs ts l i n f->kindAt l q=1->oL ks gs ts l i n f<=kM ks gs ts l q)/\(oL ks gs ts l i n f=f\/∃q,kindAt l q=1/\oL ks gs ts l i n f=kM ks gs ts l q)):=by
 intro n
 induction n with
 | zero=>
  intro i f hi;rw[oL];exact⟨Int.le_refl _,fun q h1 _ hk=>by have:=sB hk;omega,.inl rfl⟩
 | succ n ih=>
  intro i f hi;rw[oL]
  split
  ·exact⟨Int.le_refl _,fun q h1 h2 _=>by omega,.inl rfl⟩
  ·split
   ·rename_i hk
    obtain⟨h1,h2,h3⟩:=ih (i+1) (min f (kM ks gs ts l i)) oo;refine⟨oo,fun q hq1 hq2 hq3=>?_,?_⟩
    ·by_cases e:q=i
     ·subst e;omega
     ·exact h2 q oo hq2 hq3
    ·rcases h3 with h3 | h3
     ·rw[h3]
      by_cases hm:f<=kM ks gs ts l i
      ·exact .inl oo
      ·exact .inr ⟨i,hk,oo⟩
     ·exact .inr h3
   ·rename_i hk
    obtain⟨h1,h2,h3⟩:=ih (i+1) f oo;refine⟨h1,fun q hq1 hq2 hq3=>?_,h3⟩
    by_cases e:q=i
    ·subst e;exact absurd hq3 hk
    ·exact h2 q oo hq2 hq3
theorem gPp {ks:List gN}{gs:List Grp}{ts:List (DataW Unit)}{l:List Tok}:(∀i,rR l i->i<lL ks gs ts l->lL ks gs ts l<=tD ks gs ts l i\/i = -1)/\lL ks gs ts l<=tD ks gs ts l (-1)/\∃i,rR l i/\lL ks gs ts l=tD ks gs ts l i:=by
 have e0:nU ks gs (ts.getD 0 kE) (kR ks 0) l (-1)=tD ks gs ts l (-1):=rfl
 unfold lL
 rw[e0]
 obtain⟨h1,h2,h3⟩:=gTj (ks:=ks) (gs:=gs) (ts:=ts) (l:=l) l.length 0 (tD ks gs ts l (-1)) oo
 refine⟨fun i hp hi=>?_,h1,?_⟩
 ·rcases hp with rfl | ⟨m,rfl,hm⟩
  ·exact .inr rfl
  ·rw[gJm]
   exact .inl (h2 m (zzn _) hi hm)
 ·rcases h3 with h3 | ⟨q,hq,h3⟩
  ·exact⟨-1,.inl rfl,h3⟩
  ·exact⟨(q:Int),.inr ⟨q,rfl,hq⟩,by rw[gJm];exact h3⟩
theorem gUl {ks:List gN}{gs:List Grp}{ts:List (DataW Unit)}{l:List Tok}{j:Nat}(_hj:j<l.length)(hk:kindAt l j≠2/\0<=kindAt l j/\kindAt l j<=3){n:Nat}(hn:n<(kids l (gB l (j:Int))).length)(he:(kids l (gB l (j:Int))).getD n 0=(j:Int)):vR ks gs ts l j↔hFt ks gs (iQ ts l (gB l (j:Int))) (oZ ks l (gB l (j:Int))) l (kids l (gB l (j:Int))) n:=by
 have hr:=rB l (gB l (j:Int))
 have hf:mO l (gB l (j:Int)) j=(kids l (gB l (j:Int))).take n:=by
  have:=gTo hr hn
  rw[he] at this;exact this
 have hw:iD l ((kids l (gB l (j:Int))).take n)++[jP l (j:Int)]=iD l ((kids l (gB l (j:Int))).take (n+1)):=by
  have hg:(kids l (gB l (j:Int)))[n]? = some (j:Int):=by
   rw[List.getD_eq_getElem?_getD,zze hn] at he;rw[zze hn];exact congrArg some he
  unfold iD;rw[List.take_add_one,hg,List.map_append]
  rfl
 unfold vR hFt
 rw[hf,hw,he,Int.toNat_natCast]
 exact⟨fun h=>h.2 hk.1,fun h=>⟨fun h2=>absurd h2 hk.1,fun _=>h⟩⟩
theorem gUm {ks:List gN}{gs:List Grp}{ts:List (DataW Unit)}{l:List Tok}(h:oA l 0=some 0){j:Nat}(hj:j<l.length)(hk:kindAt l j=2):mO l (gB l (j:Int)) j=kids l (gB l (j:Int))/\rR l (gB l (j:Int))/\gB l (j:Int) ≠ -1/\qR l (gB l (j:Int))=(j:Int)/\(vR ks gs ts l j↔iZ gs 200 (iQ ts l (gB l (j:Int))) (iD l (kids l (gB l (j:Int))))):=by
 obtain⟨n,n1,n2,n3,n4⟩:=gGc l h j hj hk
 have ha:gB l (j:Int)=n:=by rw[<-n2,rE l j hj hk]
 have hp:rR l (gB l (j:Int)):=.inr ⟨n,ha,n3⟩
 have he:qR l (gB l (j:Int))=(j:Int):=by rw[ha];unfold qR;rw[if_neg oo,n4]
 have hall:mO l (gB l (j:Int)) j=kids l (gB l (j:Int)):=by
  unfold mO;refine List.filter_eq_self.2 fun p hpk=>?_
  have:=((nF h hp).1 p hpk).2
  rw[he] at this;simpa using this
 refine⟨hall,hp,oo,he,?_⟩
 unfold vR
 rw[hall]
 exact⟨fun h=>h.1 hk,fun h=>⟨fun _=>h,fun h2=>absurd hk h2⟩⟩
def gUz (gs:List Grp)(ts:List (DataW Unit))(l:List Tok)(n:Nat):Prop:=chk 200 (iQ ts l (-1)) gs=0/\∀q:Nat,q<n->kindAt l q=1->chk 200 (iQ ts l (q:Int)) gs=0
theorem vM {ks:List gN}{gs:List Grp}{ts:List (DataW Unit)}{l:List Tok}(h:oA l 0=some 0)(hl:l.length<=2048){i:Int}(hp:rR l i)(hc:chk 200 (iQ ts l i) gs=0):gUa ks gs (iQ ts l i) (oZ ks l i) l i (kids l i) (tD ks gs ts l i):=by
 obtain⟨e1,e2,e3,_⟩:=nF h hp
 refine gPr hc (rB l i) (fun n hn=>?_) oo _ 0 oo fun m hm=>absurd hm (Nat.not_lt_zero _)
 refine(e1 _ ?_).2
 rw[List.getD_eq_getElem?_getD,zze hn]
 exact List.getElem_mem hn
theorem gDw {ks:List gN}{gs:List Grp}{ts:List (DataW Unit)}{l:List Tok}(h:oA l 0=some 0)(hl:l.length<=2048){i:Int}(hp:rR l i):i<tD ks gs ts l i:=by
 obtain⟨e1,e2,e3,_⟩:=nF h hp
 have hmem:∀(ps:List Int) (b:Nat),b<ps.length->(∀p∈ps,i<p)->i<ps.getD b 0:=fun ps b hb ha=>by
  refine ha _ ?_;rw[List.getD_eq_getElem?_getD,zze hb];exact List.getElem_mem hb
 have hwf:∀t (ps:List Int),(∀p∈ps,i<p)->i<oC gs t l i ps:=fun t ps ha=>by
  unfold oC
  split
  ·omega
  ·split
   ·rename_i hb;exact hmem ps _ hb ha
   ·exact e2
 have key:∀t s (f j:Nat),j+f=(kids l i).length->i<lJ ks gs t s l i (kids l i) j f:=by
  intro t s f
  induction f with
  | zero=>intro j _;rw[lJ];exact hwf t _ fun p hp=>(e1 p hp).1
  | succ f ih=>
   intro j hj;rw[lJ]
   split
   ·exact ih (j+1) oo
   ·have h1:=hmem (kids l i) j oo fun p hp=>(e1 p hp).1
    (have h2:=hwf t ((kids l i).take (j+1)) fun p hp=>(e1 p (List.mem_of_mem_take hp)).1);omega
 exact key _ _ _ 0 oo
theorem gYk {ks:List gN}{gs:List Grp}{ts:List (DataW Unit)}{l:List Tok}(h:oA l 0=some 0)(hl:l.length<=2048){n:Nat}(hn:n<=l.length)(hR:gUz gs ts l n)(hall:∀j,j<n->vR ks gs ts l j) :
  (n<l.length->¬vR ks gs ts l n->lL ks gs ts l=(n:Int))/\(n=l.length->¬iZ gs 200 (iQ ts l (-1)) (iD l (kids l (-1)))->lL ks gs ts l=(n:Int))/\(n=l.length->iZ gs 200 (iQ ts l (-1)) (iD l (kids l (-1)))->lL ks gs ts l=2049):=by
 obtain⟨s1,s2,i,hp,hi⟩:=gPp (ks:=ks) (gs:=gs) (ts:=ts) (l:=l)
 have hkr:=qL h
 have hrt:∀i,rR l i->i<(n:Int)->chk 200 (iQ ts l i) gs=0:=by
  rintro i (rfl | ⟨m,rfl,hm⟩) hlt
  ·exact hR.1
  ·exact hR.2 m oo hm
 -- none comes mO of n, and none but the end of the whole at n = l.length
 have low:lL ks gs ts l<(n:Int)->False:=fun hlt=>by
  have ha:=gDw (ks:=ks) (gs:=gs) (ts:=ts) h hl hp;rw[<-hi] at ha;obtain⟨_,_,f3⟩:=vM (ks:=ks) (ts:=ts) h hl hp (hrt i hp oo);obtain⟨e1,e2,e3,e4⟩:=nF h hp;rw[<-hi] at f3;rcases f3 with f3 | ⟨m,m1,m2,m3⟩ | ⟨f3,f4⟩
  ·omega
  ·have hmem:(kids l i).getD m 0∈kids l i:=by
    rw[List.getD_eq_getElem?_getD,zze m1];exact List.getElem_mem m1
   obtain⟨q,hq,hq1,k1,k2,k3,qa⟩:=(gGu l _ _).1 hmem;subst qa;exact m3 ((gUl hq1 ⟨k1,k2,k3⟩ m1 hq).1 (hall q oo))
  ·by_cases hm1:i = -1
   ·subst hm1
    unfold qR at f3;rw[if_pos rfl] at f3;omega
   ·obtain⟨e,ee,el,ek,ea⟩:=e4 hm1
    subst ea;exact f4 ((gUm (ks:=ks) (gs:=gs) (ts:=ts) h el ek).2.2.2.2.1 (hall e oo))
 have atI:∀j:Nat,j<l.length->j<=n->(j:Int)<lL ks gs ts l->vR ks gs ts l j:=fun j hj hjn hlt=>by
  have hpj:=lM l j oo;have hge:=pY l j oo
  have hfi:lL ks gs ts l<=tD ks gs ts l (gB l (j:Int)):=by
   rcases s1 _ hpj oo with h1 | h1
   ·exact h1
   ·rw[h1];exact s2
  obtain⟨f1,f2,_⟩:=vM (ks:=ks) (ts:=ts) h hl hpj (hrt _ hpj oo)
  by_cases hk:kindAt l j=2
  ·obtain⟨_,_,_,o4,o5⟩:=gUm (ks:=ks) (gs:=gs) (ts:=ts) h hj hk
   exact o5.2 (f2 oo)
  ·obtain⟨m,m1,m2⟩:=hEv hj ⟨hk,hkr j hj⟩
   exact(gUl hj ⟨hk,hkr j hj⟩ m1 m2).2 (f1 m m1 oo)
 have top:lL ks gs ts l<=2049:=by
  rw[hi];unfold tD;exact(gAa hl).1
 refine⟨fun h1 h2=>?_,fun h1 h2=>?_,fun h1 h2=>?_⟩
 ·rcases Int.lt_trichotomy (lL ks gs ts l) (n:Int) with h3 | h3 | h3
  ·exact(low h3).elim
  ·exact h3
  ·exact absurd (atI n h1 (zzb _) h3) h2
 ·rcases Int.lt_trichotomy (lL ks gs ts l) (n:Int) with h3 | h3 | h3
  ·exact(low h3).elim
  ·exact h3
  ·obtain⟨_,f2,_⟩:=vM (ks:=ks) (ts:=ts) h hl (.inl rfl) hR.1
   exact absurd (f2 (by unfold qR;rw[if_pos rfl];omega)) h2
 ·-- all may be
  have ha:=gDw (ks:=ks) (gs:=gs) (ts:=ts) h hl hp;rw[<-hi] at ha;obtain⟨e1,e2,e3,e4⟩:=nF h hp
  have hlt:i<(n:Int):=by
   rcases hp with rfl | ⟨m,rfl,hm⟩
   ·omega
   ·have:=sB hm;omega
  obtain⟨_,_,f3⟩:=vM (ks:=ks) (ts:=ts) h hl hp (hrt i hp hlt);rw[<-hi] at f3;rcases f3 with f3 | ⟨m,m1,m2,m3⟩ | ⟨f3,f4⟩
  ·exact f3
  ·exfalso
   have hmem:(kids l i).getD m 0∈kids l i:=by
    rw[List.getD_eq_getElem?_getD,zze m1];exact List.getElem_mem m1
   have:=(vL l i _ hmem).2
   exact low oo
  ·by_cases hm1:i = -1
   ·subst hm1
    exact absurd h2 f4
   ·obtain⟨e,ee,el,_⟩:=e4 hm1
    exact(low oo).elim
def uT (k d:Int):Int:=if k=1 then d+1 else if k=2 then d - 1 else d
def qA (l:List Tok):Nat->Nat->Int->List Int
 | _,0,_=>[]
 | k,f+1,d=>(if d=0/\kindAt l k≠2 then [jP l (k:Int)] else [])++qA l (k+1) f (uT (kindAt l k) d)
theorem gPq {ps:List Int}(h:ps.Pairwise (·<·)){k to:Int}(hk:k<to):(ps.filter fun p=>decide (k<=p/\p<to))=(if k∈ps then [k] else [])++ps.filter fun p=>decide (k+1<=p/\p<to):=by
 refine hEa _ _ (h.filter _) (List.pairwise_append.2 ⟨by split<;>simp,h.filter _,fun x hx y hy=>?_⟩) fun x=>?_
 ·split at hx
  ·rw[List.mem_singleton] at hx
   have:=(List.mem_filter.1 hy).2
   simp at this;omega
  ·cases hx
 ·rw[List.mem_append,List.mem_filter,List.mem_filter]
  constructor
  ·rintro⟨h1,h2⟩
   simp at h2
   by_cases e:x=k
   ·subst e
    exact .inl (by rw[if_pos h1];exact List.mem_singleton_self _)
   ·exact .inr ⟨h1,by simp;omega⟩
  ·rintro (h1 | ⟨h1,h2⟩)
   ·split at h1
    ·rename_i hm
     rw[List.mem_singleton] at h1;subst h1;exact⟨hm,by simp;omega⟩
    ·cases h1
   ·simp at h2
    exact⟨h1,by simp;omega⟩
theorem gWc {l:List Tok}(h:oA l 0=some 0){i:Int}{S:List Int}{to:Nat}(hto:to<=l.length):∀(f k:Nat),k+f=to->(∀m:Nat,k<=m->m<=to->S <+: gK l (m:Int)/\(gK l (m:Int)=S↔gB l (m:Int)=i))->qA l k f (((gK l (k:Int)).length:Int) - S.length)=iD l ((kids l i).filter fun p=>decide ((k:Int)<=p/\p<(to:Int))):=by
 intro f
 induction f with
 | zero=>
  intro k hk _;rw[qA,List.filter_eq_nil_iff.2 (fun p _=>by simp;omega)]
  rfl
 | succ f ih=>
  intro k hk hS;(have hkl:k<l.length:=by omega);obtain⟨x,hx,hxk,hs⟩:=lY l k hkl;obtain⟨hp,hio⟩:=hS k (zzb _) oo;have hkr:=qL h k hkl
  have hd:uT (kindAt l k) (((gK l (k:Int)).length:Int) - S.length)=((gK l ((k+1:Nat):Int)).length:Int) - S.length:=by
   rw[hs,hxk];unfold uT lA
   split
   ·rw[List.length_append,List.length_singleton];omega
   ·split
    ·rename_i h2
     obtain⟨n,n1,n2,n3,n4⟩:=gGc l h k hkl oo;have ha:gB l (k:Int)=n:=by rw[<-n2,rE l k hkl oo]
     have hne:gK l (k:Int)≠[]:=fun e=>by
      unfold gB at ha;rw[e] at ha;simp at ha
     have:=List.length_pos_iff.2 hne
     rw[List.length_dropLast];omega
    ·rfl
  have hz:(((gK l (k:Int)).length:Int) - S.length=0)↔gB l (k:Int)=i:=by
   rw[<-hio]
   constructor
   ·intro e
    exact(hp.eq_of_length oo).symm
   ·intro e
    rw[e];omega
  have hmem:(k:Int)∈kids l i↔(((gK l (k:Int)).length:Int) - S.length=0/\kindAt l k≠2):=by
   rw[hz,gGu]
   constructor
   ·rintro⟨m,e,_,h2,_,_,h5⟩
    (obtain rfl:k=m:=by omega);exact⟨h5,h2⟩
   ·rintro⟨h1,h2⟩
    exact⟨k,rfl,hkl,h2,hkr.1,hkr.2,h1⟩
  rw[qA,hd,ih (k+1) oo (fun m h1 h2=>hS m oo h2),gPq (rB l i) (by omega:(k:Int)<(to:Int))];unfold iD;rw[List.map_append]
  congr 1
  by_cases hm:(k:Int)∈kids l i
  ·rw[if_pos hm,if_pos (hmem.1 hm)];rfl
  ·rw[if_neg hm,if_neg (fun e=>hm (hmem.2 e))];rfl
theorem gAd {l:List Tok}(h:oA l 0=some 0){i:Int}(hp:rR l i){j:Nat}(hj:j<=l.length)(ha:gB l (j:Int)=i):(j:Int)<=qR l i:=by
 obtain⟨_,_,_,e4⟩:=nF h hp
 by_cases hm:i = -1
 ·subst hm;unfold qR;rw[if_pos rfl];omega
 ·obtain⟨e,ee,el,ek,ea⟩:=e4 hm
  rw[ee];rcases Nat.lt_or_ge e j with h1 | h1
  ·exfalso
   rcases hp with rfl | ⟨m,rfl,_⟩
   ·exact hm rfl
   have ho:=mB l j hj m ha;obtain⟨n,n1,n2,_,_,n5⟩:=qI l j hj (gK l (m:Int)) (m:Int) (by rw[ho];exact List.prefix_refl _);(obtain rfl:m=n:=by omega);have hge:=pY l e oo;have hpre:=n5 (e+1) oo oo;obtain⟨x,hx,hxk,hs⟩:=lY l e el;have hoe:=mB l e oo m ea;exact k93
  ·omega
theorem zT {l:List Tok}(h:oA l 0=some 0){i:Int}(hp:rR l i){fr to:Nat}(ha:gB l (fr:Int)=i)(hft:fr<=to)(hto:(to:Int)<=qR l i):qA l fr (to - fr) 0=iD l ((kids l i).filter fun p=>decide ((fr:Int)<=p/\p<(to:Int))):=by
 obtain⟨_,_,e3,e4⟩:=nF h hp
 have htl:to<=l.length:=by omega
 have key:=gWc h (i:=i) (S:=gK l (fr:Int)) htl (to - fr) fr oo fun m h1 h2=>?_
 ·rw[Int.sub_self] at key
  exact key
 ·by_cases hm:i = -1
  ·subst hm
   rw[gEa oo ha];refine⟨List.nil_prefix,fun e=>?_,fun e=>gEa oo e⟩;unfold gB;rw[e]
   rfl
  ·obtain⟨e,ee,el,ek,ea⟩:=e4 hm
   rcases hp with rfl | ⟨q,rfl,_⟩
   ·exact absurd rfl hm
   have ho:=mB l fr oo q ha;have hoe:=mB l e oo q ea;obtain⟨n,n1,n2,_,_,n5⟩:=qI l e oo (gK l (q:Int)) (q:Int) (by rw[hoe];exact List.prefix_refl _);(obtain rfl:q=n:=by omega);have hge:=pY l fr oo;rw[ho];refine⟨n5 m oo oo,fun e=>yS l m _ _ e,fun e=>?_⟩;exact mB l m oo q e
theorem gFx {l:List Tok}(h:oA l 0=some 0){j:Nat}(hj:j<=l.length):qA l (gB l (j:Int)+1).toNat (j - (gB l (j:Int)+1).toNat) 0=iD l (mO l (gB l (j:Int)) j):=by
 have hp:=lM l j hj
 have hge:=pY l j hj
 have hfr:gB l (((gB l (j:Int)+1).toNat:Nat):Int)=gB l (j:Int):=by
  generalize gB l (j:Int)=i at *;rcases hp with rfl | ⟨m,rfl,hm⟩
  ·show gB l ((0:Nat):Int) = -1
   unfold gB;rw[show ((0:Nat):Int)=0 from rfl,pW]
   rfl
  ·obtain⟨x,hx,hxk,hs⟩:=lY l m (sB hm)
   rw[show ((m:Int)+1).toNat=m+1 by omega];refine yS l (m+1) (gK l (m:Int)) (m:Int) ?_;rw[hs,gFc oo]
 rw[zT h hp hfr oo (gAd h hp hj rfl)]
 unfold mO
 congr 1
 refine List.filter_congr fun p hpk=>?_
 have:=((nF h hp).1 p hpk).1
 simp
 omega
theorem gRt {l:List Tok}(h:oA l 0=some 0):qA l 0 l.length 0=iD l (kids l (-1)):=by
 have h0:gB l ((0:Nat):Int) = -1:=by
  unfold gB;rw[show ((0:Nat):Int)=0 from rfl,pW]
  rfl
 have:=zT h (.inl rfl) h0 (zzn l.length) (by unfold qR;rw[if_pos rfl];omega)
 rw[Nat.sub_zero] at this
 rw[this]
 congr 1
 refine List.filter_eq_self.2 fun p hp=>?_
 have:=vL l _ p hp
 simp
 omega
theorem gNu {l:List Tok}(h:oA l 0=some 0){j e:Nat}(hj:j<=l.length)(he:qR l (gB l (j:Int))=(e:Int)):qA l j (e - j) 0=iD l ((kids l (gB l (j:Int))).filter fun p=>decide ((j:Int)<=p)):=by
 have hp:=lM l j hj
 have hje:=gAd h hp hj rfl
 rw[zT h hp rfl oo oo]
 congr 1
 refine List.filter_congr fun p hpk=>?_
 have:=((nF h hp).1 p hpk).2
 simp
 omega
def PAt (w:World)(g:Nat)(s:ByteArray)(i:Nat)(e:Bool):Prop:=w.heap[g]? = some (.cells #[.string s,.int .i64 (i:Int),.bool e] 181 (0,0))
theorem PAt.cells {w:World}{g:Nat}{s:ByteArray}{i:Nat}{e:Bool}(h:PAt w g s i e):w.cell? ⟨g,0,none⟩=some (.string s)/\w.cell? ⟨g,1,none⟩=some (.int .i64 (i:Int))/\w.cell? ⟨g,2,none⟩=some (.bool e)/\w.frozen? ⟨g,1,none⟩=false/\w.frozen? ⟨g,2,none⟩=false:=by
 have hc:=fun j=>cell_of_row w g j _ _ _ h
 refine⟨hc 0,hc 1,hc 2,?_,?_⟩
 ·simp[World.frozen?,show w.heap[g]? = _ from h]
 ·simp[World.frozen?,show w.heap[g]? = _ from h]
theorem PAt.next {w:World}{g:Nat}{s:ByteArray}{i:Nat}{e:Bool}(h:PAt w g s i e)(j:Nat):PAt (w.setCell ⟨g,1,none⟩ (.int .i64 (j:Int))) g s j e:=heap_setCell_same w g 1 _ _ _ h
theorem k87{p:Prop}(h:p:=by
  go_wp2_with fail
  go_quiet (fail)
  go_wp2_with fail
  go_quiet (fail)
  go_wp2;go_ret;exact⟨by rw[HCc.out];rfl,HD.out,⟨hO.os,hO.tape,hO.output,hO.size,hO.block⟩⟩
  ):p:=h
theorem mF (g:Nat)(s:ByteArray)(i:Nat)(e:Bool)(w:World)(hP:PAt w g s i e)(hi:i<=s.size)(hs:s.size<=1152921504606846976) :
  Calls Tryz.prog 125 #[.pointer (some ⟨g,0,none⟩)] w fun r w' => r=.returned (.int .u8 (jD s (skip s i) e))/\PAt w' g s (skip s i) e/\jW g w w' := by
 obtain⟨T,hT⟩:∃T,skip s i=T:=⟨_,rfl⟩
 rw[hT]
 have HT:Hid (skip s i=T):=hT
 obtain⟨C,hC⟩:∃C,jD s T e=C:=⟨_,rfl⟩
 rw[hC]
 have HC:Hid (jD s T e=C):=hC
 clear hT hC
 go_enter Tryz.func125,Tryz.ntmps125
 go_wp2
 go_loopg [] (s.size+1) (fun f w' => ∃j:Nat,j<=s.size/\s.size+1<=j+f/\skip s j=T/\PAt w' g s j e/\jW g w w')
 case atStart=>exact⟨i,hi,oo,HT.out,hP,jW.refl _ _⟩
 case round=>
  obtain⟨j,hj,hf,hsk,hPj,hO⟩:=hrel;obtain⟨c0,c1,c2,f1,-⟩:=hPj.cells;clear HT hP
  by_cases hlt:j<s.size
  ·have hb:=tF s j hlt
   have l1:(j:Int)<(s.size:Int):=by omega
   by_cases h32:tG s j=32
   ·have HS:Hid (skip s (j+1)=T):=by show _=_;rw[<-gCd hlt h32];exact hsk
    (have hv:((s[j]'hlt).toNat:Int)=32:=by omega);(have HN:Hid (∀q,PAt ((wr.setCell ⟨g,1,none⟩ (.int .i64 ((j:Int)+1))).drewN q) g s (j+1) e):=fun q=>hPj.next (j+1));clear hb hsk hPj;go_wp2_with fail
    go_quiet (fail)
    go_wp2
    go_roundg (gk - 1)
    case measure=>omega
    case rel=>exact⟨j+1,oo,oo,HS.out,HN.out _,(hO.setCell _ _).drewN _⟩
   ·have hT:=hsk
    rw[gCe hlt h32] at hT;subst hT;(have hv1:(((s[j]'hlt).toNat:Int)==32)=false:=by rw[beq_eq_false_iff_ne];omega);have HD:Hid (PAt wr g s j e):=hPj;clear hsk hPj;cases e
    ·have hc:C=max (tG s j:Int) 1:=by rw[<-HC.out];unfold jD;rw[if_neg (by simp;omega)]
     (have hcc:(((s[j]'hlt).toNat:Int)<1/\C=1)\/(¬(((s[j]'hlt).toNat:Int)<1)/\C=((s[j]'hlt).toNat:Int)):=by rw[hc,hb];omega);(have ne:((j:Int)==(s.size:Int))=false:=by rw[beq_eq_false_iff_ne];omega);clear hc HC hb;rcases hcc with ⟨hm,hcc⟩ | ⟨hm,hcc⟩
     all_goals
      have HCc:Hid (C=_):=hcc;(have HM:Hid (max ((s[j]'hlt).toNat:Int) 1=C):=by show max ((s[j]'hlt).toNat:Int) 1=C;omega);clear hcc;go_wp2_with fail
      go_quiet (fail)
      go_wp2_with fail
      go_quiet (fail)
      go_wp2_with fail
      go_quiet (fail)
      go_wp2;go_ret;exact⟨by first | (rw[HCc.out];rfl) | (rw[<-HM.out];rfl),HD.out,⟨hO.os,hO.tape,hO.output,hO.size,hO.block⟩⟩
    ·have HCc:Hid (C=0):=by show C=0;rw[<-HC.out];unfold jD;rw[if_pos (.inl rfl)]
     clear HC hb;exact k87
  ·obtain rfl:j=s.size:=by omega
   have hT:=hsk;rw[gFh] at hT;subst hT;have HD:Hid (PAt wr g s s.size e):=hPj;(have HCc:Hid (C=0):=by show C=0;rw[<-HC.out];unfold jD;rw[if_pos (.inr rfl)]);(have l1:decide ((s.size:Int)<(s.size:Int))=false:=by simp);clear hsk hPj HC;cases e
   all_goals
    exact k87
theorem PAt.lt {w:World}{g:Nat}{s:ByteArray}{i:Nat}{e:Bool}(h:PAt w g s i e):g<w.heap.size:=(zza.1 h).1
theorem PAt.alloc {w:World}{g:Nat}{s:ByteArray}{i:Nat}{e:Bool}(h:PAt w g s i e)(o:Obj):PAt (w.alloc o) g s i e:=(zzf w o g h.lt).trans h
theorem PAt.setRow {w:World}{g:Nat}{s:ByteArray}{i:Nat}{e:Bool}(h:PAt w g s i e)(b:Nat)(cs:Array Value)(hb:b≠g):PAt (w.setRow b cs) g s i e:=(setRow_other w b g cs (Ne.symm hb)).trans h
theorem PAt.below {w w' : World}{g:Nat}{s:ByteArray}{i:Nat}{e:Bool}(h:PAt w g s i e)(hB:Below w.heap.size w w'):PAt w' g s i e:=(hB.block g h.lt).trans h
theorem PAt.err {w:World}{g:Nat}{s:ByteArray}{i:Nat}{e:Bool}(h:PAt w g s i e):PAt (w.setCell ⟨g,2,none⟩ (.bool true)) g s i true:=heap_setCell_same w g 2 _ _ _ h
end Go.Proofs.YtjkebndkeamijaaGreatDoor
