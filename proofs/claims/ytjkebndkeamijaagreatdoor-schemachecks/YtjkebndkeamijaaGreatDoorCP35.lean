/-
  PROVED HERE: what the texts DPOneP, DPWordP, DPMayC, DPSpecC say.
-/
import Derived.Test.YtjkebndkeamijaaGreatDoorCP34
set_option maxRecDepth 100000
set_option maxHeartbeats 1600000
namespace Go.Proofs.YtjkebndkeamijaaGreatDoor
open Go.RowKit
theorem pre_nil (gs:List Grp)(n:Nat)(t:DataW Unit):PreD gs n t []:=⟨firstF gs n t,0,rfl⟩
theorem long_exists (gs:List Grp)(n:Nat)(t:DataW Unit)(zs:List Int):∃i,LongD gs n t zs i:=by
 have key:∀(f i:Nat),i+f=zs.length->PreD gs n t (zs.take i)->∃i,LongD gs n t zs i:=by
  intro f
  induction f with
  | zero=>intro i hi hp;exact⟨i,oo,hp,fun h=>by omega⟩
  | succ f ih=>
   intro i hi hp
   by_cases h:PreD gs n t (zs.take (i+1))
   ·exact ih (i+1) oo h
   ·exact⟨i,oo,hp,fun _=>h⟩
 exact key zs.length 0 oo (pre_nil gs n t)
theorem begN_long (gs:List Grp)(t:DataW Unit)(zs:List Int):LongD gs 200 t zs (begN gs t zs):=Classical.epsilon_spec (long_exists gs 200 t zs)
theorem pre_take {gs:List Grp}{n:Nat}{t:DataW Unit}{zs:List Int}{i j:Nat}(h:PreD gs n t (zs.take j))(hij:i<=j):PreD gs n t (zs.take i):=by
 have e:zs.take j=zs.take i++(zs.take j).drop i:=by
  have:=(List.take_append_drop i (zs.take j)).symm
  rw[List.take_take,Nat.min_eq_left hij] at this;exact this
 rw[e] at h
 exact pre_less h
theorem lang_take {gs:List Grp}{n:Nat}{t:DataW Unit}{zs:List Int}(hc:chk n t gs=0)(h:LangD gs n t zs)(i:Nat):PreD gs n t (zs.take i):=by
 have hp:PreD gs n t zs:=⟨0,(after_lang hc _).2 h⟩
 rw[<-List.take_append_drop i zs] at hp
 exact pre_less hp
theorem rise_lt {ps:List Int}(h:ps.Pairwise (·<·)){m n:Nat}(hm:m<ps.length)(hn:n<ps.length)(hlt:ps.getD m 0<ps.getD n 0):m<n:=by
 rcases Nat.lt_or_ge m n with h1 | h1
 ·exact h1
 ·exfalso
  rw[List.getD_eq_getElem?_getD,List.getD_eq_getElem?_getD,zze hm,zze hn] at hlt;simp only[Option.getD_some] at hlt;rcases Nat.eq_or_lt_of_le h1 with e | h2
  ·subst e;omega
  ·have:=List.pairwise_iff_getElem.1 h n m hn hm h2
   omega
theorem rise_mono {ps:List Int}(h:ps.Pairwise (·<·)){m n:Nat}(hn:n<ps.length)(hmn:m<n):ps.getD m 0<ps.getD n 0:=by
 rw[List.getD_eq_getElem?_getD,List.getD_eq_getElem?_getD,zze oo,zze hn]
 exact List.pairwise_iff_getElem.1 h m n oo hn hmn
def endP (l:List Tok)(i:Int):Int:=if i = -1 then (l.length:Int) else partner l i
def AskK (ks:List KindD)(gs:List Grp)(t:DataW Unit)(s:SpecD)(l:List Tok)(ps:List Int)(n:Nat):Prop:=fitsB ks s ((l[(ps.getD n 0).toNat]?).getD ⟨0,0,0,0⟩)=true/\PreD gs 200 t (wordD l (ps.take (n+1)))
def FaultP (ks:List KindD)(gs:List Grp)(t:DataW Unit)(s:SpecD)(l:List Tok)(i:Int)(ps:List Int)(f:Int):Prop :=
 (∀n,n<ps.length->ps.getD n 0<f->AskK ks gs t s l ps n)/\(endP l i<f->LangD gs 200 t (wordD l ps)) ∧
 (f=2049\/(∃n,n<ps.length/\ps.getD n 0=f/\¬AskK ks gs t s l ps n)\/(f=endP l i/\¬LangD gs 200 t (wordD l ps)))
theorem word_take (l:List Tok)(ps:List Int)(n:Nat):wordD l (ps.take n)=(wordD l ps).take n:=by unfold wordD;rw[List.map_take]
theorem word_length (l:List Tok)(ps:List Int):(wordD l ps).length=ps.length:=by unfold wordD;rw[List.length_map]
theorem faultK_says {ks:List KindD}{gs:List Grp}{t:DataW Unit}{s:SpecD}{l:List Tok}{i:Int}{ps:List Int}(hc:chk 200 t gs=0)(hr:ps.Pairwise (·<·))(he:∀n,n<ps.length->ps.getD n 0<endP l i)(h49:endP l i<2049):∀(f j:Nat),j+f=ps.length->(∀m,m<j->fitsB ks s ((l[(ps.getD m 0).toNat]?).getD ⟨0,0,0,0⟩)=true)->FaultP ks gs t s l i ps (faultK ks gs t s l i ps j f):=by
 intro f
 induction f with
 | zero=>
  intro j hj hfit;rw[faultK];have hL:=begN_long gs t (wordD l ps);have hwl:=word_length l ps;unfold wordF
  split
  ·rename_i hl
   refine⟨fun n hn _=>⟨hfit n oo,?_⟩,fun _=>hl,.inl rfl⟩;rw[word_take];exact lang_take hc hl _
  ·rename_i hl
   generalize begN gs t (wordD l ps)=b at *
   split
   ·rename_i hb
    refine⟨fun n hn hlt=>⟨hfit n oo,?_⟩,fun h=>?_,.inr (.inl ⟨b,hb,rfl,fun h=>?_⟩)⟩
    ·have:=rise_lt hr hn hb hlt
     rw[word_take];exact pre_take hL.2.1 oo
    ·have:=he b hb
     omega
    ·have h2:=h.2
     rw[word_take] at h2;exact hL.2.2 oo h2
   ·rename_i hb
    have hp:PreD gs 200 t ((wordD l ps).take ps.length):=pre_take hL.2.1 oo;have ee:(if i = -1 then (l.length:Int) else partner l i)=endP l i:=rfl;rw[ee];refine⟨fun n hn _=>⟨hfit n oo,?_⟩,fun h=>by omega,.inr (.inr ⟨rfl,hl⟩)⟩;rw[word_take];exact pre_take hp oo
 | succ f ih=>
  intro j hj hfit;rw[faultK]
  split
  ·rename_i h
   refine ih (j+1) oo fun m hm=>?_
   by_cases e:m=j
   ·subst e;exact h
   ·exact hfit m oo
  ·rename_i h
   (have hjl:j<ps.length:=by omega);have hej:=he j hjl;have hL:=begN_long gs t (wordD l (ps.take (j+1)));have hwl:=word_length l (ps.take (j+1));rw[List.length_take,Nat.min_eq_left oo] at hwl
   have pre_low:∀b,PreD gs 200 t ((wordD l (ps.take (j+1))).take b)->∀n,n+1<=b->n<=j->PreD gs 200 t (wordD l (ps.take (n+1))):=fun b hb n hn hnj=>by
    have:=pre_take (i:=n+1) hb hn
    rw[word_take,List.take_take,Nat.min_eq_left oo] at this;rw[word_take];exact this
   have atj:∀b,b=j+1->PreD gs 200 t ((wordD l (ps.take (j+1))).take b)->FaultP ks gs t s l i ps (ps.getD j 0):=fun b hb hp=>
    ⟨fun n hn hlt=>by
     have:=rise_lt hr hn hjl hlt
     exact⟨hfit n this,pre_low b hp n oo oo⟩,fun h' => by omega,.inr (.inl ⟨j,hjl,rfl,fun h' => h h'.1⟩)⟩
   unfold wordF
   split
   ·rename_i hl
    rw[Int.min_eq_left oo];exact atj _ rfl (lang_take hc hl _)
   ·rename_i hl
    generalize begN gs t (wordD l (ps.take (j+1)))=b at *;rw[List.length_take,Nat.min_eq_left (by omega:j+1<=ps.length)]
    split
    ·rename_i hb
     have eb:(ps.take (j+1)).getD b 0=ps.getD b 0:=by
      rw[List.getD_eq_getElem?_getD,List.getD_eq_getElem?_getD,List.getElem?_take,if_pos hb]
     have hbl:b<ps.length:=by omega
     have hmin:min (ps.getD j 0) (ps.getD b 0)=ps.getD b 0:=by
      by_cases e:b=j
      ·subst e;omega
      ·have:=rise_mono hr hjl (show b<j by omega)
       omega
     rw[eb,hmin];refine⟨fun n hn hlt=>?_,fun h' => ?_,.inr (.inl ⟨b,hbl,rfl,fun h' => ?_⟩)⟩
     ·have:=rise_lt hr hn hbl hlt
      exact⟨hfit n oo,pre_low b hL.2.1 n oo oo⟩
     ·have:=he b hbl
      omega
     ·have h2:=h'.2
      rw[word_take] at h2;refine hL.2.2 oo ?_;rw[word_take,List.take_take,Nat.min_eq_left oo];exact h2
    ·rename_i hb
     have ee:(if i = -1 then (l.length:Int) else partner l i)=endP l i:=rfl;rw[ee,Int.min_eq_left oo]
     have:=hL.1
     exact atj b oo hL.2.1
theorem k85{p:Prop}(h:p:=by
  rw[hs,turn_two oo,hoe,List.dropLast_concat] at hpre
  have:=hpre.length_le
  rw[List.length_append,List.length_singleton] at this;omega
  ):p:=h
theorem end_place {l:List Tok}(h:goes l 0=some 0){i:Int}(hp:PlaceP l i):(∀p∈kids l i,i<p/\p<endP l i)/\i<endP l i/\endP l i<=l.length/\(i ≠ -1->∃e:Nat,endP l i=(e:Int)/\e<l.length/\kindAt l e=2/\around l (e:Int)=i):=by
 rcases hp with rfl | ⟨m,rfl,hm⟩
 ·refine⟨fun p hp=>?_,?_,?_,fun h=>absurd rfl h⟩
  ·have:=kids_in l _ p hp
   unfold endP;rw[if_pos rfl];omega
  ·unfold endP;rw[if_pos rfl];omega
  ·unfold endP;rw[if_pos rfl];omega
 ·have hml:=kind_lt hm
  obtain⟨e,e1,e2,e3,e4,e5,_⟩:=pair_open l h m hml hm;have ee:endP l (m:Int)=(e:Int):=by unfold endP;rw[if_neg oo,e3]
  have hk2:kindAt l e=2:=by
   obtain⟨x,hx,hxk,_⟩:=opened_cons l e e2;apply Classical.byContradiction;intro hne
   by_cases h1:kindAt l e=1
   ·rw[partner_open l e e2 h1] at e4
    rcases seek_none l (e:Int) (l.length - (e+1)) (e+1) with ⟨j,hj,hj1,_⟩ | hno
    ·rw[hj] at e4;omega
    ·have hz:∀(f k:Nat),(∀m:Nat,k<=m->m<k+f->¬(kindAt l m=2/\around l (m:Int)=e))->seek l (e:Int) k f = -1:=by
      intro f
      induction f with
      | zero=>intro k _;rfl
      | succ f ih=>
       intro k hk;rw[seek,if_neg (hk k (zzb _) oo)];exact ih (k+1) fun m h1 h2=>hk m oo oo
     rw[hz _ _ hno] at e4;omega
   ·rw[partner_else l e h1 hne] at e4
    omega
  refine⟨fun p hp=>?_,oo,oo,fun _=>⟨e,ee,e2,hk2,e5⟩⟩;obtain⟨q,rfl,hq,q1,q2,q3,qa⟩:=(kids_mem l _ _).1 hp
  have:=around_ge l q oo
  rw[qa] at this;refine⟨oo,?_⟩;rw[ee];rcases Nat.lt_or_ge q e with h1 | h1
  ·omega
  ·exfalso
   by_cases hqe:q=e
   ·subst hqe;exact q1 hk2
   ·-- behind its end it is open no more
    have ho:=around_last l q oo m qa;obtain⟨n,n1,n2,_,_,n5⟩:=opened_since l q oo (opened l (m:Int)) (m:Int) (by rw[ho];exact List.prefix_refl _);(obtain rfl:m=n:=by omega);have hpre:=n5 (e+1) oo oo;obtain⟨x,hx,hxk,hs⟩:=opened_cons l e e2;have hoe:=around_last l e oo m e5;exact k85
theorem kids_at {l:List Tok}{j:Nat}(hj:j<l.length)(hk:kindAt l j≠2/\0<=kindAt l j/\kindAt l j<=3):∃n,n<(kids l (around l (j:Int))).length/\(kids l (around l (j:Int))).getD n 0=(j:Int):=by
 have hm:=kids_has l j hj hk
 obtain⟨n,hn⟩:=List.getElem?_of_mem hm
 exact⟨n,(zzc.1 hn).1,by rw[List.getD_eq_getElem?_getD,hn];rfl⟩
def aheadK (l:List Tok)(i:Int)(j:Int):List Int:=(kids l i).filter fun p=>decide (p<j)
theorem filter_low {ps:List Int}(h:ps.Pairwise (·<·)){n:Nat}(hn:n<ps.length):(ps.filter fun p=>decide (p<ps.getD n 0))=ps.take n:=by
 have hs:ps=ps.take n++ps.drop n:=(List.take_append_drop n ps).symm
 have h1:∀p∈ps.take n,p<ps.getD n 0:=fun p hp=>by
  obtain⟨m,hm⟩:=List.getElem?_of_mem hp;rw[List.getElem?_take] at hm
  split at hm
  ·rename_i hmn
   have:=rise_mono h hn hmn
   rw[List.getD_eq_getElem?_getD,hm] at this;exact this
  ·cases hm
 have h2:∀p∈ps.drop n,¬p<ps.getD n 0:=fun p hp=>by
  obtain⟨m,hm⟩:=List.getElem?_of_mem hp;rw[List.getElem?_drop] at hm;have hl:=(zzc.1 hm).1
  by_cases e:m=0
  ·subst e
   rw[List.getD_eq_getElem?_getD,show n=n+0 from rfl,hm]
   simp
  ·have:=rise_mono h hl (show n<n+m by omega)
   rw[List.getD_eq_getElem?_getD (i:=n+m),hm,Option.getD_some] at this;omega
 generalize ps.getD n 0=q at *
 conv=>lhs;rw[hs]
 rw[List.filter_append,List.filter_eq_self.2 (fun p hp=>by simpa using h1 p hp),List.filter_eq_nil_iff.2 (fun p hp=>by simpa using h2 p hp),List.append_nil]
def OneD (ks:List KindD)(gs:List Grp)(ts:List (DataW Unit))(l:List Tok)(j:Nat):Prop :=
 (kindAt l j=2->LangD gs 200 (treeAt ts l (around l (j:Int))) (wordD l (aheadK l (around l (j:Int)) j))) ∧
 (kindAt l j≠2->fitsB ks (specAt ks l (around l (j:Int))) ((l[j]?).getD ⟨0,0,0,0⟩)=true/\PreD gs 200 (treeAt ts l (around l (j:Int))) (wordD l (aheadK l (around l (j:Int)) j)++[typeAt l (j:Int)]))
noncomputable def faultI (ks:List KindD)(gs:List Grp)(ts:List (DataW Unit))(l:List Tok)(i:Int):Int:=faultD ks gs (treeAt ts l i) (specAt ks l i) l i
theorem faultI_at (ks:List KindD)(gs:List Grp)(ts:List (DataW Unit))(l:List Tok)(q:Nat):faultI ks gs ts l (q:Int)=faultAt ks gs ts l q:=by
 unfold faultI faultAt treeAt specAt
 rw[if_neg oo,if_neg oo]
theorem foldF_says {ks:List KindD}{gs:List Grp}{ts:List (DataW Unit)}{l:List Tok}:∀(n i:Nat) (f:Int),i+n=l.length->(foldF ks gs ts l i n f<=f/\(∀q:Nat,i<=q->(q:Int)<foldF ks gs ts l i n f->kindAt l q=1->foldF ks gs ts l i n f<=faultAt ks gs ts l q)/\(foldF ks gs ts l i n f=f\/∃q,kindAt l q=1/\foldF ks gs ts l i n f=faultAt ks gs ts l q)):=by
 intro n
 induction n with
 | zero=>
  intro i f hi;rw[foldF];exact⟨Int.le_refl _,fun q h1 _ hk=>by have:=kind_lt hk;omega,.inl rfl⟩
 | succ n ih=>
  intro i f hi;rw[foldF]
  split
  ·exact⟨Int.le_refl _,fun q h1 h2 _=>by omega,.inl rfl⟩
  ·split
   ·rename_i hk
    obtain⟨h1,h2,h3⟩:=ih (i+1) (min f (faultAt ks gs ts l i)) oo;refine⟨oo,fun q hq1 hq2 hq3=>?_,?_⟩
    ·by_cases e:q=i
     ·subst e;omega
     ·exact h2 q oo hq2 hq3
    ·rcases h3 with h3 | h3
     ·rw[h3]
      by_cases hm:f<=faultAt ks gs ts l i
      ·exact .inl oo
      ·exact .inr ⟨i,hk,oo⟩
     ·exact .inr h3
   ·rename_i hk
    obtain⟨h1,h2,h3⟩:=ih (i+1) f oo;refine⟨h1,fun q hq1 hq2 hq3=>?_,h3⟩
    by_cases e:q=i
    ·subst e;exact absurd hq3 hk
    ·exact h2 q oo hq2 hq3
theorem firstS_says {ks:List KindD}{gs:List Grp}{ts:List (DataW Unit)}{l:List Tok}:(∀i,PlaceP l i->i<firstS ks gs ts l->firstS ks gs ts l<=faultI ks gs ts l i\/i = -1)/\firstS ks gs ts l<=faultI ks gs ts l (-1)/\∃i,PlaceP l i/\firstS ks gs ts l=faultI ks gs ts l i:=by
 have e0:faultD ks gs (ts.getD 0 emptyT) (specOf ks 0) l (-1)=faultI ks gs ts l (-1):=rfl
 unfold firstS
 rw[e0]
 obtain⟨h1,h2,h3⟩:=foldF_says (ks:=ks) (gs:=gs) (ts:=ts) (l:=l) l.length 0 (faultI ks gs ts l (-1)) oo
 refine⟨fun i hp hi=>?_,h1,?_⟩
 ·rcases hp with rfl | ⟨m,rfl,hm⟩
  ·exact .inr rfl
  ·rw[faultI_at]
   exact .inl (h2 m (zzn _) hi hm)
 ·rcases h3 with h3 | ⟨q,hq,h3⟩
  ·exact⟨-1,.inl rfl,h3⟩
  ·exact⟨(q:Int),.inr ⟨q,rfl,hq⟩,by rw[faultI_at];exact h3⟩
theorem one_kid {ks:List KindD}{gs:List Grp}{ts:List (DataW Unit)}{l:List Tok}{j:Nat}(_hj:j<l.length)(hk:kindAt l j≠2/\0<=kindAt l j/\kindAt l j<=3){n:Nat}(hn:n<(kids l (around l (j:Int))).length)(he:(kids l (around l (j:Int))).getD n 0=(j:Int)):OneD ks gs ts l j↔AskK ks gs (treeAt ts l (around l (j:Int))) (specAt ks l (around l (j:Int))) l (kids l (around l (j:Int))) n:=by
 have hr:=kids_rise l (around l (j:Int))
 have hf:aheadK l (around l (j:Int)) j=(kids l (around l (j:Int))).take n:=by
  have:=filter_low hr hn
  rw[he] at this;exact this
 have hw:wordD l ((kids l (around l (j:Int))).take n)++[typeAt l (j:Int)]=wordD l ((kids l (around l (j:Int))).take (n+1)):=by
  have hg:(kids l (around l (j:Int)))[n]? = some (j:Int):=by
   rw[List.getD_eq_getElem?_getD,zze hn] at he;rw[zze hn];exact congrArg some he
  unfold wordD;rw[List.take_add_one,hg,List.map_append]
  rfl
 unfold OneD AskK
 rw[hf,hw,he,Int.toNat_natCast]
 exact⟨fun h=>h.2 hk.1,fun h=>⟨fun h2=>absurd h2 hk.1,fun _=>h⟩⟩
theorem one_end {ks:List KindD}{gs:List Grp}{ts:List (DataW Unit)}{l:List Tok}(h:goes l 0=some 0){j:Nat}(hj:j<l.length)(hk:kindAt l j=2):aheadK l (around l (j:Int)) j=kids l (around l (j:Int))/\PlaceP l (around l (j:Int))/\around l (j:Int) ≠ -1/\endP l (around l (j:Int))=(j:Int)/\(OneD ks gs ts l j↔LangD gs 200 (treeAt ts l (around l (j:Int))) (wordD l (kids l (around l (j:Int))))):=by
 obtain⟨n,n1,n2,n3,n4⟩:=pair_close l h j hj hk
 have ha:around l (j:Int)=n:=by rw[<-n2,partner_close l j hj hk]
 have hp:PlaceP l (around l (j:Int)):=.inr ⟨n,ha,n3⟩
 have he:endP l (around l (j:Int))=(j:Int):=by rw[ha];unfold endP;rw[if_neg oo,n4]
 have hall:aheadK l (around l (j:Int)) j=kids l (around l (j:Int)):=by
  unfold aheadK;refine List.filter_eq_self.2 fun p hpk=>?_
  have:=((end_place h hp).1 p hpk).2
  rw[he] at this;simpa using this
 refine⟨hall,hp,oo,he,?_⟩
 unfold OneD
 rw[hall]
 exact⟨fun h=>h.1 hk,fun h=>⟨fun _=>h,fun h2=>absurd hk h2⟩⟩
def RightTo (gs:List Grp)(ts:List (DataW Unit))(l:List Tok)(n:Nat):Prop:=chk 200 (treeAt ts l (-1)) gs=0/\∀q:Nat,q<n->kindAt l q=1->chk 200 (treeAt ts l (q:Int)) gs=0
theorem fault_says {ks:List KindD}{gs:List Grp}{ts:List (DataW Unit)}{l:List Tok}(h:goes l 0=some 0)(hl:l.length<=2048){i:Int}(hp:PlaceP l i)(hc:chk 200 (treeAt ts l i) gs=0):FaultP ks gs (treeAt ts l i) (specAt ks l i) l i (kids l i) (faultI ks gs ts l i):=by
 obtain⟨e1,e2,e3,_⟩:=end_place h hp
 refine faultK_says hc (kids_rise l i) (fun n hn=>?_) oo _ 0 oo fun m hm=>absurd hm (Nat.not_lt_zero _)
 refine(e1 _ ?_).2
 rw[List.getD_eq_getElem?_getD,zze hn]
 exact List.getElem_mem hn
theorem fault_ahead {ks:List KindD}{gs:List Grp}{ts:List (DataW Unit)}{l:List Tok}(h:goes l 0=some 0)(hl:l.length<=2048){i:Int}(hp:PlaceP l i):i<faultI ks gs ts l i:=by
 obtain⟨e1,e2,e3,_⟩:=end_place h hp
 have hmem:∀(ps:List Int) (b:Nat),b<ps.length->(∀p∈ps,i<p)->i<ps.getD b 0:=fun ps b hb ha=>by
  refine ha _ ?_;rw[List.getD_eq_getElem?_getD,zze hb];exact List.getElem_mem hb
 have hwf:∀t (ps:List Int),(∀p∈ps,i<p)->i<wordF gs t l i ps:=fun t ps ha=>by
  unfold wordF
  split
  ·omega
  ·split
   ·rename_i hb;exact hmem ps _ hb ha
   ·exact e2
 have key:∀t s (f j:Nat),j+f=(kids l i).length->i<faultK ks gs t s l i (kids l i) j f:=by
  intro t s f
  induction f with
  | zero=>intro j _;rw[faultK];exact hwf t _ fun p hp=>(e1 p hp).1
  | succ f ih=>
   intro j hj;rw[faultK]
   split
   ·exact ih (j+1) oo
   ·have h1:=hmem (kids l i) j oo fun p hp=>(e1 p hp).1
    (have h2:=hwf t ((kids l i).take (j+1)) fun p hp=>(e1 p (List.mem_of_mem_take hp)).1);omega
 exact key _ _ _ 0 oo
theorem first_one {ks:List KindD}{gs:List Grp}{ts:List (DataW Unit)}{l:List Tok}(h:goes l 0=some 0)(hl:l.length<=2048){n:Nat}(hn:n<=l.length)(hR:RightTo gs ts l n)(hall:∀j,j<n->OneD ks gs ts l j) :
  (n<l.length->¬OneD ks gs ts l n->firstS ks gs ts l=(n:Int))/\(n=l.length->¬LangD gs 200 (treeAt ts l (-1)) (wordD l (kids l (-1)))->firstS ks gs ts l=(n:Int))/\(n=l.length->LangD gs 200 (treeAt ts l (-1)) (wordD l (kids l (-1)))->firstS ks gs ts l=2049):=by
 obtain⟨s1,s2,i,hp,hi⟩:=firstS_says (ks:=ks) (gs:=gs) (ts:=ts) (l:=l)
 have hkr:=kinds_rightS h
 have hrt:∀i,PlaceP l i->i<(n:Int)->chk 200 (treeAt ts l i) gs=0:=by
  rintro i (rfl | ⟨m,rfl,hm⟩) hlt
  ·exact hR.1
  ·exact hR.2 m oo hm
 -- none comes aheadK of n, and none but the end of the whole at n = l.length
 have low:firstS ks gs ts l<(n:Int)->False:=fun hlt=>by
  have ha:=fault_ahead (ks:=ks) (gs:=gs) (ts:=ts) h hl hp;rw[<-hi] at ha;obtain⟨_,_,f3⟩:=fault_says (ks:=ks) (ts:=ts) h hl hp (hrt i hp oo);obtain⟨e1,e2,e3,e4⟩:=end_place h hp;rw[<-hi] at f3;rcases f3 with f3 | ⟨m,m1,m2,m3⟩ | ⟨f3,f4⟩
  ·omega
  ·have hmem:(kids l i).getD m 0∈kids l i:=by
    rw[List.getD_eq_getElem?_getD,zze m1];exact List.getElem_mem m1
   obtain⟨q,hq,hq1,k1,k2,k3,qa⟩:=(kids_mem l _ _).1 hmem;subst qa;exact m3 ((one_kid hq1 ⟨k1,k2,k3⟩ m1 hq).1 (hall q oo))
  ·by_cases hm1:i = -1
   ·subst hm1
    unfold endP at f3;rw[if_pos rfl] at f3;omega
   ·obtain⟨e,ee,el,ek,ea⟩:=e4 hm1
    subst ea;exact f4 ((one_end (ks:=ks) (gs:=gs) (ts:=ts) h el ek).2.2.2.2.1 (hall e oo))
 have atI:∀j:Nat,j<l.length->j<=n->(j:Int)<firstS ks gs ts l->OneD ks gs ts l j:=fun j hj hjn hlt=>by
  have hpj:=around_place l j oo;have hge:=around_ge l j oo
  have hfi:firstS ks gs ts l<=faultI ks gs ts l (around l (j:Int)):=by
   rcases s1 _ hpj oo with h1 | h1
   ·exact h1
   ·rw[h1];exact s2
  obtain⟨f1,f2,_⟩:=fault_says (ks:=ks) (ts:=ts) h hl hpj (hrt _ hpj oo)
  by_cases hk:kindAt l j=2
  ·obtain⟨_,_,_,o4,o5⟩:=one_end (ks:=ks) (gs:=gs) (ts:=ts) h hj hk
   exact o5.2 (f2 oo)
  ·obtain⟨m,m1,m2⟩:=kids_at hj ⟨hk,hkr j hj⟩
   exact(one_kid hj ⟨hk,hkr j hj⟩ m1 m2).2 (f1 m m1 oo)
 have top:firstS ks gs ts l<=2049:=by
  rw[hi];unfold faultI;exact(faultD_iff hl).1
 refine⟨fun h1 h2=>?_,fun h1 h2=>?_,fun h1 h2=>?_⟩
 ·rcases Int.lt_trichotomy (firstS ks gs ts l) (n:Int) with h3 | h3 | h3
  ·exact(low h3).elim
  ·exact h3
  ·exact absurd (atI n h1 (zzb _) h3) h2
 ·rcases Int.lt_trichotomy (firstS ks gs ts l) (n:Int) with h3 | h3 | h3
  ·exact(low h3).elim
  ·exact h3
  ·obtain⟨_,f2,_⟩:=fault_says (ks:=ks) (ts:=ts) h hl (.inl rfl) hR.1
   exact absurd (f2 (by unfold endP;rw[if_pos rfl];omega)) h2
 ·-- all may be
  have ha:=fault_ahead (ks:=ks) (gs:=gs) (ts:=ts) h hl hp;rw[<-hi] at ha;obtain⟨e1,e2,e3,e4⟩:=end_place h hp
  have hlt:i<(n:Int):=by
   rcases hp with rfl | ⟨m,rfl,hm⟩
   ·omega
   ·have:=kind_lt hm;omega
  obtain⟨_,_,f3⟩:=fault_says (ks:=ks) (ts:=ts) h hl hp (hrt i hp hlt);rw[<-hi] at f3;rcases f3 with f3 | ⟨m,m1,m2,m3⟩ | ⟨f3,f4⟩
  ·exact f3
  ·exfalso
   have hmem:(kids l i).getD m 0∈kids l i:=by
    rw[List.getD_eq_getElem?_getD,zze m1];exact List.getElem_mem m1
   have:=(kids_in l i _ hmem).2
   exact low oo
  ·by_cases hm1:i = -1
   ·subst hm1
    exact absurd h2 f4
   ·obtain⟨e,ee,el,_⟩:=e4 hm1
    exact(low oo).elim
def deepK (k d:Int):Int:=if k=1 then d+1 else if k=2 then d - 1 else d
def refW (l:List Tok):Nat->Nat->Int->List Int
 | _,0,_=>[]
 | k,f+1,d=>(if d=0/\kindAt l k≠2 then [typeAt l (k:Int)] else [])++refW l (k+1) f (deepK (kindAt l k) d)
theorem filter_step {ps:List Int}(h:ps.Pairwise (·<·)){k to:Int}(hk:k<to):(ps.filter fun p=>decide (k<=p/\p<to))=(if k∈ps then [k] else [])++ps.filter fun p=>decide (k+1<=p/\p<to):=by
 refine rise_eq _ _ (h.filter _) (List.pairwise_append.2 ⟨by split<;>simp,h.filter _,fun x hx y hy=>?_⟩) fun x=>?_
 ·split at hx
  ·rw[List.mem_singleton] at hx
   have:=(List.mem_filter.1 hy).2
   simp at this;omega
  ·cases hx
 ·rw[List.mem_append,List.mem_filter,List.mem_filter]
  constructor
  ·rintro⟨h1,h2⟩
   simp at h2
   by_cases e:x=k
   ·subst e
    exact .inl (by rw[if_pos h1];exact List.mem_singleton_self _)
   ·exact .inr ⟨h1,by simp;omega⟩
  ·rintro (h1 | ⟨h1,h2⟩)
   ·split at h1
    ·rename_i hm
     rw[List.mem_singleton] at h1;subst h1;exact⟨hm,by simp;omega⟩
    ·cases h1
   ·simp at h2
    exact⟨h1,by simp;omega⟩
theorem refW_kids {l:List Tok}(h:goes l 0=some 0){i:Int}{S:List Int}{to:Nat}(hto:to<=l.length):∀(f k:Nat),k+f=to->(∀m:Nat,k<=m->m<=to->S <+: opened l (m:Int)/\(opened l (m:Int)=S↔around l (m:Int)=i))->refW l k f (((opened l (k:Int)).length:Int) - S.length)=wordD l ((kids l i).filter fun p=>decide ((k:Int)<=p/\p<(to:Int))):=by
 intro f
 induction f with
 | zero=>
  intro k hk _;rw[refW,List.filter_eq_nil_iff.2 (fun p _=>by simp;omega)]
  rfl
 | succ f ih=>
  intro k hk hS;(have hkl:k<l.length:=by omega);obtain⟨x,hx,hxk,hs⟩:=opened_cons l k hkl;obtain⟨hp,hio⟩:=hS k (zzb _) oo;have hkr:=kinds_rightS h k hkl
  have hd:deepK (kindAt l k) (((opened l (k:Int)).length:Int) - S.length)=((opened l ((k+1:Nat):Int)).length:Int) - S.length:=by
   rw[hs,hxk];unfold deepK turn
   split
   ·rw[List.length_append,List.length_singleton];omega
   ·split
    ·rename_i h2
     obtain⟨n,n1,n2,n3,n4⟩:=pair_close l h k hkl oo;have ha:around l (k:Int)=n:=by rw[<-n2,partner_close l k hkl oo]
     have hne:opened l (k:Int)≠[]:=fun e=>by
      unfold around at ha;rw[e] at ha;simp at ha
     have:=List.length_pos_iff.2 hne
     rw[List.length_dropLast];omega
    ·rfl
  have hz:(((opened l (k:Int)).length:Int) - S.length=0)↔around l (k:Int)=i:=by
   rw[<-hio]
   constructor
   ·intro e
    exact(hp.eq_of_length oo).symm
   ·intro e
    rw[e];omega
  have hmem:(k:Int)∈kids l i↔(((opened l (k:Int)).length:Int) - S.length=0/\kindAt l k≠2):=by
   rw[hz,kids_mem]
   constructor
   ·rintro⟨m,e,_,h2,_,_,h5⟩
    (obtain rfl:k=m:=by omega);exact⟨h5,h2⟩
   ·rintro⟨h1,h2⟩
    exact⟨k,rfl,hkl,h2,hkr.1,hkr.2,h1⟩
  rw[refW,hd,ih (k+1) oo (fun m h1 h2=>hS m oo h2),filter_step (kids_rise l i) (by omega:(k:Int)<(to:Int))];unfold wordD;rw[List.map_append]
  congr 1
  by_cases hm:(k:Int)∈kids l i
  ·rw[if_pos hm,if_pos (hmem.1 hm)];rfl
  ·rw[if_neg hm,if_neg (fun e=>hm (hmem.2 e))];rfl
theorem around_end {l:List Tok}(h:goes l 0=some 0){i:Int}(hp:PlaceP l i){j:Nat}(hj:j<=l.length)(ha:around l (j:Int)=i):(j:Int)<=endP l i:=by
 obtain⟨_,_,_,e4⟩:=end_place h hp
 by_cases hm:i = -1
 ·subst hm;unfold endP;rw[if_pos rfl];omega
 ·obtain⟨e,ee,el,ek,ea⟩:=e4 hm
  rw[ee];rcases Nat.lt_or_ge e j with h1 | h1
  ·exfalso
   rcases hp with rfl | ⟨m,rfl,_⟩
   ·exact hm rfl
   have ho:=around_last l j hj m ha;obtain⟨n,n1,n2,_,_,n5⟩:=opened_since l j hj (opened l (m:Int)) (m:Int) (by rw[ho];exact List.prefix_refl _);(obtain rfl:m=n:=by omega);have hge:=around_ge l e oo;have hpre:=n5 (e+1) oo oo;obtain⟨x,hx,hxk,hs⟩:=opened_cons l e el;have hoe:=around_last l e oo m ea;exact k85
  ·omega
theorem refW_place {l:List Tok}(h:goes l 0=some 0){i:Int}(hp:PlaceP l i){fr to:Nat}(ha:around l (fr:Int)=i)(hft:fr<=to)(hto:(to:Int)<=endP l i):refW l fr (to - fr) 0=wordD l ((kids l i).filter fun p=>decide ((fr:Int)<=p/\p<(to:Int))):=by
 obtain⟨_,_,e3,e4⟩:=end_place h hp
 have htl:to<=l.length:=by omega
 have key:=refW_kids h (i:=i) (S:=opened l (fr:Int)) htl (to - fr) fr oo fun m h1 h2=>?_
 ·rw[Int.sub_self] at key
  exact key
 ·by_cases hm:i = -1
  ·subst hm
   rw[around_none oo ha];refine⟨List.nil_prefix,fun e=>?_,fun e=>around_none oo e⟩;unfold around;rw[e]
   rfl
  ·obtain⟨e,ee,el,ek,ea⟩:=e4 hm
   rcases hp with rfl | ⟨q,rfl,_⟩
   ·exact absurd rfl hm
   have ho:=around_last l fr oo q ha;have hoe:=around_last l e oo q ea;obtain⟨n,n1,n2,_,_,n5⟩:=opened_since l e oo (opened l (q:Int)) (q:Int) (by rw[hoe];exact List.prefix_refl _);(obtain rfl:q=n:=by omega);have hge:=around_ge l fr oo;rw[ho];refine⟨n5 m oo oo,fun e=>around_of l m _ _ e,fun e=>?_⟩;exact around_last l m oo q e
theorem refW_ahead {l:List Tok}(h:goes l 0=some 0){j:Nat}(hj:j<=l.length):refW l (around l (j:Int)+1).toNat (j - (around l (j:Int)+1).toNat) 0=wordD l (aheadK l (around l (j:Int)) j):=by
 have hp:=around_place l j hj
 have hge:=around_ge l j hj
 have hfr:around l (((around l (j:Int)+1).toNat:Nat):Int)=around l (j:Int):=by
  generalize around l (j:Int)=i at *;rcases hp with rfl | ⟨m,rfl,hm⟩
  ·show around l ((0:Nat):Int) = -1
   unfold around;rw[show ((0:Nat):Int)=0 from rfl,opened_zero]
   rfl
  ·obtain⟨x,hx,hxk,hs⟩:=opened_cons l m (kind_lt hm)
   rw[show ((m:Int)+1).toNat=m+1 by omega];refine around_of l (m+1) (opened l (m:Int)) (m:Int) ?_;rw[hs,turn_one oo]
 rw[refW_place h hp hfr oo (around_end h hp hj rfl)]
 unfold aheadK
 congr 1
 refine List.filter_congr fun p hpk=>?_
 have:=((end_place h hp).1 p hpk).1
 simp
 omega
theorem refW_whole {l:List Tok}(h:goes l 0=some 0):refW l 0 l.length 0=wordD l (kids l (-1)):=by
 have h0:around l ((0:Nat):Int) = -1:=by
  unfold around;rw[show ((0:Nat):Int)=0 from rfl,opened_zero]
  rfl
 have:=refW_place h (.inl rfl) h0 (zzn l.length) (by unfold endP;rw[if_pos rfl];omega)
 rw[Nat.sub_zero] at this
 rw[this]
 congr 1
 refine List.filter_eq_self.2 fun p hp=>?_
 have:=kids_in l _ p hp
 simp
 omega
theorem refW_behind {l:List Tok}(h:goes l 0=some 0){j e:Nat}(hj:j<=l.length)(he:endP l (around l (j:Int))=(e:Int)):refW l j (e - j) 0=wordD l ((kids l (around l (j:Int))).filter fun p=>decide ((j:Int)<=p)):=by
 have hp:=around_place l j hj
 have hje:=around_end h hp hj rfl
 rw[refW_place h hp rfl oo oo]
 congr 1
 refine List.filter_congr fun p hpk=>?_
 have:=((end_place h hp).1 p hpk).2
 simp
 omega
theorem isvalid_calls {B g c ng nc:Nat}{ks:List KindD}{gs:List Grp}{ts:List (DataW Unit)}(w:World)(h:SchAt w B g c ng nc ks gs ts)(h0:0<ks.length)(a:Option Addr)(len cap:Nat)(l:List Tok)(hl:Toks w a len l)(hlie:Lies a len cap)(hsz:len<=4398046511104) :
  Calls Tryz.prog 39 #[.pointer (some ⟨B,0,none⟩),.slice a len cap] w fun e w' => e=.returned (.bool ((checkS ks gs ts l).2==0))/\Below w.heap.size w w' := by
 have HC:=Hid.mk_ (scheck_any w h h0 a len cap l hl hlie hsz)
 obtain⟨c1,hc1⟩:∃c1,(checkS ks gs ts l).1=c1:=⟨_,rfl⟩
 obtain⟨c2,hc2⟩:∃c2,(checkS ks gs ts l).2=c2:=⟨_,rfl⟩
 rw[hc1,hc2] at HC
 rw[hc2]
 clear h hl hlie hc1 hc2
 go_enter Tryz.func39,Tryz.ntmps39
 go_wp2_with fail
 refine HC.out.mono ?_
 rintro e W ⟨rfl,hB⟩
 have HE:=Hid.mk_ hB
 clear hB HC
 go_wp2
 go_ret
 first | exact HE.out | exact⟨rfl,HE.out⟩
theorem sizeSpec:(Tryz.prog.info? 34).map (·.size)=some 7:=by kernel_rfl
theorem ones7 (n e:ByteArray)(f:Bool)(m l k:Int)(b:Bool):(#[Value.string n,.string e,.bool f,.int .i64 m,.int .i64 l,.int .i64 k,.bool b]:Array Value).all (·.oneCell')=true:=by
 rw[Array.all_eq_true_iff_forall_mem]
 intro v hv
 simp at hv
 rcases hv with rfl | rfl | rfl | rfl | rfl | rfl | rfl<;>rfl
def specR (ks:List KindD)(t:Int):SpecD:=if 1<=t/\t<ks.length then specOf ks t.toNat else zeroS
theorem k51{p:Prop}(h:p:=by
  refine bodyPost_ret (results_row_tmp rfl _ _ w.heap.size 34 #[.string xn,.string xe,.bool xf,.int .i64 xm,.int .i64 xl,.int .i64 xk,.bool xb] (0,0) _ rfl (setRow_heap _ _ _ _ _ _ HZ.out) Tryz.underlying34 rfl sizeSpec) rfl ?_;exact⟨rfl,HF.out _⟩
  ):p:=h
theorem spec_calls {B g c ng nc:Nat}{ks:List KindD}{gs:List Grp}{ts:List (DataW Unit)}(w:World)(h:SchAt w B g c ng nc ks gs ts)(h0:0<ks.length)(t:Int) :
  Calls Tryz.prog 18 #[.pointer (some ⟨B,0,none⟩),.int .i64 t] w fun e w' => e=.returned (.tuple #[specV (specR ks t),.bool (decide (1<=t/\t<ks.length))])/\Below w.heap.size w w' := by
 obtain⟨V,hV⟩:∃V,V=w.alloc (.cells #[.string ⟨#[]⟩,.string ⟨#[]⟩,.bool false,.int .i64 0,.int .i64 0,.int .i64 0,.bool false] 34):=⟨_,rfl⟩
 have hBV:Below w.heap.size w V:=by rw[hV];exact(zzd _ w).alloc (zzb _) _
 have hS:=h.below hBV
 have HT:=typeof_calls V hS h0 t
 have HZ:Hid (V.heap[w.heap.size]? = some (.cells #[.string ⟨#[]⟩,.string ⟨#[]⟩,.bool false,.int .i64 0,.int .i64 0,.int .i64 0,.bool false] 34 (0,0))):=by rw[hV];exact World.alloc_heap_new w _
 have HF:Hid (∀cs,Below w.heap.size w (V.setRow w.heap.size cs)):=fun cs=>below_setRow hBV (zzb _) cs
 unfold specR
 by_cases hc:1<=t/\t<ks.length
 ·rw[if_pos hc] at HT ⊢
  obtain⟨n,rfl⟩:∃n:Nat,t=(n:Int):=⟨t.toNat,oo⟩;rw[Int.toNat_natCast] at HT ⊢;obtain⟨x,hx⟩:∃x,ks[n]? = some x:=⟨_,zze oo⟩;rw[specOf_some hx];obtain⟨s0,s1,s2,s3,s4,s5,s6⟩:=(hS.kinds n x hx).1;(have hd:decide (1<=(n:Int)/\(n:Int)<ks.length)=true:=by simpa using hc);rw[hd];obtain⟨⟨xn,xe,xf,xm,xl,xk,xb⟩,y⟩:=x;unfold specV;dsimp only at *;clear h hS hx hBV hc hd;go_enter Tryz.func18,Tryz.ntmps18;(go_wp2_with fail);rw[<-hV];clear hV;refine HT.mono ?_;rintro e w' ⟨rfl,rfl⟩;clear HT;(go_wp2_with (refine wpList_store_row rfl 34 _ _ rfl w.heap.size #[.string xn,.string xe,.bool xf,.int .i64 xm,.int .i64 xl,.int .i64 xk,.bool xb] rfl rfl 34 _ HZ.out sizeSpec rfl (ones7 _ _ _ _ _ _ _) ?_));exact k51
 ·rw[if_neg hc] at HT ⊢
  (have hd:decide (1<=t/\t<(ks.length:Int))=false:=by simpa using hc);rw[hd];unfold specV zeroS;dsimp only at *;clear h hS hBV hc hd;go_enter Tryz.func18,Tryz.ntmps18;(go_wp2_with fail);rw[<-hV];clear hV;refine HT.mono ?_;rintro e w' ⟨rfl,rfl⟩;clear HT;(go_wp2_with (refine wpList_store_row rfl 34 _ _ rfl w.heap.size #[.string ⟨#[]⟩,.string ⟨#[]⟩,.bool false,.int .i64 0,.int .i64 0,.int .i64 0,.bool false] rfl rfl 34 _ HZ.out sizeSpec rfl (ones7 _ _ _ _ _ _ _) ?_));refine bodyPost_ret (results_row_tmp rfl _ _ w.heap.size 34 #[.string ⟨#[]⟩,.string ⟨#[]⟩,.bool false,.int .i64 0,.int .i64 0,.int .i64 0,.bool false] (0,0) _ rfl (setRow_heap _ _ _ _ _ _ HZ.out) Tryz.underlying34 rfl sizeSpec) rfl ?_;exact⟨rfl,HF.out _⟩
noncomputable def holdsT (ks:List KindD)(gs:List Grp)(ts:List (DataW Unit))(l:List Tok)(p:Int):Int:=if (checkS ks gs ts l).2=0/\around l p ≠ -1 then typeAt l (around l p) else 0
theorem k82{p:Prop}(h:p:=by
  obtain⟨b,o,x,h1,_,h3,h4⟩:=hl.token hi;refine⟨b,o,h1,?_⟩;rw[(h4 X (hBV.trans (hX.mono hBV.size))).2.1];unfold typeAt;rw[Int.toNat_natCast,h3]
  rfl
  ):p:=h
theorem k58{p:Prop}(h:p:=by
  have m:V.heap[w.heap.size]? = some (.cells #[.string ⟨#[]⟩,.string ⟨#[]⟩,.bool false,.int .i64 0,.int .i64 0,.int .i64 0,.bool false] 34 (0,0)):=by rw[hV];exact World.alloc_heap_new w _
  exact(hX.block _ (zza.1 m).1).trans m
  ):p:=h
theorem k48{p:Prop}(h:p:=by
  show around l p = -1\/(0<=around l p/\around l p<(len:Int))
  have hf:=opened_fits l p
  have:=hl.1
  unfold around;cases hg:(opened l p).getLast? with
  | none=>exact .inl rfl
  | some y=>
   have:=hf y (List.mem_of_getLast? hg)
   exact .inr (by simp only[Option.getD_some];omega)
  ):p:=h
theorem k24{p:Prop}(h:p:=by
  have HB1:=Hid.mk_ hB1;clear hB1 HV HAR;(go_wp2_with fail);refine HA.mono ?_;rintro e X2 ⟨rfl,hB2⟩;have hB12:=HB1.out.trans (hB2.mono HB1.out.size);have HZ2:=Hid.mk_ (HZ.out X2 hB12);have HF2:=Hid.mk_ (HF.out X2 hB12);clear hB2 hB12 HA HB1 HZ HF;(go_wp2_with (refine wpList_store_row rfl 34 _ _ rfl w.heap.size #[.string ⟨#[]⟩,.string ⟨#[]⟩,.bool false,.int .i64 0,.int .i64 0,.int .i64 0,.bool false] rfl rfl 34 _ HZ2.out sizeSpec rfl (ones7 _ _ _ _ _ _ _) ?_));refine bodyPost_ret (results_row_tmp rfl _ _ w.heap.size 34 #[.string ⟨#[]⟩,.string ⟨#[]⟩,.bool false,.int .i64 0,.int .i64 0,.int .i64 0,.bool false] (0,0) _ rfl (setRow_heap _ _ _ _ _ _ HZ2.out) Tryz.underlying34 rfl sizeSpec) rfl ?_;exact⟨rfl,HF2.out _⟩
  ):p:=h
theorem k14{p:Prop}(h:p:=by
  have HB1:=Hid.mk_ hB1;clear hB1 HV HAR;(go_wp2_with fail);refine HA.mono ?_;rintro e X2 ⟨rfl,hB2⟩;have hB12:=HB1.out.trans (hB2.mono HB1.out.size);have c1:=HTC.out X2 hB12;have HS2:=HSP2.out X2 hB12;have HB12:=Hid.mk_ hB12;clear hB2 hB12 HA HB1 HTC HSP2;(go_wp2_with fail);refine HS2.mono ?_;rintro e X3 ⟨rfl,hB3⟩;have hB13:=HB12.out.trans (hB3.mono HB12.out.size);have HZ2:=Hid.mk_ (HZ.out X3 hB13);have HF2:=Hid.mk_ (HF.out X3 hB13);clear hB3 hB13 HS2 HB12 HZ HF c1;(go_wp2_with (refine wpList_store_row rfl 34 _ _ rfl w.heap.size #[.string sn,.string se,.bool sf,.int .i64 sm,.int .i64 sl,.int .i64 sk,.bool sb] rfl rfl 34 _ HZ2.out sizeSpec rfl (ones7 _ _ _ _ _ _ _) ?_));refine bodyPost_ret (results_row_tmp rfl _ _ w.heap.size 34 #[.string sn,.string se,.bool sf,.int .i64 sm,.int .i64 sl,.int .i64 sk,.bool sb] (0,0) _ rfl (setRow_heap _ _ _ _ _ _ HZ2.out) Tryz.underlying34 rfl sizeSpec) rfl ?_;exact⟨rfl,HF2.out _⟩
  ):p:=h
theorem holds_calls {B g c ng nc:Nat}{ks:List KindD}{gs:List Grp}{ts:List (DataW Unit)}(w:World)(h:SchAt w B g c ng nc ks gs ts)(h0:0<ks.length)(a:Option Addr)(len cap:Nat)(l:List Tok)(hl:Toks w a len l)(hlie:Lies a len cap)(hsz:len<=4398046511104)(p:Int) :
  Calls Tryz.prog 12 #[.pointer (some ⟨B,0,none⟩),.slice a len cap,.int .i64 p] w fun e w' => e=.returned (.tuple #[specV (specR ks (holdsT ks gs ts l p)),.bool (decide (1<=holdsT ks gs ts l p/\holdsT ks gs ts l p<ks.length))])/\Below w.heap.size w w' := by
 obtain⟨V,hV⟩:∃V,V=w.alloc (.cells #[.string ⟨#[]⟩,.string ⟨#[]⟩,.bool false,.int .i64 0,.int .i64 0,.int .i64 0,.bool false] 34):=⟨_,rfl⟩
 have hBV:Below w.heap.size w V:=by rw[hV];exact(zzd _ w).alloc (zzb _) _
 have HZ:Hid (∀X,Below V.heap.size V X->X.heap[w.heap.size]? = some (.cells #[.string ⟨#[]⟩,.string ⟨#[]⟩,.bool false,.int .i64 0,.int .i64 0,.int .i64 0,.bool false] 34 (0,0))):=fun X hX=>by
  exact k58
 have HF:Hid (∀X,Below V.heap.size V X->∀cs,Below w.heap.size w (X.setRow w.heap.size cs)):=fun X hX cs=>below_setRow (hBV.trans (hX.mono hBV.size)) (zzb _) cs
 have HV:=isvalid_calls V (h.below hBV) h0 a len cap l (hl.below hBV) hlie hsz
 have HAR:Hid (∀X,Below V.heap.size V X->Calls Tryz.prog 40 #[.slice a len cap,.int .i64 p] X fun e w' => e=.returned (.int .i64 (around l p))/\Below X.heap.size X w'):=fun X hX=>faround_calls a len cap l p X (hl.below (hBV.trans (hX.mono hBV.size))) oo hlie
 have HSP:Hid (∀X t,Below V.heap.size V X->Calls Tryz.prog 18 #[.pointer (some ⟨B,0,none⟩),.int .i64 t] X fun e w' => e=.returned (.tuple #[specV (specR ks t),.bool (decide (1<=t/\t<ks.length))])/\Below X.heap.size X w'):=fun X t hX=>spec_calls X (h.below (hBV.trans (hX.mono hBV.size))) h0 t
 have HTK:Hid (∀X (i:Nat),Below V.heap.size V X->i<len->∃b o,a=some ⟨b,o,none⟩/\X.cell? ⟨b,o+i * 4+1,none⟩=some (.int .i64 (typeAt l (i:Int)))):=fun X i hX hi=>by
  exact k82
 have HAL:Hid (around l p = -1\/(0<=around l p/\around l p<(len:Int))):=by
  exact k48
 obtain⟨q,hq⟩:∃q,(checkS ks gs ts l).2=q:=⟨_,rfl⟩
 unfold holdsT
 rw[hq] at HV ⊢
 have hzero:specR ks 0=zeroS:=by unfold specR;rw[if_neg oo]
 have hd0:decide (1<=(0:Int)/\(0:Int)<(ks.length:Int))=false:=by simp
 have hlen:(len:Int)<=4398046511104:=by omega
 obtain⟨r,hr⟩:∃r,around l p=r:=⟨_,rfl⟩
 rw[hr] at HAR HAL ⊢
 clear h hl hlie hr hq
 by_cases hz:q=0
 ·subst hz
  rw[show ((0:Int)==0)=true from rfl] at HV
  by_cases hm:r = -1
  ·subst hm
   rw[if_neg (by simp),hzero,hd0];unfold specV zeroS;dsimp only;clear HTK HSP HAL;go_enter Tryz.func12,Tryz.ntmps12;(go_wp2_with fail);rw[<-hV];clear hV;refine HV.mono ?_;rintro e X1 ⟨rfl,hB1⟩;have HA:=HAR.out X1 hB1;exact k24
  ·rw[if_pos ⟨rfl,hm⟩]
   obtain⟨n,rfl⟩:∃n:Nat,r=(n:Int):=⟨r.toNat,by rcases HAL.out with h | h<;>omega⟩;(have hnl:(n:Int)<(len:Int):=by rcases HAL.out with h | h<;>omega);(have hn0:(0:Int)<=(n:Int):=by omega);(have hne:((n:Int) == -1)=false:=by rw[beq_eq_false_iff_ne];omega);obtain⟨b,o,rfl,_⟩:=HTK.out V n (zzd _ _) oo
   have HTC:Hid (∀X,Below V.heap.size V X->X.cell? ⟨b,o+n * 4+1,none⟩=some (.int .i64 (typeAt l (n:Int)))):=fun X hX=>by
    obtain⟨b', o', e,h2⟩:=HTK.out X n hX oo;cases e;exact h2
   obtain⟨tt,htt⟩:∃tt,typeAt l (n:Int)=tt:=⟨_,rfl⟩;rw[htt] at HTC ⊢;(have HSP2:Hid (∀X,Below V.heap.size V X->Calls Tryz.prog 18 #[.pointer (some ⟨B,0,none⟩),.int .i64 tt] X fun e w' => e=.returned (.tuple #[specV (specR ks tt),.bool (decide (1<=tt/\tt<ks.length))])/\Below X.heap.size X w'):=fun X hX=>HSP.out X tt hX);generalize decide (1<=tt/\tt<(ks.length:Int))=rr at *;generalize specR ks tt=ss at *;obtain⟨sn,se,sf,sm,sl,sk,sb⟩:=ss;unfold specV at HSP2 ⊢;dsimp only at *;clear HTK HSP HAL htt hm hzero hd0;go_enter Tryz.func12,Tryz.ntmps12;(go_wp2_with fail);rw[<-hV];clear hV;refine HV.mono ?_;rintro e X1 ⟨rfl,hB1⟩;have HA:=HAR.out X1 hB1;exact k14
 ·rw[if_neg (fun h=>hz h.1),hzero,hd0]
  (have hqz:(q==0)=false:=by rw[beq_eq_false_iff_ne];exact hz);rw[hqz] at HV;unfold specV zeroS;dsimp only;clear HTK HSP HAL HAR;go_enter Tryz.func12,Tryz.ntmps12;(go_wp2_with fail);rw[<-hV];clear hV;refine HV.mono ?_;rintro e X1 ⟨rfl,hB1⟩;have HZ2:=Hid.mk_ (HZ.out X1 hB1);have HF2:=Hid.mk_ (HF.out X1 hB1);clear hB1 HV HZ HF;(go_wp2_with (refine wpList_store_row rfl 34 _ _ rfl w.heap.size #[.string ⟨#[]⟩,.string ⟨#[]⟩,.bool false,.int .i64 0,.int .i64 0,.int .i64 0,.bool false] rfl rfl 34 _ HZ2.out sizeSpec rfl (ones7 _ _ _ _ _ _ _) ?_));refine bodyPost_ret (results_row_tmp rfl _ _ w.heap.size 34 #[.string ⟨#[]⟩,.string ⟨#[]⟩,.bool false,.int .i64 0,.int .i64 0,.int .i64 0,.bool false] (0,0) _ rfl (setRow_heap _ _ _ _ _ _ HZ2.out) Tryz.underlying34 rfl sizeSpec) rfl ?_;exact⟨rfl,HF2.out _⟩
end Go.Proofs.YtjkebndkeamijaaGreatDoor
