/-
  PROVED HERE: plain nets: how a tree is laid, what is read of it, what is reached behind a word.
-/
import Derived.Test.YtjkebndkeamijaaGreatDoorCFDFLang
namespace Go.Proofs.YtjkebndkeamijaaGreatDoor
abbrev Node:Type:=List Nat×List Int×Int
def newNode:Node:=([],[],-1)
def placeN (N:List Node):List Node:=N++[newNode]
def freeN (N:List Node)(a b:Nat):List Node:=N.modify a (fun x=>(x.1++[b],x.2))
def nameN (N:List Node)(c:Nat)(ts:List Int)(b:Nat):List Node:=N.modify c (fun x=>(x.1,ts,(b:Int)))
def ReadsM (F:List Node):Nat->Nat->List Int->Prop
 | 0,p,w=>p=1/\w=[]
 | k+1,p,w=>(p=1/\w=[])\/∃x,F[p]? = some x/\((∃q∈x.1,ReadsM F k q w)\/∃t v,w=t::v/\t∈x.2.1/\∃q:Nat,x.2.2=(q:Int)/\ReadsM F k q v)
theorem ReadsM.up {F:List Node}:∀{k p:Nat} {w:List Int},ReadsM F k p w->ReadsM F (k+1) p w:=by
 intro k
 induction k with
 | zero=>intro p w h;exact .inl h
 | succ k ih=>
  intro p w h;rcases h with h | ⟨x,hx,⟨q,hq,hr⟩ | ⟨t,v,e,ht,q,hq,hr⟩⟩
  ·exact .inl h
  ·exact .inr ⟨x,hx,.inl ⟨q,hq,ih hr⟩⟩
  ·exact .inr ⟨x,hx,.inr ⟨t,v,e,ht,q,hq,ih hr⟩⟩
theorem ReadsM.upto {F:List Node}{k m p:Nat}{w:List Int}(h:k<=m)(hr:ReadsM F k p w):ReadsM F m p w:=by
 induction h with
 | refl=>exact hr
 | step _ ih=>exact ReadsM.up ih
theorem ReadsM.by_free {F:List Node}{k p q:Nat}{w:List Int}{x:Node}(hx:F[p]? = some x)(hq:q∈x.1)(h:ReadsM F k q w):ReadsM F (k+1) p w:=.inr ⟨x,hx,.inl ⟨q,hq,h⟩⟩
theorem ReadsM.at_free {F:List Node}{k p:Nat}{w:List Int}{x:Node}(hp:2<=p)(hx:F[p]? = some x)(h0:x.2.1=[])(h:ReadsM F k p w):∃q∈x.1,∃k', k' < k/\ReadsM F k' q w:=by
 cases k with
 | zero=>obtain⟨rfl,_⟩:=h;omega
 | succ k=>
  rcases h with ⟨rfl,_⟩ | ⟨y,hy,h⟩
  ·omega
  ·rw[hx] at hy
   cases hy;rcases h with ⟨q,hq,hr⟩ | ⟨t,v,_,ht,_⟩
   ·exact⟨q,hq,k,Nat.lt_succ_self _,hr⟩
   ·rw[h0] at ht;cases ht
def Live (F:List Node)(p:Nat):Prop:=∃k w,ReadsM F k p w
section
variable {T:Type} (K:T->Int) (Ty:T->List Int) (U:T->List T)
def seqN (f:T->Nat->Nat->List Node->List Node):List T->Nat->Nat->List Node->List Node
 | [],a,b,N=>freeN N a b
 | x::r,a,b,N=>seqN f r N.length b (f x a N.length (placeN N))
def altsN (f:T->Nat->Nat->List Node->List Node):List T->Nat->Nat->List Node->List Node
 | [],_,_,N=>N
 | x::r,a,b,N=>altsN f r a b (f x a b N)
def oneN (f:T->Nat->Nat->List Node->List Node):List T->Nat->Nat->List Node->List Node
 | x::_,a,b,N=>f x a b N
 | [],_,_,N=>N
def signN (f:T->Nat->Nat->List Node->List Node)(k:Int)(l:List T)(a b:Nat)(N:List Node):List Node :=
 let N3:=freeN (oneN f l N.length (N.length+1) (freeN (placeN (placeN N)) a N.length)) (N.length+1) b
 let N4:=if k=6 then N3 else freeN N3 (N.length+1) N.length
 if k=5 then N4 else freeN N4 a b
def layN:Nat->T->Nat->Nat->List Node->List Node
 | 0,_,_,_,N=>N
 | n+1,t,a,b,N=>
  if K t=0 then freeN N a b
  else if K t=1 then nameN (freeN (placeN N) a N.length) N.length (Ty t) b
  else if K t=2 then seqN (layN n) (U t) a b N
  else if K t=3 then altsN (layN n) (U t) a b N
  else signN (layN n) (K t) (U t) a b N
end
structure Laid (N N1:List Node) (a:Nat) (E:List Nat):Prop where
 len:N.length<=N1.length
 old:∀p,p<N.length->p≠a->N1[p]? = N[p]?
 ent:∀x,N[a]? = some x->N1[a]? = some (x.1++E,x.2)
theorem Laid.trans {N N1 N2:List Node}{a:Nat}{E1 E2:List Nat}(h1:Laid N N1 a E1)(h2:Laid N1 N2 a E2):Laid N N2 a (E1++E2):=by
 refine⟨Nat.le_trans h1.len h2.len,fun p hp hne=>(h2.old p (zzl hp h1.len) hne).trans (h1.old p hp hne),fun x hx=>?_⟩
 have:=h2.ent _ (h1.ent x hx)
 rwa [List.append_assoc] at this
theorem Laid.inner {N N1 N2:List Node}{a c:Nat}{E E2:List Nat}(h1:Laid N N1 a E)(h2:Laid N1 N2 c E2)(hc:N.length<=c)(ha:a<N.length):Laid N N2 a E:=by
 refine⟨Nat.le_trans h1.len h2.len,fun p hp hne=>(h2.old p (zzl hp h1.len) oo).trans (h1.old p hp hne),fun x hx=>?_⟩
 rw[h2.old a (zzl ha h1.len) oo]
 exact h1.ent x hx
theorem freeN_length (N:List Node)(a b:Nat):(freeN N a b).length=N.length:=by unfold freeN;simp
theorem placeN_length (N:List Node):(placeN N).length=N.length+1:=by unfold placeN;simp
theorem nameN_length (N:List Node)(c:Nat)(ts:List Int)(b:Nat):(nameN N c ts b).length=N.length:=by unfold nameN;simp
theorem placeN_at (N:List Node):(placeN N)[N.length]? = some newNode:=by unfold placeN;simp
theorem laid_free (N:List Node)(a b:Nat):Laid N (freeN N a b) a [b]:=by
 refine⟨by rw[freeN_length];exact zzb _,fun p _ hne=>?_,fun x hx=>?_⟩
 ·unfold freeN;rw[List.getElem?_modify];simp[Ne.symm hne]
 ·unfold freeN;rw[List.getElem?_modify,hx];simp
theorem laid_place {N:List Node}{a:Nat}(ha:a<N.length):Laid N (placeN N) a []:=by
 refine⟨by rw[placeN_length];omega,fun p hp _=>by unfold placeN;exact List.getElem?_append_left hp,fun x hx=>?_⟩
 unfold placeN
 rw[List.getElem?_append_left ha,hx,List.append_nil]
theorem nameN_ne {N:List Node}{c p:Nat}{ts:List Int}{b:Nat}(h:p≠c):(nameN N c ts b)[p]? = N[p]? := by unfold nameN;rw[List.getElem?_modify];simp[Ne.symm h]
theorem nameN_eq {N:List Node}{c:Nat}{ts:List Int}{b:Nat}{x:Node}(h:N[c]? = some x):(nameN N c ts b)[c]? = some (x.1,ts,(b:Int)):=by unfold nameN;rw[List.getElem?_modify,h];simp
structure Means (F:List Node) (L:List Int->Prop) (b:Nat) (E:List Nat):Prop where
 ne:E≠[]
 sound:∀q∈E,∀k w,ReadsM F k q w->∃u v k', k' <= k/\w=u++v/\L u/\ReadsM F k' b v
 full:∀u v k,L u->ReadsM F k b v->∃q∈E,∃k', ReadsM F k' q (u++v)
 live:Live F b->∀q∈E,Live F q
theorem Means.congr {F:List Node}{L L' : List Int->Prop}{b:Nat}{E:List Nat}(h:Means F L b E)(hL:∀u,L u↔L' u):Means F L' b E :=
 ⟨h.ne,fun q hq k w hr=>by obtain⟨u,v,k', h1,h2,h3,h4⟩:=h.sound q hq k w hr;exact⟨u,v,k', h1,h2,(hL u).1 h3,h4⟩,fun u v k hu hv=>h.full u v k ((hL u).2 hu) hv,h.live⟩
theorem Means.at {F:List Node}{L:List Int->Prop}{b c:Nat}{E:List Nat}(h:Means F L b E)(hc:2<=c)(hx:F[c]? = some (E,[],-1)) :
  (∀k w,ReadsM F k c w->∃u v k', k' < k/\w=u++v/\L u/\ReadsM F k' b v)/\(∀u v k,L u->ReadsM F k b v->∃k', ReadsM F k' c (u++v))/\(Live F b->Live F c):=by
 refine⟨fun k w hr=>?_,fun u v k hu hv=>?_,fun hb=>?_⟩
 ·obtain⟨q,hq,k1,hk1,hr1⟩:=hr.at_free hc hx rfl
  obtain⟨u,v,k2,hk2,e,hu,hv⟩:=h.sound q hq k1 w hr1;exact⟨u,v,k2,oo,e,hu,hv⟩
 ·obtain⟨q,hq,k1,hr⟩:=h.full u v k hu hv
  exact⟨k1+1,hr.by_free hx hq⟩
 ·obtain⟨q,hq⟩:=List.exists_mem_of_ne_nil _ h.ne
  obtain⟨k,w,hr⟩:=h.live hb q hq;exact⟨k+1,w,hr.by_free hx hq⟩
def LikeM (F N1:List Node)(m:Nat):Prop:=∀p,m<=p->p<N1.length->F[p]? = N1[p]?
def Lays (f:Nat->Nat->List Node->List Node)(L:List Int->Prop):Prop :=
 ∀a b N,2<=N.length->a<N.length->b<N.length->∃E,Laid N (f a b N) a E/\∀F,LikeM F (f a b N) N.length->Means F L b E/\(Live F b->∀p,N.length<=p->p<(f a b N).length->Live F p)
theorem lays_free:Lays (fun a b N=>freeN N a b) (fun w=>w=[]):=by
 intro a b N _ _ _
 refine⟨[b],laid_free N a b,fun F hF=>⟨⟨by simp,fun q hq k w hr=>?_,fun u v k hu hv=>?_,fun hb q hq=>?_⟩,fun _ p h1 h2=>?_⟩⟩
 ·simp at hq
  subst hq;exact⟨[],w,k,zzb _,rfl,rfl,hr⟩
 ·subst hu
  exact⟨b,List.mem_singleton.2 rfl,k,hv⟩
 ·simp at hq
  subst hq;exact hb
 ·rw[freeN_length] at h2
  omega
theorem lays_name (ts:List Int)(hts:ts≠[]):Lays (fun a b N=>nameN (freeN (placeN N) a N.length) N.length ts b) (fun w=>∃t,w=[t]/\t∈ts):=by
 intro a b N h2 ha hb
 dsimp only
 have l1:=(laid_place ha).trans (laid_free (placeN N) a N.length)
 have hc:(freeN (placeN N) a N.length)[N.length]? = some newNode:=by rw[(laid_free (placeN N) a N.length).old _ (by rw[placeN_length];omega) oo,placeN_at]
 have hl:(nameN (freeN (placeN N) a N.length) N.length ts b).length=N.length+1:=by rw[nameN_length,freeN_length,placeN_length]
 refine⟨[N.length],⟨oo,fun p hp hne=>?_,fun x hx=>?_⟩,fun F hF=>?_⟩
 ·rw[nameN_ne oo]
  exact l1.old p hp hne
 ·rw[nameN_ne oo]
  exact l1.ent x hx
 ·have hFc:F[N.length]? = some ([],ts,(b:Int)):=(hF N.length (zzb _) oo).trans (nameN_eq hc)
  have hlive:Live F b->Live F N.length:=by
   rintro⟨k,w,hr⟩;obtain⟨t,ht⟩:=List.exists_mem_of_ne_nil _ hts;exact⟨k+1,t::w,.inr ⟨_,hFc,.inr ⟨t,w,rfl,ht,b,rfl,hr⟩⟩⟩
  refine⟨⟨by simp,fun q hq k w hr=>?_,fun u v k hu hv=>?_,fun hb q hq=>?_⟩,fun hb p h1 h2=>?_⟩
  ·simp at hq
   subst hq;cases k with
   | zero=>obtain⟨e,_⟩:=hr;omega
   | succ k=>
    rcases hr with ⟨e,_⟩ | ⟨y,hy,h⟩
    ·omega
    ·rw[hFc] at hy
     cases hy;rcases h with ⟨q,hq,_⟩ | ⟨t,v,rfl,ht,q,hq,hr⟩
     ·cases hq
     ·have:b=q:=by simp at hq;omega
      subst this;exact⟨[t],v,k,oo,rfl,⟨t,rfl,ht⟩,hr⟩
  ·obtain⟨t,rfl,ht⟩:=hu
   exact⟨N.length,List.mem_singleton.2 rfl,k+1,.inr ⟨_,hFc,.inr ⟨t,v,rfl,ht,b,rfl,hv⟩⟩⟩
  ·simp at hq
   subst hq;exact hlive hb
  ·have:p=N.length:=by omega
   subst this;exact hlive hb
section
variable {T:Type}
theorem lays_seq {f:T->Nat->Nat->List Node->List Node}{g:T->List Int->Prop}:∀(l:List T),(∀x∈l,Lays (f x) (g x))->Lays (fun a b N=>seqN f l a b N) (LSeq g l):=by
 intro l
 induction l with
 | nil=>intro _;exact lays_free
 | cons x r ih=>
  intro hf a b N h2 ha hb;dsimp only[seqN];obtain⟨E1,l1,m1⟩:=hf x (zzg ..) a N.length (placeN N) (by rw[placeN_length];omega) (by rw[placeN_length];omega) (by rw[placeN_length];omega);have hlen1:=l1.len;rw[placeN_length] at hlen1;obtain⟨E2,l2,m2⟩:=ih (fun y hy=>hf y (zzk _ hy)) N.length b (f x a N.length (placeN N)) oo oo oo;(have hc1:(f x a N.length (placeN N))[N.length]? = some newNode:=by rw[l1.old _ (by rw[placeN_length];omega) oo,placeN_at]);have hc2:=l2.ent _ hc1;have hlen2:(f x a N.length (placeN N)).length<=(seqN f r N.length b (f x a N.length (placeN N))).length:=l2.len;refine⟨E1,?_,fun F hF=>?_⟩
  ·have:=((laid_place ha).trans l1).inner l2 (zzb _) ha
   simpa using this
  ·have hF2:LikeM F (seqN f r N.length b (f x a N.length (placeN N))) (f x a N.length (placeN N)).length:=fun p h1 h2=>hF p oo h2
   have hF1:LikeM F (f x a N.length (placeN N)) (placeN N).length:=fun p h1 h2=>by
    rw[placeN_length] at h1;exact(hF p oo (zzl h2 hlen2)).trans (l2.old p h2 oo)
   have hFc:F[N.length]? = some (E2,[],-1):=(hF N.length (zzb _) (by show N.length<(seqN f r N.length b (f x a N.length (placeN N))).length;omega)).trans hc2;obtain⟨M1,V1⟩:=m1 F hF1;obtain⟨M2,V2⟩:=m2 F hF2;obtain⟨s2,f2,v2⟩:=M2.at h2 hFc;refine⟨⟨M1.ne,fun q hq k w hr=>?_,fun u v k hu hv=>?_,fun hb q hq=>M1.live (v2 hb) q hq⟩,fun hb p h1 h2=>?_⟩
   ·obtain⟨u,v,k1,hk1,rfl,hu,hv⟩:=M1.sound q hq k w hr
    obtain⟨u', v', k2,hk2,rfl,hu', hv'⟩:=s2 k1 v hv;exact⟨u++u', v', k2,oo,by simp,⟨u,u', rfl,hu,hu'⟩,hv'⟩
   ·obtain⟨u1,u2,rfl,h1,h2⟩:=hu
    obtain⟨k1,hk1⟩:=f2 u2 v k h2 hv;obtain⟨q,hq,k2,hr⟩:=M1.full u1 (u2++v) k1 h1 hk1;exact⟨q,hq,k2,by rw[List.append_assoc];exact hr⟩
   ·rcases Nat.lt_or_ge p (f x a N.length (placeN N)).length with h3 | h3
    ·rcases Nat.eq_or_lt_of_le h1 with h4 | h4
     ·rw[<-h4];exact v2 hb
     ·exact V1 (v2 hb) p (by rw[placeN_length];omega) h3
    ·exact V2 hb p h3 h2
theorem lays_alt {f:T->Nat->Nat->List Node->List Node}{g:T->List Int->Prop}:∀(l:List T),l≠[]->(∀x∈l,Lays (f x) (g x))->Lays (fun a b N=>altsN f l a b N) (fun w=>∃x∈l,g x w):=by
 intro l
 induction l with
 | nil=>intro h;exact absurd rfl h
 | cons x r ih=>
  intro _ hf a b N h2 ha hb;dsimp only[altsN];obtain⟨E1,l1,m1⟩:=hf x (zzg ..) a b N h2 ha hb;have hlen1:=l1.len;cases r with
  | nil=>
   refine⟨E1,l1,fun F hF=>?_⟩;obtain⟨M1,V1⟩:=m1 F hF;exact⟨M1.congr fun u=>by simp,V1⟩
  | cons y r=>
   obtain⟨E2,l2,m2⟩:=ih (by simp) (fun z hz=>hf z (zzk _ hz)) a b (f x a b N) oo oo oo;have hlen2:=l2.len;refine⟨E1++E2,l1.trans l2,fun F hF=>?_⟩;(have hF2:LikeM F (altsN f (y::r) a b (f x a b N)) (f x a b N).length:=fun p h1 h2=>hF p oo h2);(have hF1:LikeM F (f x a b N) N.length:=fun p h1 h2=>(hF p h1 (zzl h2 hlen2)).trans (l2.old p h2 oo));obtain⟨M1,V1⟩:=m1 F hF1;obtain⟨M2,V2⟩:=m2 F hF2;refine⟨⟨by simp[M1.ne],fun q hq k w hr=>?_,fun u v k hu hv=>?_,fun hb q hq=>?_⟩,fun hb p h1 h2=>?_⟩
   ·rcases List.mem_append.1 hq with hq | hq
    ·obtain⟨u,v,k1,hk1,e,hu,hv⟩:=M1.sound q hq k w hr
     exact⟨u,v,k1,hk1,e,⟨x,zzg ..,hu⟩,hv⟩
    ·obtain⟨u,v,k1,hk1,e,⟨z,hz,hu⟩,hv⟩:=M2.sound q hq k w hr
     exact⟨u,v,k1,hk1,e,⟨z,zzk _ hz,hu⟩,hv⟩
   ·obtain⟨z,hz,hu⟩:=hu
    rcases List.mem_cons.1 hz with rfl | hz
    ·obtain⟨q,hq,k1,hr⟩:=M1.full u v k hu hv
     exact⟨q,List.mem_append_left _ hq,k1,hr⟩
    ·obtain⟨q,hq,k1,hr⟩:=M2.full u v k ⟨z,hz,hu⟩ hv
     exact⟨q,List.mem_append_right _ hq,k1,hr⟩
   ·rcases List.mem_append.1 hq with hq | hq
    ·exact M1.live hb q hq
    ·exact M2.live hb q hq
   ·rcases Nat.lt_or_ge p (f x a b N).length with h3 | h3
    ·exact V1 hb p h1 h3
    ·exact V2 hb p h3 h2
end
end Go.Proofs.YtjkebndkeamijaaGreatDoor
/- Net1: the net of a tree: what it reads is what the tree's words are; it is not great; all its ways lead to places of it. -/
namespace Go.Proofs.YtjkebndkeamijaaGreatDoor
section
variable {T:Type}
def Pls (L:List Int->Prop)(w:List Int):Prop:=∃m,LPow L (m+1) w
theorem pls_snoc {L:List Int->Prop}{u v:List Int}(hu:L u)(hv:Pls L v):Pls L (u++v):=by
 obtain⟨m,hm⟩:=hv
 exact⟨m+1,u,v,rfl,hu,hm⟩
theorem pls_one {L:List Int->Prop}{u:List Int}(hu:L u):Pls L u:=⟨0,u,[],by simp,hu,rfl⟩
theorem loopM_sound {F:List Node}{L:List Int->Prop}{b c d:Nat}{Ec:List Nat}(hM:Means F L d Ec)(hc2:2<=c)(hd2:2<=d)(hc:F[c]? = some (Ec,[],-1))(hd:F[d]? = some ([b,c],[],-1)):∀(m k:Nat) (w:List Int),k<=m->ReadsM F k c w->∃u v k', k' <= k/\w=u++v/\Pls L u/\ReadsM F k' b v:=by
 obtain⟨s1,_,_⟩:=hM.at hc2 hc
 intro m
 induction m with
 | zero=>
  intro k w hk hr;obtain⟨_,_,_,h,_⟩:=s1 k w hr;omega
 | succ m ih=>
  intro k w hk hr;obtain⟨u,v,k1,hk1,rfl,hu,hv⟩:=s1 k w hr;obtain⟨q,hq,k2,hk2,hr2⟩:=hv.at_free hd2 hd rfl;simp at hq;rcases hq with rfl | rfl
  ·exact⟨u,v,k2,oo,rfl,pls_one hu,hr2⟩
  ·obtain⟨u', v', k3,hk3,rfl,hu', hv'⟩:=ih k2 v oo hr2
   exact⟨u++u', v', k3,oo,by simp,pls_snoc hu hu', hv'⟩
theorem loopM_full {F:List Node}{L:List Int->Prop}{b c d:Nat}{Ec:List Nat}(hM:Means F L d Ec)(hc2:2<=c)(hc:F[c]? = some (Ec,[],-1))(hd:F[d]? = some ([b,c],[],-1)):∀(m:Nat) (u v:List Int) (k:Nat),LPow L (m+1) u->ReadsM F k b v->∃k', ReadsM F k' c (u++v):=by
 obtain⟨_,f1,_⟩:=hM.at hc2 hc
 intro m
 induction m with
 | zero=>
  rintro u v k ⟨x,y,rfl,hx,hy⟩ hv;rw[LPow] at hy;subst hy;rw[List.append_nil];exact f1 x v (k+1) hx (hv.by_free hd (by simp))
 | succ m ih=>
  rintro u v k ⟨x,y,rfl,hx,hy⟩ hv;obtain⟨k1,h1⟩:=ih y v k hy hv;rw[List.append_assoc];exact f1 x (y++v) (k1+1) hx (h1.by_free hd (by simp))
theorem lays_one {f:T->Nat->Nat->List Node->List Node}{g:T->List Int->Prop}{x:T}(hf:Lays (f x) (g x))(k:Int)(L:List Int->Prop)
  (hL:∀w,L w↔((k≠5/\w=[])\/(if k=6 then g x w else Pls (g x) w))):Lays (fun a b N=>signN f k [x] a b N) L:=by
 intro a b N h2 ha hb
 dsimp only[signN,oneN]
 -- the places c and d
 have hp0:=placeN_length N
 have hp1:=placeN_length (placeN N)
 have l0:Laid N (placeN (placeN N)) a []:=by simpa using (laid_place ha).trans (laid_place (N:=placeN N) (a:=a) oo)
 have l1:Laid N (freeN (placeN (placeN N)) a N.length) a [N.length]:=by simpa using l0.trans (laid_free _ a N.length)
 have hl1:=freeN_length (placeN (placeN N)) a N.length
 obtain⟨Ec,l2,m2⟩:=hf N.length (N.length+1) (freeN (placeN (placeN N)) a N.length) oo oo oo
 generalize hN2:freeN (placeN (placeN N)) a N.length=N2 at *
 have cN2:N2[N.length]? = some newNode:=by
  rw[<-hN2,(laid_free (placeN (placeN N)) a N.length).old _ oo oo,(laid_place (N:=placeN N) (a:=a) oo).old _ oo oo,placeN_at]
 have dN2:N2[N.length+1]? = some newNode:=by
  rw[<-hN2,(laid_free (placeN (placeN N)) a N.length).old _ oo oo]
  have:=placeN_at (placeN N)
  rwa [hp0] at this
 have hlen2:=l2.len
 generalize hN3:f x N.length (N.length+1) N2=N3 at *
 have cN3:=l2.ent _ cN2
 have dN3:N3[N.length+1]? = some newNode:=(l2.old _ oo oo).trans dN2
 -- d goes to b
 have l3:=laid_free N3 (N.length+1) b
 have hl3:=freeN_length N3 (N.length+1) b
 generalize hN4:freeN N3 (N.length+1) b=N4 at *
 have cN4:N4[N.length]? = some (Ec,[],-1):=(l3.old _ oo oo).trans cN3
 have dN4:=l3.ent _ dN3
 have lN4:Laid N N4 a [N.length]:=(l1.inner l2 (zzb _) ha).inner l3 oo ha
 have oN4:∀p,N.length+2<=p->p<N3.length->N4[p]? = N3[p]? := fun p h1 h2=>l3.old p h2 oo
 -- and back to c, where the sign repeats
 obtain⟨N5,hN5,hl5,cN5,dN5,lN5,oN5⟩:∃N5,N5=(if k=6 then N4 else freeN N4 (N.length+1) N.length)/\N5.length=N3.length/\N5[N.length]? = some (Ec,[],-1)/\N5[N.length+1]? = some ((if k=6 then [b] else [b,N.length]),[],-1)/\Laid N N5 a [N.length]/\∀p,N.length+2<=p->p<N3.length->N5[p]? = N3[p]?:=by
  by_cases h6:k=6
  ·exact⟨N4,by rw[if_pos h6],hl3,cN4,by rw[if_pos h6];exact dN4,lN4,oN4⟩
  ·have l4:=laid_free N4 (N.length+1) N.length
   refine⟨freeN N4 (N.length+1) N.length,by rw[if_neg h6],by rw[freeN_length];exact hl3,(l4.old _ oo oo).trans cN4,?_,lN4.inner l4 oo ha,fun p h1 h2=>(l4.old p oo oo).trans (oN4 p h1 h2)⟩;rw[if_neg h6];exact l4.ent _ dN4
 rw[<-hN5]
 -- a goes to b, where there may be none
 obtain⟨N6,E,hN6,hl6,cN6,dN6,lN6,oN6,hE⟩:∃N6 E,N6=(if k=5 then N5 else freeN N5 a b)/\N6.length=N3.length/\N6[N.length]? = some (Ec,[],-1)/\N6[N.length+1]? = some ((if k=6 then [b] else [b,N.length]),[],-1)/\Laid N N6 a E/\(∀p,N.length+2<=p->p<N3.length->N6[p]? = N3[p]?)/\E=(if k=5 then [N.length] else [N.length,b]):=by
  by_cases h5:k=5
  ·exact⟨N5,[N.length],by rw[if_pos h5],hl5,cN5,dN5,lN5,oN5,by rw[if_pos h5]⟩
  ·have l6:=laid_free N5 a b
   refine⟨freeN N5 a b,[N.length,b],by rw[if_neg h5],by rw[freeN_length];exact hl5,(l6.old _ oo oo).trans cN5,(l6.old _ oo oo).trans dN5,lN5.trans l6,fun p h1 h2=>(l6.old p oo oo).trans (oN5 p h1 h2),by rw[if_neg h5]⟩
 rw[<-hN6]
 refine⟨E,lN6,fun F hF=>?_⟩
 have hFc:F[N.length]? = some (Ec,[],-1):=(hF _ (zzb _) oo).trans cN6
 have hFd:=(hF (N.length+1) oo oo).trans dN6
 have hF3:LikeM F N3 N2.length:=fun p h1 h2=>(hF p oo oo).trans (oN6 p oo h2)
 obtain⟨M,V⟩:=m2 F hF3
 obtain⟨s1,f1,v1⟩:=M.at h2 hFc
 have vd:Live F b->Live F (N.length+1):=by
  rintro⟨k', w,hr⟩;exact⟨k' + 1,w,hr.by_free hFd (by split<;>simp)⟩
 have core_s:∀k' w,ReadsM F k' N.length w->∃u v k2,k2<=k' /\ w=u++v/\(if k=6 then g x u else Pls (g x) u)/\ReadsM F k2 b v:=by
  intro k' w hr
  by_cases h6:k=6
  ·rw[if_pos h6] at hFd
   obtain⟨u,v,k1,hk1,e,hu,hv⟩:=s1 k' w hr;obtain⟨q,hq,k2,hk2,hr2⟩:=hv.at_free oo hFd rfl;simp at hq;subst hq;exact⟨u,v,k2,oo,e,by rw[if_pos h6];exact hu,hr2⟩
  ·rw[if_neg h6] at hFd
   obtain⟨u,v,k2,hk2,e,hu,hv⟩:=loopM_sound M h2 oo hFc hFd k' k' w (zzb _) hr;exact⟨u,v,k2,hk2,e,by rw[if_neg h6];exact hu,hv⟩
 have core_f:∀u v k', (if k=6 then g x u else Pls (g x) u)->ReadsM F k' b v->∃k2,ReadsM F k2 N.length (u++v):=by
  intro u v k' hu hv
  by_cases h6:k=6
  ·rw[if_pos h6] at hFd hu
   exact f1 u v (k' + 1) hu (hv.by_free hFd (by simp))
  ·rw[if_neg h6] at hFd hu
   obtain⟨m,hm⟩:=hu;exact loopM_full M h2 hFc hFd m u v k' hm hv
 have hcE:N.length∈E:=by rw[hE];split<;>simp
 refine⟨⟨fun e=>(by rw[e] at hcE;cases hcE),fun q hq k' w hr=>?_,fun u v k' hu hv=>?_,fun hb q hq=>?_⟩,fun hb p h1 h2=>?_⟩
 ·have hq' : q=N.length\/(k≠5/\q=b):=by
   rw[hE] at hq
   split at hq
   ·simp at hq;exact .inl hq
   ·rename_i h5
    simp at hq;exact hq.imp_right fun e=>⟨h5,e⟩
  rcases hq' with rfl | ⟨h5,rfl⟩
  ·obtain⟨u,v,k2,hk2,e,hu,hv⟩:=core_s k' w hr
   exact⟨u,v,k2,hk2,e,(hL u).2 (.inr hu),hv⟩
  ·exact⟨[],w,k', zzb _,rfl,(hL []).2 (.inl ⟨h5,rfl⟩),hr⟩
 ·rcases (hL u).1 hu with ⟨h5,rfl⟩ | hu
  ·exact⟨b,by rw[hE,if_neg h5];simp,k', hv⟩
  ·obtain⟨k2,hr⟩:=core_f u v k' hu hv
   exact⟨N.length,hcE,k2,hr⟩
 ·rw[hE] at hq
  have:q=N.length\/q=b:=by
   split at hq
   ·simp at hq;exact .inl hq
   ·simp at hq;exact hq
  rcases this with rfl | rfl
  ·exact v1 (vd hb)
  ·exact hb
 ·rcases Nat.lt_or_ge p (N.length+2) with h3 | h3
  ·have:p=N.length\/p=N.length+1:=by omega
   rcases this with rfl | rfl
   ·exact v1 (vd hb)
   ·exact vd hb
  ·exact V (vd hb) p oo oo
variable (K:T->Int) (M:T->Nat) (Ty:T->List Int) (U:T->List T)
def KindsN:Nat->T->Prop
 | 0,_=>True
 | n+1,t=>(K t=0\/K t=1\/K t=2\/K t=3\/K t=4\/K t=5\/K t=6)/\∀x∈U t,KindsN n x
theorem lay_net (hTy:∀t a,takes (M t) a=true↔a∈Ty t):∀(n:Nat) (t:T),Sane K M U n t->KindsN K U n t->(∀s,M s≠0->Ty s≠[])->Lays (fun a b N=>layN K Ty U n t a b N) (Lang K M U n t):=by
 intro n
 induction n with
 | zero=>intro t h;exact h.elim
 | succ n ih=>
  rintro t ⟨s1,s3,s4,sk⟩ ⟨kk,kx⟩ hne;(have hk:∀x∈U t,Lays (fun a b N=>layN K Ty U n x a b N) (Lang K M U n x):=fun x hx=>ih x (sk x hx) (kx x hx) hne);intro a b N h2 ha hb;dsimp only[layN]
  by_cases k0:K t=0
  ·rw[if_pos k0]
   obtain⟨E,l,m⟩:=lays_free a b N h2 ha hb;refine⟨E,l,fun F hF=>⟨(m F hF).1.congr fun u=>?_,(m F hF).2⟩⟩;rw[Lang,if_neg oo,if_neg oo,if_neg oo,if_neg oo,if_neg oo,if_neg oo]
  rw[if_neg k0]
  by_cases k1:K t=1
  ·rw[if_pos k1]
   obtain⟨E,l,m⟩:=lays_name (Ty t) (hne t (s1 k1)) a b N h2 ha hb;refine⟨E,l,fun F hF=>⟨(m F hF).1.congr fun u=>?_,(m F hF).2⟩⟩;rw[Lang,if_pos k1]
   constructor
   ·rintro⟨x,e,hx⟩;exact⟨x,e,(hTy t x).2 hx⟩
   ·rintro⟨x,e,hx⟩;exact⟨x,e,(hTy t x).1 hx⟩
  rw[if_neg k1]
  by_cases k2:K t=2
  ·rw[if_pos k2]
   obtain⟨E,l,m⟩:=lays_seq (U t) hk a b N h2 ha hb;refine⟨E,l,fun F hF=>⟨(m F hF).1.congr fun u=>?_,(m F hF).2⟩⟩;rw[Lang,if_neg k1,if_pos k2]
  rw[if_neg k2]
  by_cases k3:K t=3
  ·rw[if_pos k3]
   obtain⟨E,l,m⟩:=lays_alt (U t) (s3 (.inr k3)) hk a b N h2 ha hb;refine⟨E,l,fun F hF=>⟨(m F hF).1.congr fun u=>?_,(m F hF).2⟩⟩;rw[Lang,if_neg k1,if_neg k2,if_pos k3]
  rw[if_neg k3];obtain⟨x,hx⟩:=s4 oo;rw[hx]
  obtain⟨E,l,m⟩:=lays_one (hk x (by rw[hx];exact List.mem_singleton.2 rfl)) (K t) (Lang K M U (n+1) t) (fun w=>by
   have hex:(fun v=>∃y∈U t,Lang K M U n y v)=Lang K M U n x:=by
    funext v
    rw[hx]
    simp
   rw[Lang,if_neg k1,if_neg k2,if_neg k3,hex];(have h456:K t=4\/K t=5\/K t=6:=by omega);rcases h456 with e | e | e
   ·rw[if_pos e,if_neg oo]
    constructor
    ·rintro⟨m,hm⟩
     cases m with
     | zero=>exact .inl ⟨oo,hm⟩
     | succ m=>exact .inr ⟨m,hm⟩
    ·rintro (⟨_,rfl⟩ | ⟨m,hm⟩)
     ·exact⟨0,rfl⟩
     ·exact⟨m+1,hm⟩
   ·rw[if_neg oo,if_pos e,if_neg oo]
    constructor
    ·intro h;exact .inr h
    ·rintro (⟨h,_⟩ | h)
     ·exact absurd e h
     ·exact h
   ·rw[if_neg oo,if_neg oo,if_pos e,if_pos e]
    constructor
    ·rintro (h | ⟨y,hy,h⟩)
     ·exact .inl ⟨oo,h⟩
     ·rw[hx,List.mem_singleton] at hy
      subst hy;exact .inr h
    ·rintro (⟨_,h⟩ | h)
     ·exact .inl h
     ·exact .inr ⟨x,by rw[hx];exact List.mem_singleton.2 rfl,h⟩) a b N h2 ha hb
  exact⟨E,l,m⟩
end
end Go.Proofs.YtjkebndkeamijaaGreatDoor
/- Net2: the net of a tree is not great, all its ways lead to places of it; sets of its places, and what is reached behind a word. -/
namespace Go.Proofs.YtjkebndkeamijaaGreatDoor
def FitN (N:List Node):Prop:=∀(p:Nat) (x:Node),N[p]? = some x->(∀q∈x.1,q<N.length)/\(x.2.1=[]\/∃q:Nat,x.2.2=(q:Int)/\q<N.length)
def FewN (m:Nat)(N:List Node):Prop:=∀(p:Nat) (x:Node),N[p]? = some x->x.1.length<=m
structure Adds (N N1:List Node) (cl cf:Nat):Prop where
 lo:N.length<=N1.length
 hi:N1.length<=N.length+cl
 fit:FitN N->FitN N1
 few:∀m,FewN m N->FewN (m+cf) N1
theorem Adds.trans {N N1 N2:List Node}{a b c d:Nat}(h1:Adds N N1 a b)(h2:Adds N1 N2 c d):Adds N N2 (a+c) (b+d):=by
 have:=h1.hi
 have:=h2.hi
 exact⟨Nat.le_trans h1.lo h2.lo,oo,fun h=>h2.fit (h1.fit h),fun m h=>by rw[<-Nat.add_assoc];exact h2.few _ (h1.few m h)⟩
theorem Adds.more {N N1:List Node}{a b c d:Nat}(h:Adds N N1 a b)(h1:a<=c)(h2:b<=d):Adds N N1 c d:=by
 have:=h.hi
 exact⟨h.lo,oo,h.fit,fun m hm p x hx=>by have:=h.few m hm p x hx;omega⟩
theorem adds_refl (N:List Node):Adds N N 0 0:=⟨zzb _,zzb _,fun h=>h,fun _ h=>h⟩
theorem modify_at {N:List Node}{f:Node->Node}{a p:Nat}{x:Node}(h:(N.modify a f)[p]? = some x):∃y,N[p]? = some y/\x=if a=p then f y else y:=by
 rw[List.getElem?_modify] at h
 cases hy:N[p]? with
 | none=>rw[hy] at h;simp at h
 | some y=>
  rw[hy] at h;simp at h;exact⟨y,rfl,h.symm⟩
theorem place_at {N:List Node}{p:Nat}{x:Node}(h:(placeN N)[p]? = some x):N[p]? = some x\/x=newNode:=by
 unfold placeN at h
 rcases Nat.lt_or_ge p N.length with hlt | hge
 ·rw[List.getElem?_append_left hlt] at h
  exact .inl h
 ·right
  have hpl:p=N.length:=by
   have:=(zzc.1 h).1
   simp at this;omega
  subst hpl;simpa using h.symm
theorem adds_place (N:List Node):Adds N (placeN N) 1 0:=by
 refine⟨by rw[placeN_length];omega,by rw[placeN_length];omega,fun h p x hx=>?_,fun m h p x hx=>?_⟩
 ·rw[placeN_length]
  rcases place_at hx with e | rfl
  ·have:=h p x e
   refine⟨fun q hq=>Nat.lt_succ_of_lt (this.1 q hq),?_⟩;rcases this.2 with e | ⟨q,e1,e2⟩
   ·exact .inl e
   ·exact .inr ⟨q,e1,oo⟩
  ·exact⟨fun q hq=>(by cases hq),.inl rfl⟩
 ·rcases place_at hx with e | rfl
  ·exact h p x e
  ·exact zzn _
theorem adds_free (N:List Node)(a:Nat){b:Nat}(hb:b<N.length):Adds N (freeN N a b) 0 1:=by
 refine⟨by rw[freeN_length];omega,by rw[freeN_length];omega,fun h p x hx=>?_,fun m h p x hx=>?_⟩
 ·rw[freeN_length]
  obtain⟨y,hy,rfl⟩:=modify_at hx;have hh:=h p y hy
  split
  ·refine⟨fun q hq=>?_,hh.2⟩
   rcases List.mem_append.1 hq with hq | hq
   ·exact hh.1 q hq
   ·simp at hq;omega
  ·exact hh
 ·obtain⟨y,hy,rfl⟩:=modify_at hx
  have hh:=h p y hy
  split
  ·simp;omega
  ·omega
theorem adds_name (N:List Node)(c:Nat)(ts:List Int){b:Nat}(hb:b<N.length):Adds N (nameN N c ts b) 0 0:=by
 refine⟨by rw[nameN_length];omega,by rw[nameN_length];omega,fun h p x hx=>?_,fun m h p x hx=>?_⟩
 ·rw[nameN_length]
  obtain⟨y,hy,rfl⟩:=modify_at hx;have hh:=h p y hy
  split
  ·exact⟨hh.1,.inr ⟨b,rfl,hb⟩⟩
  ·exact hh
 ·obtain⟨y,hy,rfl⟩:=modify_at hx
  have hh:=h p y hy
  split
  ·exact hh
  ·exact hh
section
variable {T:Type}
theorem adds_seq {f:T->Nat->Nat->List Node->List Node}{s:T->Nat}:∀(l:List T),(∀x∈l,1<=s x/\∀a b N,a<N.length->b<N.length->Adds N (f x a b N) (4 * s x - 2) (4 * s x))->∀a b N,a<N.length->b<N.length->Adds N (seqN f l a b N) (4 * (l.map s).sum) (4 * (l.map s).sum+1):=by
 intro l
 induction l with
 | nil=>intro _ a b N ha hb;exact(adds_free N a hb).more oo oo
 | cons x r ih=>
  intro h a b N ha hb;obtain⟨h1,h2⟩:=h x (zzg ..);have hp:=adds_place N;have hpl:=placeN_length N;have hx:=h2 a N.length (placeN N) oo oo;have hlo:=hx.lo;have hr:=ih (fun y hy=>h y (zzk _ hy)) N.length b (f x a N.length (placeN N)) oo oo;rw[seqN];refine((hp.trans hx).trans hr).more ?_ ?_
  ·simp only[List.map_cons,List.sum_cons];omega
  ·simp only[List.map_cons,List.sum_cons];omega
theorem adds_alt {f:T->Nat->Nat->List Node->List Node}{s:T->Nat}:∀(l:List T),(∀x∈l,1<=s x/\∀a b N,a<N.length->b<N.length->Adds N (f x a b N) (4 * s x - 2) (4 * s x))->∀a b N,a<N.length->b<N.length->Adds N (altsN f l a b N) (4 * (l.map s).sum) (4 * (l.map s).sum):=by
 intro l
 induction l with
 | nil=>intro _ a b N ha hb;exact(adds_refl N).more oo oo
 | cons x r ih=>
  intro h a b N ha hb;obtain⟨h1,h2⟩:=h x (zzg ..);have hx:=h2 a b N ha hb;have hlo:=hx.lo;have hr:=ih (fun y hy=>h y (zzk _ hy)) a b (f x a b N) oo oo;rw[altsN];refine(hx.trans hr).more ?_ ?_
  ·simp only[List.map_cons,List.sum_cons];omega
  ·simp only[List.map_cons,List.sum_cons];omega
variable (K:T->Int) (Ty:T->List Int) (U:T->List T)
theorem size_pos (n:Nat)(t:T):1<=size U (n+1) t:=by rw[size];omega
theorem adds_lay:∀(n:Nat) (t:T) (a b:Nat) (N:List Node),(K t=4\/K t=5\/K t=6->True)->Sane K (fun _=>1) U n t->a<N.length->b<N.length->Adds N (layN K Ty U n t a b N) (4 * size U n t - 2) (4 * size U n t):=by
 intro n
 induction n with
 | zero=>intro t a b N _ h;exact h.elim
 | succ n ih=>
  rintro t a b N _ ⟨s1,s3,s4,sk⟩ ha hb
  have hpos:∀x∈U t,1<=size U n x:=fun x hx=>by
   cases n with
   | zero=>exact(sk x hx).elim
   | succ n=>exact size_pos U n x
  have hk:∀x∈U t,1<=size U n x/\∀a b N,a<N.length->b<N.length->Adds N (layN K Ty U n x a b N) (4 * size U n x - 2) (4 * size U n x):=fun x hx=>⟨hpos x hx,fun a b N ha hb=>ih x a b N (fun _=>trivial) (sk x hx) ha hb⟩
  rw[size,layN]
  by_cases k0:K t=0
  ·rw[if_pos k0];exact(adds_free N a hb).more oo oo
  rw[if_neg k0]
  by_cases k1:K t=1
  ·rw[if_pos k1]
   have hpl:=placeN_length N;have hfl:=freeN_length (placeN N) a N.length;exact(((adds_place N).trans (adds_free (placeN N) a (b:=N.length) oo)).trans (adds_name _ N.length (Ty t) (b:=b) oo)).more oo oo
  rw[if_neg k1]
  by_cases k2:K t=2
  ·rw[if_pos k2]
   exact(adds_seq (U t) hk a b N ha hb).more oo oo
  rw[if_neg k2]
  by_cases k3:K t=3
  ·rw[if_pos k3]
   exact(adds_alt (U t) hk a b N ha hb).more oo oo
  rw[if_neg k3];have hpl:=placeN_length N;have hpl2:=placeN_length (placeN N);have h1:=((adds_place N).trans (adds_place _)).trans (adds_free (placeN (placeN N)) a (b:=N.length) oo);have hl1:=freeN_length (placeN (placeN N)) a N.length;dsimp only[signN]
  have h2:Adds (freeN (placeN (placeN N)) a N.length) (oneN (layN K Ty U n) (U t) N.length (N.length+1) (freeN (placeN (placeN N)) a N.length)) (4 * ((U t).map (size U n)).sum) (4 * ((U t).map (size U n)).sum):=by
   cases hu:U t with
   | nil=>exact(adds_refl _).more oo oo
   | cons x r=>
    rw[oneN];refine((hk x (by rw[hu];exact zzg ..)).2 N.length (N.length+1) _ oo oo).more ?_ ?_
    ·simp only[List.map_cons,List.sum_cons];omega
    ·simp only[List.map_cons,List.sum_cons];omega
  have hlo2:=h2.lo;have h3:=(h1.trans h2).trans (adds_free _ (N.length+1) (b:=b) oo);have hl3:=freeN_length (oneN (layN K Ty U n) (U t) N.length (N.length+1) (freeN (placeN (placeN N)) a N.length)) (N.length+1) b
  have h4:Adds N (if K t=6 then freeN (oneN (layN K Ty U n) (U t) N.length (N.length+1) (freeN (placeN (placeN N)) a N.length)) (N.length+1) b else freeN (freeN (oneN (layN K Ty U n) (U t) N.length (N.length+1) (freeN (placeN (placeN N)) a N.length)) (N.length+1) b) (N.length+1) N.length) (2+4 * ((U t).map (size U n)).sum) (3+4 * ((U t).map (size U n)).sum):=by
   split
   ·exact h3.more oo oo
   ·exact(h3.trans (adds_free _ (N.length+1) (b:=N.length) oo)).more oo oo
  have hlo4:=h4.lo
  split
  ·exact h4.more oo oo
  ·exact(h4.trans (adds_free _ a (b:=b) oo)).more oo oo
end
def ViaM (F:List Node):Nat->Nat->Nat->Prop
 | 0,p,q=>p=q
 | k+1,p,q=>p=q\/∃x,F[p]? = some x/\∃r∈x.1,ViaM F k r q
theorem ViaM.up {F:List Node}:∀{k p q:Nat},ViaM F k p q->ViaM F (k+1) p q:=by
 intro k
 induction k with
 | zero=>intro p q h;exact .inl h
 | succ k ih=>
  intro p q h;rcases h with h | ⟨x,hx,r,hr,h⟩
  ·exact .inl h
  ·exact .inr ⟨x,hx,r,hr,ih h⟩
theorem ViaM.upto {F:List Node}{k m p q:Nat}(h:k<=m)(hr:ViaM F k p q):ViaM F m p q:=by
 induction h with
 | refl=>exact hr
 | step _ ih=>exact ViaM.up ih
theorem ViaM.trans {F:List Node}:∀{k p q:Nat},ViaM F k p q->∀{m r:Nat},ViaM F m q r->ViaM F (k+m) p r:=by
 intro k
 induction k with
 | zero=>rintro p q rfl m r h;simpa using h
 | succ k ih=>
  intro p q h m r h';rw[show k+1+m=k+m+1 from by omega];rcases h with rfl | ⟨x,hx,s,hs,h⟩
  ·exact ViaM.upto oo h'
  ·exact .inr ⟨x,hx,s,hs,ih h h'⟩
theorem ViaM.one {F:List Node}{p q:Nat}{x:Node}(hx:F[p]? = some x)(hq:q∈x.1):ViaM F 1 p q:=.inr ⟨x,hx,q,hq,rfl⟩
def ShutM (F:List Node)(S:Nat->Prop):Prop:=∀p x,S p->F[p]? = some x->∀q∈x.1,S q
theorem ShutM.via {F:List Node}{S:Nat->Prop}(h:ShutM F S):∀{k p q:Nat},S p->ViaM F k p q->S q:=by
 intro k
 induction k with
 | zero=>rintro p q hp rfl;exact hp
 | succ k ih=>
  intro p q hp hv;rcases hv with rfl | ⟨x,hx,r,hr,hv⟩
  ·exact hp
  ·exact ih (h p x hp hx r hr) hv
def spreadM (F:List Node)(S:Nat->Prop):Nat->Prop:=fun q=>∃p k,S p/\ViaM F k p q
theorem spreadM_shut (F:List Node)(S:Nat->Prop):ShutM F (spreadM F S):=fun _q _x ⟨p,_,hp,hk⟩ hx _ hr=>⟨p,_,hp,hk.trans (ViaM.one hx hr)⟩
def hopM (F:List Node)(S:Nat->Prop)(t:Int):Nat->Prop:=fun q=>∃a x,S a/\F[a]? = some x/\t∈x.2.1/\x.2.2=(q:Int)
def stepM (F:List Node)(S:Nat->Prop)(t:Int):Nat->Prop:=spreadM F (hopM F S t)
def firstM (F:List Node):Nat->Prop:=spreadM F (fun q=>q=0)
def afterM (F:List Node)(w:List Int):Nat->Prop:=w.foldl (stepM F) (firstM F)
theorem afterM_snoc (F:List Node)(w:List Int)(t:Int):afterM F (w++[t])=stepM F (afterM F w) t:=by unfold afterM;rw[List.foldl_append];rfl
theorem afterM_shut (F:List Node):∀w,ShutM F (afterM F w):=by
 intro w
 rcases List.eq_nil_or_concat w with rfl | ⟨u,t,rfl⟩
 ·exact spreadM_shut _ _
 ·rw[List.concat_eq_append,afterM_snoc];exact spreadM_shut _ _
theorem foldM_reads {F:List Node}:∀(w:List Int) (S:Nat->Prop),ShutM F S->∀v,(∃a k,S a/\ReadsM F k a (w++v))↔∃a k,(w.foldl (stepM F) S) a/\ReadsM F k a v:=by
 intro w
 induction w with
 | nil=>intro S _ v;exact Iff.rfl
 | cons t r ih=>
  intro S hS v;rw[List.foldl_cons,<-ih (stepM F S t) (spreadM_shut _ _) v]
  constructor
  ·rintro⟨a,k,ha,hr⟩
   induction k generalizing a with
   | zero=>obtain⟨_,e⟩:=hr;cases e
   | succ k ihk=>
    rcases hr with ⟨_,e⟩ | ⟨x,hx,⟨q,hq,hr⟩ | ⟨t', v', e,ht,q,hq,hr⟩⟩
    ·cases e
    ·exact ihk q (hS a x ha hx q hq) hr
    ·cases e
     exact⟨q,k,⟨q,0,⟨a,x,ha,hx,ht,hq⟩,rfl⟩,hr⟩
  ·rintro⟨b,k,⟨p,m,⟨a,x,ha,hx,ht,hq⟩,hv⟩,hR⟩
   have hlift:∀{m p:Nat},ViaM F m p b->ReadsM F (m+k) p (r++v):=by
    intro m
    induction m with
    | zero=>rintro p rfl;simpa using hR
    | succ m ihm=>
     intro p hp;rw[show m+1+k=m+k+1 from by omega];rcases hp with rfl | ⟨y,hy,s,hs,hp⟩
     ·exact ReadsM.upto oo hR
     ·exact .inr ⟨y,hy,.inl ⟨s,hs,ihm hp⟩⟩
   exact⟨a,m+k+1,ha,.inr ⟨x,hx,.inr ⟨t,r++v,rfl,ht,p,hq,hlift hv⟩⟩⟩
theorem readsM_nil {F:List Node}{S:Nat->Prop}(hS:ShutM F S):(∃a k,S a/\ReadsM F k a [])↔S 1:=by
 constructor
 ·rintro⟨a,k,ha,hr⟩
  induction k generalizing a with
  | zero=>obtain⟨rfl,_⟩:=hr;exact ha
  | succ k ih=>
   rcases hr with ⟨rfl,_⟩ | ⟨x,hx,⟨q,hq,hr⟩ | ⟨t,v,e,_⟩⟩
   ·exact ha
   ·exact ih q (hS a x ha hx q hq) hr
   ·cases e
 ·intro h;exact⟨1,0,h,rfl,rfl⟩
structure Nets (F:List Node) (L:List Int->Prop):Prop where
 words:∀w,(∃k,ReadsM F k 0 w)↔L w
 live:∀p,p<F.length->Live F p
 fit:FitN F
 two:2<=F.length
theorem first_reads {F:List Node}(w:List Int):(∃a k,firstM F a/\ReadsM F k a w)↔∃k,ReadsM F k 0 w:=by
 constructor
 ·rintro⟨a,k,⟨p,m,rfl,hv⟩,hr⟩
  induction m generalizing k with
  | zero=>cases hv;exact⟨k,hr⟩
  | succ m ih=>
   have:∀{m p:Nat},ViaM F m p a->ReadsM F (m+k) p w:=by
    intro m
    induction m with
    | zero=>rintro p rfl;simpa using hr
    | succ m ihm=>
     intro p hp;rw[show m+1+k=m+k+1 from by omega];rcases hp with rfl | ⟨y,hy,s,hs,hp⟩
     ·exact ReadsM.upto oo hr
     ·exact .inr ⟨y,hy,.inl ⟨s,hs,ihm hp⟩⟩
   exact⟨_,this hv⟩
 ·rintro⟨k,hr⟩
  exact⟨0,k,⟨0,0,rfl,rfl⟩,hr⟩
theorem Nets.ends {F:List Node}{L:List Int->Prop}(h:Nets F L)(w:List Int):afterM F w 1↔L w:=by
 rw[<-h.words w,<-first_reads,<-readsM_nil (afterM_shut F w)]
 have:=foldM_reads w (firstM F) (spreadM_shut _ _) []
 rw[List.append_nil] at this
 exact this.symm
theorem spread_lt {F:List Node}(hF:FitN F){S:Nat->Prop}(hS:∀p,S p->p<F.length):∀q,spreadM F S q->q<F.length:=by
 rintro q ⟨p,k,hp,hv⟩
 have hpl:=hS p hp
 clear hp hS
 induction k generalizing p with
 | zero=>cases hv;exact hpl
 | succ k ih=>
  rcases hv with rfl | ⟨x,hx,r,hr,hv⟩
  ·exact hpl
  ·exact ih r hv ((hF p x hx).1 r hr)
theorem hop_lt {F:List Node}(hF:FitN F){S:Nat->Prop}{t:Int}:∀q,hopM F S t q->q<F.length:=by
 rintro q ⟨a,x,_,hx,ht,hq⟩
 rcases (hF a x hx).2 with e | ⟨r,e1,e2⟩
 ·rw[e] at ht;cases ht
 ·rw[hq] at e1;omega
theorem after_lt {F:List Node}(hF:FitN F)(h2:2<=F.length):∀w q,afterM F w q->q<F.length:=by
 intro w
 rcases List.eq_nil_or_concat w with rfl | ⟨u,t,rfl⟩
 ·exact spread_lt hF (by rintro p rfl;omega)
 ·rw[List.concat_eq_append,afterM_snoc]
  exact spread_lt hF (hop_lt hF)
theorem Nets.begins {F:List Node}{L:List Int->Prop}(h:Nets F L)(w:List Int):(∃q,afterM F w q)↔∃v,L (w++v):=by
 constructor
 ·rintro⟨q,hq⟩
  obtain⟨k,v,hr⟩:=h.live q (after_lt h.fit h.two w q hq);refine⟨v,(h.words _).1 ((first_reads _).1 ((foldM_reads w (firstM F) (spreadM_shut _ _) v).2 ⟨q,k,hq,hr⟩))⟩
 ·rintro⟨v,hv⟩
  obtain⟨a,k,ha,_⟩:=(foldM_reads w (firstM F) (spreadM_shut _ _) v).1 ((first_reads _).2 ((h.words _).2 hv));exact⟨a,ha⟩
def twoN:List Node:=placeN (placeN [])
section
variable {T:Type} (K:T->Int) (M:T->Nat) (Ty:T->List Int) (U:T->List T)
theorem net_of (hTy:∀t a,takes (M t) a=true↔a∈Ty t)(hne:∀s,M s≠0->Ty s≠[])(n:Nat)(t:T)(hS:Sane K M U n t)(hK:KindsN K U n t)(hA:Adds twoN (layN K Ty U n t 0 1 twoN) (4 * size U n t - 2) (4 * size U n t)):Nets (layN K Ty U n t 0 1 twoN) (Lang K M U n t):=by
 have ht:twoN=[newNode,newNode]:=rfl
 have hl:twoN.length=2:=rfl
 obtain⟨E,l,m⟩:=lay_net K M Ty U hTy n t hS hK hne 0 1 twoN oo oo oo
 have h0:(layN K Ty U n t 0 1 twoN)[0]? = some (E,[],-1):=l.ent newNode rfl
 have h1:(layN K Ty U n t 0 1 twoN)[1]? = some ([],[],-1):=(l.old 1 oo oo).trans rfl
 obtain⟨M1,V1⟩:=m _ (fun p _ _=>rfl)
 have hfit:FitN twoN:=fun p x hx=>by
  rw[ht] at hx
  have:x=newNode:=by
   match p,hx with
   | 0,hx=>simpa using hx.symm
   | 1,hx=>simpa using hx.symm
  subst this;exact⟨fun q hq=>(by cases hq),.inl rfl⟩
 have live1:Live (layN K Ty U n t 0 1 twoN) 1:=⟨0,[],rfl,rfl⟩
 have end1:∀k v,ReadsM (layN K Ty U n t 0 1 twoN) k 1 v->v=[]:=by
  intro k v hr;cases k with
  | zero=>exact hr.2
  | succ k=>
   rcases hr with ⟨_,e⟩ | ⟨x,hx,h⟩
   ·exact e
   ·rw[h1] at hx
    cases hx;rcases h with ⟨q,hq,_⟩ | ⟨a,v,_,ha,_⟩
    ·cases hq
    ·cases ha
 refine⟨fun w=>?_,fun p hp=>?_,hA.fit hfit,by have:=hA.lo;omega⟩
 ·constructor
  ·rintro⟨k,hr⟩
   cases k with
   | zero=>obtain⟨e,_⟩:=hr;cases e
   | succ k=>
    rcases hr with ⟨e,_⟩ | ⟨x,hx,h⟩
    ·cases e
    ·rw[h0] at hx
     cases hx;rcases h with ⟨q,hq,hr⟩ | ⟨a,v,_,ha,_⟩
     ·obtain⟨u,v,k', _,rfl,hu,hv⟩:=M1.sound q hq k w hr
      rw[end1 k' v hv,List.append_nil];exact hu
     ·cases ha
  ·intro hw
   obtain⟨q,hq,k,hr⟩:=M1.full w [] 0 hw ⟨rfl,rfl⟩;rw[List.append_nil] at hr;exact⟨k+1,hr.by_free h0 hq⟩
 ·rcases Nat.lt_or_ge p 2 with h | h
  ·have:p=0\/p=1:=by omega
   rcases this with rfl | rfl
   ·obtain⟨q,hq⟩:=List.exists_mem_of_ne_nil _ M1.ne
    obtain⟨k,w,hr⟩:=M1.live live1 q hq;exact⟨k+1,w,hr.by_free h0 hq⟩
   ·exact live1
  ·exact V1 live1 p oo hp
end
end Go.Proofs.YtjkebndkeamijaaGreatDoor
