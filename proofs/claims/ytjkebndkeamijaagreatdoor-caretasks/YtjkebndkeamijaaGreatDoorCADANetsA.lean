/-
  PROVED HERE: plain nets: how a tree is laid, what is read of it, what is reached behind a word.
-/
import Derived.Test.YtjkebndkeamijaaGreatDoorCA13
namespace Go.Proofs.YtjkebndkeamijaaGreatDoor
abbrev gL:Type:=List Nat×List Int×Int
def oU:gL:=([],[],-1)
def gI (N:List gL):List gL:=N++[oU]
def iT (N:List gL)(a b:Nat):List gL:=N.modify a (fun x=>(x.1++[b],x.2))
def pC (N:List gL)(c:Nat)(ts:List Int)(b:Nat):List gL:=N.modify c (fun x=>(x.1,ts,(b:Int)))
def jA (F:List gL):Nat->Nat->List Int->Prop
 | 0,p,w=>p=1/\w=[]
 | k+1,p,w=>(p=1/\w=[])\/∃x,F[p]? = some x/\((∃q∈x.1,jA F k q w)\/∃t v,w=t::v/\t∈x.2.1/\∃q:Nat,x.2.2=(q:Int)/\jA F k q v)
theorem jA.up {F:List gL}:∀{k p:Nat} {w:List Int},jA F k p w->jA F (k+1) p w:=by
 intro k
 induction k with
 | zero=>intro p w h;exact .inl h
 | succ k ih=>
  intro p w h;rcases h with h | ⟨x,hx,⟨q,hq,hr⟩ | ⟨t,v,e,ht,q,hq,hr⟩⟩
  ·exact .inl h
  ·exact .inr ⟨x,hx,.inl ⟨q,hq,ih hr⟩⟩
  ·exact .inr ⟨x,hx,.inr ⟨t,v,e,ht,q,hq,ih hr⟩⟩
theorem jA.upto {F:List gL}{k m p:Nat}{w:List Int}(h:k<=m)(hr:jA F k p w):jA F m p w:=by
 induction h with
 | refl=>exact hr
 | step _ ih=>exact jA.up ih
theorem jA.by_free {F:List gL}{k p q:Nat}{w:List Int}{x:gL}(hx:F[p]? = some x)(hq:q∈x.1)(h:jA F k q w):jA F (k+1) p w:=.inr ⟨x,hx,.inl ⟨q,hq,h⟩⟩
theorem jA.at_free {F:List gL}{k p:Nat}{w:List Int}{x:gL}(hp:2<=p)(hx:F[p]? = some x)(h0:x.2.1=[])(h:jA F k p w):∃q∈x.1,∃k', k' < k/\jA F k' q w:=by
 cases k with
 | zero=>obtain⟨rfl,_⟩:=h;omega
 | succ k=>
  rcases h with ⟨rfl,_⟩ | ⟨y,hy,h⟩
  ·omega
  ·rw[hx] at hy
   cases hy;rcases h with ⟨q,hq,hr⟩ | ⟨t,v,_,ht,_⟩
   ·exact⟨q,hq,k,Nat.lt_succ_self _,hr⟩
   ·rw[h0] at ht;cases ht
def gEr (F:List gL)(p:Nat):Prop:=∃k w,jA F k p w
section
variable {T:Type} (K:T->Int) (Ty:T->List Int) (U:T->List T)
def yU (f:T->Nat->Nat->List gL->List gL):List T->Nat->Nat->List gL->List gL
 | [],a,b,N=>iT N a b
 | x::r,a,b,N=>yU f r N.length b (f x a N.length (gI N))
def uE (f:T->Nat->Nat->List gL->List gL):List T->Nat->Nat->List gL->List gL
 | [],_,_,N=>N
 | x::r,a,b,N=>uE f r a b (f x a b N)
def gGk (f:T->Nat->Nat->List gL->List gL):List T->Nat->Nat->List gL->List gL
 | x::_,a,b,N=>f x a b N
 | [],_,_,N=>N
def sU (f:T->Nat->Nat->List gL->List gL)(k:Int)(l:List T)(a b:Nat)(N:List gL):List gL :=
 let N3:=iT (gGk f l N.length (N.length+1) (iT (gI (gI N)) a N.length)) (N.length+1) b
 let N4:=if k=6 then N3 else iT N3 (N.length+1) N.length
 if k=5 then N4 else iT N4 a b
def sA:Nat->T->Nat->Nat->List gL->List gL
 | 0,_,_,_,N=>N
 | n+1,t,a,b,N=>
  if K t=0 then iT N a b
  else if K t=1 then pC (iT (gI N) a N.length) N.length (Ty t) b
  else if K t=2 then yU (sA n) (U t) a b N
  else if K t=3 then uE (sA n) (U t) a b N
  else sU (sA n) (K t) (U t) a b N
end
structure yV (N N1:List gL) (a:Nat) (E:List Nat):Prop where
 len:N.length<=N1.length
 old:∀p,p<N.length->p≠a->N1[p]? = N[p]?
 ent:∀x,N[a]? = some x->N1[a]? = some (x.1++E,x.2)
theorem yV.trans {N N1 N2:List gL}{a:Nat}{E1 E2:List Nat}(h1:yV N N1 a E1)(h2:yV N1 N2 a E2):yV N N2 a (E1++E2):=by
 refine⟨Nat.le_trans h1.len h2.len,fun p hp hne=>(h2.old p (zzl hp h1.len) hne).trans (h1.old p hp hne),fun x hx=>?_⟩
 have:=h2.ent _ (h1.ent x hx)
 rwa [List.append_assoc] at this
theorem yV.inner {N N1 N2:List gL}{a c:Nat}{E E2:List Nat}(h1:yV N N1 a E)(h2:yV N1 N2 c E2)(hc:N.length<=c)(ha:a<N.length):yV N N2 a E:=by
 refine⟨Nat.le_trans h1.len h2.len,fun p hp hne=>(h2.old p (zzl hp h1.len) oo).trans (h1.old p hp hne),fun x hx=>?_⟩
 rw[h2.old a (zzl ha h1.len) oo]
 exact h1.ent x hx
theorem iH (N:List gL)(a b:Nat):(iT N a b).length=N.length:=by unfold iT;simp
theorem gR (N:List gL):(gI N).length=N.length+1:=by unfold gI;simp
theorem rZ (N:List gL)(c:Nat)(ts:List Int)(b:Nat):(pC N c ts b).length=N.length:=by unfold pC;simp
theorem yL (N:List gL):(gI N)[N.length]? = some oU:=by unfold gI;simp
theorem oV (N:List gL)(a b:Nat):yV N (iT N a b) a [b]:=by
 refine⟨by rw[iH];exact zzb _,fun p _ hne=>?_,fun x hx=>?_⟩
 ·unfold iT;rw[List.getElem?_modify];simp[Ne.symm hne]
 ·unfold iT;rw[List.getElem?_modify,hx];simp
theorem sZ {N:List gL}{a:Nat}(ha:a<N.length):yV N (gI N) a []:=by
 refine⟨by rw[gR];omega,fun p hp _=>by unfold gI;exact List.getElem?_append_left hp,fun x hx=>?_⟩
 unfold gI
 rw[List.getElem?_append_left ha,hx,List.append_nil]
theorem gOn {N:List gL}{c p:Nat}{ts:List Int}{b:Nat}(h:p≠c):(pC N c ts b)[p]? = N[p]? := by unfold pC;rw[List.getElem?_modify];simp[Ne.symm h]
theorem hBc {N:List gL}{c:Nat}{ts:List Int}{b:Nat}{x:gL}(h:N[c]? = some x):(pC N c ts b)[c]? = some (x.1,ts,(b:Int)):=by unfold pC;rw[List.getElem?_modify,h];simp
structure gEd (F:List gL) (L:List Int->Prop) (b:Nat) (E:List Nat):Prop where
 ne:E≠[]
 sound:∀q∈E,∀k w,jA F k q w->∃u v k', k' <= k/\w=u++v/\L u/\jA F k' b v
 full:∀u v k,L u->jA F k b v->∃q∈E,∃k', jA F k' q (u++v)
 live:gEr F b->∀q∈E,gEr F q
theorem gEd.congr {F:List gL}{L L' : List Int->Prop}{b:Nat}{E:List Nat}(h:gEd F L b E)(hL:∀u,L u↔L' u):gEd F L' b E :=
 ⟨h.ne,fun q hq k w hr=>by obtain⟨u,v,k', h1,h2,h3,h4⟩:=h.sound q hq k w hr;exact⟨u,v,k', h1,h2,(hL u).1 h3,h4⟩,fun u v k hu hv=>h.full u v k ((hL u).2 hu) hv,h.live⟩
theorem gEd.at {F:List gL}{L:List Int->Prop}{b c:Nat}{E:List Nat}(h:gEd F L b E)(hc:2<=c)(hx:F[c]? = some (E,[],-1)) :
  (∀k w,jA F k c w->∃u v k', k' < k/\w=u++v/\L u/\jA F k' b v)/\(∀u v k,L u->jA F k b v->∃k', jA F k' c (u++v))/\(gEr F b->gEr F c):=by
 refine⟨fun k w hr=>?_,fun u v k hu hv=>?_,fun hb=>?_⟩
 ·obtain⟨q,hq,k1,hk1,hr1⟩:=hr.at_free hc hx rfl
  obtain⟨u,v,k2,hk2,e,hu,hv⟩:=h.sound q hq k1 w hr1;exact⟨u,v,k2,oo,e,hu,hv⟩
 ·obtain⟨q,hq,k1,hr⟩:=h.full u v k hu hv
  exact⟨k1+1,hr.by_free hx hq⟩
 ·obtain⟨q,hq⟩:=List.exists_mem_of_ne_nil _ h.ne
  obtain⟨k,w,hr⟩:=h.live hb q hq;exact⟨k+1,w,hr.by_free hx hq⟩
def gJy (F N1:List gL)(m:Nat):Prop:=∀p,m<=p->p<N1.length->F[p]? = N1[p]?
def gIe (f:Nat->Nat->List gL->List gL)(L:List Int->Prop):Prop :=
 ∀a b N,2<=N.length->a<N.length->b<N.length->∃E,yV N (f a b N) a E/\∀F,gJy F (f a b N) N.length->gEd F L b E/\(gEr F b->∀p,N.length<=p->p<(f a b N).length->gEr F p)
theorem gJb:gIe (fun a b N=>iT N a b) (fun w=>w=[]):=by
 intro a b N _ _ _
 refine⟨[b],oV N a b,fun F hF=>⟨⟨by simp,fun q hq k w hr=>?_,fun u v k hu hv=>?_,fun hb q hq=>?_⟩,fun _ p h1 h2=>?_⟩⟩
 ·simp at hq
  subst hq;exact⟨[],w,k,zzb _,rfl,rfl,hr⟩
 ·subst hu
  exact⟨b,List.mem_singleton.2 rfl,k,hv⟩
 ·simp at hq
  subst hq;exact hb
 ·rw[iH] at h2
  omega
theorem gXm (ts:List Int)(hts:ts≠[]):gIe (fun a b N=>pC (iT (gI N) a N.length) N.length ts b) (fun w=>∃t,w=[t]/\t∈ts):=by
 intro a b N h2 ha hb
 dsimp only
 have l1:=(sZ ha).trans (oV (gI N) a N.length)
 have hc:(iT (gI N) a N.length)[N.length]? = some oU:=by rw[(oV (gI N) a N.length).old _ (by rw[gR];omega) oo,yL]
 have hl:(pC (iT (gI N) a N.length) N.length ts b).length=N.length+1:=by rw[rZ,iH,gR]
 refine⟨[N.length],⟨oo,fun p hp hne=>?_,fun x hx=>?_⟩,fun F hF=>?_⟩
 ·rw[gOn oo]
  exact l1.old p hp hne
 ·rw[gOn oo]
  exact l1.ent x hx
 ·have hFc:F[N.length]? = some ([],ts,(b:Int)):=(hF N.length (zzb _) oo).trans (hBc hc)
  have hlive:gEr F b->gEr F N.length:=by
   rintro⟨k,w,hr⟩;obtain⟨t,ht⟩:=List.exists_mem_of_ne_nil _ hts;exact⟨k+1,t::w,.inr ⟨_,hFc,.inr ⟨t,w,rfl,ht,b,rfl,hr⟩⟩⟩
  refine⟨⟨by simp,fun q hq k w hr=>?_,fun u v k hu hv=>?_,fun hb q hq=>?_⟩,fun hb p h1 h2=>?_⟩
  ·simp at hq
   subst hq;cases k with
   | zero=>obtain⟨e,_⟩:=hr;omega
   | succ k=>
    rcases hr with ⟨e,_⟩ | ⟨y,hy,h⟩
    ·omega
    ·rw[hFc] at hy
     cases hy;rcases h with ⟨q,hq,_⟩ | ⟨t,v,rfl,ht,q,hq,hr⟩
     ·cases hq
     ·have:b=q:=by simp at hq;omega
      subst this;exact⟨[t],v,k,oo,rfl,⟨t,rfl,ht⟩,hr⟩
  ·obtain⟨t,rfl,ht⟩:=hu
   exact⟨N.length,List.mem_singleton.2 rfl,k+1,.inr ⟨_,hFc,.inr ⟨t,v,rfl,ht,b,rfl,hv⟩⟩⟩
  ·simp at hq
   subst hq;exact hlive hb
  ·have:p=N.length:=by omega
   subst this;exact hlive hb
section
variable {T:Type}
theorem hBp {f:T->Nat->Nat->List gL->List gL}{g:T->List Int->Prop}:∀(l:List T),(∀x∈l,gIe (f x) (g x))->gIe (fun a b N=>yU f l a b N) (gIf g l):=by
 intro l
 induction l with
 | nil=>intro _;exact gJb
 | cons x r ih=>
  intro hf a b N h2 ha hb;dsimp only[yU];obtain⟨E1,l1,m1⟩:=hf x (zzg ..) a N.length (gI N) (by rw[gR];omega) (by rw[gR];omega) (by rw[gR];omega);have hlen1:=l1.len;rw[gR] at hlen1;obtain⟨E2,l2,m2⟩:=ih (fun y hy=>hf y (zzk _ hy)) N.length b (f x a N.length (gI N)) oo oo oo;(have hc1:(f x a N.length (gI N))[N.length]? = some oU:=by rw[l1.old _ (by rw[gR];omega) oo,yL]);have hc2:=l2.ent _ hc1;have hlen2:(f x a N.length (gI N)).length<=(yU f r N.length b (f x a N.length (gI N))).length:=l2.len;refine⟨E1,?_,fun F hF=>?_⟩
  ·have:=((sZ ha).trans l1).inner l2 (zzb _) ha
   simpa using this
  ·have hF2:gJy F (yU f r N.length b (f x a N.length (gI N))) (f x a N.length (gI N)).length:=fun p h1 h2=>hF p oo h2
   have hF1:gJy F (f x a N.length (gI N)) (gI N).length:=fun p h1 h2=>by
    rw[gR] at h1;exact(hF p oo (zzl h2 hlen2)).trans (l2.old p h2 oo)
   have hFc:F[N.length]? = some (E2,[],-1):=(hF N.length (zzb _) (by show N.length<(yU f r N.length b (f x a N.length (gI N))).length;omega)).trans hc2;obtain⟨M1,V1⟩:=m1 F hF1;obtain⟨M2,V2⟩:=m2 F hF2;obtain⟨s2,f2,v2⟩:=M2.at h2 hFc;refine⟨⟨M1.ne,fun q hq k w hr=>?_,fun u v k hu hv=>?_,fun hb q hq=>M1.live (v2 hb) q hq⟩,fun hb p h1 h2=>?_⟩
   ·obtain⟨u,v,k1,hk1,rfl,hu,hv⟩:=M1.sound q hq k w hr
    obtain⟨u', v', k2,hk2,rfl,hu', hv'⟩:=s2 k1 v hv;exact⟨u++u', v', k2,oo,by simp,⟨u,u', rfl,hu,hu'⟩,hv'⟩
   ·obtain⟨u1,u2,rfl,h1,h2⟩:=hu
    obtain⟨k1,hk1⟩:=f2 u2 v k h2 hv;obtain⟨q,hq,k2,hr⟩:=M1.full u1 (u2++v) k1 h1 hk1;exact⟨q,hq,k2,by rw[List.append_assoc];exact hr⟩
   ·rcases Nat.lt_or_ge p (f x a N.length (gI N)).length with h3 | h3
    ·rcases Nat.eq_or_lt_of_le h1 with h4 | h4
     ·rw[<-h4];exact v2 hb
     ·exact V1 (v2 hb) p (by rw[gR];omega) h3
    ·exact V2 hb p h3 h2
theorem hBz {f:T->Nat->Nat->List gL->List gL}{g:T->List Int->Prop}:∀(l:List T),l≠[]->(∀x∈l,gIe (f x) (g x))->gIe (fun a b N=>uE f l a b N) (fun w=>∃x∈l,g x w):=by
 intro l
 induction l with
 | nil=>intro h;exact absurd rfl h
 | cons x r ih=>
  intro _ hf a b N h2 ha hb;dsimp only[uE];obtain⟨E1,l1,m1⟩:=hf x (zzg ..) a b N h2 ha hb;have hlen1:=l1.len;cases r with
  | nil=>
   refine⟨E1,l1,fun F hF=>?_⟩;obtain⟨M1,V1⟩:=m1 F hF;exact⟨M1.congr fun u=>by simp,V1⟩
  | cons y r=>
   obtain⟨E2,l2,m2⟩:=ih (by simp) (fun z hz=>hf z (zzk _ hz)) a b (f x a b N) oo oo oo;have hlen2:=l2.len;refine⟨E1++E2,l1.trans l2,fun F hF=>?_⟩;(have hF2:gJy F (uE f (y::r) a b (f x a b N)) (f x a b N).length:=fun p h1 h2=>hF p oo h2);(have hF1:gJy F (f x a b N) N.length:=fun p h1 h2=>(hF p h1 (zzl h2 hlen2)).trans (l2.old p h2 oo));obtain⟨M1,V1⟩:=m1 F hF1;obtain⟨M2,V2⟩:=m2 F hF2;refine⟨⟨by simp[M1.ne],fun q hq k w hr=>?_,fun u v k hu hv=>?_,fun hb q hq=>?_⟩,fun hb p h1 h2=>?_⟩
   ·rcases List.mem_append.1 hq with hq | hq
    ·obtain⟨u,v,k1,hk1,e,hu,hv⟩:=M1.sound q hq k w hr
     exact⟨u,v,k1,hk1,e,⟨x,zzg ..,hu⟩,hv⟩
    ·obtain⟨u,v,k1,hk1,e,⟨z,hz,hu⟩,hv⟩:=M2.sound q hq k w hr
     exact⟨u,v,k1,hk1,e,⟨z,zzk _ hz,hu⟩,hv⟩
   ·obtain⟨z,hz,hu⟩:=hu
    rcases List.mem_cons.1 hz with rfl | hz
    ·obtain⟨q,hq,k1,hr⟩:=M1.full u v k hu hv
     exact⟨q,List.mem_append_left _ hq,k1,hr⟩
    ·obtain⟨q,hq,k1,hr⟩:=M2.full u v k ⟨z,hz,hu⟩ hv
     exact⟨q,List.mem_append_right _ hq,k1,hr⟩
   ·rcases List.mem_append.1 hq with hq | hq
    ·exact M1.live hb q hq
    ·exact M2.live hb q hq
   ·rcases Nat.lt_or_ge p (f x a b N).length with h3 | h3
    ·exact V1 hb p h1 h3
    ·exact V2 hb p h3 h2
end
end Go.Proofs.YtjkebndkeamijaaGreatDoor
/- Net1: the net of a tree: what it reads is what the tree's words are; it is not great; all its ways gCp to places of it. -/
namespace Go.Proofs.YtjkebndkeamijaaGreatDoor
section
variable {T:Type}
def Pls (L:List Int->Prop)(w:List Int):Prop:=∃m,gBx L (m+1) w
theorem hAr {L:List Int->Prop}{u v:List Int}(hu:L u)(hv:Pls L v):Pls L (u++v):=by
 obtain⟨m,hm⟩:=hv
 exact⟨m+1,u,v,rfl,hu,hm⟩
theorem hEm {L:List Int->Prop}{u:List Int}(hu:L u):Pls L u:=⟨0,u,[],by simp,hu,rfl⟩
theorem gOs {F:List gL}{L:List Int->Prop}{b c d:Nat}{Ec:List Nat}(hM:gEd F L d Ec)(hc2:2<=c)(hd2:2<=d)(hc:F[c]? = some (Ec,[],-1))(hd:F[d]? = some ([b,c],[],-1)):∀(m k:Nat) (w:List Int),k<=m->jA F k c w->∃u v k', k' <= k/\w=u++v/\Pls L u/\jA F k' b v:=by
 obtain⟨s1,_,_⟩:=hM.at hc2 hc
 intro m
 induction m with
 | zero=>
  intro k w hk hr;obtain⟨_,_,_,h,_⟩:=s1 k w hr;omega
 | succ m ih=>
  intro k w hk hr;obtain⟨u,v,k1,hk1,rfl,hu,hv⟩:=s1 k w hr;obtain⟨q,hq,k2,hk2,hr2⟩:=hv.at_free hd2 hd rfl;simp at hq;rcases hq with rfl | rfl
  ·exact⟨u,v,k2,oo,rfl,hEm hu,hr2⟩
  ·obtain⟨u', v', k3,hk3,rfl,hu', hv'⟩:=ih k2 v oo hr2
   exact⟨u++u', v', k3,oo,by simp,hAr hu hu', hv'⟩
theorem gSr {F:List gL}{L:List Int->Prop}{b c d:Nat}{Ec:List Nat}(hM:gEd F L d Ec)(hc2:2<=c)(hc:F[c]? = some (Ec,[],-1))(hd:F[d]? = some ([b,c],[],-1)):∀(m:Nat) (u v:List Int) (k:Nat),gBx L (m+1) u->jA F k b v->∃k', jA F k' c (u++v):=by
 obtain⟨_,f1,_⟩:=hM.at hc2 hc
 intro m
 induction m with
 | zero=>
  rintro u v k ⟨x,y,rfl,hx,hy⟩ hv;rw[gBx] at hy;subst hy;rw[List.append_nil];exact f1 x v (k+1) hx (hv.by_free hd (by simp))
 | succ m ih=>
  rintro u v k ⟨x,y,rfl,hx,hy⟩ hv;obtain⟨k1,h1⟩:=ih y v k hy hv;rw[List.append_assoc];exact f1 x (y++v) (k1+1) hx (h1.by_free hd (by simp))
theorem hBy {f:T->Nat->Nat->List gL->List gL}{g:T->List Int->Prop}{x:T}(hf:gIe (f x) (g x))(k:Int)(L:List Int->Prop)
  (hL:∀w,L w↔((k≠5/\w=[])\/(if k=6 then g x w else Pls (g x) w))):gIe (fun a b N=>sU f k [x] a b N) L:=by
 intro a b N h2 ha hb
 dsimp only[sU,gGk]
 -- the places c and d
 have hp0:=gR N
 have hp1:=gR (gI N)
 have l0:yV N (gI (gI N)) a []:=by simpa using (sZ ha).trans (sZ (N:=gI N) (a:=a) oo)
 have l1:yV N (iT (gI (gI N)) a N.length) a [N.length]:=by simpa using l0.trans (oV _ a N.length)
 have hl1:=iH (gI (gI N)) a N.length
 obtain⟨Ec,l2,m2⟩:=hf N.length (N.length+1) (iT (gI (gI N)) a N.length) oo oo oo
 generalize hN2:iT (gI (gI N)) a N.length=N2 at *
 have cN2:N2[N.length]? = some oU:=by
  rw[<-hN2,(oV (gI (gI N)) a N.length).old _ oo oo,(sZ (N:=gI N) (a:=a) oo).old _ oo oo,yL]
 have dN2:N2[N.length+1]? = some oU:=by
  rw[<-hN2,(oV (gI (gI N)) a N.length).old _ oo oo]
  have:=yL (gI N)
  rwa [hp0] at this
 have hlen2:=l2.len
 generalize hN3:f x N.length (N.length+1) N2=N3 at *
 have cN3:=l2.ent _ cN2
 have dN3:N3[N.length+1]? = some oU:=(l2.old _ oo oo).trans dN2
 -- d oA to b
 have l3:=oV N3 (N.length+1) b
 have hl3:=iH N3 (N.length+1) b
 generalize hN4:iT N3 (N.length+1) b=N4 at *
 have cN4:N4[N.length]? = some (Ec,[],-1):=(l3.old _ oo oo).trans cN3
 have dN4:=l3.ent _ dN3
 have lN4:yV N N4 a [N.length]:=(l1.inner l2 (zzb _) ha).inner l3 oo ha
 have oN4:∀p,N.length+2<=p->p<N3.length->N4[p]? = N3[p]? := fun p h1 h2=>l3.old p h2 oo
 -- and back to c, where the sign repeats
 obtain⟨N5,hN5,hl5,cN5,dN5,lN5,oN5⟩:∃N5,N5=(if k=6 then N4 else iT N4 (N.length+1) N.length)/\N5.length=N3.length/\N5[N.length]? = some (Ec,[],-1)/\N5[N.length+1]? = some ((if k=6 then [b] else [b,N.length]),[],-1)/\yV N N5 a [N.length]/\∀p,N.length+2<=p->p<N3.length->N5[p]? = N3[p]?:=by
  by_cases h6:k=6
  ·exact⟨N4,by rw[if_pos h6],hl3,cN4,by rw[if_pos h6];exact dN4,lN4,oN4⟩
  ·have l4:=oV N4 (N.length+1) N.length
   refine⟨iT N4 (N.length+1) N.length,by rw[if_neg h6],by rw[iH];exact hl3,(l4.old _ oo oo).trans cN4,?_,lN4.inner l4 oo ha,fun p h1 h2=>(l4.old p oo oo).trans (oN4 p h1 h2)⟩;rw[if_neg h6];exact l4.ent _ dN4
 rw[<-hN5]
 -- a oA to b, where there may be none
 obtain⟨N6,E,hN6,hl6,cN6,dN6,lN6,oN6,hE⟩:∃N6 E,N6=(if k=5 then N5 else iT N5 a b)/\N6.length=N3.length/\N6[N.length]? = some (Ec,[],-1)/\N6[N.length+1]? = some ((if k=6 then [b] else [b,N.length]),[],-1)/\yV N N6 a E/\(∀p,N.length+2<=p->p<N3.length->N6[p]? = N3[p]?)/\E=(if k=5 then [N.length] else [N.length,b]):=by
  by_cases h5:k=5
  ·exact⟨N5,[N.length],by rw[if_pos h5],hl5,cN5,dN5,lN5,oN5,by rw[if_pos h5]⟩
  ·have l6:=oV N5 a b
   refine⟨iT N5 a b,[N.length,b],by rw[if_neg h5],by rw[iH];exact hl5,(l6.old _ oo oo).trans cN5,(l6.old _ oo oo).trans dN5,lN5.trans l6,fun p h1 h2=>(l6.old p oo oo).trans (oN5 p h1 h2),by rw[if_neg h5]⟩
 rw[<-hN6]
 refine⟨E,lN6,fun F hF=>?_⟩
 have hFc:F[N.length]? = some (Ec,[],-1):=(hF _ (zzb _) oo).trans cN6
 have hFd:=(hF (N.length+1) oo oo).trans dN6
 have hF3:gJy F N3 N2.length:=fun p h1 h2=>(hF p oo oo).trans (oN6 p oo h2)
 obtain⟨M,V⟩:=m2 F hF3
 obtain⟨s1,f1,v1⟩:=M.at h2 hFc
 have vd:gEr F b->gEr F (N.length+1):=by
  rintro⟨k', w,hr⟩;exact⟨k' + 1,w,hr.by_free hFd (by split<;>simp)⟩
 have core_s:∀k' w,jA F k' N.length w->∃u v k2,k2<=k' /\ w=u++v/\(if k=6 then g x u else Pls (g x) u)/\jA F k2 b v:=by
  intro k' w hr
  by_cases h6:k=6
  ·rw[if_pos h6] at hFd
   obtain⟨u,v,k1,hk1,e,hu,hv⟩:=s1 k' w hr;obtain⟨q,hq,k2,hk2,hr2⟩:=hv.at_free oo hFd rfl;simp at hq;subst hq;exact⟨u,v,k2,oo,e,by rw[if_pos h6];exact hu,hr2⟩
  ·rw[if_neg h6] at hFd
   obtain⟨u,v,k2,hk2,e,hu,hv⟩:=gOs M h2 oo hFc hFd k' k' w (zzb _) hr;exact⟨u,v,k2,hk2,e,by rw[if_neg h6];exact hu,hv⟩
 have core_f:∀u v k', (if k=6 then g x u else Pls (g x) u)->jA F k' b v->∃k2,jA F k2 N.length (u++v):=by
  intro u v k' hu hv
  by_cases h6:k=6
  ·rw[if_pos h6] at hFd hu
   exact f1 u v (k' + 1) hu (hv.by_free hFd (by simp))
  ·rw[if_neg h6] at hFd hu
   obtain⟨m,hm⟩:=hu;exact gSr M h2 hFc hFd m u v k' hm hv
 have hcE:N.length∈E:=by rw[hE];split<;>simp
 refine⟨⟨fun e=>(by rw[e] at hcE;cases hcE),fun q hq k' w hr=>?_,fun u v k' hu hv=>?_,fun hb q hq=>?_⟩,fun hb p h1 h2=>?_⟩
 ·have hq' : q=N.length\/(k≠5/\q=b):=by
   rw[hE] at hq
   split at hq
   ·simp at hq;exact .inl hq
   ·rename_i h5
    simp at hq;exact hq.imp_right fun e=>⟨h5,e⟩
  rcases hq' with rfl | ⟨h5,rfl⟩
  ·obtain⟨u,v,k2,hk2,e,hu,hv⟩:=core_s k' w hr
   exact⟨u,v,k2,hk2,e,(hL u).2 (.inr hu),hv⟩
  ·exact⟨[],w,k', zzb _,rfl,(hL []).2 (.inl ⟨h5,rfl⟩),hr⟩
 ·rcases (hL u).1 hu with ⟨h5,rfl⟩ | hu
  ·exact⟨b,by rw[hE,if_neg h5];simp,k', hv⟩
  ·obtain⟨k2,hr⟩:=core_f u v k' hu hv
   exact⟨N.length,hcE,k2,hr⟩
 ·rw[hE] at hq
  have:q=N.length\/q=b:=by
   split at hq
   ·simp at hq;exact .inl hq
   ·simp at hq;exact hq
  rcases this with rfl | rfl
  ·exact v1 (vd hb)
  ·exact hb
 ·rcases Nat.lt_or_ge p (N.length+2) with h3 | h3
  ·have:p=N.length\/p=N.length+1:=by omega
   rcases this with rfl | rfl
   ·exact v1 (vd hb)
   ·exact vd hb
  ·exact V (vd hb) p oo oo
variable (K:T->Int) (M:T->Nat) (Ty:T->List Int) (U:T->List T)
def gCy:Nat->T->Prop
 | 0,_=>True
 | n+1,t=>(K t=0\/K t=1\/K t=2\/K t=3\/K t=4\/K t=5\/K t=6)/\∀x∈U t,gCy n x
theorem hEr (hTy:∀t a,mW (M t) a=true↔a∈Ty t):∀(n:Nat) (t:T),gCx K M U n t->gCy K U n t->(∀s,M s≠0->Ty s≠[])->gIe (fun a b N=>sA K Ty U n t a b N) (qE K M U n t):=by
 intro n
 induction n with
 | zero=>intro t h;exact h.elim
 | succ n ih=>
  rintro t ⟨s1,s3,s4,sk⟩ ⟨kk,kx⟩ hne;(have hk:∀x∈U t,gIe (fun a b N=>sA K Ty U n x a b N) (qE K M U n x):=fun x hx=>ih x (sk x hx) (kx x hx) hne);intro a b N h2 ha hb;dsimp only[sA]
  by_cases k0:K t=0
  ·rw[if_pos k0]
   obtain⟨E,l,m⟩:=gJb a b N h2 ha hb;refine⟨E,l,fun F hF=>⟨(m F hF).1.congr fun u=>?_,(m F hF).2⟩⟩;rw[qE,if_neg oo,if_neg oo,if_neg oo,if_neg oo,if_neg oo,if_neg oo]
  rw[if_neg k0]
  by_cases k1:K t=1
  ·rw[if_pos k1]
   obtain⟨E,l,m⟩:=gXm (Ty t) (hne t (s1 k1)) a b N h2 ha hb;refine⟨E,l,fun F hF=>⟨(m F hF).1.congr fun u=>?_,(m F hF).2⟩⟩;rw[qE,if_pos k1]
   constructor
   ·rintro⟨x,e,hx⟩;exact⟨x,e,(hTy t x).2 hx⟩
   ·rintro⟨x,e,hx⟩;exact⟨x,e,(hTy t x).1 hx⟩
  rw[if_neg k1]
  by_cases k2:K t=2
  ·rw[if_pos k2]
   obtain⟨E,l,m⟩:=hBp (U t) hk a b N h2 ha hb;refine⟨E,l,fun F hF=>⟨(m F hF).1.congr fun u=>?_,(m F hF).2⟩⟩;rw[qE,if_neg k1,if_pos k2]
  rw[if_neg k2]
  by_cases k3:K t=3
  ·rw[if_pos k3]
   obtain⟨E,l,m⟩:=hBz (U t) (s3 (.inr k3)) hk a b N h2 ha hb;refine⟨E,l,fun F hF=>⟨(m F hF).1.congr fun u=>?_,(m F hF).2⟩⟩;rw[qE,if_neg k1,if_neg k2,if_pos k3]
  rw[if_neg k3];obtain⟨x,hx⟩:=s4 oo;rw[hx]
  obtain⟨E,l,m⟩:=hBy (hk x (by rw[hx];exact List.mem_singleton.2 rfl)) (K t) (qE K M U (n+1) t) (fun w=>by
   have hex:(fun v=>∃y∈U t,qE K M U n y v)=qE K M U n x:=by
    funext v
    rw[hx]
    simp
   rw[qE,if_neg k1,if_neg k2,if_neg k3,hex];(have h456:K t=4\/K t=5\/K t=6:=by omega);rcases h456 with e | e | e
   ·rw[if_pos e,if_neg oo]
    constructor
    ·rintro⟨m,hm⟩
     cases m with
     | zero=>exact .inl ⟨oo,hm⟩
     | succ m=>exact .inr ⟨m,hm⟩
    ·rintro (⟨_,rfl⟩ | ⟨m,hm⟩)
     ·exact⟨0,rfl⟩
     ·exact⟨m+1,hm⟩
   ·rw[if_neg oo,if_pos e,if_neg oo]
    constructor
    ·intro h;exact .inr h
    ·rintro (⟨h,_⟩ | h)
     ·exact absurd e h
     ·exact h
   ·rw[if_neg oo,if_neg oo,if_pos e,if_pos e]
    constructor
    ·rintro (h | ⟨y,hy,h⟩)
     ·exact .inl ⟨oo,h⟩
     ·rw[hx,List.mem_singleton] at hy
      subst hy;exact .inr h
    ·rintro (⟨_,h⟩ | h)
     ·exact .inl h
     ·exact .inr ⟨x,by rw[hx];exact List.mem_singleton.2 rfl,h⟩) a b N h2 ha hb
  exact⟨E,l,m⟩
end
end Go.Proofs.YtjkebndkeamijaaGreatDoor
/- Net2: the net of a tree is not great, all its ways gCp to places of it; sets of its places, and what is reached behind a word. -/
namespace Go.Proofs.YtjkebndkeamijaaGreatDoor
def gHl (N:List gL):Prop:=∀(p:Nat) (x:gL),N[p]? = some x->(∀q∈x.1,q<N.length)/\(x.2.1=[]\/∃q:Nat,x.2.2=(q:Int)/\q<N.length)
def lW (m:Nat)(N:List gL):Prop:=∀(p:Nat) (x:gL),N[p]? = some x->x.1.length<=m
structure tQ (N N1:List gL) (cl cf:Nat):Prop where
 lo:N.length<=N1.length
 hi:N1.length<=N.length+cl
 fit:gHl N->gHl N1
 few:∀m,lW m N->lW (m+cf) N1
theorem tQ.trans {N N1 N2:List gL}{a b c d:Nat}(h1:tQ N N1 a b)(h2:tQ N1 N2 c d):tQ N N2 (a+c) (b+d):=by
 have:=h1.hi
 have:=h2.hi
 exact⟨Nat.le_trans h1.lo h2.lo,oo,fun h=>h2.fit (h1.fit h),fun m h=>by rw[<-Nat.add_assoc];exact h2.few _ (h1.few m h)⟩
theorem tQ.more {N N1:List gL}{a b c d:Nat}(h:tQ N N1 a b)(h1:a<=c)(h2:b<=d):tQ N N1 c d:=by
 have:=h.hi
 exact⟨h.lo,oo,h.fit,fun m hm p x hx=>by have:=h.few m hm p x hx;omega⟩
theorem gJt (N:List gL):tQ N N 0 0:=⟨zzb _,zzb _,fun h=>h,fun _ h=>h⟩
theorem sJ {N:List gL}{f:gL->gL}{a p:Nat}{x:gL}(h:(N.modify a f)[p]? = some x):∃y,N[p]? = some y/\x=if a=p then f y else y:=by
 rw[List.getElem?_modify] at h
 cases hy:N[p]? with
 | none=>rw[hy] at h;simp at h
 | some y=>
  rw[hy] at h;simp at h;exact⟨y,rfl,h.symm⟩
theorem wL {N:List gL}{p:Nat}{x:gL}(h:(gI N)[p]? = some x):N[p]? = some x\/x=oU:=by
 unfold gI at h
 rcases Nat.lt_or_ge p N.length with hlt | hge
 ·rw[List.getElem?_append_left hlt] at h
  exact .inl h
 ·right
  have hpl:p=N.length:=by
   have:=(zzc.1 h).1
   simp at this;omega
  subst hpl;simpa using h.symm
theorem kW (N:List gL):tQ N (gI N) 1 0:=by
 refine⟨by rw[gR];omega,by rw[gR];omega,fun h p x hx=>?_,fun m h p x hx=>?_⟩
 ·rw[gR]
  rcases wL hx with e | rfl
  ·have:=h p x e
   refine⟨fun q hq=>Nat.lt_succ_of_lt (this.1 q hq),?_⟩;rcases this.2 with e | ⟨q,e1,e2⟩
   ·exact .inl e
   ·exact .inr ⟨q,e1,oo⟩
  ·exact⟨fun q hq=>(by cases hq),.inl rfl⟩
 ·rcases wL hx with e | rfl
  ·exact h p x e
  ·exact zzn _
theorem kX (N:List gL)(a:Nat){b:Nat}(hb:b<N.length):tQ N (iT N a b) 0 1:=by
 refine⟨by rw[iH];omega,by rw[iH];omega,fun h p x hx=>?_,fun m h p x hx=>?_⟩
 ·rw[iH]
  obtain⟨y,hy,rfl⟩:=sJ hx;have hh:=h p y hy
  split
  ·refine⟨fun q hq=>?_,hh.2⟩
   rcases List.mem_append.1 hq with hq | hq
   ·exact hh.1 q hq
   ·simp at hq;omega
  ·exact hh
 ·obtain⟨y,hy,rfl⟩:=sJ hx
  have hh:=h p y hy
  split
  ·simp;omega
  ·omega
theorem gZd (N:List gL)(c:Nat)(ts:List Int){b:Nat}(hb:b<N.length):tQ N (pC N c ts b) 0 0:=by
 refine⟨by rw[rZ];omega,by rw[rZ];omega,fun h p x hx=>?_,fun m h p x hx=>?_⟩
 ·rw[rZ]
  obtain⟨y,hy,rfl⟩:=sJ hx;have hh:=h p y hy
  split
  ·exact⟨hh.1,.inr ⟨b,rfl,hb⟩⟩
  ·exact hh
 ·obtain⟨y,hy,rfl⟩:=sJ hx
  have hh:=h p y hy
  split
  ·exact hh
  ·exact hh
section
variable {T:Type}
theorem hDj {f:T->Nat->Nat->List gL->List gL}{s:T->Nat}:∀(l:List T),(∀x∈l,1<=s x/\∀a b N,a<N.length->b<N.length->tQ N (f x a b N) (4 * s x - 2) (4 * s x))->∀a b N,a<N.length->b<N.length->tQ N (yU f l a b N) (4 * (l.map s).sum) (4 * (l.map s).sum+1):=by
 intro l
 induction l with
 | nil=>intro _ a b N ha hb;exact(kX N a hb).more oo oo
 | cons x r ih=>
  intro h a b N ha hb;obtain⟨h1,h2⟩:=h x (zzg ..);have hp:=kW N;have hpl:=gR N;have hx:=h2 a N.length (gI N) oo oo;have hlo:=hx.lo;have hr:=ih (fun y hy=>h y (zzk _ hy)) N.length b (f x a N.length (gI N)) oo oo;rw[yU];refine((hp.trans hx).trans hr).more ?_ ?_
  ·simp only[List.map_cons,List.sum_cons];omega
  ·simp only[List.map_cons,List.sum_cons];omega
theorem hDl {f:T->Nat->Nat->List gL->List gL}{s:T->Nat}:∀(l:List T),(∀x∈l,1<=s x/\∀a b N,a<N.length->b<N.length->tQ N (f x a b N) (4 * s x - 2) (4 * s x))->∀a b N,a<N.length->b<N.length->tQ N (uE f l a b N) (4 * (l.map s).sum) (4 * (l.map s).sum):=by
 intro l
 induction l with
 | nil=>intro _ a b N ha hb;exact(gJt N).more oo oo
 | cons x r ih=>
  intro h a b N ha hb;obtain⟨h1,h2⟩:=h x (zzg ..);have hx:=h2 a b N ha hb;have hlo:=hx.lo;have hr:=ih (fun y hy=>h y (zzk _ hy)) a b (f x a b N) oo oo;rw[uE];refine(hx.trans hr).more ?_ ?_
  ·simp only[List.map_cons,List.sum_cons];omega
  ·simp only[List.map_cons,List.sum_cons];omega
variable (K:T->Int) (Ty:T->List Int) (U:T->List T)
theorem gNe (n:Nat)(t:T):1<=size U (n+1) t:=by rw[size];omega
theorem hDk:∀(n:Nat) (t:T) (a b:Nat) (N:List gL),(K t=4\/K t=5\/K t=6->True)->gCx K (fun _=>1) U n t->a<N.length->b<N.length->tQ N (sA K Ty U n t a b N) (4 * size U n t - 2) (4 * size U n t):=by
 intro n
 induction n with
 | zero=>intro t a b N _ h;exact h.elim
 | succ n ih=>
  rintro t a b N _ ⟨s1,s3,s4,sk⟩ ha hb
  have hpos:∀x∈U t,1<=size U n x:=fun x hx=>by
   cases n with
   | zero=>exact(sk x hx).elim
   | succ n=>exact gNe U n x
  have hk:∀x∈U t,1<=size U n x/\∀a b N,a<N.length->b<N.length->tQ N (sA K Ty U n x a b N) (4 * size U n x - 2) (4 * size U n x):=fun x hx=>⟨hpos x hx,fun a b N ha hb=>ih x a b N (fun _=>trivial) (sk x hx) ha hb⟩
  rw[size,sA]
  by_cases k0:K t=0
  ·rw[if_pos k0];exact(kX N a hb).more oo oo
  rw[if_neg k0]
  by_cases k1:K t=1
  ·rw[if_pos k1]
   have hpl:=gR N;have hfl:=iH (gI N) a N.length;exact(((kW N).trans (kX (gI N) a (b:=N.length) oo)).trans (gZd _ N.length (Ty t) (b:=b) oo)).more oo oo
  rw[if_neg k1]
  by_cases k2:K t=2
  ·rw[if_pos k2]
   exact(hDj (U t) hk a b N ha hb).more oo oo
  rw[if_neg k2]
  by_cases k3:K t=3
  ·rw[if_pos k3]
   exact(hDl (U t) hk a b N ha hb).more oo oo
  rw[if_neg k3];have hpl:=gR N;have hpl2:=gR (gI N);have h1:=((kW N).trans (kW _)).trans (kX (gI (gI N)) a (b:=N.length) oo);have hl1:=iH (gI (gI N)) a N.length;dsimp only[sU]
  have h2:tQ (iT (gI (gI N)) a N.length) (gGk (sA K Ty U n) (U t) N.length (N.length+1) (iT (gI (gI N)) a N.length)) (4 * ((U t).map (size U n)).sum) (4 * ((U t).map (size U n)).sum):=by
   cases hu:U t with
   | nil=>exact(gJt _).more oo oo
   | cons x r=>
    rw[gGk];refine((hk x (by rw[hu];exact zzg ..)).2 N.length (N.length+1) _ oo oo).more ?_ ?_
    ·simp only[List.map_cons,List.sum_cons];omega
    ·simp only[List.map_cons,List.sum_cons];omega
  have hlo2:=h2.lo;have h3:=(h1.trans h2).trans (kX _ (N.length+1) (b:=b) oo);have hl3:=iH (gGk (sA K Ty U n) (U t) N.length (N.length+1) (iT (gI (gI N)) a N.length)) (N.length+1) b
  have h4:tQ N (if K t=6 then iT (gGk (sA K Ty U n) (U t) N.length (N.length+1) (iT (gI (gI N)) a N.length)) (N.length+1) b else iT (iT (gGk (sA K Ty U n) (U t) N.length (N.length+1) (iT (gI (gI N)) a N.length)) (N.length+1) b) (N.length+1) N.length) (2+4 * ((U t).map (size U n)).sum) (3+4 * ((U t).map (size U n)).sum):=by
   split
   ·exact h3.more oo oo
   ·exact(h3.trans (kX _ (N.length+1) (b:=N.length) oo)).more oo oo
  have hlo4:=h4.lo
  split
  ·exact h4.more oo oo
  ·exact(h4.trans (kX _ a (b:=b) oo)).more oo oo
end
def uV (F:List gL):Nat->Nat->Nat->Prop
 | 0,p,q=>p=q
 | k+1,p,q=>p=q\/∃x,F[p]? = some x/\∃r∈x.1,uV F k r q
theorem uV.up {F:List gL}:∀{k p q:Nat},uV F k p q->uV F (k+1) p q:=by
 intro k
 induction k with
 | zero=>intro p q h;exact .inl h
 | succ k ih=>
  intro p q h;rcases h with h | ⟨x,hx,r,hr,h⟩
  ·exact .inl h
  ·exact .inr ⟨x,hx,r,hr,ih h⟩
theorem uV.upto {F:List gL}{k m p q:Nat}(h:k<=m)(hr:uV F k p q):uV F m p q:=by
 induction h with
 | refl=>exact hr
 | step _ ih=>exact uV.up ih
theorem uV.trans {F:List gL}:∀{k p q:Nat},uV F k p q->∀{m r:Nat},uV F m q r->uV F (k+m) p r:=by
 intro k
 induction k with
 | zero=>rintro p q rfl m r h;simpa using h
 | succ k ih=>
  intro p q h m r h';rw[show k+1+m=k+m+1 from by omega];rcases h with rfl | ⟨x,hx,s,hs,h⟩
  ·exact uV.upto oo h'
  ·exact .inr ⟨x,hx,s,hs,ih h h'⟩
theorem uV.one {F:List gL}{p q:Nat}{x:gL}(hx:F[p]? = some x)(hq:q∈x.1):uV F 1 p q:=.inr ⟨x,hx,q,hq,rfl⟩
def gHk (F:List gL)(S:Nat->Prop):Prop:=∀p x,S p->F[p]? = some x->∀q∈x.1,S q
theorem gHk.via {F:List gL}{S:Nat->Prop}(h:gHk F S):∀{k p q:Nat},S p->uV F k p q->S q:=by
 intro k
 induction k with
 | zero=>rintro p q hp rfl;exact hp
 | succ k ih=>
  intro p q hp hv;rcases hv with rfl | ⟨x,hx,r,hr,hv⟩
  ·exact hp
  ·exact ih (h p x hp hx r hr) hv
def qH (F:List gL)(S:Nat->Prop):Nat->Prop:=fun q=>∃p k,S p/\uV F k p q
theorem nM (F:List gL)(S:Nat->Prop):gHk F (qH F S):=fun _q _x ⟨p,_,hp,hk⟩ hx _ hr=>⟨p,_,hp,hk.trans (uV.one hx hr)⟩
def gPg (F:List gL)(S:Nat->Prop)(t:Int):Nat->Prop:=fun q=>∃a x,S a/\F[a]? = some x/\t∈x.2.1/\x.2.2=(q:Int)
def vT (F:List gL)(S:Nat->Prop)(t:Int):Nat->Prop:=qH F (gPg F S t)
def wX (F:List gL):Nat->Prop:=qH F (fun q=>q=0)
def qO (F:List gL)(w:List Int):Nat->Prop:=w.foldl (vT F) (wX F)
theorem yB (F:List gL)(w:List Int)(t:Int):qO F (w++[t])=vT F (qO F w) t:=by unfold qO;rw[List.foldl_append];rfl
theorem gQh (F:List gL):∀w,gHk F (qO F w):=by
 intro w
 rcases List.eq_nil_or_concat w with rfl | ⟨u,t,rfl⟩
 ·exact nM _ _
 ·rw[List.concat_eq_append,yB];exact nM _ _
theorem wU {F:List gL}:∀(w:List Int) (S:Nat->Prop),gHk F S->∀v,(∃a k,S a/\jA F k a (w++v))↔∃a k,(w.foldl (vT F) S) a/\jA F k a v:=by
 intro w
 induction w with
 | nil=>intro S _ v;exact Iff.rfl
 | cons t r ih=>
  intro S hS v;rw[List.foldl_cons,<-ih (vT F S t) (nM _ _) v]
  constructor
  ·rintro⟨a,k,ha,hr⟩
   induction k generalizing a with
   | zero=>obtain⟨_,e⟩:=hr;cases e
   | succ k ihk=>
    rcases hr with ⟨_,e⟩ | ⟨x,hx,⟨q,hq,hr⟩ | ⟨t', v', e,ht,q,hq,hr⟩⟩
    ·cases e
    ·exact ihk q (hS a x ha hx q hq) hr
    ·cases e
     exact⟨q,k,⟨q,0,⟨a,x,ha,hx,ht,hq⟩,rfl⟩,hr⟩
  ·rintro⟨b,k,⟨p,m,⟨a,x,ha,hx,ht,hq⟩,hv⟩,hR⟩
   have hlift:∀{m p:Nat},uV F m p b->jA F (m+k) p (r++v):=by
    intro m
    induction m with
    | zero=>rintro p rfl;simpa using hR
    | succ m ihm=>
     intro p hp;rw[show m+1+k=m+k+1 from by omega];rcases hp with rfl | ⟨y,hy,s,hs,hp⟩
     ·exact jA.upto oo hR
     ·exact .inr ⟨y,hy,.inl ⟨s,hs,ihm hp⟩⟩
   exact⟨a,m+k+1,ha,.inr ⟨x,hx,.inr ⟨t,r++v,rfl,ht,p,hq,hlift hv⟩⟩⟩
theorem gRu {F:List gL}{S:Nat->Prop}(hS:gHk F S):(∃a k,S a/\jA F k a [])↔S 1:=by
 constructor
 ·rintro⟨a,k,ha,hr⟩
  induction k generalizing a with
  | zero=>obtain⟨rfl,_⟩:=hr;exact ha
  | succ k ih=>
   rcases hr with ⟨rfl,_⟩ | ⟨x,hx,⟨q,hq,hr⟩ | ⟨t,v,e,_⟩⟩
   ·exact ha
   ·exact ih q (hS a x ha hx q hq) hr
   ·cases e
 ·intro h;exact⟨1,0,h,rfl,rfl⟩
structure gZe (F:List gL) (L:List Int->Prop):Prop where
 words:∀w,(∃k,jA F k 0 w)↔L w
 live:∀p,p<F.length->gEr F p
 fit:gHl F
 two:2<=F.length
theorem wW {F:List gL}(w:List Int):(∃a k,wX F a/\jA F k a w)↔∃k,jA F k 0 w:=by
 constructor
 ·rintro⟨a,k,⟨p,m,rfl,hv⟩,hr⟩
  induction m generalizing k with
  | zero=>cases hv;exact⟨k,hr⟩
  | succ m ih=>
   have:∀{m p:Nat},uV F m p a->jA F (m+k) p w:=by
    intro m
    induction m with
    | zero=>rintro p rfl;simpa using hr
    | succ m ihm=>
     intro p hp;rw[show m+1+k=m+k+1 from by omega];rcases hp with rfl | ⟨y,hy,s,hs,hp⟩
     ·exact jA.upto oo hr
     ·exact .inr ⟨y,hy,.inl ⟨s,hs,ihm hp⟩⟩
   exact⟨_,this hv⟩
 ·rintro⟨k,hr⟩
  exact⟨0,k,⟨0,0,rfl,rfl⟩,hr⟩
theorem gZe.ends {F:List gL}{L:List Int->Prop}(h:gZe F L)(w:List Int):qO F w 1↔L w:=by
 rw[<-h.words w,<-wW,<-gRu (gQh F w)]
 have:=wU w (wX F) (nM _ _) []
 rw[List.append_nil] at this
 exact this.symm
theorem gIl {F:List gL}(hF:gHl F){S:Nat->Prop}(hS:∀p,S p->p<F.length):∀q,qH F S q->q<F.length:=by
 rintro q ⟨p,k,hp,hv⟩
 have hpl:=hS p hp
 clear hp hS
 induction k generalizing p with
 | zero=>cases hv;exact hpl
 | succ k ih=>
  rcases hv with rfl | ⟨x,hx,r,hr,hv⟩
  ·exact hpl
  ·exact ih r hv ((hF p x hx).1 r hr)
theorem hGl {F:List gL}(hF:gHl F){S:Nat->Prop}{t:Int}:∀q,gPg F S t q->q<F.length:=by
 rintro q ⟨a,x,_,hx,ht,hq⟩
 rcases (hF a x hx).2 with e | ⟨r,e1,e2⟩
 ·rw[e] at ht;cases ht
 ·rw[hq] at e1;omega
theorem hDi {F:List gL}(hF:gHl F)(h2:2<=F.length):∀w q,qO F w q->q<F.length:=by
 intro w
 rcases List.eq_nil_or_concat w with rfl | ⟨u,t,rfl⟩
 ·exact gIl hF (by rintro p rfl;omega)
 ·rw[List.concat_eq_append,yB]
  exact gIl hF (hGl hF)
theorem gZe.begins {F:List gL}{L:List Int->Prop}(h:gZe F L)(w:List Int):(∃q,qO F w q)↔∃v,L (w++v):=by
 constructor
 ·rintro⟨q,hq⟩
  obtain⟨k,v,hr⟩:=h.live q (hDi h.fit h.two w q hq);refine⟨v,(h.words _).1 ((wW _).1 ((wU w (wX F) (nM _ _) v).2 ⟨q,k,hq,hr⟩))⟩
 ·rintro⟨v,hv⟩
  obtain⟨a,k,ha,_⟩:=(wU w (wX F) (nM _ _) v).1 ((wW _).2 ((h.words _).2 hv));exact⟨a,ha⟩
def tN:List gL:=gI (gI [])
section
variable {T:Type} (K:T->Int) (M:T->Nat) (Ty:T->List Int) (U:T->List T)
theorem hGk (hTy:∀t a,mW (M t) a=true↔a∈Ty t)(hne:∀s,M s≠0->Ty s≠[])(n:Nat)(t:T)(hS:gCx K M U n t)(hK:gCy K U n t)(hA:tQ tN (sA K Ty U n t 0 1 tN) (4 * size U n t - 2) (4 * size U n t)):gZe (sA K Ty U n t 0 1 tN) (qE K M U n t):=by
 have ht:tN=[oU,oU]:=rfl
 have hl:tN.length=2:=rfl
 obtain⟨E,l,m⟩:=hEr K M Ty U hTy n t hS hK hne 0 1 tN oo oo oo
 have h0:(sA K Ty U n t 0 1 tN)[0]? = some (E,[],-1):=l.ent oU rfl
 have h1:(sA K Ty U n t 0 1 tN)[1]? = some ([],[],-1):=(l.old 1 oo oo).trans rfl
 obtain⟨M1,V1⟩:=m _ (fun p _ _=>rfl)
 have hfit:gHl tN:=fun p x hx=>by
  rw[ht] at hx
  have:x=oU:=by
   match p,hx with
   | 0,hx=>simpa using hx.symm
   | 1,hx=>simpa using hx.symm
  subst this;exact⟨fun q hq=>(by cases hq),.inl rfl⟩
 have live1:gEr (sA K Ty U n t 0 1 tN) 1:=⟨0,[],rfl,rfl⟩
 have end1:∀k v,jA (sA K Ty U n t 0 1 tN) k 1 v->v=[]:=by
  intro k v hr;cases k with
  | zero=>exact hr.2
  | succ k=>
   rcases hr with ⟨_,e⟩ | ⟨x,hx,h⟩
   ·exact e
   ·rw[h1] at hx
    cases hx;rcases h with ⟨q,hq,_⟩ | ⟨a,v,_,ha,_⟩
    ·cases hq
    ·cases ha
 refine⟨fun w=>?_,fun p hp=>?_,hA.fit hfit,by have:=hA.lo;omega⟩
 ·constructor
  ·rintro⟨k,hr⟩
   cases k with
   | zero=>obtain⟨e,_⟩:=hr;cases e
   | succ k=>
    rcases hr with ⟨e,_⟩ | ⟨x,hx,h⟩
    ·cases e
    ·rw[h0] at hx
     cases hx;rcases h with ⟨q,hq,hr⟩ | ⟨a,v,_,ha,_⟩
     ·obtain⟨u,v,k', _,rfl,hu,hv⟩:=M1.sound q hq k w hr
      rw[end1 k' v hv,List.append_nil];exact hu
     ·cases ha
  ·intro hw
   obtain⟨q,hq,k,hr⟩:=M1.full w [] 0 hw ⟨rfl,rfl⟩;rw[List.append_nil] at hr;exact⟨k+1,hr.by_free h0 hq⟩
 ·rcases Nat.lt_or_ge p 2 with h | h
  ·have:p=0\/p=1:=by omega
   rcases this with rfl | rfl
   ·obtain⟨q,hq⟩:=List.exists_mem_of_ne_nil _ M1.ne
    obtain⟨k,w,hr⟩:=M1.live live1 q hq;exact⟨k+1,w,hr.by_free h0 hq⟩
   ·exact live1
  ·exact V1 live1 p oo hp
end
end Go.Proofs.YtjkebndkeamijaaGreatDoor
