/-
  PROVED HERE: the words that lead from where a tree is laid to the end are its own words, one behind the other with those from what comes behind.
-/
import Derived.Test.YtjkebndkeamijaaGreatDoorCF10
namespace Go.Proofs.YtjkebndkeamijaaGreatDoor
section
variable {T:Type} (K:T->Int) (M:T->Nat) (U:T->List T)
def LSeq (f:T->List Int->Prop):List T->List Int->Prop
 | [],w=>w=[]
 | x::r,w=>∃u v,w=u++v/\f x u/\LSeq f r v
def LPow (f:List Int->Prop):Nat->List Int->Prop
 | 0,w=>w=[]
 | m+1,w=>∃u v,w=u++v/\f u/\LPow f m v
def Lang:Nat->T->List Int->Prop
 | 0,_,_=>False
 | n+1,t,w=>
  if K t=1 then ∃a,w=[a]/\takes (M t) a=true
  else if K t=2 then LSeq (Lang n) (U t) w
  else if K t=3 then ∃x∈U t,Lang n x w
  else if K t=4 then ∃m,LPow (fun v=>∃x∈U t,Lang n x v) m w
  else if K t=5 then ∃m,LPow (fun v=>∃x∈U t,Lang n x v) (m+1) w
  else if K t=6 then w=[]\/∃x∈U t,Lang n x w
  else w=[]
def Like (F L:List Place)(a b:Nat):Prop:=∀p,a<=p->p<b->F[p]? = L[p]?
def Sound (f:T->Nat->List Place->List Place×Nat)(g:T->List Int->Prop)(F:List Place)(x:T):Prop :=
 ∀next L,wf L->next<L.length->Like F (f x next L).1 L.length (f x next L).1.length->∀k w,Reads F k (f x next L).2 w->∃u v k', k' <= k/\w=u++v/\g x u/\Reads F k' next v
def Full (f:T->Nat->List Place->List Place×Nat)(g:T->List Int->Prop)(F:List Place)(x:T):Prop :=
 ∀next L,wf L->next<L.length->Like F (f x next L).1 L.length (f x next L).1.length->∀u v k,g x u->Reads F k next v->∃k', Reads F k' (f x next L).2 (u++v)
theorem LSeq_snoc (f:T->List Int->Prop):∀(l:List T) (x:T) (w:List Int),LSeq f (l++[x]) w↔∃u v,w=u++v/\LSeq f l u/\f x v:=by
 intro l
 induction l with
 | nil=>
  intro x w
  constructor
  ·rintro⟨u,v,rfl,h1,h2⟩
   rw[LSeq] at h2;subst h2;exact⟨[],u,by simp,rfl,h1⟩
  ·rintro⟨u,v,rfl,h1,h2⟩
   rw[LSeq] at h1;subst h1;exact⟨v,[],by simp,h2,rfl⟩
 | cons y r ih=>
  intro x w
  constructor
  ·rintro⟨u,v,rfl,h1,h2⟩
   obtain⟨a,b,rfl,h3,h4⟩:=(ih x v).1 h2;exact⟨u++a,b,by simp,⟨u,a,rfl,h1,h3⟩,h4⟩
  ·rintro⟨u,v,rfl,⟨a,b,rfl,h1,h2⟩,h3⟩
   exact⟨a,b++v,by simp,h1,(ih x (b++v)).2 ⟨b,v,rfl,h2,h3⟩⟩
variable {f:T->Nat->List Place->List Place×Nat} {g:T->List Int->Prop} {sz:T->Nat} {F:List Place}
theorem Reads.at_fork {k p:Nat}{w:List Int}{x:Place}(hp:0<p)(hx:F[p]? = some x)(h0:x.1=0)(h:Reads F k p w):∃q∈x.2.1,∃k', k' < k/\Reads F k' q w:=by
 cases k with
 | zero=>obtain⟨rfl,_⟩:=h;omega
 | succ k=>
  rcases h with ⟨rfl,_⟩ | ⟨y,hy,h⟩
  ·omega
  ·rw[hx] at hy
   cases hy;rcases h with ⟨_,q,hq,hr⟩ | ⟨h1,_⟩
   ·exact⟨q,hq,k,Nat.lt_succ_self _,hr⟩
   ·exact absurd h0 h1
theorem Reads.by_fork {k p q:Nat}{w:List Int}{x:Place}(hx:F[p]? = some x)(h0:x.1=0)(hq:q∈x.2.1)(h:Reads F k q w):Reads F (k+1) p w :=
 .inr ⟨x,hx,.inl ⟨h0,q,hq,h⟩⟩
theorem laySeq_sound:∀(l:List T),(∀x∈l,Good f sz x)->(∀x∈l,Sound f g F x)->∀next L,wf L->next<L.length->Like F (laySeq f l next L).1 L.length (laySeq f l next L).1.length →
  ∀k w,Reads F k (laySeq f l next L).2 w->∃u v k', k' <= k/\w=u++v/\LSeq g l.reverse u/\Reads F k' next v:=by
 intro l
 induction l with
 | nil=>intro _ _ next L _ _ _ k w h;exact⟨[],w,k,zzb _,rfl,rfl,h⟩
 | cons x r ih=>
  intro hg hs next L hL hn hF k w h;obtain⟨a1,a2,a3,a4,a5,a6⟩:=hg x (zzg ..) next L hL hn;obtain⟨b1,b2,b3,b4,b5,b6⟩:=laySeq_good r (fun y hy=>hg y (zzk _ hy)) (f x next L).2 (f x next L).1 a1 a2;rw[laySeq] at hF h;obtain⟨u,v,k', hk,rfl,hu,hv⟩:=ih (fun y hy=>hg y (zzk _ hy)) (fun y hy=>hs y (zzk _ hy)) _ _ a1 a2 (fun p h1 h2=>hF p oo h2) k w h;obtain⟨u', v', k'', hk', rfl,hu', hv'⟩:=hs x (zzg ..) next L hL hn (fun p h1 h2=>(hF p h1 oo).trans (b4 p h2)) k' v hv;rw[List.reverse_cons];exact⟨u++u', v', k'', by omega,by simp,(LSeq_snoc g _ _ _).2 ⟨u,u', rfl,hu,hu'⟩,hv'⟩
theorem laySeq_full:∀(l:List T),(∀x∈l,Good f sz x)->(∀x∈l,Full f g F x)->∀next L,wf L->next<L.length->Like F (laySeq f l next L).1 L.length (laySeq f l next L).1.length →
  ∀u v k,LSeq g l.reverse u->Reads F k next v->∃k', Reads F k' (laySeq f l next L).2 (u++v):=by
 intro l
 induction l with
 | nil=>intro _ _ next L _ _ _ u v k hu hv;rw[List.reverse_nil,LSeq] at hu;subst hu;exact⟨k,hv⟩
 | cons x r ih=>
  intro hg hs next L hL hn hF u v k hu hv;obtain⟨a1,a2,a3,a4,a5,a6⟩:=hg x (zzg ..) next L hL hn;obtain⟨b1,b2,b3,b4,b5,b6⟩:=laySeq_good r (fun y hy=>hg y (zzk _ hy)) (f x next L).2 (f x next L).1 a1 a2;rw[laySeq] at hF ⊢;rw[List.reverse_cons] at hu;obtain⟨u1,u2,rfl,h1,h2⟩:=(LSeq_snoc g _ _ _).1 hu;obtain⟨k1,hk1⟩:=hs x (zzg ..) next L hL hn (fun p h1 h2=>(hF p h1 oo).trans (b4 p h2)) u2 v k h2 hv;obtain⟨k2,hk2⟩:=ih (fun y hy=>hg y (zzk _ hy)) (fun y hy=>hs y (zzk _ hy)) _ _ a1 a2 (fun p h1 h2=>hF p oo h2) u1 (u2++v) k1 h1 hk1;exact⟨k2,by rw[List.append_assoc];exact hk2⟩
theorem layAlt_mem (next:Nat):∀(l:List T),(∀x∈l,Good f sz x)->∀(L:List Place) (ways:List Nat),wf L->next<L.length->Like F (layAlt f next l L ways).1 L.length (layAlt f next l L ways).1.length →
  (∀q∈(layAlt f next l L ways).2,q∈ways\/∃x∈l,∃L', wf L' /\ next<L'.length/\Like F (f x next L').1 L'.length (f x next L').1.length/\q=(f x next L').2) ∧
  (∀q∈ways,q∈(layAlt f next l L ways).2)/\(∀x∈l,∃L', wf L' /\ next<L'.length/\Like F (f x next L').1 L'.length (f x next L').1.length/\(f x next L').2∈(layAlt f next l L ways).2):=by
 intro l
 induction l with
 | nil=>intro _ L ways _ _ _;exact⟨fun q hq=>.inl hq,fun q hq=>hq,fun x hx=>by cases hx⟩
 | cons x r ih=>
  intro hg L ways hL hn hF;obtain⟨a1,a2,a3,a4,a5,a6⟩:=hg x (zzg ..) next L hL hn;rw[layAlt] at hF ⊢
  have hlen:(f x next L).1.length<=(layAlt f next r (f x next L).1 (ways++[(f x next L).2])).1.length/\∀p,p<(f x next L).1.length->(layAlt f next r (f x next L).1 (ways++[(f x next L).2])).1[p]? = (f x next L).1[p]?:=by
   have:∀(l:List T),(∀y∈l,Good f sz y)->∀(L:List Place) (ws:List Nat),wf L->next<L.length->L.length<=(layAlt f next l L ws).1.length/\∀p,p<L.length->(layAlt f next l L ws).1[p]? = L[p]?:=by
    intro l
    induction l with
    | nil=>intro _ L ws _ _;exact⟨zzb _,fun _ _=>rfl⟩
    | cons y r ih2=>
     intro hg L ws hL hn;obtain⟨a1,a2,a3,a4,a5,a6⟩:=hg y (zzg ..) next L hL hn;rw[layAlt];obtain⟨c1,c2⟩:=ih2 (fun z hz=>hg z (zzk _ hz)) (f y next L).1 (ws++[(f y next L).2]) a1 oo;exact⟨oo,fun p hp=>(c2 p oo).trans (a4 p hp)⟩
   exact this r (fun y hy=>hg y (zzk _ hy)) _ _ a1 oo
  obtain⟨l1,l2⟩:=hlen;(have hFx:Like F (f x next L).1 L.length (f x next L).1.length:=fun p h1 h2=>(hF p h1 oo).trans (l2 p h2));obtain⟨b1,b2,b3⟩:=ih (fun y hy=>hg y (zzk _ hy)) (f x next L).1 (ways++[(f x next L).2]) a1 oo (fun p h1 h2=>hF p oo h2);refine⟨fun q hq=>?_,fun q hq=>b2 q (List.mem_append_left _ hq),fun y hy=>?_⟩
  ·rcases b1 q hq with h | ⟨y,hy,h⟩
   ·rcases List.mem_append.1 h with h | h
    ·exact .inl h
    ·simp at h
     exact .inr ⟨x,zzg ..,L,hL,hn,hFx,h⟩
   ·exact .inr ⟨y,zzk _ hy,h⟩
  ·rcases List.mem_cons.1 hy with rfl | hy
   ·exact⟨L,hL,hn,hFx,b2 _ (by simp)⟩
   ·exact b3 y hy
theorem loop_like {x:T}(hg:Good f sz x){next:Nat}{L:List Place}(hL:wf L)(hn:next<L.length)(hF:Like F (layLoop f [x] next L).1 L.length (layLoop f [x] next L).1.length) :
  wf (forkL L [next]).1/\L.length<(forkL L [next]).1.length/\Like F (f x L.length (forkL L [next]).1).1 (forkL L [next]).1.length (f x L.length (forkL L [next]).1).1.length/\F[L.length]? = some (0,[next,(f x L.length (forkL L [next]).1).2],forkLeast L [next]):=by
 obtain⟨c1,c2,c3,c4,c5⟩:=forkL_ok hL (ways:=[next]) (by simp) (by simpa using hn) (m:=leastAt L next) (by simp)
 obtain⟨a1,a2,a3,a4,a5,a6⟩:=hg L.length (forkL L [next]).1 c1 oo
 rw[layLoop] at hF
 refine⟨c1,oo,fun p h1 h2=>?_,?_⟩
 ·rw[hF p oo (by rw[addNext_length];exact h2)]
  exact addNext_ne oo
 ·rw[hF L.length (zzb _) (by rw[addNext_length];omega)]
  exact addNext_eq ((a4 _ oo).trans get_snoc_eq)
theorem loop_sound {x:T}(hg:Good f sz x)(hs:Sound f g F x){next:Nat}{L:List Place}(hL:wf L)(hn:next<L.length)(hF:Like F (layLoop f [x] next L).1 L.length (layLoop f [x] next L).1.length) :
  ∀k w,Reads F k L.length w->∃m u v k', k' <= k/\w=u++v/\LPow (g x) m u/\Reads F k' next v:=by
 obtain⟨c1,c2,c3,c4⟩:=loop_like hg hL hn hF
 have hpos:=hL.pos
 intro k
 induction k using Nat.strongRecOn with
 | _ k ih=>
  intro w h;obtain⟨q,hq,k1,hk1,hr⟩:=h.at_fork hpos c4 rfl;simp at hq;rcases hq with rfl | rfl
  ·exact⟨0,[],w,k1,oo,rfl,rfl,hr⟩
  ·obtain⟨u,v,k2,hk2,rfl,hu,hv⟩:=hs L.length _ c1 c2 c3 k1 w hr
   obtain⟨m,u', v', k3,hk3,rfl,hu', hv'⟩:=ih k2 oo v hv;exact⟨m+1,u++u', v', k3,oo,by simp,⟨u,u', rfl,hu,hu'⟩,hv'⟩
theorem loop_full {x:T}(hg:Good f sz x)(hs:Full f g F x){next:Nat}{L:List Place}(hL:wf L)(hn:next<L.length)(hF:Like F (layLoop f [x] next L).1 L.length (layLoop f [x] next L).1.length) :
  ∀m u v k,LPow (g x) m u->Reads F k next v->∃k', Reads F k' L.length (u++v):=by
 obtain⟨c1,c2,c3,c4⟩:=loop_like hg hL hn hF
 intro m
 induction m with
 | zero=>
  intro u v k hu hv;rw[LPow] at hu;subst hu;exact⟨k+1,Reads.by_fork (q:=next) c4 rfl (by simp) hv⟩
 | succ m ih=>
  rintro u v k ⟨u1,u2,rfl,h1,h2⟩ hv;obtain⟨k1,hk1⟩:=ih u2 v k h2 hv;obtain⟨k2,hk2⟩:=hs L.length _ c1 c2 c3 u1 (u2++v) k1 h1 hk1;exact⟨k2+1,Reads.by_fork (q:=(f x L.length (forkL L [next]).1).2) c4 rfl (by simp) (by rw[List.append_assoc];exact hk2)⟩
theorem one_ex {x:T}{p:T->Prop}:(∃y∈[x],p y)↔p x:=by simp
theorem lay_sound:∀(n:Nat) (t:T),Sane K M U n t->Sound (lay K M U n) (Lang K M U n) F t:=by
 intro n
 induction n with
 | zero=>intro t h;exact h.elim
 | succ n ih=>
  intro t hS next L hL hn hF k w hr;have hG:=lay_good K M U (n+1) t hS next L hL hn;obtain⟨s1,s3,s4,sk⟩:=hS;(have hk:∀x∈U t,Good (lay K M U n) (size U n) x:=fun x hx=>lay_good K M U n x (sk x hx));(have hs:∀x∈U t,Sound (lay K M U n) (Lang K M U n) F x:=fun x hx=>ih x (sk x hx));have hpos:=hL.pos;rw[lay] at hF hr hG;simp only[Lang]
  by_cases k1:K t=1
  ·rw[if_pos k1] at hF hr hG
   simp only[if_pos k1];have hx:F[L.length]? = some (M t,[next],leastAt L next+1):=(hF L.length (zzb _) (by simp)).trans get_snoc_eq;cases k with
   | zero=>obtain⟨e,_⟩:=hr;simp at e;simp[e] at hpos
   | succ k=>
    rcases hr with ⟨e,_⟩ | ⟨y,hy,h⟩
    ·simp at e;simp[e] at hpos
    ·have hy' : F[L.length]? = some y:=hy
     rw[hx] at hy';cases hy';rcases h with ⟨h0,_⟩ | ⟨_,a,v,q,rfl,ha,hq,hv⟩
     ·exact absurd h0 (s1 k1)
     ·simp at hq
      subst hq;exact⟨[a],v,k,Nat.le_succ _,rfl,⟨a,rfl,ha⟩,hv⟩
  rw[if_neg k1] at hF hr hG;simp only[if_neg k1]
  by_cases k2:K t=2
  ·rw[if_pos k2] at hF hr hG
   simp only[if_pos k2];obtain⟨u,v,k', h1,h2,h3,h4⟩:=laySeq_sound (U t).reverse (fun x hx=>hk x (List.mem_reverse.1 hx)) (fun x hx=>hs x (List.mem_reverse.1 hx)) next L hL hn hF k w hr;rw[List.reverse_reverse] at h3;exact⟨u,v,k', h1,h2,h3,h4⟩
  rw[if_neg k2] at hF hr hG;simp only[if_neg k2]
  by_cases k3:K t=3
  ·rw[if_pos k3] at hF hr hG
   simp only[if_pos k3];obtain⟨b1,b2,b3,b4,b5,b6⟩:=layAlt_good next (U t) hk L [] hL hn (fun q hq=>by cases hq);(have hlen:(forkL (layAlt (lay K M U n) next (U t) L []).1 (layAlt (lay K M U n) next (U t) L []).2).1.length=(layAlt (lay K M U n) next (U t) L []).1.length+1:=by simp[forkL]);have hx:F[(layAlt (lay K M U n) next (U t) L []).1.length]? = some (0,(layAlt (lay K M U n) next (U t) L []).2,forkLeast (layAlt (lay K M U n) next (U t) L []).1 (layAlt (lay K M U n) next (U t) L []).2):=(hF _ oo oo).trans get_snoc_eq;obtain⟨q,hq,k1', hk1,hr'⟩:=Reads.at_fork (p:=(layAlt (lay K M U n) next (U t) L []).1.length) oo hx rfl hr;(have hF' : Like F (layAlt (lay K M U n) next (U t) L []).1 L.length (layAlt (lay K M U n) next (U t) L []).1.length:=fun p h1 h2=>(hF p h1 oo).trans (get_snoc_lt h2));rcases (layAlt_mem next (U t) hk L [] hL hn hF').1 q hq with h | ⟨x,hx,L', d1,d2,d3,rfl⟩
   ·cases h
   ·obtain⟨u,v,k', h1,h2,h3,h4⟩:=hs x hx next L' d1 d2 d3 k1' w hr'
    exact⟨u,v,k', by omega,h2,⟨x,hx,h3⟩,h4⟩
  rw[if_neg k3] at hF hr hG;simp only[if_neg k3]
  by_cases k4:K t=4
  ·rw[if_pos k4] at hF hr hG
   simp only[if_pos k4];obtain⟨x,hx⟩:=s4 (.inl k4);rw[hx] at hF hr hG hk hs ⊢;simp only[one_ex];obtain⟨m,u,v,k', h1,h2,h3,h4⟩:=loop_sound (hk x (List.mem_singleton.2 rfl)) (hs x (List.mem_singleton.2 rfl)) hL hn hF k w hr;exact⟨u,v,k', h1,h2,⟨m,h3⟩,h4⟩
  rw[if_neg k4] at hF hr hG;simp only[if_neg k4]
  by_cases k5:K t=5
  ·rw[if_pos k5] at hF hr hG
   simp only[if_pos k5];obtain⟨x,hx⟩:=s4 (.inr (.inl k5));rw[hx] at hF hr hG hk hs ⊢;simp only[one_ex];obtain⟨c1,c2,c3,c4⟩:=loop_like (hk x (List.mem_singleton.2 rfl)) hL hn hF;obtain⟨u,v,k1', hk1,rfl,hu,hv⟩:=hs x (List.mem_singleton.2 rfl) L.length _ c1 c2 c3 k w hr;obtain⟨m,u', v', k', h1,rfl,h3,h4⟩:=loop_sound (hk x (List.mem_singleton.2 rfl)) (hs x (List.mem_singleton.2 rfl)) hL hn hF k1' v hv;exact⟨u++u', v', k', by omega,by simp,⟨m,u,u', rfl,hu,h3⟩,h4⟩
  rw[if_neg k5] at hF hr hG;simp only[if_neg k5]
  by_cases k6:K t=6
  ·rw[if_pos k6] at hF hr hG
   simp only[if_pos k6];obtain⟨x,hx⟩:=s4 (.inr (.inr k6));rw[hx] at hF hr hG hk hs ⊢;simp only[one_ex];rw[layOpt] at hF hr;obtain⟨a1,a2,a3,a4,a5,a6⟩:=hk x (List.mem_singleton.2 rfl) next L hL hn;(have hlen:(forkL (lay K M U n x next L).1 [next,(lay K M U n x next L).2]).1.length=(lay K M U n x next L).1.length+1:=by simp[forkL]);have hat:F[(lay K M U n x next L).1.length]? = some (0,[next,(lay K M U n x next L).2],forkLeast (lay K M U n x next L).1 [next,(lay K M U n x next L).2]):=(hF _ oo oo).trans get_snoc_eq;obtain⟨q,hq,k1', hk1,hr'⟩:=Reads.at_fork (p:=(lay K M U n x next L).1.length) oo hat rfl hr;simp at hq;rcases hq with rfl | rfl
   ·exact⟨[],w,k1', by omega,rfl,.inl rfl,hr'⟩
   ·obtain⟨u,v,k', h1,h2,h3,h4⟩:=hs x (List.mem_singleton.2 rfl) next L hL hn (fun p h1 h2=>(hF p h1 oo).trans (get_snoc_lt h2)) k1' w hr'
    exact⟨u,v,k', by omega,h2,.inr h3,h4⟩
  rw[if_neg k6] at hF hr hG;simp only[if_neg k6];exact⟨[],w,k,zzb _,rfl,rfl,hr⟩
theorem lay_full:∀(n:Nat) (t:T),Sane K M U n t->Full (lay K M U n) (Lang K M U n) F t:=by
 intro n
 induction n with
 | zero=>intro t h;exact h.elim
 | succ n ih=>
  intro t hS next L hL hn hF u v k hu hv;have hG:=lay_good K M U (n+1) t hS next L hL hn;obtain⟨s1,s3,s4,sk⟩:=hS;(have hk:∀x∈U t,Good (lay K M U n) (size U n) x:=fun x hx=>lay_good K M U n x (sk x hx));(have hs:∀x∈U t,Full (lay K M U n) (Lang K M U n) F x:=fun x hx=>ih x (sk x hx));have hpos:=hL.pos;rw[lay] at hF hG ⊢;rw[Lang] at hu
  by_cases k1:K t=1
  ·rw[if_pos k1] at hF hG hu ⊢
   obtain⟨a,rfl,ha⟩:=hu;exact⟨k+1,.inr ⟨_,(hF L.length (zzb _) (by simp)).trans get_snoc_eq,.inr ⟨s1 k1,a,v,next,rfl,ha,rfl,hv⟩⟩⟩
  rw[if_neg k1] at hF hG hu ⊢
  by_cases k2:K t=2
  ·rw[if_pos k2] at hF hG hu ⊢
   exact laySeq_full (U t).reverse (fun x hx=>hk x (List.mem_reverse.1 hx)) (fun x hx=>hs x (List.mem_reverse.1 hx)) next L hL hn hF u v k (by rw[List.reverse_reverse];exact hu) hv
  rw[if_neg k2] at hF hG hu ⊢
  by_cases k3:K t=3
  ·rw[if_pos k3] at hF hG hu ⊢
   obtain⟨b1,b2,b3,b4,b5,b6⟩:=layAlt_good next (U t) hk L [] hL hn (fun q hq=>by cases hq);(have hlen:(forkL (layAlt (lay K M U n) next (U t) L []).1 (layAlt (lay K M U n) next (U t) L []).2).1.length=(layAlt (lay K M U n) next (U t) L []).1.length+1:=by simp[forkL]);have hx:F[(layAlt (lay K M U n) next (U t) L []).1.length]? = some (0,(layAlt (lay K M U n) next (U t) L []).2,forkLeast (layAlt (lay K M U n) next (U t) L []).1 (layAlt (lay K M U n) next (U t) L []).2):=(hF _ oo oo).trans get_snoc_eq;(have hF' : Like F (layAlt (lay K M U n) next (U t) L []).1 L.length (layAlt (lay K M U n) next (U t) L []).1.length:=fun p h1 h2=>(hF p h1 oo).trans (get_snoc_lt h2));obtain⟨x,hxm,hxu⟩:=hu;obtain⟨L', d1,d2,d3,d4⟩:=(layAlt_mem next (U t) hk L [] hL hn hF').2.2 x hxm;obtain⟨k1', hk1⟩:=hs x hxm next L' d1 d2 d3 u v k hxu hv;exact⟨k1' + 1,Reads.by_fork hx rfl d4 hk1⟩
  rw[if_neg k3] at hF hG hu ⊢
  by_cases k4:K t=4
  ·rw[if_pos k4] at hF hG hu ⊢
   obtain⟨x,hx⟩:=s4 (.inl k4);rw[hx] at hF hG hk hs hu ⊢;simp only[one_ex] at hu;obtain⟨m,hm⟩:=hu;exact loop_full (hk x (List.mem_singleton.2 rfl)) (hs x (List.mem_singleton.2 rfl)) hL hn hF m u v k hm hv
  rw[if_neg k4] at hF hG hu ⊢
  by_cases k5:K t=5
  ·rw[if_pos k5] at hF hG hu ⊢
   obtain⟨x,hx⟩:=s4 (.inr (.inl k5));rw[hx] at hF hG hk hs hu ⊢;simp only[one_ex] at hu;obtain⟨m,u1,u2,rfl,h1,h2⟩:=hu;obtain⟨c1,c2,c3,c4⟩:=loop_like (hk x (List.mem_singleton.2 rfl)) hL hn hF;obtain⟨k1', hk1⟩:=loop_full (hk x (List.mem_singleton.2 rfl)) (hs x (List.mem_singleton.2 rfl)) hL hn hF m u2 v k h2 hv;rw[List.append_assoc];exact hs x (List.mem_singleton.2 rfl) L.length _ c1 c2 c3 u1 (u2++v) k1' h1 hk1
  rw[if_neg k5] at hF hG hu ⊢
  by_cases k6:K t=6
  ·rw[if_pos k6] at hF hG hu ⊢
   obtain⟨x,hx⟩:=s4 (.inr (.inr k6));rw[hx] at hF hG hk hs hu ⊢;simp only[one_ex] at hu;rw[layOpt] at hF ⊢;obtain⟨a1,a2,a3,a4,a5,a6⟩:=hk x (List.mem_singleton.2 rfl) next L hL hn;(have hlen:(forkL (lay K M U n x next L).1 [next,(lay K M U n x next L).2]).1.length=(lay K M U n x next L).1.length+1:=by simp[forkL]);have hat:F[(lay K M U n x next L).1.length]? = some (0,[next,(lay K M U n x next L).2],forkLeast (lay K M U n x next L).1 [next,(lay K M U n x next L).2]):=(hF _ oo oo).trans get_snoc_eq;rcases hu with rfl | hu
   ·exact⟨k+1,Reads.by_fork (q:=next) hat rfl (by simp) hv⟩
   ·obtain⟨k1', hk1⟩:=hs x (List.mem_singleton.2 rfl) next L hL hn (fun p h1 h2=>(hF p h1 oo).trans (get_snoc_lt h2)) u v k hu hv
    exact⟨k1' + 1,Reads.by_fork (q:=(lay K M U n x next L).2) hat rfl (by simp) hk1⟩
  rw[if_neg k6] at hF hG hu ⊢;subst hu;exact⟨k,hv⟩
end
end Go.Proofs.YtjkebndkeamijaaGreatDoor
