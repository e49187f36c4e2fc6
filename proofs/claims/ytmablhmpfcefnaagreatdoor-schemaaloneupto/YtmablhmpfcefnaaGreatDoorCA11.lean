/-
  PROVED HERE: what the texts DALays, DALang say.
-/
import Derived.Test.YtmablhmpfcefnaaGreatDoorCA10
namespace Go.Proofs.YtmablhmpfcefnaaGreatDoor
section
variable {T:Type} (K:T->Int) (M:T->Nat) (U:T->List T)
def forkLeast (L:List Place) (ways:List Nat):Nat:=ways.foldl (fun m q=>min m (leastAt L q)) (leastAt L (ways.headD 0))
def laySeq (f:T->Nat->List Place->List Place×Nat):List T->Nat->List Place->List Place×Nat
 | [],next,L=>(L,next)
 | x::r,next,L=>laySeq f r (f x next L).2 (f x next L).1
def layAlt (f:T->Nat->List Place->List Place×Nat) (next:Nat):List T->List Place->List Nat->List Place×List Nat
 | [],L,ways=>(L,ways)
 | x::r,L,ways=>layAlt f next r (f x next L).1 (ways++[(f x next L).2])
def forkL (L:List Place) (ways:List Nat):List Place×Nat:=(L++[(0,ways,forkLeast L ways)],L.length)
def layOpt (f:T->Nat->List Place->List Place×Nat):List T->Nat->List Place->List Place×Nat
 | x::_,next,L=>forkL (f x next L).1 [next,(f x next L).2]
 | [],next,L=>(L,next)
def layLoop (f:T->Nat->List Place->List Place×Nat):List T->Nat->List Place->List Place×Nat×Nat
 | x::_,next,L=>(addNext (f x L.length (forkL L [next]).1).1 L.length (f x L.length (forkL L [next]).1).2,L.length,(f x L.length (forkL L [next]).1).2)
 | [],next,L=>(L,next,next)
def lay:Nat->T->Nat->List Place->List Place×Nat
 | 0,_,next,L=>(L,next)
 | n+1,t,next,L=>
  if K t=1 then (L++[(M t,[next],leastAt L next+1)],L.length)
  else if K t=2 then laySeq (lay n) (U t).reverse next L
  else if K t=3 then forkL (layAlt (lay n) next (U t) L []).1 (layAlt (lay n) next (U t) L []).2
  else if K t=4 then ((layLoop (lay n) (U t) next L).1,(layLoop (lay n) (U t) next L).2.1)
  else if K t=5 then ((layLoop (lay n) (U t) next L).1,(layLoop (lay n) (U t) next L).2.2)
  else if K t=6 then layOpt (lay n) (U t) next L
  else (L,next)
def Sane:Nat->T->Prop
 | 0,_=>False
 | n+1,t=>(K t=1->M t≠0)/\(K t=2\/K t=3->U t≠[])/\(K t=4\/K t=5\/K t=6->∃x,U t=[x])/\∀x∈U t,Sane n x
def size:Nat->T->Nat
 | 0,_=>0
 | n+1,t=>1+((U t).map (size n)).sum
def need:Nat->T->Nat
 | 0,_=>0
 | n+1,t=>(U t).length * ((U t).map (size U n)).sum+((U t).map (need n)).sum+3
theorem size_need (n:Nat) (t:T):size U n t<=need U n t:=by
 cases n with
 | zero=>exact zzb _
 | succ n=>
  rw[size,need]
  cases h:U t with
  | nil=>simp
  | cons x r=>
   have:((x::r).map (size U n)).sum<=(x::r).length * ((x::r).map (size U n)).sum:=Nat.le_mul_of_pos_left _ (by simp)
   omega
theorem sum_le_of {α:Type} {f:α->Nat} {c:Nat} {g:α->Nat}:∀(l:List α),(∀x∈l,f x<=c * g x)->(l.map f).sum<=c * (l.map g).sum:=by
 intro l
 induction l with
 | nil=>intro _;simp
 | cons x r ih=>
  intro h
  have h1:=h x (zzg ..)
  have h2:=ih (fun y hy=>h y (zzk _ hy))
  simp only[List.map_cons,List.sum_cons]
  rw[Nat.mul_add]
  omega
theorem sum_ge_mem {α:Type} {f:α->Nat} {x:α}:∀(l:List α),x∈l->f x<=(l.map f).sum:=by
 intro l
 induction l with
 | nil=>intro h;cases h
 | cons y r ih=>
  intro h
  simp only[List.map_cons,List.sum_cons]
  rcases List.mem_cons.1 h with rfl | h
  ·omega
  ·have:=ih h;omega
theorem need_le:∀(n:Nat) (t:T),size U n t<=200->(∀m x,m<n->x∈U t->1<=size U m x\/True)->need U n t<=40003 * size U n t:=by
 intro n
 induction n with
 | zero=>intro t _ _;exact zzn _
 | succ n ih=>
  intro t h _
  have h' := h
  rw[size] at h
  have hs:((U t).map (need U n)).sum<=40003 * ((U t).map (size U n)).sum:=sum_le_of (U t) fun x hx=>ih x (by
   have:=sum_ge_mem (f:=size U n) (U t) hx
   omega) (fun _ _ _ _=>.inr trivial)
  have hlen:(U t).length<=200\/((U t).map (size U n)).sum=0:=by
   cases n with
   | zero=>
    right
    have:∀l:List T,(l.map (size U 0)).sum=0:=by
     intro l
     induction l with
     | nil=>rfl
     | cons x r ih=>rw[List.map_cons,List.sum_cons,ih];rfl
    exact this _
   | succ m=>
    left
    have:∀l:List T,l.length<=(l.map (size U (m+1))).sum:=by
     intro l
     induction l with
     | nil=>exact zzb _
     | cons x r ih=>
      have h1:1<=size U (m+1) x:=by rw[size];omega
      rw[List.map_cons,List.sum_cons,List.length_cons]
      omega
    have:=this (U t)
    omega
  rw[need,size]
  have hm:(U t).length * ((U t).map (size U n)).sum<=40000:=by
   rcases hlen with h1 | h1
   ·exact Nat.le_trans (Nat.mul_le_mul h1 (by omega:((U t).map (size U n)).sum<=200)) (by decide)
   ·rw[h1];simp
  omega
def Good (f:T->Nat->List Place->List Place×Nat) (sz:T->Nat) (x:T):Prop :=
 ∀next L,wf L->next<L.length->wf (f x next L).1/\(f x next L).2<(f x next L).1.length/\L.length<=(f x next L).1.length/\(∀p,p<L.length->(f x next L).1[p]? = L[p]?)/\leastAt L next<=leastAt (f x next L).1 (f x next L).2/\(f x next L).1.length<=L.length+sz x
theorem foldl_min_le (L:List Place):∀(ways:List Nat) (m:Nat),ways.foldl (fun m q=>min m (leastAt L q)) m<=m/\(∀q∈ways,ways.foldl (fun m q=>min m (leastAt L q)) m<=leastAt L q)/\(ways.foldl (fun m q=>min m (leastAt L q)) m=m\/∃q∈ways,ways.foldl (fun m q=>min m (leastAt L q)) m=leastAt L q):=by
 intro ways
 induction ways with
 | nil=>intro m;exact⟨zzb _,fun q hq=>(by cases hq),.inl rfl⟩
 | cons a r ih=>
  intro m
  obtain⟨h1,h2,h3⟩:=ih (min m (leastAt L a))
  simp only[List.foldl_cons]
  refine⟨by omega,fun q hq=>?_,?_⟩
  ·rcases List.mem_cons.1 hq with rfl | hq
   ·omega
   ·exact h2 q hq
  ·rcases h3 with h3 | ⟨q,hq,h3⟩
   ·rw[h3]
    by_cases h:m<=leastAt L a
    ·exact .inl (by omega)
    ·exact .inr ⟨a,zzg ..,by omega⟩
   ·exact .inr ⟨q,zzk _ hq,h3⟩
theorem forkLeast_ok (L:List Place) {ways:List Nat} (h:ways≠[]):(∀q∈ways,forkLeast L ways<=leastAt L q)/\∃q∈ways,forkLeast L ways=leastAt L q:=by
 obtain⟨h1,h2,h3⟩:=foldl_min_le L ways (leastAt L (ways.headD 0))
 refine⟨h2,?_⟩
 rcases h3 with h3 | h3
 ·cases ways with
  | nil=>exact absurd rfl h
  | cons a r=>exact⟨a,zzg ..,h3⟩
 ·exact h3
theorem forkL_ok {L:List Place} (hL:wf L) {ways:List Nat} (h:ways≠[]) (hw:∀q∈ways,q<L.length) {m:Nat} (hm:∀q∈ways,m<=leastAt L q) :
  wf (forkL L ways).1/\(forkL L ways).2<(forkL L ways).1.length/\(forkL L ways).1.length=L.length+1/\(∀p,p<L.length->(forkL L ways).1[p]? = L[p]?)/\m<=leastAt (forkL L ways).1 (forkL L ways).2:=by
 obtain⟨h1,h2⟩:=forkLeast_ok L h
 unfold forkL
 refine⟨wf_add hL (.inr ⟨rfl,fun q hq=>⟨hw q hq,h1 q hq⟩,h2⟩),by simp,by simp,fun p hp=>get_snoc_lt hp,?_⟩
 rw[leastAt_some get_snoc_eq]
 obtain⟨q,hq,e⟩:=h2
 show m<=forkLeast L ways
 rw[e]
 exact hm q hq
theorem laySeq_good {f:T->Nat->List Place->List Place×Nat} {sz:T->Nat}:∀(l:List T),(∀x∈l,Good f sz x)->∀next L,wf L->next<L.length →
  wf (laySeq f l next L).1/\(laySeq f l next L).2<(laySeq f l next L).1.length/\L.length<=(laySeq f l next L).1.length/\(∀p,p<L.length->(laySeq f l next L).1[p]? = L[p]?)/\leastAt L next<=leastAt (laySeq f l next L).1 (laySeq f l next L).2/\(laySeq f l next L).1.length<=L.length+(l.map sz).sum:=by
 intro l
 induction l with
 | nil=>intro _ next L hL hn;exact⟨hL,hn,zzb _,fun _ _=>rfl,zzb _,Nat.le_add_right _ _⟩
 | cons x r ih=>
  intro hg next L hL hn
  obtain⟨a1,a2,a3,a4,a5,a6⟩:=hg x (zzg ..) next L hL hn
  obtain⟨b1,b2,b3,b4,b5,b6⟩:=ih (fun y hy=>hg y (zzk _ hy)) (f x next L).2 (f x next L).1 a1 a2
  rw[laySeq]
  refine⟨b1,b2,Nat.le_trans a3 b3,fun p hp=>(b4 p (by omega)).trans (a4 p hp),Nat.le_trans a5 b5,?_⟩
  simp only[List.map_cons,List.sum_cons]
  omega
theorem layAlt_good {f:T->Nat->List Place->List Place×Nat} {sz:T->Nat} (next:Nat):∀(l:List T),(∀x∈l,Good f sz x)->∀(L:List Place) (ways:List Nat),wf L->next<L.length->(∀q∈ways,q<L.length/\leastAt L next<=leastAt L q) →
  wf (layAlt f next l L ways).1/\(∀q∈(layAlt f next l L ways).2,q<(layAlt f next l L ways).1.length/\leastAt L next<=leastAt (layAlt f next l L ways).1 q)/\L.length<=(layAlt f next l L ways).1.length/\(∀p,p<L.length->(layAlt f next l L ways).1[p]? = L[p]?)/\(layAlt f next l L ways).1.length<=L.length+(l.map sz).sum/\(layAlt f next l L ways).2.length=ways.length+l.length:=by
 intro l
 induction l with
 | nil=>intro _ L ways hL hn hw;exact⟨hL,hw,zzb _,fun _ _=>rfl,Nat.le_add_right _ _,rfl⟩
 | cons x r ih=>
  intro hg L ways hL hn hw
  obtain⟨a1,a2,a3,a4,a5,a6⟩:=hg x (zzg ..) next L hL hn
  have hkeep:∀q,q<L.length->leastAt (f x next L).1 q=leastAt L q:=fun q hq=>leastAt_congr (a4 q hq)
  obtain⟨b1,b2,b3,b4,b5,b6⟩:=ih (fun y hy=>hg y (zzk _ hy)) (f x next L).1 (ways++[(f x next L).2]) a1 (by omega) (fun q hq=>by
   rw[hkeep next hn]
   rcases List.mem_append.1 hq with hq | hq
   ·obtain⟨g1,g2⟩:=hw q hq
    exact⟨by omega,by rw[hkeep q g1];exact g2⟩
   ·simp at hq
    subst hq
    exact⟨a2,a5⟩)
  rw[hkeep next hn] at b2
  rw[layAlt]
  refine⟨b1,b2,Nat.le_trans a3 b3,fun p hp=>(b4 p (by omega)).trans (a4 p hp),?_,?_⟩
  ·simp only[List.map_cons,List.sum_cons]
   omega
  ·rw[b6]
   simp
   omega
theorem layLoop_good {f:T->Nat->List Place->List Place×Nat} {sz:T->Nat} {x:T} (hg:Good f sz x) {next:Nat} {L:List Place} (hL:wf L) (hn:next<L.length) :
  wf (layLoop f [x] next L).1/\(layLoop f [x] next L).2.1=L.length/\L.length<(layLoop f [x] next L).1.length/\(layLoop f [x] next L).2.2<(layLoop f [x] next L).1.length/\(∀p,p<L.length->(layLoop f [x] next L).1[p]? = L[p]?) ∧
  leastAt L next<=leastAt (layLoop f [x] next L).1 L.length/\leastAt L next<=leastAt (layLoop f [x] next L).1 (layLoop f [x] next L).2.2/\(layLoop f [x] next L).1.length<=L.length+(1+sz x):=by
 obtain⟨c1,c2,c3,c4,c5⟩:=forkL_ok hL (ways:=[next]) (by simp) (by simpa using hn) (m:=leastAt L next) (by simp)
 have e2:(forkL L [next]).2=L.length:=rfl
 rw[e2] at c5
 obtain⟨a1,a2,a3,a4,a5,a6⟩:=hg L.length (forkL L [next]).1 c1 (by omega)
 rw[layLoop]
 generalize hf:f x L.length (forkL L [next]).1=r at *
 have hat:(forkL L [next]).1[L.length]? = some (0,[next],forkLeast L [next]):=get_snoc_eq
 have hr:r.1[L.length]? = some (0,[next],forkLeast L [next]):=(a4 _ (by omega)).trans hat
 have hpos:=hL.pos
 refine⟨wf_next a1 hpos hr rfl a2 ?_,rfl,by rw[addNext_length];omega,by rw[addNext_length];exact a2,fun p hp=>?_,?_,?_,?_⟩
 ·rw[<-leastAt_some hat];exact a5
 ·rw[addNext_ne (by omega),a4 p (by omega),c4 p hp]
 ·rw[addNext_least,leastAt_congr (a4 L.length (by omega))];exact c5
 ·rw[addNext_least];exact Nat.le_trans c5 (by rw[<-leastAt_congr (a4 L.length (by omega))];exact Nat.le_trans (by rw[leastAt_congr (a4 L.length (by omega))];exact zzb _) a5)
 ·rw[addNext_length];omega
theorem lay_good:∀(n:Nat) (t:T),Sane K M U n t->Good (lay K M U n) (size U n) t:=by
 intro n
 induction n with
 | zero=>intro t h;exact h.elim
 | succ n ih=>
  intro t ⟨s1,s3,s4,sk⟩ next L hL hn
  have hk:∀x∈U t,Good (lay K M U n) (size U n) x:=fun x hx=>ih x (sk x hx)
  rw[lay,size]
  by_cases k1:K t=1
  ·rw[if_pos k1]
   refine⟨wf_add hL (.inl ⟨s1 k1,next,rfl,hn,rfl⟩),by simp,by simp,fun p hp=>get_snoc_lt hp,?_,by simp⟩
   rw[leastAt_some get_snoc_eq]
   exact Nat.le_succ _
  rw[if_neg k1]
  by_cases k2:K t=2
  ·rw[if_pos k2]
   obtain⟨b1,b2,b3,b4,b5,b6⟩:=laySeq_good (U t).reverse (fun x hx=>hk x (List.mem_reverse.1 hx)) next L hL hn
   refine⟨b1,b2,b3,b4,b5,?_⟩
   rw[List.map_reverse,List.sum_reverse] at b6
   omega
  rw[if_neg k2]
  by_cases k3:K t=3
  ·rw[if_pos k3]
   obtain⟨b1,b2,b3,b4,b5,b6⟩:=layAlt_good next (U t) hk L [] hL hn (fun q hq=>by cases hq)
   have hne:(layAlt (lay K M U n) next (U t) L []).2≠[]:=by
    intro e
    rw[e] at b6
    have:=List.length_pos_iff.2 (s3 (.inr k3))
    simp at b6
    simp[b6] at this
   obtain⟨c1,c2,c3,c4,c5⟩:=forkL_ok b1 hne (fun q hq=>(b2 q hq).1) (fun q hq=>(b2 q hq).2)
   refine⟨c1,c2,by omega,fun p hp=>(c4 p (by omega)).trans (b4 p hp),c5,?_⟩
   omega
  rw[if_neg k3]
  by_cases k4:K t=4
  ·rw[if_pos k4]
   obtain⟨x,hx⟩:=s4 (.inl k4)
   rw[hx]
   obtain⟨a1,a2,a3,a4,a5,a6,a7,a8⟩:=layLoop_good (hk x (by rw[hx];exact List.mem_singleton.2 rfl)) hL hn
   refine⟨a1,by rw[a2];exact a3,Nat.le_of_lt a3,a5,by rw[a2];exact a6,?_⟩
   simpa using a8
  rw[if_neg k4]
  by_cases k5:K t=5
  ·rw[if_pos k5]
   obtain⟨x,hx⟩:=s4 (.inr (.inl k5))
   rw[hx]
   obtain⟨a1,a2,a3,a4,a5,a6,a7,a8⟩:=layLoop_good (hk x (by rw[hx];exact List.mem_singleton.2 rfl)) hL hn
   refine⟨a1,a4,Nat.le_of_lt a3,a5,a7,?_⟩
   simpa using a8
  rw[if_neg k5]
  by_cases k6:K t=6
  ·rw[if_pos k6]
   obtain⟨x,hx⟩:=s4 (.inr (.inr k6))
   rw[hx,layOpt]
   obtain⟨a1,a2,a3,a4,a5,a6⟩:=hk x (by rw[hx];exact List.mem_singleton.2 rfl) next L hL hn
   have hkeep:leastAt (lay K M U n x next L).1 next=leastAt L next:=leastAt_congr (a4 next hn)
   obtain⟨c1,c2,c3,c4,c5⟩:=forkL_ok a1 (ways:=[next,(lay K M U n x next L).2]) (by simp) (fun q hq=>by
    simp at hq
    rcases hq with rfl | rfl
    ·omega
    ·exact a2) (m:=leastAt L next) (fun q hq=>by
    simp at hq
    rcases hq with rfl | rfl
    ·rw[hkeep];exact zzb _
    ·exact a5)
   refine⟨c1,c2,by omega,fun p hp=>(c4 p (by omega)).trans (a4 p hp),c5,?_⟩
   simp
   omega
  rw[if_neg k6]
  exact⟨hL,hn,zzb _,fun _ _=>rfl,zzb _,Nat.le_add_right _ _⟩
end
end Go.Proofs.YtmablhmpfcefnaaGreatDoor
namespace Go.Proofs.YtmablhmpfcefnaaGreatDoor
section
variable {T:Type} (K:T->Int) (M:T->Nat) (U:T->List T)
def LSeq (f:T->List Int->Prop):List T->List Int->Prop
 | [],w=>w=[]
 | x::r,w=>∃u v,w=u++v/\f x u/\LSeq f r v
def LPow (f:List Int->Prop):Nat->List Int->Prop
 | 0,w=>w=[]
 | m+1,w=>∃u v,w=u++v/\f u/\LPow f m v
def Lang:Nat->T->List Int->Prop
 | 0,_,_=>False
 | n+1,t,w=>
  if K t=1 then ∃a,w=[a]/\takes (M t) a=true
  else if K t=2 then LSeq (Lang n) (U t) w
  else if K t=3 then ∃x∈U t,Lang n x w
  else if K t=4 then ∃m,LPow (fun v=>∃x∈U t,Lang n x v) m w
  else if K t=5 then ∃m,LPow (fun v=>∃x∈U t,Lang n x v) (m+1) w
  else if K t=6 then w=[]\/∃x∈U t,Lang n x w
  else w=[]
def Like (F L:List Place) (a b:Nat):Prop:=∀p,a<=p->p<b->F[p]? = L[p]?
def Sound (f:T->Nat->List Place->List Place×Nat) (g:T->List Int->Prop) (F:List Place) (x:T):Prop :=
 ∀next L,wf L->next<L.length->Like F (f x next L).1 L.length (f x next L).1.length->∀k w,Reads F k (f x next L).2 w->∃u v k', k' <= k/\w=u++v/\g x u/\Reads F k' next v
def Full (f:T->Nat->List Place->List Place×Nat) (g:T->List Int->Prop) (F:List Place) (x:T):Prop :=
 ∀next L,wf L->next<L.length->Like F (f x next L).1 L.length (f x next L).1.length->∀u v k,g x u->Reads F k next v->∃k', Reads F k' (f x next L).2 (u++v)
theorem LSeq_snoc (f:T->List Int->Prop):∀(l:List T) (x:T) (w:List Int),LSeq f (l++[x]) w↔∃u v,w=u++v/\LSeq f l u/\f x v:=by
 intro l
 induction l with
 | nil=>
  intro x w
  constructor
  ·rintro⟨u,v,rfl,h1,h2⟩
   rw[LSeq] at h2
   subst h2
   exact⟨[],u,by simp,rfl,h1⟩
  ·rintro⟨u,v,rfl,h1,h2⟩
   rw[LSeq] at h1
   subst h1
   exact⟨v,[],by simp,h2,rfl⟩
 | cons y r ih=>
  intro x w
  constructor
  ·rintro⟨u,v,rfl,h1,h2⟩
   obtain⟨a,b,rfl,h3,h4⟩:=(ih x v).1 h2
   exact⟨u++a,b,by simp,⟨u,a,rfl,h1,h3⟩,h4⟩
  ·rintro⟨u,v,rfl,⟨a,b,rfl,h1,h2⟩,h3⟩
   exact⟨a,b++v,by simp,h1,(ih x (b++v)).2 ⟨b,v,rfl,h2,h3⟩⟩
variable {f:T->Nat->List Place->List Place×Nat} {g:T->List Int->Prop} {sz:T->Nat} {F:List Place}
theorem Reads.at_fork {k p:Nat} {w:List Int} {x:Place} (hp:0<p) (hx:F[p]? = some x) (h0:x.1=0) (h:Reads F k p w):∃q∈x.2.1,∃k', k' < k/\Reads F k' q w:=by
 cases k with
 | zero=>obtain⟨rfl,_⟩:=h;omega
 | succ k=>
  rcases h with ⟨rfl,_⟩ | ⟨y,hy,h⟩
  ·omega
  ·rw[hx] at hy
   cases hy
   rcases h with ⟨_,q,hq,hr⟩ | ⟨h1,_⟩
   ·exact⟨q,hq,k,Nat.lt_succ_self _,hr⟩
   ·exact absurd h0 h1
theorem Reads.by_fork {k p q:Nat} {w:List Int} {x:Place} (hx:F[p]? = some x) (h0:x.1=0) (hq:q∈x.2.1) (h:Reads F k q w):Reads F (k+1) p w :=
 .inr ⟨x,hx,.inl ⟨h0,q,hq,h⟩⟩
theorem laySeq_sound:∀(l:List T),(∀x∈l,Good f sz x)->(∀x∈l,Sound f g F x)->∀next L,wf L->next<L.length->Like F (laySeq f l next L).1 L.length (laySeq f l next L).1.length →
  ∀k w,Reads F k (laySeq f l next L).2 w->∃u v k', k' <= k/\w=u++v/\LSeq g l.reverse u/\Reads F k' next v:=by
 intro l
 induction l with
 | nil=>intro _ _ next L _ _ _ k w h;exact⟨[],w,k,zzb _,rfl,rfl,h⟩
 | cons x r ih=>
  intro hg hs next L hL hn hF k w h
  obtain⟨a1,a2,a3,a4,a5,a6⟩:=hg x (zzg ..) next L hL hn
  obtain⟨b1,b2,b3,b4,b5,b6⟩:=laySeq_good r (fun y hy=>hg y (zzk _ hy)) (f x next L).2 (f x next L).1 a1 a2
  rw[laySeq] at hF h
  obtain⟨u,v,k', hk,rfl,hu,hv⟩:=ih (fun y hy=>hg y (zzk _ hy)) (fun y hy=>hs y (zzk _ hy)) _ _ a1 a2 (fun p h1 h2=>hF p (by omega) h2) k w h
  obtain⟨u', v', k'', hk', rfl,hu', hv'⟩:=hs x (zzg ..) next L hL hn (fun p h1 h2=>(hF p h1 (by omega)).trans (b4 p h2)) k' v hv
  rw[List.reverse_cons]
  exact⟨u++u', v', k'', by omega,by simp,(LSeq_snoc g _ _ _).2 ⟨u,u', rfl,hu,hu'⟩,hv'⟩
theorem laySeq_full:∀(l:List T),(∀x∈l,Good f sz x)->(∀x∈l,Full f g F x)->∀next L,wf L->next<L.length->Like F (laySeq f l next L).1 L.length (laySeq f l next L).1.length →
  ∀u v k,LSeq g l.reverse u->Reads F k next v->∃k', Reads F k' (laySeq f l next L).2 (u++v):=by
 intro l
 induction l with
 | nil=>intro _ _ next L _ _ _ u v k hu hv;rw[List.reverse_nil,LSeq] at hu;subst hu;exact⟨k,hv⟩
 | cons x r ih=>
  intro hg hs next L hL hn hF u v k hu hv
  obtain⟨a1,a2,a3,a4,a5,a6⟩:=hg x (zzg ..) next L hL hn
  obtain⟨b1,b2,b3,b4,b5,b6⟩:=laySeq_good r (fun y hy=>hg y (zzk _ hy)) (f x next L).2 (f x next L).1 a1 a2
  rw[laySeq] at hF ⊢
  rw[List.reverse_cons] at hu
  obtain⟨u1,u2,rfl,h1,h2⟩:=(LSeq_snoc g _ _ _).1 hu
  obtain⟨k1,hk1⟩:=hs x (zzg ..) next L hL hn (fun p h1 h2=>(hF p h1 (by omega)).trans (b4 p h2)) u2 v k h2 hv
  obtain⟨k2,hk2⟩:=ih (fun y hy=>hg y (zzk _ hy)) (fun y hy=>hs y (zzk _ hy)) _ _ a1 a2 (fun p h1 h2=>hF p (by omega) h2) u1 (u2++v) k1 h1 hk1
  exact⟨k2,by rw[List.append_assoc];exact hk2⟩
theorem layAlt_mem (next:Nat):∀(l:List T),(∀x∈l,Good f sz x)->∀(L:List Place) (ways:List Nat),wf L->next<L.length->Like F (layAlt f next l L ways).1 L.length (layAlt f next l L ways).1.length →
  (∀q∈(layAlt f next l L ways).2,q∈ways\/∃x∈l,∃L', wf L' /\ next<L'.length/\Like F (f x next L').1 L'.length (f x next L').1.length/\q=(f x next L').2) ∧
  (∀q∈ways,q∈(layAlt f next l L ways).2)/\(∀x∈l,∃L', wf L' /\ next<L'.length/\Like F (f x next L').1 L'.length (f x next L').1.length/\(f x next L').2∈(layAlt f next l L ways).2):=by
 intro l
 induction l with
 | nil=>intro _ L ways _ _ _;exact⟨fun q hq=>.inl hq,fun q hq=>hq,fun x hx=>by cases hx⟩
 | cons x r ih=>
  intro hg L ways hL hn hF
  obtain⟨a1,a2,a3,a4,a5,a6⟩:=hg x (zzg ..) next L hL hn
  rw[layAlt] at hF ⊢
  have hlen:(f x next L).1.length<=(layAlt f next r (f x next L).1 (ways++[(f x next L).2])).1.length/\∀p,p<(f x next L).1.length->(layAlt f next r (f x next L).1 (ways++[(f x next L).2])).1[p]? = (f x next L).1[p]?:=by
   have:∀(l:List T),(∀y∈l,Good f sz y)->∀(L:List Place) (ws:List Nat),wf L->next<L.length->L.length<=(layAlt f next l L ws).1.length/\∀p,p<L.length->(layAlt f next l L ws).1[p]? = L[p]?:=by
    intro l
    induction l with
    | nil=>intro _ L ws _ _;exact⟨zzb _,fun _ _=>rfl⟩
    | cons y r ih2=>
     intro hg L ws hL hn
     obtain⟨a1,a2,a3,a4,a5,a6⟩:=hg y (zzg ..) next L hL hn
     rw[layAlt]
     obtain⟨c1,c2⟩:=ih2 (fun z hz=>hg z (zzk _ hz)) (f y next L).1 (ws++[(f y next L).2]) a1 (by omega)
     exact⟨by omega,fun p hp=>(c2 p (by omega)).trans (a4 p hp)⟩
   exact this r (fun y hy=>hg y (zzk _ hy)) _ _ a1 (by omega)
  obtain⟨l1,l2⟩:=hlen
  have hFx:Like F (f x next L).1 L.length (f x next L).1.length:=fun p h1 h2=>(hF p h1 (by omega)).trans (l2 p h2)
  obtain⟨b1,b2,b3⟩:=ih (fun y hy=>hg y (zzk _ hy)) (f x next L).1 (ways++[(f x next L).2]) a1 (by omega) (fun p h1 h2=>hF p (by omega) h2)
  refine⟨fun q hq=>?_,fun q hq=>b2 q (List.mem_append_left _ hq),fun y hy=>?_⟩
  ·rcases b1 q hq with h | ⟨y,hy,h⟩
   ·rcases List.mem_append.1 h with h | h
    ·exact .inl h
    ·simp at h
     exact .inr ⟨x,zzg ..,L,hL,hn,hFx,h⟩
   ·exact .inr ⟨y,zzk _ hy,h⟩
  ·rcases List.mem_cons.1 hy with rfl | hy
   ·exact⟨L,hL,hn,hFx,b2 _ (by simp)⟩
   ·exact b3 y hy
theorem loop_like {x:T} (hg:Good f sz x) {next:Nat} {L:List Place} (hL:wf L) (hn:next<L.length) (hF:Like F (layLoop f [x] next L).1 L.length (layLoop f [x] next L).1.length) :
  wf (forkL L [next]).1/\L.length<(forkL L [next]).1.length/\Like F (f x L.length (forkL L [next]).1).1 (forkL L [next]).1.length (f x L.length (forkL L [next]).1).1.length/\F[L.length]? = some (0,[next,(f x L.length (forkL L [next]).1).2],forkLeast L [next]):=by
 obtain⟨c1,c2,c3,c4,c5⟩:=forkL_ok hL (ways:=[next]) (by simp) (by simpa using hn) (m:=leastAt L next) (by simp)
 obtain⟨a1,a2,a3,a4,a5,a6⟩:=hg L.length (forkL L [next]).1 c1 (by omega)
 rw[layLoop] at hF
 refine⟨c1,by omega,fun p h1 h2=>?_,?_⟩
 ·rw[hF p (by omega) (by rw[addNext_length];exact h2)]
  exact addNext_ne (by omega)
 ·rw[hF L.length (zzb _) (by rw[addNext_length];omega)]
  exact addNext_eq ((a4 _ (by omega)).trans get_snoc_eq)
theorem loop_sound {x:T} (hg:Good f sz x) (hs:Sound f g F x) {next:Nat} {L:List Place} (hL:wf L) (hn:next<L.length) (hF:Like F (layLoop f [x] next L).1 L.length (layLoop f [x] next L).1.length) :
  ∀k w,Reads F k L.length w->∃m u v k', k' <= k/\w=u++v/\LPow (g x) m u/\Reads F k' next v:=by
 obtain⟨c1,c2,c3,c4⟩:=loop_like hg hL hn hF
 have hpos:=hL.pos
 intro k
 induction k using Nat.strongRecOn with
 | _ k ih=>
  intro w h
  obtain⟨q,hq,k1,hk1,hr⟩:=h.at_fork hpos c4 rfl
  simp at hq
  rcases hq with rfl | rfl
  ·exact⟨0,[],w,k1,by omega,rfl,rfl,hr⟩
  ·obtain⟨u,v,k2,hk2,rfl,hu,hv⟩:=hs L.length _ c1 c2 c3 k1 w hr
   obtain⟨m,u', v', k3,hk3,rfl,hu', hv'⟩:=ih k2 (by omega) v hv
   exact⟨m+1,u++u', v', k3,by omega,by simp,⟨u,u', rfl,hu,hu'⟩,hv'⟩
theorem loop_full {x:T} (hg:Good f sz x) (hs:Full f g F x) {next:Nat} {L:List Place} (hL:wf L) (hn:next<L.length) (hF:Like F (layLoop f [x] next L).1 L.length (layLoop f [x] next L).1.length) :
  ∀m u v k,LPow (g x) m u->Reads F k next v->∃k', Reads F k' L.length (u++v):=by
 obtain⟨c1,c2,c3,c4⟩:=loop_like hg hL hn hF
 intro m
 induction m with
 | zero=>
  intro u v k hu hv
  rw[LPow] at hu
  subst hu
  exact⟨k+1,Reads.by_fork (q:=next) c4 rfl (by simp) hv⟩
 | succ m ih=>
  rintro u v k ⟨u1,u2,rfl,h1,h2⟩ hv
  obtain⟨k1,hk1⟩:=ih u2 v k h2 hv
  obtain⟨k2,hk2⟩:=hs L.length _ c1 c2 c3 u1 (u2++v) k1 h1 hk1
  exact⟨k2+1,Reads.by_fork (q:=(f x L.length (forkL L [next]).1).2) c4 rfl (by simp) (by rw[List.append_assoc];exact hk2)⟩
theorem one_ex {x:T} {p:T->Prop}:(∃y∈[x],p y)↔p x:=by simp
theorem lay_sound:∀(n:Nat) (t:T),Sane K M U n t->Sound (lay K M U n) (Lang K M U n) F t:=by
 intro n
 induction n with
 | zero=>intro t h;exact h.elim
 | succ n ih=>
  intro t hS next L hL hn hF k w hr
  have hG:=lay_good K M U (n+1) t hS next L hL hn
  obtain⟨s1,s3,s4,sk⟩:=hS
  have hk:∀x∈U t,Good (lay K M U n) (size U n) x:=fun x hx=>lay_good K M U n x (sk x hx)
  have hs:∀x∈U t,Sound (lay K M U n) (Lang K M U n) F x:=fun x hx=>ih x (sk x hx)
  have hpos:=hL.pos
  rw[lay] at hF hr hG
  simp only[Lang]
  by_cases k1:K t=1
  ·rw[if_pos k1] at hF hr hG
   simp only[if_pos k1]
   have hx:F[L.length]? = some (M t,[next],leastAt L next+1):=(hF L.length (zzb _) (by simp)).trans get_snoc_eq
   cases k with
   | zero=>obtain⟨e,_⟩:=hr;simp at e;simp[e] at hpos
   | succ k=>
    rcases hr with ⟨e,_⟩ | ⟨y,hy,h⟩
    ·simp at e;simp[e] at hpos
    ·have hy' : F[L.length]? = some y:=hy
     rw[hx] at hy'
     cases hy'
     rcases h with ⟨h0,_⟩ | ⟨_,a,v,q,rfl,ha,hq,hv⟩
     ·exact absurd h0 (s1 k1)
     ·simp at hq
      subst hq
      exact⟨[a],v,k,Nat.le_succ _,rfl,⟨a,rfl,ha⟩,hv⟩
  rw[if_neg k1] at hF hr hG
  simp only[if_neg k1]
  by_cases k2:K t=2
  ·rw[if_pos k2] at hF hr hG
   simp only[if_pos k2]
   obtain⟨u,v,k', h1,h2,h3,h4⟩:=laySeq_sound (U t).reverse (fun x hx=>hk x (List.mem_reverse.1 hx)) (fun x hx=>hs x (List.mem_reverse.1 hx)) next L hL hn hF k w hr
   rw[List.reverse_reverse] at h3
   exact⟨u,v,k', h1,h2,h3,h4⟩
  rw[if_neg k2] at hF hr hG
  simp only[if_neg k2]
  by_cases k3:K t=3
  ·rw[if_pos k3] at hF hr hG
   simp only[if_pos k3]
   obtain⟨b1,b2,b3,b4,b5,b6⟩:=layAlt_good next (U t) hk L [] hL hn (fun q hq=>by cases hq)
   have hlen:(forkL (layAlt (lay K M U n) next (U t) L []).1 (layAlt (lay K M U n) next (U t) L []).2).1.length=(layAlt (lay K M U n) next (U t) L []).1.length+1:=by simp[forkL]
   have hx:F[(layAlt (lay K M U n) next (U t) L []).1.length]? = some (0,(layAlt (lay K M U n) next (U t) L []).2,forkLeast (layAlt (lay K M U n) next (U t) L []).1 (layAlt (lay K M U n) next (U t) L []).2):=(hF _ (by omega) (by omega)).trans get_snoc_eq
   obtain⟨q,hq,k1', hk1,hr'⟩:=Reads.at_fork (p:=(layAlt (lay K M U n) next (U t) L []).1.length) (by omega) hx rfl hr
   have hF' : Like F (layAlt (lay K M U n) next (U t) L []).1 L.length (layAlt (lay K M U n) next (U t) L []).1.length:=fun p h1 h2=>(hF p h1 (by omega)).trans (get_snoc_lt h2)
   rcases (layAlt_mem next (U t) hk L [] hL hn hF').1 q hq with h | ⟨x,hx,L', d1,d2,d3,rfl⟩
   ·cases h
   ·obtain⟨u,v,k', h1,h2,h3,h4⟩:=hs x hx next L' d1 d2 d3 k1' w hr'
    exact⟨u,v,k', by omega,h2,⟨x,hx,h3⟩,h4⟩
  rw[if_neg k3] at hF hr hG
  simp only[if_neg k3]
  by_cases k4:K t=4
  ·rw[if_pos k4] at hF hr hG
   simp only[if_pos k4]
   obtain⟨x,hx⟩:=s4 (.inl k4)
   rw[hx] at hF hr hG hk hs ⊢
   simp only[one_ex]
   obtain⟨m,u,v,k', h1,h2,h3,h4⟩:=loop_sound (hk x (List.mem_singleton.2 rfl)) (hs x (List.mem_singleton.2 rfl)) hL hn hF k w hr
   exact⟨u,v,k', h1,h2,⟨m,h3⟩,h4⟩
  rw[if_neg k4] at hF hr hG
  simp only[if_neg k4]
  by_cases k5:K t=5
  ·rw[if_pos k5] at hF hr hG
   simp only[if_pos k5]
   obtain⟨x,hx⟩:=s4 (.inr (.inl k5))
   rw[hx] at hF hr hG hk hs ⊢
   simp only[one_ex]
   obtain⟨c1,c2,c3,c4⟩:=loop_like (hk x (List.mem_singleton.2 rfl)) hL hn hF
   obtain⟨u,v,k1', hk1,rfl,hu,hv⟩:=hs x (List.mem_singleton.2 rfl) L.length _ c1 c2 c3 k w hr
   obtain⟨m,u', v', k', h1,rfl,h3,h4⟩:=loop_sound (hk x (List.mem_singleton.2 rfl)) (hs x (List.mem_singleton.2 rfl)) hL hn hF k1' v hv
   exact⟨u++u', v', k', by omega,by simp,⟨m,u,u', rfl,hu,h3⟩,h4⟩
  rw[if_neg k5] at hF hr hG
  simp only[if_neg k5]
  by_cases k6:K t=6
  ·rw[if_pos k6] at hF hr hG
   simp only[if_pos k6]
   obtain⟨x,hx⟩:=s4 (.inr (.inr k6))
   rw[hx] at hF hr hG hk hs ⊢
   simp only[one_ex]
   rw[layOpt] at hF hr
   obtain⟨a1,a2,a3,a4,a5,a6⟩:=hk x (List.mem_singleton.2 rfl) next L hL hn
   have hlen:(forkL (lay K M U n x next L).1 [next,(lay K M U n x next L).2]).1.length=(lay K M U n x next L).1.length+1:=by simp[forkL]
   have hat:F[(lay K M U n x next L).1.length]? = some (0,[next,(lay K M U n x next L).2],forkLeast (lay K M U n x next L).1 [next,(lay K M U n x next L).2]):=(hF _ (by omega) (by omega)).trans get_snoc_eq
   obtain⟨q,hq,k1', hk1,hr'⟩:=Reads.at_fork (p:=(lay K M U n x next L).1.length) (by omega) hat rfl hr
   simp at hq
   rcases hq with rfl | rfl
   ·exact⟨[],w,k1', by omega,rfl,.inl rfl,hr'⟩
   ·obtain⟨u,v,k', h1,h2,h3,h4⟩:=hs x (List.mem_singleton.2 rfl) next L hL hn (fun p h1 h2=>(hF p h1 (by omega)).trans (get_snoc_lt h2)) k1' w hr'
    exact⟨u,v,k', by omega,h2,.inr h3,h4⟩
  rw[if_neg k6] at hF hr hG
  simp only[if_neg k6]
  exact⟨[],w,k,zzb _,rfl,rfl,hr⟩
theorem lay_full:∀(n:Nat) (t:T),Sane K M U n t->Full (lay K M U n) (Lang K M U n) F t:=by
 intro n
 induction n with
 | zero=>intro t h;exact h.elim
 | succ n ih=>
  intro t hS next L hL hn hF u v k hu hv
  have hG:=lay_good K M U (n+1) t hS next L hL hn
  obtain⟨s1,s3,s4,sk⟩:=hS
  have hk:∀x∈U t,Good (lay K M U n) (size U n) x:=fun x hx=>lay_good K M U n x (sk x hx)
  have hs:∀x∈U t,Full (lay K M U n) (Lang K M U n) F x:=fun x hx=>ih x (sk x hx)
  have hpos:=hL.pos
  rw[lay] at hF hG ⊢
  rw[Lang] at hu
  by_cases k1:K t=1
  ·rw[if_pos k1] at hF hG hu ⊢
   obtain⟨a,rfl,ha⟩:=hu
   exact⟨k+1,.inr ⟨_,(hF L.length (zzb _) (by simp)).trans get_snoc_eq,.inr ⟨s1 k1,a,v,next,rfl,ha,rfl,hv⟩⟩⟩
  rw[if_neg k1] at hF hG hu ⊢
  by_cases k2:K t=2
  ·rw[if_pos k2] at hF hG hu ⊢
   exact laySeq_full (U t).reverse (fun x hx=>hk x (List.mem_reverse.1 hx)) (fun x hx=>hs x (List.mem_reverse.1 hx)) next L hL hn hF u v k (by rw[List.reverse_reverse];exact hu) hv
  rw[if_neg k2] at hF hG hu ⊢
  by_cases k3:K t=3
  ·rw[if_pos k3] at hF hG hu ⊢
   obtain⟨b1,b2,b3,b4,b5,b6⟩:=layAlt_good next (U t) hk L [] hL hn (fun q hq=>by cases hq)
   have hlen:(forkL (layAlt (lay K M U n) next (U t) L []).1 (layAlt (lay K M U n) next (U t) L []).2).1.length=(layAlt (lay K M U n) next (U t) L []).1.length+1:=by simp[forkL]
   have hx:F[(layAlt (lay K M U n) next (U t) L []).1.length]? = some (0,(layAlt (lay K M U n) next (U t) L []).2,forkLeast (layAlt (lay K M U n) next (U t) L []).1 (layAlt (lay K M U n) next (U t) L []).2):=(hF _ (by omega) (by omega)).trans get_snoc_eq
   have hF' : Like F (layAlt (lay K M U n) next (U t) L []).1 L.length (layAlt (lay K M U n) next (U t) L []).1.length:=fun p h1 h2=>(hF p h1 (by omega)).trans (get_snoc_lt h2)
   obtain⟨x,hxm,hxu⟩:=hu
   obtain⟨L', d1,d2,d3,d4⟩:=(layAlt_mem next (U t) hk L [] hL hn hF').2.2 x hxm
   obtain⟨k1', hk1⟩:=hs x hxm next L' d1 d2 d3 u v k hxu hv
   exact⟨k1' + 1,Reads.by_fork hx rfl d4 hk1⟩
  rw[if_neg k3] at hF hG hu ⊢
  by_cases k4:K t=4
  ·rw[if_pos k4] at hF hG hu ⊢
   obtain⟨x,hx⟩:=s4 (.inl k4)
   rw[hx] at hF hG hk hs hu ⊢
   simp only[one_ex] at hu
   obtain⟨m,hm⟩:=hu
   exact loop_full (hk x (List.mem_singleton.2 rfl)) (hs x (List.mem_singleton.2 rfl)) hL hn hF m u v k hm hv
  rw[if_neg k4] at hF hG hu ⊢
  by_cases k5:K t=5
  ·rw[if_pos k5] at hF hG hu ⊢
   obtain⟨x,hx⟩:=s4 (.inr (.inl k5))
   rw[hx] at hF hG hk hs hu ⊢
   simp only[one_ex] at hu
   obtain⟨m,u1,u2,rfl,h1,h2⟩:=hu
   obtain⟨c1,c2,c3,c4⟩:=loop_like (hk x (List.mem_singleton.2 rfl)) hL hn hF
   obtain⟨k1', hk1⟩:=loop_full (hk x (List.mem_singleton.2 rfl)) (hs x (List.mem_singleton.2 rfl)) hL hn hF m u2 v k h2 hv
   rw[List.append_assoc]
   exact hs x (List.mem_singleton.2 rfl) L.length _ c1 c2 c3 u1 (u2++v) k1' h1 hk1
  rw[if_neg k5] at hF hG hu ⊢
  by_cases k6:K t=6
  ·rw[if_pos k6] at hF hG hu ⊢
   obtain⟨x,hx⟩:=s4 (.inr (.inr k6))
   rw[hx] at hF hG hk hs hu ⊢
   simp only[one_ex] at hu
   rw[layOpt] at hF ⊢
   obtain⟨a1,a2,a3,a4,a5,a6⟩:=hk x (List.mem_singleton.2 rfl) next L hL hn
   have hlen:(forkL (lay K M U n x next L).1 [next,(lay K M U n x next L).2]).1.length=(lay K M U n x next L).1.length+1:=by simp[forkL]
   have hat:F[(lay K M U n x next L).1.length]? = some (0,[next,(lay K M U n x next L).2],forkLeast (lay K M U n x next L).1 [next,(lay K M U n x next L).2]):=(hF _ (by omega) (by omega)).trans get_snoc_eq
   rcases hu with rfl | hu
   ·exact⟨k+1,Reads.by_fork (q:=next) hat rfl (by simp) hv⟩
   ·obtain⟨k1', hk1⟩:=hs x (List.mem_singleton.2 rfl) next L hL hn (fun p h1 h2=>(hF p h1 (by omega)).trans (get_snoc_lt h2)) u v k hu hv
    exact⟨k1' + 1,Reads.by_fork (q:=(lay K M U n x next L).2) hat rfl (by simp) hk1⟩
  rw[if_neg k6] at hF hG hu ⊢
  subst hu
  exact⟨k,hv⟩
end
end Go.Proofs.YtmablhmpfcefnaaGreatDoor
