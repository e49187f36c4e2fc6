/-
  PROVED HERE: what the texts DFBfs, DFBest, DFHouseE, DFAwakeS, DFFillA say.
-/
import Derived.Test.YtjkebndkeamijaaGreatDoorCF34
set_option maxRecDepth 100000
set_option maxHeartbeats 600000
namespace Go.Proofs.YtjkebndkeamijaaGreatDoor
def lexLt:List Int->List Int->Prop
 | a::x,b::y=>a<b\/(a=b/\lexLt x y)
 | _,_=>False
def shLt (x y:List Int):Prop:=x.length<y.length\/(x.length=y.length/\lexLt x y)
def shLe (x y:List Int):Prop:=x=y\/shLt x y
theorem lexLt_irr:∀x:List Int,¬lexLt x x:=by
 intro x
 induction x with
 | nil=>exact fun h=>h
 | cons a r ih=>
  rintro (h | h)
  ·omega
  ·exact ih h.2
theorem lexLt_trans:∀{x y z:List Int},lexLt x y->lexLt y z->lexLt x z:=by
 intro x
 induction x with
 | nil=>intro y z h;exact h.elim
 | cons a r ih=>
  intro y z h1 h2;cases y with
  | nil=>exact h1.elim
  | cons b y=>
   cases z with
   | nil=>exact h2.elim
   | cons c z=>
    rcases h1 with h1 | ⟨rfl,h1⟩
    ·rcases h2 with h2 | ⟨rfl,h2⟩
     ·exact .inl oo
     ·exact .inl h1
    ·rcases h2 with h2 | ⟨rfl,h2⟩
     ·exact .inl h2
     ·exact .inr ⟨rfl,ih h1 h2⟩
theorem shLt_trans {x y z:List Int}(h1:shLt x y)(h2:shLt y z):shLt x z:=by
 rcases h1 with h1 | ⟨h1,g1⟩
 ·rcases h2 with h2 | ⟨h2,_⟩
  ·exact .inl oo
  ·exact .inl oo
 ·rcases h2 with h2 | ⟨h2,g2⟩
  ·exact .inl oo
  ·exact .inr ⟨oo,lexLt_trans g1 g2⟩
theorem shLt_irr (x:List Int):¬shLt x x:=by
 rintro (h | h)
 ·omega
 ·exact lexLt_irr x h.2
theorem shLe_trans {x y z:List Int}(h1:shLe x y)(h2:shLe y z):shLe x z:=by
 rcases h1 with rfl | h1
 ·exact h2
 ·rcases h2 with rfl | h2
  ·exact .inr h1
  ·exact .inr (shLt_trans h1 h2)
theorem shLe_anti {x y:List Int}(h1:shLe x y)(h2:shLe y x):x=y:=by
 rcases h1 with h1 | h1
 ·exact h1
 ·rcases h2 with h2 | h2
  ·exact h2.symm
  ·exact(shLt_irr x (shLt_trans h1 h2)).elim
theorem shLe_prefix (u v:List Int):shLe u (u++v):=by
 cases v with
 | nil=>rw[List.append_nil];exact .inl rfl
 | cons a r=>exact .inr (.inl (by rw[List.length_append,List.length_cons];omega))
theorem lexLt_snoc:∀{x y:List Int} (a b:Int),lexLt x y->lexLt (x++[a]) (y++[b]):=by
 intro x
 induction x with
 | nil=>intro y a b h;exact h.elim
 | cons c r ih=>
  intro y a b h;cases y with
  | nil=>exact h.elim
  | cons d y=>
   rcases h with h | ⟨h,h'⟩
   ·exact .inl h
   ·exact .inr ⟨h,ih a b h'⟩
theorem lexLt_last:∀(x:List Int) {a b:Int},a<b->lexLt (x++[a]) (x++[b]):=by
 intro x
 induction x with
 | nil=>intro a b h;exact .inl h
 | cons c r ih=>intro a b h;exact .inr ⟨rfl,ih h⟩
theorem shLt_snoc {x y:List Int}(a b:Int)(h:shLt x y):shLt (x++[a]) (y++[b]):=by
 rcases h with h | ⟨h,g⟩
 ·exact .inl (by simp only[List.length_append,List.length_singleton];omega)
 ·exact .inr ⟨by simp only[List.length_append,List.length_singleton];omega,lexLt_snoc a b g⟩
theorem shLe_snoc {x y:List Int}(a:Int)(h:shLe x y):shLe (x++[a]) (y++[a]):=by
 rcases h with rfl | h
 ·exact .inl rfl
 ·exact .inr (shLt_snoc a a h)
theorem shLt_last (x:List Int){a b:Int}(h:a<b):shLt (x++[a]) (x++[b]):=.inr ⟨by simp,lexLt_last x h⟩
theorem shLt_more (x:List Int)(a:Int):shLt x (x++[a]):=.inl (by simp)
structure Bfs (A:List Int->Nat->Prop) (ws:List (List Int)) (i t:Nat):Prop where
 root:ws[0]? = some []
 sorted:ws.Pairwise shLt
 apart:ws.Pairwise (fun u v=>A u≠A v)
 no:∀(j:Nat) u,j<i->ws[j]? = some u->¬A u 1
 closed:∀(j:Nat) u (s:Nat),(j<i\/(j=i/\s<t))->s<16->ws[j]? = some u->(∃q,A (u++[(s:Int)]) q)->∃v∈ws,A v=A (u++[(s:Int)])/\shLe v (u++[(s:Int)])
 upper:∀u,ws[i]? = some u->∀v∈ws,shLt v (u++[(t:Int)])
 long:∀u∈ws,u=[]\/∃v x,u=v++[x]
theorem Bfs.first (A:List Int->Nat->Prop):Bfs A [[]] 0 0 where
 root:=rfl
 sorted:=List.pairwise_singleton _ _
 apart:=List.pairwise_singleton _ _
 no:=fun j u h=>by omega
 closed:=fun j u s h=>by omega
 upper:=fun u hu v hv=>by
  cases hu;rw[List.mem_singleton] at hv;subst hv;exact shLt_more [] _
 long:=fun u hu=>.inl (List.mem_singleton.1 hu)
theorem Bfs.skip {A:List Int->Nat->Prop}{ws:List (List Int)}{i t:Nat}(h:Bfs A ws i t){u:List Int}(hu:ws[i]? = some u)(hn:¬∃q,A (u++[(t:Int)]) q):Bfs A ws i (t+1) where
 root:=h.root
 sorted:=h.sorted
 apart:=h.apart
 no:=h.no
 closed:=fun j v s hj hs hv hq=>by
  by_cases e:j=i/\s=t
  ·obtain⟨rfl,rfl⟩:=e
   rw[hu] at hv;cases hv;exact(hn hq).elim
  ·exact h.closed j v s oo hs hv hq
 upper:=fun v hv x hx=>by
  rw[hu] at hv;cases hv;exact shLt_trans (h.upper u hu x hx) (shLt_last u oo)
 long:=h.long
theorem Bfs.seen {A:List Int->Nat->Prop}{ws:List (List Int)}{i t:Nat}(h:Bfs A ws i t){u v:List Int}(hu:ws[i]? = some u)(hv:v∈ws)(e:A v=A (u++[(t:Int)])):Bfs A ws i (t+1) where
 root:=h.root
 sorted:=h.sorted
 apart:=h.apart
 no:=h.no
 closed:=fun j x s hj hs hx hq=>by
  by_cases e' : j=i/\s=t
  ·obtain⟨rfl,rfl⟩:=e'
   rw[hu] at hx;cases hx;exact⟨v,hv,e,.inr (h.upper u hu v hv)⟩
  ·exact h.closed j x s oo hs hx hq
 upper:=fun v hv x hx=>by
  rw[hu] at hv;cases hv;exact shLt_trans (h.upper u hu x hx) (shLt_last u oo)
 long:=h.long
theorem Bfs.put {A:List Int->Nat->Prop}{ws:List (List Int)}{i t:Nat}(h:Bfs A ws i t){u:List Int}(hu:ws[i]? = some u)(hn:∀v∈ws,A v≠A (u++[(t:Int)])):Bfs A (ws++[u++[(t:Int)]]) i (t+1):=by
 have hi:i<ws.length:=(zzc.1 hu).1
 have h0:0<ws.length:=by omega
 have low:∀{j:Nat} {x:List Int},j<=i->(ws++[u++[(t:Int)]])[j]? = some x->ws[j]? = some x:=fun {j x} hj hx=>by
  rw[List.getElem?_append_left oo] at hx;exact hx
 refine⟨?_,?_,?_,?_,?_,?_,?_⟩
 ·rw[List.getElem?_append_left h0];exact h.root
 ·rw[List.pairwise_append]
  refine⟨h.sorted,List.pairwise_singleton _ _,fun x hx y hy=>?_⟩;rw[List.mem_singleton] at hy;subst hy;exact h.upper u hu x hx
 ·rw[List.pairwise_append]
  refine⟨h.apart,List.pairwise_singleton _ _,fun x hx y hy=>?_⟩;rw[List.mem_singleton] at hy;subst hy;exact hn x hx
 ·exact fun j x hj hx=>h.no j x hj (low oo hx)
 ·intro j x s hj hs hx hq
  have hx' := low oo hx
  by_cases e' : j=i/\s=t
  ·obtain⟨rfl,rfl⟩:=e'
   rw[hu] at hx';cases hx';exact⟨u++[(s:Int)],List.mem_append_right _ (List.mem_singleton.2 rfl),rfl,.inl rfl⟩
  ·obtain⟨v,hv,e,l⟩:=h.closed j x s oo hs hx' hq
   exact⟨v,List.mem_append_left _ hv,e,l⟩
 ·intro v hv x hx
  have hv' := low (zzb _) hv;rw[hu] at hv';cases hv';rcases List.mem_append.1 hx with hx | hx
  ·exact shLt_trans (h.upper u hu x hx) (shLt_last u oo)
  ·rw[List.mem_singleton] at hx
   subst hx;exact shLt_last u oo
 ·intro x hx
  rcases List.mem_append.1 hx with hx | hx
  ·exact h.long x hx
  ·exact .inr ⟨u,_,List.mem_singleton.1 hx⟩
theorem pair_at {R:List Int->List Int->Prop}{ws:List (List Int)}(h:ws.Pairwise R){i j:Nat}{u v:List Int}(hij:i<j)(hu:ws[i]? = some u)(hv:ws[j]? = some v):R u v:=by
 obtain⟨h1,e1⟩:=zzc.1 hu
 obtain⟨h2,e2⟩:=zzc.1 hv
 have:=List.pairwise_iff_getElem.1 h i j h1 h2 hij
 rw[e1,e2] at this
 exact this
theorem Bfs.next {A:List Int->Nat->Prop}{ws:List (List Int)}{i:Nat}(h:Bfs A ws i 16){u:List Int}(hu:ws[i]? = some u)(hn:¬A u 1):Bfs A ws (i+1) 0 where
 root:=h.root
 sorted:=h.sorted
 apart:=h.apart
 no:=fun j v hj hv=>by
  by_cases e:j=i
  ·subst e
   rw[hu] at hv;cases hv;exact hn
  ·exact h.no j v oo hv
 closed:=fun j v s hj hs hv hq=>h.closed j v s oo hs hv hq
 upper:=fun v hv x hx=>by
  have huv:=pair_at h.sorted (Nat.lt_succ_self i) hu hv;have hxu:=h.upper u hu x hx;exact shLt_trans hxu (shLt_snoc _ _ huv)
 long:=h.long
theorem Bfs.ahead {A:List Int->Nat->Prop}{ws:List (List Int)}{i:Nat}(h:Bfs A ws i 0)(hA:∀u v x,A u=A v->A (u++[x])=A (v++[x]))(hs:∀u x,(∃q,A (u++[x]) q)->0<=x/\x<16)(hp:∀u v,(∃q,A (u++v) q)->∃q,A u q){ys:List Int}(hy:A ys 1) :
  ∃(k:Nat) (v:List Int),i<=k/\ws[k]? = some v/\shLe v ys:=by
 have go:∀(r u:List Int),u++r=ys->(∃(j:Nat) (v:List Int),j<i/\ws[j]? = some v/\A v=A u/\shLe v u)->∃(k:Nat) (v:List Int),i<=k/\ws[k]? = some v/\shLe v ys:=by
  intro r
  induction r with
  | nil=>
   rintro u e ⟨j,v,hj,hv,ev,_⟩;rw[List.append_nil] at e;subst e;exact(h.no j v hj hv (by rw[ev];exact hy)).elim
  | cons x r ih=>
   rintro u e ⟨j,v,hj,hv,ev,lv⟩;have hq:∃q,A (u++[x]) q:=hp (u++[x]) r ⟨1,by rw[List.append_assoc,List.singleton_append,e];exact hy⟩;obtain⟨x0,x1⟩:=hs u x hq;obtain⟨s,rfl⟩:∃s:Nat,x=(s:Int):=⟨x.toNat,oo⟩;have e1:=hA v u (s:Int) ev;obtain⟨v', hv', ev', lv'⟩:=h.closed j v s (.inl hj) oo hv (by rw[e1];exact hq);have l2:shLe v' (u++[(s:Int)]):=shLe_trans lv' (shLe_snoc _ lv);obtain⟨k,hk⟩:=List.getElem?_of_mem hv'
   by_cases hki:k<i
   ·exact ih (u++[(s:Int)]) (by rw[List.append_assoc,List.singleton_append];exact e) ⟨k,v', hki,hk,by rw[ev', e1],l2⟩
   ·refine⟨k,v', by omega,hk,shLe_trans l2 ?_⟩
    have:=shLe_prefix (u++[(s:Int)]) r
    rw[List.append_assoc,List.singleton_append,e] at this;exact this
 by_cases hi:0<i
 ·exact go ys [] rfl ⟨0,[],hi,h.root,rfl,.inl rfl⟩
 ·exact⟨0,[],oo,h.root,shLe_prefix [] ys⟩
theorem Bfs.found {A:List Int->Nat->Prop}{ws:List (List Int)}{i:Nat}(h:Bfs A ws i 0)(hA:∀u v x,A u=A v->A (u++[x])=A (v++[x]))(hs:∀u x,(∃q,A (u++[x]) q)->0<=x/\x<16)(hp:∀u v,(∃q,A (u++v) q)->∃q,A u q){u:List Int}(hu:ws[i]? = some u){ys:List Int}(hy:A ys 1):shLe u ys:=by
 obtain⟨k,v,hk,hv,l⟩:=h.ahead hA hs hp hy
 by_cases e:k=i
 ·subst e
  rw[hu] at hv;cases hv;exact l
 ·exact shLe_trans (.inr (pair_at h.sorted oo hu hv)) l
theorem Bfs.none {A:List Int->Nat->Prop}{ws:List (List Int)}{i:Nat}(h:Bfs A ws i 0)(hA:∀u v x,A u=A v->A (u++[x])=A (v++[x]))(hs:∀u x,(∃q,A (u++[x]) q)->0<=x/\x<16)(hp:∀u v,(∃q,A (u++v) q)->∃q,A u q)(hi:ws.length<=i){ys:List Int}(hy:A ys 1):False:=by
 obtain⟨k,v,hk,hv,_⟩:=h.ahead hA hs hp hy
 have:=(zzc.1 hv).1
 omega
noncomputable def code (P:Nat->Prop):List Nat->Nat
 | []=>0
 | q::l=>(open Classical in if P q then 1 else 0)+2 * code P l
theorem code_lt (P:Nat->Prop):∀l:List Nat,code P l<2 ^ l.length:=by
 intro l
 induction l with
 | nil=>exact Nat.one_pos
 | cons q l ih=>
  rw[code,List.length_cons,Nat.pow_succ]
  split<;>omega
theorem code_same {P Q:Nat->Prop}:∀{l:List Nat},code P l=code Q l->∀q∈l,P q↔Q q:=by
 intro l
 induction l with
 | nil=>intro _ q hq;cases hq
 | cons a l ih=>
  intro h q hq;rw[code,code] at h
  have h2:code P l=code Q l/\(P a↔Q a):=by
   by_cases hp:P a
   ·by_cases hq:Q a
    ·rw[if_pos hp,if_pos hq] at h;exact⟨oo,by simp[hp,hq]⟩
    ·rw[if_pos hp,if_neg hq] at h;omega
   ·by_cases hq:Q a
    ·rw[if_neg hp,if_pos hq] at h;omega
    ·rw[if_neg hp,if_neg hq] at h;exact⟨oo,by simp[hp,hq]⟩
  rcases List.mem_cons.1 hq with rfl | hq
  ·exact h2.2
  ·exact ih h2.1 q hq
theorem few_nats:∀(m:Nat) (l:List Nat),l.Nodup->(∀x∈l,x<m)->l.length<=m:=by
 intro m
 induction m with
 | zero=>
  intro l _ h;cases l with
  | nil=>exact zzb _
  | cons a r=>exact absurd (h a (zzg ..)) (Nat.not_lt_zero _)
 | succ m ih=>
  intro l hd h
  have h1:=ih (l.erase m) (hd.sublist List.erase_sublist) (fun x hx=>by
   rw[hd.mem_erase_iff] at hx
   have:=h x hx.2
   omega)
  have h2:=List.length_erase (a:=m) (l:=l)
  by_cases hm:m∈l
  ·rw[if_pos hm] at h2;omega
  ·rw[if_neg hm] at h2;omega
theorem Bfs.few {A:List Int->Nat->Prop}{ws:List (List Int)}{i t:Nat}(h:Bfs A ws i t)(nx:List Nat)(G:List Int->Nat->Prop)(hG:∀u v x y,(∀q∈nx,G (u++[x]) q↔G (v++[y]) q)->A (u++[x])=A (v++[y])):ws.length<=2 ^ nx.length+1:=by
 cases ws with
 | nil=>exact zzn _
 | cons w0 r=>
  obtain rfl:w0=[]:=by have:=h.root;simpa using this
  have hl:∀u∈r,∃v x,u=v++[x]:=fun u hu=>by
   rcases h.long u (zzk _ hu) with rfl | h'
   ·exact(shLt_irr [] ((List.pairwise_cons.1 h.sorted).1 [] hu)).elim
   ·exact h'
  have hd:(r.map fun u=>code (G u) nx).Nodup:=by
   unfold List.Nodup;rw[List.pairwise_map];refine List.Pairwise.imp_of_mem ?_ (List.pairwise_cons.1 h.apart).2;intro u v hu hv hne he;obtain⟨u', x,rfl⟩:=hl u hu;obtain⟨v', y,rfl⟩:=hl v hv;exact hne (hG u' v' x y (code_same he))
  have:=few_nats (2 ^ nx.length) _ hd (fun x hx=>by
   obtain⟨u,_,rfl⟩:=List.mem_map.1 hx
   exact code_lt _ _)
  rw[List.length_map] at this;rw[List.length_cons];omega
end Go.Proofs.YtjkebndkeamijaaGreatDoor
namespace Go.Proofs.YtjkebndkeamijaaGreatDoor
open Go.RowKit
theorem low_step {F:List Place}(hF:wf F){S:Nat->Prop}{m:Nat}(hm:∀p,S p->m+1<=leastAt F p)(t:Int):∀p,stepS F S t p->m<=leastAt F p:=by
 rintro r ⟨a,y,s,k,ha,hy,hty,hs,hv⟩
 obtain⟨q', g1,_,g3⟩:=step_at hF hy (takes_ne hty)
 rw[g1] at hs
 cases hs
 have e1:=hm a ha
 rw[leastAt_some hy] at e1
 have e2:=via_least hF hv
 omega
theorem low_word {F:List Place}(hF:wf F):∀(ys:List Int) (S:Nat->Prop) (m:Nat),(∀p,S p->m<=leastAt F p)->(ys.foldl (stepS F) S) 0->m<=ys.length:=by
 intro ys
 induction ys with
 | nil=>
  intro S m hm h
  have:=hm 0 h
  rw[leastAt_some hF.1] at this;exact this
 | cons y r ih=>
  intro S m hm h;cases m with
  | zero=>exact zzn _
  | succ m=>
   have:=ih (stepS F S y) m (low_step hF hm y) h
   rw[List.length_cons];omega
theorem greedy_least {F:List Place}(hF:wf F):∀(m:Nat) (S:Nat->Prop) (xs:List Int),Shut1 F S->MinS F S m->Greedy F m S xs->xs.length=m->∀ys,(ys.foldl (stepS F) S) 0->shLe xs ys:=by
 intro m
 induction m with
 | zero=>
  intro S xs _ _ h _ ys _;have h' : xs=[]:=h;rw[h'];exact shLe_prefix [] ys
 | succ m ih=>
  rintro S xs hS hm ⟨j,r,rfl,⟨p,x,hp,hx,hl,hb⟩,hno,hr⟩ hlen ys hy;(have hlen' : r.length=m:=by rw[List.length_cons] at hlen;omega);have hj:j<16\/¬j<16:=Nat.lt_or_ge j 16 |>.imp id (fun h=>by omega);cases ys with
  | nil=>
   have:=(min_zero hF hS hm).2 hy
   omega
  | cons y q=>
   have hq:=low_word hF (y::q) S (m+1) hm.2 hy;rw[List.length_cons] at hq
   by_cases hql:q.length=m
   ·-- as long: some place on a shortest way takes y
    have hex:∃p x,S p/\F[p]? = some x/\takes x.1 y=true/\x.2.2=m+1:=by
     refine Classical.byContradiction fun hc=>?_
     have hlow:∀p,stepS F S y p->m+1<=leastAt F p:=by
      rintro r' ⟨a,z,s,k,ha,hz,htz,hs,hv⟩;obtain⟨q', g1,_,g3⟩:=step_at hF hz (takes_ne htz);rw[g1] at hs;cases hs;have e1:=hm.2 a ha;rw[leastAt_some hz] at e1;have e2:=via_least hF hv;(have e3:z.2.2≠m+1:=fun e=>hc ⟨a,z,ha,hz,htz,e⟩);omega
     have:=low_word hF q (stepS F S y) (m+1) hlow hy
     omega
    obtain⟨p', x', hp', hx', ht', hl'⟩:=hex
    have hty:0<=y/\y<16/\x'.1.testBit y.toNat=true:=by
     unfold takes at ht';simp only[Bool.and_eq_true,decide_eq_true_eq] at ht';exact⟨ht'.1.1,ht'.1.2,ht'.2⟩
    have hjy:(j:Int)<=y:=by
     (refine Classical.byContradiction fun hc=>?_);exact hno y.toNat oo ⟨p', x', hp', hx', hl', hty.2.2⟩
    rcases Int.lt_or_eq_of_le hjy with hlt | heq
    ·exact .inr (.inr ⟨by rw[List.length_cons,List.length_cons,hlen', hql],.inl hlt⟩)
    ·subst heq
     have hmin:=min_step hF hm hp' hx' ht' hl';rcases ih (stepS F S (j:Int)) r (stepS_shut _ _ _) hmin hr hlen' q hy with rfl | hs
     ·exact .inl rfl
     ·refine .inr (.inr ⟨by rw[List.length_cons,List.length_cons,hlen', hql],.inr ⟨rfl,?_⟩⟩)
      rcases hs with hs | hs
      ·omega
      ·exact hs.2
   ·exact .inr (.inl (by rw[List.length_cons,List.length_cons];omega))
def BestD (gs:List Grp)(n:Nat)(t:DataW Unit)(zs xs:List Int):Prop:=LangD gs n t (zs++xs)/\∀ys,LangD gs n t (zs++ys)->shLe xs ys
theorem best_one {gs:List Grp}{n:Nat}{t:DataW Unit}{zs xs ys:List Int}(h1:BestD gs n t zs xs)(h2:BestD gs n t zs ys):xs=ys:=shLe_anti (h1.2 ys h2.1) (h2.2 xs h1.1)
def FilledB (gs:List Grp)(n:Nat)(t:DataW Unit)(zs:List Int)(w w' : World)(e:Ending):Prop :=
 Below w.heap.size w w' /\ ((¬PreD gs n t zs/\e=.returned (.tuple #[.slice none 0 0,.bool false]))\/(PreD gs n t zs/\∃(a:Option Addr) (c:Nat) (xs:List Int),e=.returned (.tuple #[.slice a xs.length c,.bool true])/\Ints w' a xs.length xs/\BestD gs n t zs xs))
theorem filled_best {gs:List Grp}{n:Nat}{t:DataW Unit}{zs:List Int}{w w' : World}{e:Ending}(hc:chk n t gs=0)(h:Filled gs n t zs w w' e):FilledB gs n t zs w w' e:=by
 refine⟨h.1,?_⟩
 rcases h.2 with h2 | ⟨hp,a,c,xs,m,h1,h2,h3,h4,h5,h6,h7,h8⟩
 ·exact .inl h2
 ·refine .inr ⟨hp,a,c,xs,h1,h2,h8,fun ys hy=>?_⟩
  refine greedy_least (plan_sound hc).1.wf m _ xs (afterS_shut (startS_shut _ _) _) h6 h7 h4 ys ?_
  have:=(after_lang hc (zs++ys)).2 hy
  unfold afterS at this ⊢;rw[List.foldl_append] at this;exact this
theorem pow_ones {P:Int->Prop}:∀(m:Nat) (w:List Int),LPow (fun v=>∃a,v=[a]/\P a) m w↔(w.length=m/\∀a∈w,P a):=by
 intro m
 induction m with
 | zero=>
  intro w;rw[LPow]
  constructor
  ·rintro rfl
   exact⟨rfl,fun a h=>by cases h⟩
  ·exact fun h=>List.length_eq_zero_iff.1 h.1
 | succ m ih=>
  intro w;rw[LPow]
  constructor
  ·rintro⟨u,v,rfl,⟨a,rfl,ha⟩,hv⟩
   obtain⟨h1,h2⟩:=(ih v).1 hv;refine⟨by rw[List.length_append,List.length_singleton];omega,fun b hb=>?_⟩;rcases List.mem_append.1 hb with hb | hb
   ·rw[List.mem_singleton] at hb;subst hb;exact ha
   ·exact h2 b hb
  ·rintro⟨h1,h2⟩
   cases w with
   | nil=>cases h1
   | cons a r=>
    exact⟨[a],r,rfl,⟨a,rfl,h2 a (zzg ..)⟩,(ih r).2 ⟨by rw[List.length_cons] at h1;omega,fun b hb=>h2 b (zzk _ hb)⟩⟩
theorem lang_inner (gs:List Grp)(nm:ByteArray):(fun v=>∃x∈[node 1 nm []],Lang kindT (fun t=>maskG gs (nameT t)) subs 199 x v)=fun v=>∃a,v=[a]/\takes (maskG gs nm) a=true:=by
 funext v
 refine propext ⟨?_,?_⟩
 ·rintro⟨x,hx,h⟩
  rw[List.mem_singleton] at hx;subst hx;rw[Lang,if_pos (show kindT (node 1 nm [])=1 from rfl)] at h;exact h
 ·intro h
  refine⟨_,List.mem_singleton.2 rfl,?_⟩;rw[Lang,if_pos (show kindT (node 1 nm [])=1 from rfl)];exact h
theorem lang_plusN (gs:List Grp)(s nm:ByteArray)(w:List Int):LangD gs 200 (node 5 s [node 1 nm []]) w↔(w≠[]/\∀a∈w,takes (maskG gs nm) a=true):=by
 have e:LangD gs 200 (node 5 s [node 1 nm []]) w↔∃m,LPow (fun v=>∃x∈[node 1 nm []],Lang kindT (fun t=>maskG gs (nameT t)) subs 199 x v) (m+1) w:=by
  unfold LangD;rw[Lang,if_neg (show ¬kindT (node 5 s [node 1 nm []])=1 by rw[kindT_node];decide),if_neg (show ¬kindT (node 5 s [node 1 nm []])=2 by rw[kindT_node];decide),if_neg (show ¬kindT (node 5 s [node 1 nm []])=3 by rw[kindT_node];decide),if_neg (show ¬kindT (node 5 s [node 1 nm []])=4 by rw[kindT_node];decide),if_pos (show kindT (node 5 s [node 1 nm []])=5 from rfl)];exact Iff.rfl
 rw[e,lang_inner]
 constructor
 ·rintro⟨m,h⟩
  obtain⟨h1,h2⟩:=(pow_ones _ _).1 h;exact⟨fun e=>(by rw[e] at h1;cases h1),h2⟩
 ·rintro⟨h1,h2⟩
  refine⟨w.length - 1,(pow_ones _ _).2 ⟨?_,h2⟩⟩
  have:w.length≠0:=fun e=>h1 (List.length_eq_zero_iff.1 e)
  omega
theorem lang_starN (gs:List Grp)(s nm:ByteArray)(w:List Int):LangD gs 200 (node 4 s [node 1 nm []]) w↔∀a∈w,takes (maskG gs nm) a=true:=by
 have e:LangD gs 200 (node 4 s [node 1 nm []]) w↔∃m,LPow (fun v=>∃x∈[node 1 nm []],Lang kindT (fun t=>maskG gs (nameT t)) subs 199 x v) m w:=by
  unfold LangD;rw[Lang,if_neg (show ¬kindT (node 4 s [node 1 nm []])=1 by rw[kindT_node];decide),if_neg (show ¬kindT (node 4 s [node 1 nm []])=2 by rw[kindT_node];decide),if_neg (show ¬kindT (node 4 s [node 1 nm []])=3 by rw[kindT_node];decide),if_pos (show kindT (node 4 s [node 1 nm []])=4 from rfl)];exact Iff.rfl
 rw[e,lang_inner]
 constructor
 ·rintro⟨m,h⟩
  exact((pow_ones _ _).1 h).2
 ·intro h
  exact⟨w.length,(pow_ones _ _).2 ⟨rfl,h⟩⟩
def gsH:List Grp:=namesD houseL houseG
def blockB:ByteArray:=⟨#[98,108,111,99,107]⟩
theorem tree_block:outTree houseW=node 5 ⟨#[]⟩ [node 1 blockB []]:=by kernel_rfl
theorem tree_text:outTree textS=node 4 ⟨#[]⟩ [node 1 textB []]:=by kernel_rfl
theorem mask_block:maskG gsH blockB=190:=by kernel_rfl
theorem mask_text:maskG gsH textB=1:=by kernel_rfl
theorem words_block (w:List Int):LangD gsH 200 (outTree houseW) w↔(w≠[]/\∀a∈w,takes 190 a=true):=by rw[tree_block,lang_plusN,mask_block]
theorem words_text (w:List Int):LangD gsH 200 (outTree textS) w↔∀a∈w,takes 1 a=true:=by rw[tree_text,lang_starN,mask_text]
theorem house_kinds {w:World}{B:Nat}(h:MadeS w B houseW houseL houseG):∃g c ng nc ks,SchAt w B g c ng nc ks gsH (treesOf houseW houseL)/\ks.length=8/\∀i,specOf ks i=((zeroS::houseL)[i]?).getD zeroS:=by
 obtain⟨g,c,ng,nc,ks,h1,h2⟩:=h
 refine⟨g,c,ng,nc,ks,h1,?_,fun i=>?_⟩
 ·have:=congrArg List.length h2
  rw[List.length_map] at this;exact this
 ·unfold specOf
  rw[<-List.getElem?_map,h2]
theorem pre_of {n:Nat}{t:DataW Unit}{gs:List Grp}(h:chk n t gs=0){w v:List Int}(hl:LangD gs n t (w++v)):PreD gs n t w:=pre_less ⟨0,(after_lang h _).2 hl⟩
theorem long_nil {gs:List Grp}{t:DataW Unit}(h:PreD gs 200 t []):LongD gs 200 t [] 0:=⟨zzb _,h,fun h=>absurd h (Nat.not_lt_zero _)⟩
def openP:Tok:=⟨1,1,0,0⟩
def closeT:Tok:=⟨2,0,0,0⟩
theorem wordF_lang {gs:List Grp}{t:DataW Unit}{l:List Tok}{i:Int}{ps:List Int}(h:LangD gs 200 t (wordD l ps)):wordF gs t l i ps=2049:=by
 unfold wordF
 rw[if_pos h]
theorem faultD_fit {ks:List KindD}{gs:List Grp}{t:DataW Unit}{s:SpecD}{l:List Tok}{i:Int}(hf:∀p∈kids l i,fitsB ks s ((l[p.toNat]?).getD ⟨0,0,0,0⟩)=true):faultD ks gs t s l i=wordF gs t l i (kids l i):=by
 unfold faultD
 have key:∀(f j:Nat),j+f=(kids l i).length->faultK ks gs t s l i (kids l i) j f=wordF gs t l i (kids l i):=by
  intro f
  induction f with
  | zero=>intro j _;rw[faultK]
  | succ f ih=>
   intro j hj
   have hm:(kids l i).getD j 0∈kids l i:=by
    rw[List.getD_eq_getElem?_getD,zze (show j<(kids l i).length by omega)];exact List.getElem_mem _
   rw[faultK,if_pos (hf _ hm)];exact ih (j+1) oo
 exact key _ 0 oo
theorem check_pp:check [openP,closeT]=(2,0):=by decide
theorem check_nil:check []=(0,0):=by decide
theorem check_para {ks:List KindD}(h8:ks.length=8)(hs:∀i,specOf ks i=((zeroS::houseL)[i]?).getD zeroS):checkS ks gsH (treesOf houseW houseL) [openP,closeT]=(2,0):=by
 have k1:kids [openP,closeT] (-1)=[0]:=by decide
 have k2:kids [openP,closeT] 0=[]:=by decide
 have f1:faultD ks gsH ((treesOf houseW houseL).getD 0 emptyT) (specOf ks 0) [openP,closeT] (-1)=2049:=by
  rw[faultD_fit,k1]
  ·exact wordF_lang ((words_block _).2 ⟨by decide,by decide⟩)
  ·intro p hp
   rw[k1,List.mem_singleton] at hp;subst hp
   show fitsB ks (specOf ks 0) openP=true
   unfold fitsB;rw[if_neg (by decide),if_pos (by rw[h8];decide),hs]
   decide
 have f2:faultAt ks gsH (treesOf houseW houseL) [openP,closeT] 0=2049:=by
  unfold faultAt;(have ht:typeAt [openP,closeT] ((0:Nat):Int)=1:=by decide);rw[ht,faultD_fit]
  ·show wordF gsH (outTree textS) [openP,closeT] 0 (kids [openP,closeT] 0)=2049
   rw[k2];exact wordF_lang ((words_text _).2 (fun a ha=>by cases ha))
  ·intro p hp
   have:kids [openP,closeT] ((0:Nat):Int)=[]:=k2
   rw[this] at hp;cases hp
 have ff:firstS ks gsH (treesOf houseW houseL) [openP,closeT]=2049:=by
  unfold firstS;rw[f1]
  show foldF ks gsH (treesOf houseW houseL) [openP,closeT] 0 2 2049=2049
  rw[foldF,if_neg (by decide),if_pos (by decide),f2,foldF,if_neg (by decide),if_neg (by decide),foldF]
  decide
 unfold checkS
 rw[check_pp,if_neg (by decide),ff,if_neg (by decide)]
 rfl
theorem check_none {ks:List KindD}(hck:chk 200 (outTree houseW) gsH=0):checkS ks gsH (treesOf houseW houseL) []=(0,9):=by
 have k1:kids [] (-1)=[]:=by decide
 have hpre:PreD gsH 200 (outTree houseW) []:=pre_of (v:=[1]) hck ((words_block _).2 ⟨by decide,by decide⟩)
 have f1:faultD ks gsH ((treesOf houseW houseL).getD 0 emptyT) (specOf ks 0) [] (-1)=0:=by
  rw[faultD_fit,k1]
  ·show wordF gsH (outTree houseW) [] (-1) []=0
   unfold wordF;rw[show wordD [] []=([]:List Int) from rfl,if_neg (fun h=>((words_block _).1 h).1 rfl),begN_eq (long_nil hpre),if_neg (by decide),if_pos rfl]
   rfl
  ·intro p hp
   rw[k1] at hp;cases hp
 have ff:firstS ks gsH (treesOf houseW houseL) []=0:=by
  unfold firstS;rw[f1]
  rfl
 unfold checkS
 rw[check_nil,if_neg (by decide),ff,if_pos (by decide)]
theorem lies_none:Lies none 0 0:=by
 unfold Lies
 simp
theorem toks_nil (w:World):Toks w none 0 []:=⟨rfl,.inl rfl⟩
theorem toks_pp (w:World)(b:Nat)(h:w.heap[b]? = some (.cells #[.int .i64 1,.int .i64 1,.int .i64 0,.int .i64 0,.int .i64 2,.int .i64 0,.int .i64 0,.int .i64 0] 58 (0,0))):Toks w (some ⟨b,0,none⟩) 2 [openP,closeT]:=by
 have hc:=fun j=>cell_of_row w b j _ _ _ h
 refine⟨rfl,.inr ⟨b,0,rfl,(zza.1 h).1,fun i x hx=>?_⟩⟩
 match i,hx with
 | 0,hx=>cases hx;exact⟨hc 0,hc 1,hc 2,hc 3⟩
 | 1,hx=>cases hx;exact⟨hc 4,hc 5,hc 6,hc 7⟩
 | n+2,hx=>simp at hx
theorem house_ck {w:World}{B g c ng nc:Nat}{ks:List KindD}(h:SchAt w B g c ng nc ks gsH (treesOf houseW houseL))(h8:ks.length=8):chk 200 (outTree houseW) gsH=0:=by
 obtain⟨x,hx⟩:∃x,ks[0]? = some x:=⟨_,zze oo⟩
 exact(h.trees 0 x _ hx rfl).2.2
theorem awakes_calls (w:World)(hE:ETy w):Calls Tryz.prog 7 #[] w fun e w' => e=.returned (.bool true)/\Below w.heap.size w w' := by
 have HH:Hid (∀X,Below w.heap.size w X->Calls Tryz.prog 8 #[] X fun e w' => ∃B,e=.returned (.pointer (some ⟨B,0,none⟩))/\MadeS w' B houseW houseL houseG/\Below X.heap.size X w'):=fun X hX=>house_calls X (hE.below hX)
 have HC1:Hid (∀(X:World) (B:Nat),MadeS X B houseW houseL houseG->Calls Tryz.prog 10 #[.pointer (some ⟨B,0,none⟩),.slice (some ⟨X.heap.size,0,none⟩) 2 2] (X.alloc (.cells #[.int .i64 1,.int .i64 1,.int .i64 0,.int .i64 0,.int .i64 2,.int .i64 0,.int .i64 0,.int .i64 0] 58)) fun e w' => e=.returned (.tuple #[.int .i64 2,.int .i64 0])/\Below X.heap.size X w'):=fun X B hm=>by
  have hBX:Below X.heap.size X (X.alloc (.cells #[.int .i64 1,.int .i64 1,.int .i64 0,.int .i64 0,.int .i64 2,.int .i64 0,.int .i64 0,.int .i64 0] 58)):=(zzd _ X).alloc (zzb _) _;obtain⟨g,c,ng,nc,ks,h1,h8,hs⟩:=house_kinds (hm.below hBX);refine(scheck_calls _ h1 oo (some ⟨X.heap.size,0,none⟩) 2 2 [openP,closeT] (toks_pp _ _ (World.alloc_heap_new X _)) (by unfold Lies;simp) oo (fun _ i x hx hk=>?_)).mono ?_
  ·match i,hx with
   | 0,hx=>cases hx;rw[h8];decide
   | 1,hx=>cases hx;exact absurd hk (by decide)
   | n+2,hx=>simp at hx
  ·rintro e w' ⟨rfl,hB⟩
   rw[check_para h8 hs];exact⟨rfl,hBX.trans (hB.mono hBX.size)⟩
 have HC2:Hid (∀(X:World) (B:Nat),MadeS X B houseW houseL houseG->Calls Tryz.prog 10 #[.pointer (some ⟨B,0,none⟩),.slice none 0 0] X fun e w' => e=.returned (.tuple #[.int .i64 0,.int .i64 9])/\Below X.heap.size X w'):=fun X B hm=>by
  obtain⟨g,c,ng,nc,ks,h1,h8,hs⟩:=house_kinds hm;refine(scheck_calls _ h1 oo none 0 0 [] (toks_nil X) lies_none oo (fun _ i x hx hk=>by simp at hx)).mono ?_;rintro e w' ⟨rfl,hB⟩;rw[check_none (house_ck h1 h8)];exact⟨rfl,hB⟩
 clear hE
 go_enter Tryz.func7,Tryz.ntmps7
 go_wp2_with fail
 refine(HH.out w (zzd _ _)).mono ?_
 rintro e X1 ⟨B1,rfl,hm1,hB1⟩
 have HX:=HC1.out X1 B1 hm1
 have HB1:=Hid.mk_ hB1
 clear hm1 hB1 HC1
 go_wp2_with fail
 refine HX.mono ?_
 rintro e X2 ⟨rfl,hB2⟩
 have HB2:=Hid.mk_ (HB1.out.trans (hB2.mono HB1.out.size))
 have HH2:=HH.out X2 HB2.out
 clear hB2 HX HB1 HH
 go_wp2_with fail
 refine HH2.mono ?_
 rintro e X3 ⟨B3,rfl,hm3,hB3⟩
 have HX3:=HC2.out X3 B3 hm3
 have HB3:=Hid.mk_ (HB2.out.trans (hB3.mono HB2.out.size))
 clear hm3 hB3 HC2 HH2 HB2
 go_wp2_with fail
 refine HX3.mono ?_
 rintro e X4 ⟨rfl,hB4⟩
 have HB4:=Hid.mk_ (HB3.out.trans (hB4.mono HB3.out.size))
 clear hB4 HX3 HB3
 go_wp2
 go_ret
 exact⟨rfl,HB4.out⟩
def addD (l:List Tok)(x:Tok):Option (List Tok):=if l.length=2048 then none else some (l++[x])
def fillL (F:List Tok->Int->Option (List Tok)):List Int->List Tok->Option (List Tok)
 | [],l=>some l
 | t::r,l=>match F l t with
  | none=>none
  | some l' => fillL F r l'
def fillS (sp:Nat->SpecD)(n:Nat)(ask:Nat->Option (List Int)):Nat->List Tok->Int->Option (List Tok)
 | 0,_,_=>none
 | f+1,l,t=>
  if 1<=t/\t<n then
   if (sp t.toNat).leaf=true then addD l ⟨3,t,(sp t.toNat).least,0⟩
   else match ask t.toNat with
    | none=>none
    | some ws=>if f=0 then none else match addD l ⟨1,t,(sp t.toNat).least,0⟩ with
     | none=>none
     | some l1=>match fillL (fun l t=>fillS sp n ask f l t) ws l1 with
      | none=>none
      | some l2=>addD l2 ⟨2,0,0,0⟩
  else none
def Heir (w:World)(v v' : Value):Prop:=v'.ownBlock=v.ownBlock\/∃k,w.heap.size<=k/\v'.ownBlock=some k
theorem Heir.step {w w1:World}{v v1 v2:Value}(h1:Heir w v v1)(h2:Heir w1 v1 v2)(hs:w.heap.size<=w1.heap.size):Heir w v v2:=by
 rcases h2 with h2 | ⟨k,h3,h4⟩
 ·rcases h1 with h1 | ⟨k,h3,h4⟩
  ·exact .inl (h2.trans h1)
  ·exact .inr ⟨k,h3,h2.trans h4⟩
 ·exact .inr ⟨k,Nat.le_trans hs h3,h4⟩
theorem grown_step {w w1 w2:World}{v v1:Value}(h1:w.grownBy w1 v.ownBlock)(hv:Heir w v v1)(h2:w1.grownBy w2 v1.ownBlock):w.grownBy w2 v.ownBlock:=by
 refine⟨h2.os.trans h1.os,h2.tape.trans h1.tape,h2.output.trans h1.output,Nat.le_trans h1.size h2.size,fun k hk hne=>?_⟩
 refine(h2.block k (zzl hk h1.size) (fun e=>?_)).trans (h1.block k hk hne)
 rcases hv with hv | ⟨q,h3,h4⟩
 ·exact hne (e.trans hv)
 ·rw[h4] at e
  injection e with e
  omega
theorem grown_any {w w' : World}(row:Option Nat)(h:Below w.heap.size w w'):w.grownBy w' row:=⟨h.os,h.tape,h.output,h.size,fun k hk _=>h.block k hk⟩
def FilledT (base:Nat)(v:Value)(w0 w w' : World)(e:Ending):Option (List Tok)->Prop
 | none=>w.grownBy w' v.ownBlock/\Below base w0 w' /\ e=.returned (.tuple #[.slice none 0 0,.bool false])
 | some l' => w.grownBy w' v.ownBlock/\Below base w0 w' /\ ∃a c,e=.returned (.tuple #[.slice a l'.length c,.bool true])/\w'.ownsRow base 58 4 (.slice a l'.length c) l'.length (flat l')/\Heir w v (.slice a l'.length c)
theorem addD_len {l l' : List Tok}{x:Tok}(h:addD l x=some l')(hl:l.length<=2048):l'.length<=2048:=by
 unfold addD at h
 split at h
 ·cases h
 ·cases h
  rw[List.length_append,List.length_singleton];omega
theorem fillL_len {F:List Tok->Int->Option (List Tok)}(hF:∀l t l', F l t=some l' -> l.length<=2048->l'.length<=2048):∀(ws:List Int) (l l' : List Tok),fillL F ws l=some l' -> l.length<=2048->l'.length<=2048:=by
 intro ws
 induction ws with
 | nil=>intro l l' h hl;cases h;exact hl
 | cons t r ih=>
  intro l l' h hl;rw[fillL] at h;cases hq:F l t with
  | none=>rw[hq] at h;cases h
  | some q=>rw[hq] at h;exact ih q l' h (hF l t q hq hl)
theorem fillS_len {sp:Nat->SpecD}{n:Nat}{ask:Nat->Option (List Int)}:∀(f:Nat) (l:List Tok) (t:Int) (l' : List Tok),fillS sp n ask f l t=some l' -> l.length<=2048->l'.length<=2048:=by
 intro f
 induction f with
 | zero=>intro l t l' h;cases h
 | succ f ih=>
  intro l t l' h hl;rw[fillS] at h
  split at h
  ·split at h
   ·exact addD_len h hl
   ·cases hq:ask t.toNat with
    | none=>rw[hq] at h;cases h
    | some ws=>
     rw[hq] at h;dsimp only at h
     split at h
     ·cases h
     ·cases ha:addD l ⟨1,t,(sp t.toNat).least,0⟩ with
      | none=>rw[ha] at h;cases h
      | some l1=>
       rw[ha] at h;dsimp only at h;cases hb:fillL (fun l t=>fillS sp n ask f l t) ws l1 with
       | none=>rw[hb] at h;cases h
       | some l2=>
        rw[hb] at h;exact addD_len h (fillL_len (fun l t l' => ih l t l') ws l1 l2 hb (addD_len ha hl))
  ·cases h
theorem tok_putF (W:World)(base:Nat)(v:Value)(l:List Tok)(hown:W.ownsRow base 58 4 v l.length (flat l))(x:Tok)(hlen:l.length<=1000000)(hbase:base<=W.heap.size)(b cap:Nat)(hc:∀j u,(flat [x])[j]? = some u->W.cell? ((⟨b,0,none⟩:Addr).add j)=some u) :
  ∃g' cap' W1,(Builtin.append_ #[22,22] 22 #[v,.slice (some ⟨b,0,none⟩) 1 cap]).run Tryz.prog W=.ok (.slice (some ⟨g', 0,none⟩) (l.length+1) cap') W1/\W1.ownsRow base 58 4 (.slice (some ⟨g', 0,none⟩) (l.length+1) cap') (l++[x]).length (flat (l++[x]))/\W.grownBy W1 v.ownBlock/\Heir W v (.slice (some ⟨g', 0,none⟩) (l.length+1) cap'):=by
 obtain⟨i0,hi,hz0,hz1,hz2⟩:=info_parts info23
 obtain⟨v', W1,hrun,r1,r2,_,r5⟩:=run_append_own_at (P:=Tryz.prog) W base 22 22 58 i0 _ 4 32 Tryz.underlying22 hi hz0 hz1 hz2 rfl (by decide) v l.length _ hown ⟨b,0,none⟩ 1 cap (flat [x]) rfl hc (flat_one [x]) (by unfold maxLen;omega) oo hbase
 rw[<-flat_append] at r1
 obtain⟨g,cap', rfl,_⟩:=owns_cell r1 (Nat.succ_pos _)
 exact⟨g,cap', W1,hrun,by rw[List.length_append];exact r1,r2,r5.imp id (fun e=>⟨_,zzb _,e⟩)⟩
theorem four_new (w:World)(x:Tok)(t:TypeId):∀j u,(flat [x])[j]? = some u->(w.alloc (.cells #[.int .i64 x.k,.int .i64 x.t,.int .i64 x.n,.int .i64 x.m] t)).cell? ((⟨w.heap.size,0,none⟩:Addr).add j)=some u:=by
 intro j u hj
 have hadd:(⟨w.heap.size,0,none⟩:Addr).add j=⟨w.heap.size,j,none⟩:=by unfold Addr.add;split<;>simp_all
 rw[hadd,cell_of_row _ _ j _ _ _ (World.alloc_heap_new w _)]
 show ([.int .i64 x.k,.int .i64 x.t,.int .i64 x.n,.int .i64 x.m]:List Value).toArray[j]? = some u
 rw[List.getElem?_toArray]
 exact hj
theorem added_calls (base:Nat)(w0 w:World)(hB:Below base w0 w)(a:Option Addr)(c:Nat)(l:List Tok)(hown:w.ownsRow base 58 4 (.slice a l.length c) l.length (flat l))(hlen:l.length<=2048)(hbase:base<=w.heap.size)(x:Tok) :
  Calls Tryz.prog 95 #[.slice a l.length c,tokV x] w fun e w' => FilledT base (.slice a l.length c) w0 w w' e (addD l x):=by
 unfold tokV
 have hB1:Below w.heap.size w (w.alloc (.cells #[.int .i64 x.k,.int .i64 x.t,.int .i64 x.n,.int .i64 x.m] 58)):=(zzd _ w).alloc (zzb _) _
 by_cases hf:l.length=2048
 ·have HA:Hid (addD l x=none):=by show addD l x=none;unfold addD;rw[if_pos hf]
  (have hd:((l.length:Int)==2048)=true:=by rw[hf];rfl);have HE:Hid (w.grownBy (w.alloc (.cells #[.int .i64 x.k,.int .i64 x.t,.int .i64 x.n,.int .i64 x.m] 58)) (Value.slice a l.length c).ownBlock/\Below base w0 (w.alloc (.cells #[.int .i64 x.k,.int .i64 x.t,.int .i64 x.n,.int .i64 x.m] 58))):=⟨grown_any _ hB1,hB.trans (hB1.mono hbase)⟩;(have hli:(l.length:Int)<=2048:=by omega);clear hB hB1 hown hf;go_enter Tryz.func95,Tryz.ntmps95;go_wp2;go_ret2;rw[HA.out];exact⟨HE.out.1,HE.out.2,rfl⟩
 ·have HA:Hid (addD l x=some (l++[x])):=by show addD l x=some (l++[x]);unfold addD;rw[if_neg hf]
  (have hd:((l.length:Int)==2048)=false:=by rw[beq_eq_false_iff_ne];omega);have hB2:Below w.heap.size w ((w.alloc (.cells #[.int .i64 x.k,.int .i64 x.t,.int .i64 x.n,.int .i64 x.m] 58)).alloc (.cells #[.int .i64 x.k,.int .i64 x.t,.int .i64 x.n,.int .i64 x.m] 58)):=hB1.alloc hB1.size _;(have hown2:=owns_same (w' := (w.alloc (.cells #[.int .i64 x.k,.int .i64 x.t,.int .i64 x.n,.int .i64 x.m] 58)).alloc (.cells #[.int .i64 x.k,.int .i64 x.t,.int .i64 x.n,.int .i64 x.m] 58)) hown fun k hk=>hB2.block k (owns_lt hown hk).1);obtain⟨g', cap', W1,hrun,hown3,hgr,hheir⟩:=tok_putF _ base _ l hown2 x oo (by have:=hB2.size;omega) (w.alloc (.cells #[.int .i64 x.k,.int .i64 x.t,.int .i64 x.n,.int .i64 x.m] 58)).heap.size 1 (four_new _ x _);rw[World.size_alloc] at hrun;have HRUN:=Hid.mk_ hrun;have hBZ:=hB.trans (hB2.mono hbase)
  have HE:Hid (w.grownBy W1 (Value.slice a l.length c).ownBlock/\Below base w0 W1/\W1.ownsRow base 58 4 (.slice (some ⟨g', 0,none⟩) (l++[x]).length cap') (l++[x]).length (flat (l++[x]))/\Heir w (.slice a l.length c) (.slice (some ⟨g', 0,none⟩) (l++[x]).length cap')):=by
   (have e:(l++[x]).length=l.length+1:=by rw[List.length_append,List.length_singleton]);rw[e] at hown3 ⊢;exact⟨grown_step (grown_any _ hB2) (.inl rfl) hgr,hBZ.grown hgr (by have:=hB2.size;omega) (fun k e=>owned_base hown e),hown3,hheir.imp id (fun ⟨k,h1,h2⟩=>⟨k,Nat.le_trans hB2.size h1,h2⟩)⟩
  (have hli:(l.length:Int)<=2048:=by omega);clear hB hB1 hB2 hown hown2 hrun hown3 hgr hBZ hf hheir;go_enter Tryz.func95,Tryz.ntmps95
  go_wp2_with (first
   | (at_builtin;refine wpList_run_append rfl (.tmp 9) (.tmp 11) 22 rfl _ _ _ _ rfl rfl HRUN.out ?_)
   | fail)
  go_ret2;rw[HA.out];exact⟨HE.out.1,HE.out.2.1,_,_,by rw[List.length_append,List.length_singleton];rfl,HE.out.2.2⟩
end Go.Proofs.YtjkebndkeamijaaGreatDoor
