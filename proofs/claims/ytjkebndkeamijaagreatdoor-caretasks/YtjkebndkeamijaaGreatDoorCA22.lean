/-
  PROVED HERE: what the texts DADoc, DAPair, DAEnd, DAFPartner, DAFPart, DAFKidsO say.
-/
import Derived.Test.YtjkebndkeamijaaGreatDoorCA21
set_option maxRecDepth 100000
set_option maxHeartbeats 4000000
namespace Go.Proofs.YtjkebndkeamijaaGreatDoor
theorem gLb (l m:List Tok)(i:Nat)(s:List Int):lO (l++m) i s=lO m (i+l.length) (lO l i s):=by
 induction l generalizing i s with
 | nil=>simp[lO]
 | cons x r ih=>
  rw[List.cons_append,lO,lO,ih,List.length_cons,show i+1+r.length=i+(r.length+1) from by omega]
theorem vH (l:List Tok)(k:Nat)(h:k<=l.length):gK l k=lO (l.take k) 0 []:=by
 unfold gK
 rw[if_pos oo,Int.toNat_natCast]
theorem pW (l:List Tok):gK l 0=[]:=by
 have:=vH l 0 (zzn _)
 simpa [lO] using this
theorem lX (l:List Tok)(k:Nat)(x:Tok)(h:l[k]? = some x):gK l ((k+1:Nat):Int)=lA x k (gK l k):=by
 have hk:k<l.length:=(zzc.1 h).1
 rw[vH l (k+1) hk,vH l k oo,List.take_add_one,h,gLb]
 rw[List.length_take,show 0+min k l.length=k from by omega]
 rfl
def oN (x:Tok)(d:Int):Int:=if x.k=1 then d+1 else if x.k=2 then d - 1 else d
def uK (x:Tok)(d:Int):Bool := !qV x||(x.k==2&&d==0)
def oA:List Tok->Int->Option Int
 | [],d=>some d
 | x::r,d=>if uK x d=true then none else if 32<oN x d then none else oA r (oN x d)
theorem gQa (x:Tok)(r:List Tok)(i:Nat)(d:Int):mM (x::r) i d=if uK x d=true then ((i:Int),4) else if 32<oN x d then ((i:Int),8) else mM r (i+1) (oN x d):=rfl
theorem gIc {x:Tok}{d:Int}(h:0<=d)(hw:uK x d=false):0<=oN x d:=by
 unfold oN
 unfold uK at hw
 split
 ·omega
 ·split
  ·rename_i h2
   simp[h2] at hw;omega
  ·exact h
theorem gPz (l:List Tok)(i:Nat)(d:Int)(h:0<=d):((mM l i d).2=0↔oA l d=some 0)/\(oA l d=some 0->mM l i d=(((i+l.length:Nat):Int),0)):=by
 induction l generalizing i d with
 | nil=>
  rw[mM,oA]
  split
  ·exact⟨⟨fun h=>by simp at h,fun h=>by simp at h;omega⟩,fun h=>by simp at h;omega⟩
  ·exact⟨⟨fun _=>by simp;omega,fun _=>rfl⟩,fun _=>by simp⟩
 | cons x r ih=>
  rw[gQa,oA];cases hw:uK x d with
  | true=>simp
  | false=>
   simp only[Bool.false_eq_true,if_false]
   split
   ·simp
   ·have:=ih (i+1) (oN x d) (gIc h hw)
    refine⟨this.1,fun e=>?_⟩;rw[this.2 e,List.length_cons,show i+1+r.length=i+(r.length+1) from by omega]
theorem rL (l:List Tok):(iO l).2=0↔l.length<=2048/\oA l 0=some 0:=by
 unfold iO
 split
 ·constructor
  ·intro h;exact absurd h (by decide)
  ·intro h;omega
 ·rw[(gPz l 0 0 oo).1]
  constructor
  ·intro h;exact⟨oo,h⟩
  ·intro h;exact h.2
def yQ:List Tok->Int->Int
 | [],d=>d
 | x::r,d=>max d (yQ r (oN x d))
theorem gTr (l:List Tok)(d:Int):d<=yQ l d:=by
 cases l with
 | nil=>exact Int.le_refl _
 | cons x r=>rw[yQ];omega
theorem yP {x:Tok}{r:List Tok}{d e:Int}(h:oA (x::r) d=some e):uK x d=false/\oN x d<=32/\oA r (oN x d)=some e:=by
 rw[oA] at h
 cases hw:uK x d with
 | true=>rw[hw] at h;simp at h
 | false=>
  rw[hw] at h;simp only[Bool.false_eq_true,if_false] at h
  split at h
  ·cases h
  ·exact⟨rfl,oo,h⟩
def mx (l:List Tok):Nat->Int
 | 0=>0
 | k+1=>max (mx l k) ((gK l k).length:Int)
theorem gDc {x:Tok}{i:Nat}{s:List Int}(hw:uK x s.length=false):((lA x i s).length:Int)=oN x s.length:=by
 unfold lA oN
 split
 ·simp
 ·split
  ·rename_i h2
   unfold uK at hw;simp[h2] at hw
   have:s.length≠0:=by
    intro e;exact hw.2 (List.length_eq_zero_iff.1 e)
   rw[List.length_dropLast];omega
  ·rfl
theorem gLc (l:List Tok)(k:Nat)(hk:k<=l.length)(h:oA l 0=some 0):max (mx l k) (yQ (l.drop k) (gK l k).length)=yQ l 0/\oA (l.drop k) (gK l k).length=some 0:=by
 induction k with
 | zero=>
  have h0:=pW l;rw[show ((0:Nat):Int)=0 from rfl,h0,mx]
  have:=gTr l 0
  simp only[List.drop_zero,List.length_nil];exact⟨by rw[show ((0:Nat):Int)=0 from rfl];omega,h⟩
 | succ k ih=>
  obtain⟨i1,i2⟩:=ih oo;obtain⟨x,hx,hd⟩:=uS (l:=l) (k:=k) oo;rw[hd] at i1 i2;obtain⟨hw,_,hg⟩:=yP i2;rw[lX l k x hx,gDc hw,mx];rw[yQ] at i1;exact⟨oo,hg⟩
theorem lY (l:List Tok)(k:Nat)(hk:k<l.length):∃x,l[k]? = some x/\kindAt l k=x.k/\gK l ((k+1:Nat):Int)=lA x k (gK l k):=by
 have hx:l[k]? = some l[k]:=zze hk
 exact⟨_,hx,iF hx,lX l k _ hx⟩
theorem qI (l:List Tok)(k:Nat)(hk:k<=l.length)(Q:List Int)(e:Int)(h:(Q++[e]) <+: gK l k) :
  ∃n:Nat,e=n/\n<k/\kindAt l n=1/\gK l n=Q/\∀m:Nat,n<m->m<=k->(Q++[e]) <+: gK l m:=by
 induction k with
 | zero=>
  rw[show ((0:Nat):Int)=0 from rfl,pW] at h
  have:=h.length_le
  simp at this
 | succ k ih=>
  obtain⟨x,hx,hkx,hs⟩:=lY l k oo
  have keep:(Q++[e]) <+: gK l k->∃n:Nat,e=n/\n<k+1/\kindAt l n=1/\gK l n=Q/\∀m:Nat,n<m->m<=k+1->(Q++[e]) <+: gK l m:=by
   intro h';obtain⟨n,h1,h2,h3,h4,h5⟩:=ih oo h';refine⟨n,h1,oo,h3,h4,fun m hm hm' => ?_⟩
   by_cases hmk:m=k+1
   ·subst hmk
    exact h
   ·exact h5 m hm oo
  rw[hs] at h;unfold lA at h
  split at h
  ·rename_i h1
   rcases List.prefix_concat_iff.1 h with h2 | h2
   ·obtain⟨h3,h4⟩:=List.append_inj' h2 rfl
    (obtain rfl:e=(k:Int):=by simpa using h4);refine⟨k,rfl,oo,by rw[hkx,h1],h3.symm,fun m hm hm' => ?_⟩;(obtain rfl:m=k+1:=by omega);rw[hs];unfold lA;rw[if_pos h1];exact h
   ·exact keep h2
  ·split at h
   ·exact keep (h.trans (List.dropLast_prefix _))
   ·exact keep h
theorem mB (l:List Tok)(k:Nat)(hk:k<=l.length)(n:Nat)(h:gB l k=n):gK l k=gK l n++[(n:Int)]:=by
 unfold gB at h
 cases hg:(gK l k).getLast? with
 | none=>rw[hg] at h;simp at h
 | some x=>
  rw[hg] at h;(obtain rfl:x=(n:Int):=by simpa using h);obtain⟨Q,hQ⟩:=List.getLast?_eq_some_iff.1 hg;obtain⟨n', e,_,_,h4,_⟩:=qI l k hk Q n (by rw[hQ];exact List.prefix_refl _);(obtain rfl:n=n' := by omega);rw[hQ,h4]
theorem yS (l:List Tok)(k:Nat)(Q:List Int)(e:Int)(h:gK l k=Q++[e]):gB l k=e:=by
 unfold gB
 rw[h]
 simp
theorem gUg (l:List Tok)(i p:Nat)(hp:p<l.length)(hi:i<p)(hk:kindAt l p=2)(ha:gB l p=i)(hpre:∀m:Nat,i<m->m<=p->(gK l i++[(i:Int)]) <+: gK l m) :
  ∀(m f:Nat),i<m->m<=p->m+f=l.length->rV l i m f=p:=by
 intro m f
 induction f generalizing m with
 | zero=>intro _ h2 h3;omega
 | succ f ih=>
  intro h1 h2 h3;rw[rV]
  by_cases hmp:m=p
  ·subst hmp
   rw[if_pos ⟨hk,ha⟩]
  ·rw[if_neg,ih (m+1) oo oo oo]
   rintro⟨h4,h5⟩;have h6:=mB l m oo i h5;obtain⟨x,hx,hkx,hs⟩:=lY l m oo;have h7:=(hpre (m+1) oo oo).length_le;rw[hs,h6] at h7;unfold lA at h7;rw[if_neg oo,if_pos oo,List.dropLast_concat,List.length_append,List.length_singleton] at h7;omega
theorem rW (l:List Tok)(i:Nat)(hi:i<l.length)(hk:kindAt l i=1):iU l i=rV l i (i+1) (l.length - (i+1)):=by
 unfold iU
 rw[if_neg oo,Int.toNat_natCast,if_neg oo,if_pos hk]
theorem rE (l:List Tok)(i:Nat)(hi:i<l.length)(hk:kindAt l i=2):iU l i=gB l i:=by
 unfold iU
 rw[if_neg oo,Int.toNat_natCast,if_pos hk]
theorem gKv (l:List Tok)(i:Nat)(h1:kindAt l i≠1)(h2:kindAt l i≠2):iU l i = -1:=by
 unfold iU
 split
 ·rfl
 ·rw[Int.toNat_natCast,if_neg h2,if_neg h1]
theorem gGc (l:List Tok)(h:oA l 0=some 0)(i:Nat)(hi:i<l.length)(hk:kindAt l i=2):∃n:Nat,n<i/\iU l i=n/\kindAt l n=1/\iU l n=i:=by
 obtain⟨x,hx,hd⟩:=uS (l:=l) (k:=i) hi
 obtain⟨_,hg⟩:=gLc l i oo h
 rw[hd] at hg
 obtain⟨hw,_,_⟩:=yP hg
 have hne:gK l i≠[]:=by
  intro e;rw[e] at hw;unfold uK at hw;rw[iF hx] at hk;simp[hk] at hw
 obtain⟨Q,e,hQ⟩:∃Q e,gK l i=Q++[e]:=⟨_,_,(List.dropLast_concat_getLast hne).symm⟩
 obtain⟨n,rfl,h2,h3,h4,h5⟩:=qI l i oo Q e (by rw[hQ];exact List.prefix_refl _)
 have ha:=yS l i Q n hQ
 refine⟨n,h2,by rw[rE l i hi hk,ha],h3,?_⟩
 rw[rW l n oo h3]
 exact gUg l n i hi h2 hk ha (by rw[h4];exact h5) (n+1) _ oo oo oo
theorem ends (l:List Tok)(h:oA l 0=some 0):gK l l.length=[]:=by
 obtain⟨_,i2⟩:=gLc l l.length (zzb _) h
 rw[List.drop_length,oA] at i2
 have:=zzo i2
 exact List.length_eq_zero_iff.1 oo
theorem gYl (l:List Tok)(h:oA l 0=some 0)(i:Nat)(f:Nat):∀m,i<m->m+f=l.length->(∀m' : Nat,i<m' -> m' <= m->(gK l i++[(i:Int)]) <+: gK l m') →
  ∃p:Nat,i<p/\p<l.length/\kindAt l p=2/\gK l p=gK l i++[(i:Int)]/\∀m' : Nat,i<m' -> m' <= p->(gK l i++[(i:Int)]) <+: gK l m' := by
 induction f with
 | zero=>
  intro m h1 h2 h3;have h4:=(h3 m h1 (zzb _)).length_le;rw[show m=l.length from by omega,ends l h] at h4;simp at h4
 | succ f ih=>
  intro m h1 h2 h3
  by_cases hp:(gK l i++[(i:Int)]) <+: gK l ((m+1:Nat):Int)
  ·refine ih (m+1) oo oo (fun m' h4 h5=>?_)
   by_cases hm:m' = m+1
   ·subst hm
    exact hp
   ·exact h3 m' h4 oo
  ·obtain⟨x,hx,hkx,hs⟩:=lY l m oo
   have h4:=h3 m h1 (zzb _);rw[hs] at hp;unfold lA at hp
   split at hp
   ·exact absurd (h4.trans (List.prefix_append _ _)) hp
   ·split at hp
    ·rename_i _ h6
     refine⟨m,h1,oo,by rw[hkx,h6],?_,h3⟩;obtain⟨R,hR⟩:=h4;cases R with
     | nil=>rw[<-hR,List.append_nil]
     | cons y R=>
      exfalso;apply hp;rw[<-hR,List.dropLast_append_of_ne_nil (by simp)];exact List.prefix_append _ _
    ·exact absurd h4 hp
theorem gWq (l:List Tok)(h:oA l 0=some 0)(i:Nat)(hi:i<l.length)(hk:kindAt l i=1) :
  ∃p:Nat,i<p/\p<l.length/\iU l i=p/\iU l p=i/\gB l p=i/\oA ((l.drop (i+1)).take (p - (i+1))) 0=some 0:=by
 obtain⟨x,hx,hkx,hs⟩:=lY l i hi
 have hs1:gK l ((i+1:Nat):Int)=gK l i++[(i:Int)]:=by rw[hs];unfold lA;rw[if_pos oo]
 obtain⟨p,p1,p2,p3,p4,p5⟩:=gYl l h i (l.length - (i+1)) (i+1) oo oo (fun m h1 h2=>by
  obtain rfl:m=i+1:=by omega
  rw[hs1]
  exact List.prefix_refl _)
 have ha:=yS l p _ _ p4
 refine⟨p,p1,p2,?_,by rw[rE l p p2 p3,ha],ha,?_⟩
 ·rw[rW l i hi hk]
  exact gUg l i p p2 p1 p3 ha p5 (i+1) _ oo oo oo
 ·have key:∀(f k:Nat),i<k->k+f=p->oA ((l.drop k).take f) ((gK l k).length - ((gK l i).length+1))=some 0:=by
   intro f
   induction f with
   | zero=>
    intro k _ h2;(obtain rfl:k=p:=by omega);rw[List.take_zero,oA,p4]
    simp
   | succ f ih=>
    intro k h1 h2;obtain⟨y,hy,hd⟩:=uS (l:=l) (k:=k) oo;obtain⟨_,hg⟩:=gLc l k oo h;rw[hd] at hg;obtain⟨hw,hdp,_⟩:=yP hg;have hl1:=(p5 (k+1) oo oo).length_le;have hl0:=(p5 k oo oo).length_le;(have hlen:((gK l ((k+1:Nat):Int)).length:Int)=oN y (gK l k).length:=by rw[lX l k y hy,gDc hw]);simp only[List.length_append,List.length_singleton] at hl1 hl0;have hdd:oN y ((gK l k).length - ((gK l i).length+1))=oN y (gK l k).length - ((gK l i).length+1):=by unfold oN;split<;>(try split)<;>omega
    have hw2:uK y ((gK l k).length - ((gK l i).length+1))=false:=by
     unfold uK at *;cases hr:qV y with
     | false=>rw[hr] at hw;simp at hw
     | true=>
      simp only[Bool.not_true,Bool.false_or,Bool.and_eq_false_iff,beq_eq_false_iff_ne]
      by_cases h2' : y.k=2
      ·right
       intro e;unfold oN at hlen;rw[if_neg oo,if_pos h2'] at hlen;omega
      ·exact .inl h2'
    rw[hd,List.take_succ_cons,oA,hw2,hdd];simp only[Bool.false_eq_true,if_false];rw[if_neg oo,<-hlen];exact ih (k+1) oo oo
  have:=key (p - (i+1)) (i+1) oo oo
  rw[hs1] at this;simpa using this
def tK (l:List Tok)(i k:Nat)(S:List Int):Prop :=
 (k=i/\S=[])\/(i<k/\∃S', S=(i:Int)::S' /\ (∀x∈S', (i:Int)<x)/\gK l k=gK l i++S)
theorem gAn {l:List Tok}{i k:Nat}{S:List Int}(h:tK l i k S)(hk:i<k):gB l k=S.getLast?.getD (-1)/\(gB l k=i↔S=[(i:Int)]):=by
 rcases h with ⟨rfl,_⟩ | ⟨_,S', rfl,h1,h2⟩
 ·omega
 ·have h3:gB l k=((i:Int)::S').getLast?.getD (-1):=by
   unfold gB;rw[h2,List.getLast?_append];cases h4:((i:Int)::S').getLast? with
   | none=>simp at h4
   | some y=>simp
  refine⟨h3,?_⟩;rw[h3]
  constructor
  ·intro h4
   cases S' with
   | nil=>rfl
   | cons y r=>
    (have h5:((i:Int)::y::r).getLast? = (y::r).getLast? := by simp[List.getLast?_cons]);rw[h5] at h4;cases h6:(y::r).getLast? with
    | none=>simp at h6
    | some z=>
     rw[h6] at h4
     have:=h1 z (List.mem_of_getLast? h6)
     simp at h4;omega
  ·intro h4
   rw[h4]
   rfl
theorem gFc {x:Tok}{k:Nat}{S:List Int}(h:x.k=1):lA x k S=S++[(k:Int)]:=by unfold lA;rw[if_pos h]
theorem gMs {x:Tok}{k:Nat}{S:List Int}(h:x.k=2):lA x k S=S.dropLast:=by unfold lA;rw[if_neg oo,if_pos h]
theorem gVi {x:Tok}{k:Nat}{S:List Int}(h1:x.k≠1)(h2:x.k≠2):lA x k S=S:=by unfold lA;rw[if_neg h1,if_neg h2]
theorem gFj {l:List Tok}{i k:Nat}{S:List Int}{x:Tok}(h:tK l i k S)(hik:i<=k)(hx:l[k]? = some x)(hi:kindAt l i=1) :
  (lA x k S=[]/\i<k/\x.k=2/\S=[(i:Int)])\/(lA x k S≠[]/\tK l i (k+1) (lA x k S)/\(i<k->¬(x.k=2/\S=[(i:Int)]))):=by
 have hs:=lX l k x hx
 rcases h with ⟨rfl,rfl⟩ | ⟨h0,S', rfl,h1,h2⟩
 ·rw[iF hx] at hi
  rw[gFc hi] at hs ⊢;refine .inr ⟨by simp,.inr ⟨oo,[],rfl,by simp,hs⟩,fun h=>by omega⟩
 ·by_cases k1:x.k=1
  ·rw[gFc k1] at hs ⊢
   refine .inr ⟨by simp,.inr ⟨oo,S' ++ [(k:Int)],rfl,fun y hy=>?_,?_⟩,fun _ h=>by omega⟩
   ·rcases List.mem_append.1 hy with hy | hy
    ·exact h1 y hy
    ·obtain rfl:y=(k:Int):=by simpa using hy
     omega
   ·rw[hs,h2]
    simp
  ·by_cases k2:x.k=2
   ·rw[gMs k2] at hs ⊢
    cases S' with
    | nil=>exact .inl ⟨rfl,h0,k2,rfl⟩
    | cons y r=>
     refine .inr ⟨by simp,.inr ⟨oo,(y::r).dropLast,rfl,fun z hz=>h1 z (List.dropLast_subset _ hz),?_⟩,fun _ h=>by simp at h⟩;rw[hs,h2,List.dropLast_append_of_ne_nil (by simp)]
   ·rw[gVi k1 k2] at hs ⊢
    exact .inr ⟨by simp,.inr ⟨oo,S', rfl,h1,by rw[hs,h2]⟩,fun _ h=>k2 h.1⟩
def gJx (l:List Tok)(i k:Nat)(P:Int):Prop:=(k=i/\P=rV l i (i+1) (l.length - (i+1)))\/(i<k/\P=rV l i k (l.length - k))
theorem hCt {l:List Tok}{i k:Nat}{S:List Int}{x:Tok}{P:Int}(h:tK l i k S)(hik:i<=k)(hk:k<l.length)(hx:l[k]? = some x)(hi:kindAt l i=1)(hP:gJx l i k P) :
  (lA x k S=[]/\P=k)\/(lA x k S≠[]/\tK l i (k+1) (lA x k S)/\gJx l i (k+1) P):=by
 have hst:=gFj h hik hx hi
 rcases hP with ⟨rfl,hP⟩ | ⟨hlt,hP⟩
 ·rcases hst with ⟨_,h2,_⟩ | ⟨h1,h2,_⟩
  ·omega
  ·exact .inr ⟨h1,h2,.inr ⟨oo,hP⟩⟩
 ·have ha:=(gAn h hlt).2
  rw[show l.length - k=(l.length - (k+1))+1 from by omega,rV,iF hx] at hP;rcases hst with ⟨h1,_,h3,h4⟩ | ⟨h1,h2,h3⟩
  ·rw[if_pos ⟨h3,ha.2 h4⟩] at hP
   exact .inl ⟨h1,hP⟩
  ·rw[if_neg (fun h=>h3 hlt ⟨h.1,ha.1 h.2⟩)] at hP
   exact .inr ⟨h1,h2,.inr ⟨oo,hP⟩⟩
theorem hCu {l:List Tok}{i:Nat}{P:Int}(hi:i<l.length)(hP:gJx l i l.length P):P = -1:=by
 rcases hP with ⟨h,_⟩ | ⟨_,h⟩
 ·omega
 ·rw[Nat.sub_self,rV] at h
  exact h
def mT (l:List Tok)(i:Int)(k:Nat)(out K:List Int):Prop:=(i=k/\out=[]/\K=nW l i (k+1) (l.length - (k+1)) [])\/(i<k/\K=nW l i k (l.length - k) out)
def kept (i:Int)(x:Tok)(k:Nat)(S out:List Int):List Int:=if S.getLast?.getD (-1)=i/\(x.k=0\/x.k=1\/x.k=3) then out++[(k:Int)] else out
theorem gXv {l:List Tok}{i k:Nat}{S out K:List Int}{x:Tok}(h:tK l i k S)(hik:i<=k)(hk:k<l.length)(hx:l[k]? = some x)(hi:kindAt l i=1)(hP:mT l i k out K) :
  (lA x k S=[]/\K=kept i x k S out)\/(lA x k S≠[]/\tK l i (k+1) (lA x k S)/\mT l i (k+1) (kept i x k S out) K):=by
 have hst:=gFj h hik hx hi
 rcases hP with ⟨e,rfl,hP⟩ | ⟨hlt,hP⟩
 ·obtain rfl:i=k:=by omega
  rcases hst with ⟨_,h2,_⟩ | ⟨h1,h2,_⟩
  ·omega
  ·refine .inr ⟨h1,h2,.inr ⟨oo,?_⟩⟩
   rcases h with ⟨_,rfl⟩ | ⟨h,_⟩
   ·unfold kept
    rw[if_neg (by simp),hP]
   ·omega
 ·have hlt' : i<k:=by omega
  obtain⟨ha1,ha⟩:=gAn h hlt'
  have hkp:kept i x k S out=if x.k≠2/\0<=x.k/\x.k<=3/\gB l k=i then out++[(k:Int)] else out:=by
   unfold kept;rw[<-ha1]
   by_cases c:gB l k=i/\(x.k=0\/x.k=1\/x.k=3)
   ·rw[if_pos c,if_pos oo]
   ·rw[if_neg c,if_neg oo]
  rw[show l.length - k=(l.length - (k+1))+1 from by omega,nW,iF hx,<-hkp] at hP;rcases hst with ⟨h1,_,h3,h4⟩ | ⟨h1,h2,h3⟩
  ·rw[if_pos ⟨h3,ha.2 h4,oo⟩] at hP
   refine .inl ⟨h1,?_⟩;rw[hP,hkp,if_neg oo]
  ·rw[if_neg (fun h=>h3 hlt' ⟨h.1,ha.1 h.2.1⟩)] at hP
   exact .inr ⟨h1,h2,.inr ⟨oo,hP⟩⟩
theorem gJf {l:List Tok}{i:Int}{out K:List Int}(hi:i<l.length)(hP:mT l i l.length out K):K=out:=by
 rcases hP with ⟨h,_⟩ | ⟨_,h⟩
 ·omega
 ·rw[Nat.sub_self,nW] at h
  exact h
theorem hCg {l:List Tok}{k:Nat}{out K:List Int}{x:Tok}(hk:k<l.length)(hx:l[k]? = some x)(hP:mT l (-1) k out K):mT l (-1) (k+1) (kept (-1) x k (gK l k) out) K:=by
 rcases hP with ⟨e,_⟩ | ⟨_,hP⟩
 ·omega
 ·refine .inr ⟨oo,?_⟩
  have hkp:kept (-1) x k (gK l k) out=if x.k≠2/\0<=x.k/\x.k<=3/\gB l k = -1 then out++[(k:Int)] else out:=by
   unfold kept;rw[show (gK l k).getLast?.getD (-1)=gB l k from rfl]
   by_cases c:gB l k = -1/\(x.k=0\/x.k=1\/x.k=3)
   ·rw[if_pos c,if_pos oo]
   ·rw[if_neg c,if_neg oo]
  rw[show l.length - k=(l.length - (k+1))+1 from by omega,nW,iF hx,<-hkp,if_neg oo] at hP;exact hP
end Go.Proofs.YtjkebndkeamijaaGreatDoor
namespace Go.Proofs.YtjkebndkeamijaaGreatDoor
open Go.RowKit
theorem sO (x:Tok)(k:Nat)(R:List Int):(lA x k R).length<=R.length+1:=by
 unfold lA
 split<;>(try split)<;>first | omega | (simp;done) | (simp;omega)
theorem gTp (a:Option Addr)(len cap:Nat)(l:List Tok)(i:Nat)(w:World)(hl:mC w a len l)(hsz:len<=4398046511104)(hi:i<len)(hk1:kindAt l i=1) :
  Calls Tryz.prog 160 #[.slice a len cap,.int .i64 (i:Int)] w fun e w' => e=.returned (.int .i64 (iU l i))/\Below w.heap.size w w' := by
 have hL:=hl.1
 have HP0:Hid (gJx l i i (iU l i)):=.inl ⟨rfl,rW l i oo hk1⟩
 have HS0:Hid (tK l i i []):=.inl ⟨rfl,rfl⟩
 have HN:Hid (Stk (w.alloc (.cells oB 111)) w.heap.size w.heap.size (.slice none 0 0) []):=yI w
 have HB0:Hid (∀o,Below w.heap.size w (w.alloc o)):=fun o=>(zzd _ w).alloc (zzb _) o
 have HK1:Hid (kindAt l i=1):=hk1
 clear hk1
 generalize iU l i=P at *
 go_enter Tryz.func160,Tryz.ntmps160
 go_wp2
 go_loopw [6] (fun u w' => ∃(k:Nat) (v:Value) (R:List Int),k<=len/\i<=k/\u=.int .i64 (k:Int)/\R.length<=k/\Stk w' w.heap.size w.heap.size v R/\tK l i k R/\gJx l i k P/\Below w.heap.size w w') (fun u _=>len - (intOf u).toNat)
 case atStart=>exact⟨i,_,[],oo,oo,rfl,by simp,HN.out,HS0.out,HP0.out,HB0.out _⟩
 case round=>
  obtain⟨k,v,R,hk,hik,rfl,hR,hS,hSi,hSe,hB⟩:=hrel;clear HP0 HS0 HN HB0
  by_cases hlt:k<len
  ·obtain⟨b,o,x,rfl,hbl,hx,hc⟩:=hl.token hlt
   obtain⟨c0,c1,c2,c3⟩:=hc wr hB
   have HP:Hid (Calls Tryz.prog 69 #[.pointer (some ⟨w.heap.size,0,none⟩),.int .i64 (k:Int),nT x] wr fun e w' => e=.returned (.tuple #[])/\∃v', Stk w' w.heap.size w.heap.size v' (lA x k R)/\Below w.heap.size wr w'):=by
    refine(uC w.heap.size w.heap.size v R k x wr hS hB.size oo).mono ?_;rintro e w' ⟨e1,v', e2,e3,_⟩;exact⟨e1,v', e2,e3.below (zzb _) (fun j hj=>(oF hS.2.1 j hj).1) hB.size⟩
   have HL:=sO x k R;have hst:=hCt hSi hik oo hx HK1.out hSe;clear hc hl hSi hSe hS hx;generalize lA x k R=R' at *;obtain⟨xk,xt,xn,xm⟩:=x;simp only[nT] at *;rcases hst with ⟨rfl,hP⟩ | ⟨h1,h2,h3⟩
   ·have HE:Hid (P=k):=hP
    clear hP;(go_wp2_with fail);refine HP.out.mono ?_;rintro e W2 ⟨rfl,v', hS2,hB4⟩;have hB5:=hB.trans hB4;obtain⟨-,s33,-⟩:=hS2.cells;simp only[List.length_nil] at s33;clear hS2;go_wp2;go_ret;exact⟨by rw[HE.out];rfl,hB5⟩
   ·have HE1:Hid (tK l i (k+1) R'):=h2
    have HE2:Hid (gJx l i (k+1) P):=h3;(have ne:((R'.length:Int)==0)=false:=by simpa using h1);clear h1 h2 h3;(go_wp2_with fail);refine HP.out.mono ?_;rintro e W2 ⟨rfl,v', hS2,hB4⟩;have hB5:=hB.trans hB4;obtain⟨-,s33,-⟩:=hS2.cells;have HS2:Hid (Stk W2 w.heap.size w.heap.size v' R'):=hS2;clear hS2;go_wp2
    go_roundw
    case rel=>exact⟨k+1,v', R', by omega,oo,rfl,oo,HS2.out,HE1.out,HE2.out,hB5⟩
    case measure=>simp[intOf];omega
  ·obtain rfl:k=len:=by omega
   have HE:Hid (P = -1):=hCu (l:=l) (i:=i) oo (by rw[hL];exact hSe);clear hSi hSe hS hl;go_wp2;go_ret;exact⟨by rw[HE.out];rfl,hB⟩
theorem k148{p:Prop}(h:p:=by
  go_enter Tryz.func135,Tryz.ntmps135;go_wp2;go_ret;exact⟨rfl,zzd _ _⟩
  ):p:=h
theorem gGz (a:Option Addr)(len cap:Nat)(l:List Tok)(i:Int)(w:World)(hl:mC w a len l)(hsz:len<=4398046511104)(hlie:gBw a len cap) :
  Calls Tryz.prog 135 #[.slice a len cap,.int .i64 i] w fun e w' => e=.returned (.int .i64 (iU l i))/\Below w.heap.size w w' := by
 have hp:iU l i=if i<0\/(len:Int)<=i then -1 else if kindAt l i.toNat=2 then gB l i else if kindAt l i.toNat=1 then rV l i (i.toNat+1) (len - (i.toNat+1)) else -1:=by unfold iU;rw[hl.1]
 by_cases h0:i<0
 ·rw[hp,if_pos (.inl h0)]
  exact k148
 have e0:decide (i<0)=false:=by simpa using h0
 by_cases h1:(len:Int)<=i
 ·rw[hp,if_pos (.inr h1)]
  exact k148
 obtain⟨n,rfl⟩:=Int.eq_ofNat_of_zero_le (show 0<=i by omega)
 have hn:n<len:=by omega
 have hE:=fun h1 W (hW:Below w.heap.size w W)=>gTp a len cap l n W (hl.below hW) hsz hn h1
 have hA:=fun W (hW:Below w.heap.size w W)=>zJ a len cap l (n:Int) W (hl.below hW) hsz hlie
 obtain⟨b,o,rfl,hbl,hc⟩:=hl.kindAt hn
 have hc0:=hc w (zzd _ _)
 rw[if_neg oo,Int.toNat_natCast] at hp
 have e1:decide ((len:Int)<=(n:Int))=false:=by simp;omega
 by_cases k2:kindAt l n=2
 ·rw[if_pos k2] at hp
  rw[k2] at hc0;rw[hp];clear hE;generalize gB l (n:Int)=y at *;go_enter Tryz.func135,Tryz.ntmps135;(go_wp2_with fail);refine(hA _ (zzd _ _)).mono ?_;rintro e W1 ⟨rfl,hB⟩;go_wp2;go_ret;exact⟨rfl,hB⟩
 by_cases k1:kindAt l n=1
 ·rw[k1] at hc0
  have hE' := hE k1;clear hE hp hA;generalize iU l (n:Int)=y at *;go_enter Tryz.func135,Tryz.ntmps135;(go_wp2_with fail);refine(hE' _ (zzd _ _)).mono ?_;rintro e W1 ⟨rfl,hB⟩;go_wp2;go_ret;exact⟨rfl,hB⟩
 ·rw[if_neg k2,if_neg k1] at hp
  rw[hp];clear hE hA;generalize kindAt l n=z at *;(have e1:(z==1)=false:=by simpa using k1);(have e2:(z==2)=false:=by simpa using k2);exact k148
theorem k154{p:Prop}(h:p:=by
  go_enter Tryz.func80,Tryz.ntmps80;go_wp2;go_ret;exact⟨rfl,rfl⟩
  ):p:=h
theorem zH (a:Option Addr)(len cap:Nat)(l:List Tok)(i:Int)(w:World)(hl:mC w a len l) :
  Calls Tryz.prog 80 #[.slice a len cap,.int .i64 i] w fun e w' => e=.returned (.bool (decide (0<=i/\i<len/\kindAt l i.toNat=1)))/\w' = w:=by
 by_cases h0:0<=i
 ·by_cases h1:i<len
  ·obtain⟨n,rfl⟩:=Int.eq_ofNat_of_zero_le h0
   obtain⟨b,o,rfl,hbl,hc⟩:=hl.kindAt (k:=n) oo;have hc0:=hc w (zzd _ _);rw[show decide (0<=(n:Int)/\(n:Int)<len/\kindAt l (n:Int).toNat=1)=(kindAt l n==1) from by rw[Bool.eq_iff_iff];simp;omega];clear hc;generalize kindAt l n=z at *;exact k154
  ·rw[show decide (0<=i/\i<len/\kindAt l i.toNat=1)=false from by simp;omega]
   (have e1:decide (i<(len:Int))=false:=by simpa using h1);exact k154
 ·rw[show decide (0<=i/\i<len/\kindAt l i.toNat=1)=false from by simp;omega]
  have e1:decide (0<=i)=false:=by simpa using h0
  exact k154
def mG (x:Tok):Bool:=x.k==0||(x.k==1||x.k==3)
theorem k122{p:Prop}(h:p:=by
  go_enter Tryz.func81,Tryz.ntmps81;go_wp2;go_ret;exact⟨rfl,(zzd _ _).alloc (zzb _) _⟩
  ):p:=h
theorem zG (x:Tok)(w:World):Calls Tryz.prog 81 #[nT x] w fun e w' => e=.returned (.bool (mG x))/\Below w.heap.size w w' := by
 obtain⟨k,t,n,m⟩:=x
 unfold mG nT
 simp only
 by_cases k0:k=0
 ·subst k0
  exact k122
 have e0:(k==0)=false:=by simpa using k0
 by_cases k1:k=1
 ·subst k1
  exact k122
 have e1:(k==1)=false:=by simpa using k1
 by_cases k3:k=3
 ·subst k3
  exact k122
 have e3:(k==3)=false:=by simpa using k3
 rw[e0,e1,e3]
 exact k122
def zP (u v:Value):Prop:=∀k,u.ownBlock=some k->v.ownBlock≠some k
theorem k120{p:Prop}(h:p:=by
  intro e;obtain⟨_,_,cur,h4⟩:=oF hu g e;rw[h2] at h4;exact absurd (Obj.cells.inj (zzo h4)).2.1 (by decide)
  ):p:=h
theorem gDq {w w2:World}{B g:Nat}{u u2 v:Value}{R:List Int}{o:Obj}{n:Nat}{xs:List Value}(hS:Stk w B g v R)(hu:w.ownsRow B 3 1 u n xs)(hA:zP u v)(hgrow:(w.alloc o).grownBy w2 u.ownBlock)(hat:u2.ownBlock=u.ownBlock\/u2.ownBlock=some (w.alloc o).heap.size) :
  Stk w2 B g v R/\zP u2 v/\(∀k,k<w.heap.size->u.ownBlock≠some k->w2.heap[k]? = w.heap[k]?)/\Below B w w2:=by
 have hk:∀k,k<w.heap.size->u.ownBlock≠some k->w2.heap[k]? = w.heap[k]? := fun k h1 h2=>by
  rw[hgrow.block k (by simp;omega) (fun e=>h2 e.symm),zzf w o k h1]
 have hg:=hS.cells.2.2.2.2.2
 obtain⟨h0,h1,cs,h2,h3⟩:=hS
 have hug:u.ownBlock≠some g:=by
  exact k120
 refine⟨⟨h0,?_,cs,(hk g hg hug).trans h2,h3⟩,?_,hk,?_⟩
 ·obtain⟨k1,k2 | ⟨b,cap,cur,rfl,hb,hc,k3⟩⟩:=h1
  ·exact⟨k1,.inl k2⟩
  ·refine⟨k1,.inr ⟨b,cap,cur,rfl,hb,?_,k3⟩⟩
   rw[hk b (zza.1 hc).1 (fun e=>hA b e rfl)];exact hc
 ·intro k hk2
  rcases hat with e | e
  ·exact hA k (e▸hk2)
  ·intro hv
   have:=(oF h1 k hv).2.1
   rw[e] at hk2;simp at hk2;omega
 ·have hBw:B<=w.heap.size:=by omega
  exact⟨hgrow.os,hgrow.tape,hgrow.output,by have:=hgrow.size;simp at this;omega,fun k hk2=>hk k oo (fun e=>by have:=(oF hu k e).1;omega)⟩
theorem gXw {w w2:World}{B g:Nat}{u v v' : Value}{R:List Int}{n:Nat}{xs:List Value}(hS:Stk w B g v R)(hu:w.ownsRow B 3 1 u n xs)(hA:zP u v)(hK:kY g v.ownBlock w w2)(hF:v'.ownBlock=v.ownBlock\/∀k,v'.ownBlock=some k->w.heap.size<=k) :
  w2.ownsRow B 3 1 u n xs/\zP u v' /\ Below B w w2:=by
 have hg:=hS.cells.2.2.2.2.2
 obtain⟨h0,h1,cs,h2,h3⟩:=hS
 have hug:u.ownBlock≠some g:=by
  exact k120
 refine⟨?_,?_,hK.below h0 (fun k e=>(oF h1 k e).1) oo⟩
 ·obtain⟨k1,k2 | ⟨b,cap,cur,rfl,hb,hc,k3⟩⟩:=hu
  ·exact⟨k1,.inl k2⟩
  ·refine⟨k1,.inr ⟨b,cap,cur,rfl,hb,?_,k3⟩⟩
   rw[hK.block b (zza.1 hc).1 (fun e=>hug (by simp[Value.ownBlock,e])) (fun e=>hA b rfl e.symm)];exact hc
 ·intro k hk
  rcases hF with e | e
  ·rw[e]
   exact hA k hk
  ·intro hv
   have:=e k hv
   have:=(oF hu k hk).2.1
   omega
theorem gIt (i:Int)(x:Tok)(k:Nat)(S out:List Int):kept i x k S out=if S.getLast?.getD (-1)=i/\mG x=true then out++[(k:Int)] else out:=by
 have hp:mG x=true↔(x.k=0\/x.k=1\/x.k=3):=by simp[mG]
 unfold kept
 by_cases h:S.getLast?.getD (-1)=i/\mG x=true
 ·rw[if_pos h,if_pos ⟨h.1,hp.1 h.2⟩]
 ·rw[if_neg h,if_neg (fun h2=>h ⟨h2.1,hp.2 h2.2⟩)]
def hFn (k:IntKind)(w:World)(a:Option Addr)(len cap:Nat)(zs:List Int):Prop:=Row k w a len zs/\len<=cap/\cap<=9223372036854775807
theorem vA {W:World}{base:Nat}{e:TypeId}{k:IntKind}{v:Value}{n:Nat}{bs:List Int}(h:W.ownsRow base e 1 v n (bs.map (Value.int k))):∃a cap,v=.slice a n cap/\hFn k W a n cap bs:=by
 obtain⟨a,cap,hv,hr⟩:=tW h
 refine⟨a,cap,hv,hr,?_⟩
 rcases h.2 with ⟨e1,e2⟩ | ⟨g,c,cur,e1,_,_,h1,h2,_⟩
 ·rw[hv] at e1
  (injection e1 with _ h1 h2);subst h2;omega
 ·rw[hv] at e1
  (injection e1 with _ _ h3);subst h3;unfold maxLen at h2;omega
theorem qN {B:Nat}{w W:World}{q:Nat}(h:Below B (w.drewN q) W):Below B w W:=⟨h.os,h.tape,h.output,h.size,h.block⟩
theorem k66{p:Prop}(h:p:=by
  intro W u n xs g1 g2 g3 g4;refine(uC w.heap.size w.heap.size v R k x W g1 g4 oo).mono ?_;rintro e w' ⟨e1,v', e2,e3,e4⟩;obtain⟨f1,f2,f3⟩:=gXw g1 g2 g3 e3 e4;exact⟨e1,v', e2,f1,f2,f3⟩
  ):p:=h
theorem k52{p:Prop}(h:p:=by
  obtain⟨a', cap', hu', hr⟩:=vA hu;rw[<-HE.out] at hr hu';obtain⟨N,hN⟩:∃N,K.length=N:=⟨_,rfl⟩;have HN:Hid (K.length=N):=hN;rw[hN] at hr hu';clear hSi hG hS hu hA hl hN;subst hu';go_wp2;go_ret
  first | exact⟨a', ⟨cap', by rw[HN.out];rfl⟩,by rw[HN.out];exact hr,hB⟩ | exact⟨a', cap', by rw[HN.out];rfl,by rw[HN.out];exact hr,hB⟩
  ):p:=h
theorem k23{p:Prop}(h:p:=by
  (go_wp2_with fail);refine(HTop.out _).mono ?_;rintro e W0 ⟨rfl,q,rfl⟩;(go_wp2_with fail);refine(HPart _).mono ?_;rintro e W1 ⟨rfl,hB1⟩;obtain⟨t0,t1,t2,t3,hB2⟩:=oD (qN hB1);have sP:=hS.below hB2;have uP:=qY hu hB2 HSz;have aP:=hA;have bP:=hB.trans (hB2.mono HSz);have HZ1:=hB2.size;clear hB2 hB1 HPart HTop;(go_wp2_with fail);refine(HPass.out _ _ _ _ sP uP aP bP.size).mono ?_;rintro e W2 ⟨rfl,v', s2,u2,a2,b2⟩;have bQ:=bP.trans b2;clear sP uP aP bP b2 HPass;obtain⟨-,s33,-⟩:=s2.cells;go_wp2
  go_roundw
  case rel=>exact⟨k+1,v', R', out,oo,oo,rfl,oo,HOL.out,s2,by simpa using u2,a2,HE1.out,HE2.out,bQ⟩
  case measure=>simp[intOf];omega
  ):p:=h
theorem k15{p:Prop}(h:p:=by
  (go_wp2_with fail);refine(HTop.out _).mono ?_;rintro e W0 ⟨rfl,q,rfl⟩;have bT:Below (wr.alloc (.cells #[.int .i64 xk,.int .i64 xt,.int .i64 xn,.int .i64 xm] 58)).heap.size (wr.alloc (.cells #[.int .i64 xk,.int .i64 xt,.int .i64 xn,.int .i64 xm] 58)) ((wr.alloc (.cells #[.int .i64 xk,.int .i64 xt,.int .i64 xn,.int .i64 xm] 58)).drewN q):=below_drewN (zzd _ _) _;obtain⟨t0,t1,t2,t3,hB2⟩:=oD bT;have sP:=hS.below hB2;have uP:=qY hu hB2 HSz;have aP:=hA;have bP:=hB.trans (hB2.mono HSz);clear hB2 bT HPart HTop;(go_wp2_with fail);refine(HPass.out _ _ _ _ sP uP aP bP.size).mono ?_;rintro e W2 ⟨rfl,v', s2,u2,a2,b2⟩;have bQ:=bP.trans b2;clear sP uP aP bP b2 HPass;obtain⟨-,s33,-⟩:=s2.cells;go_wp2
  go_roundw
  case rel=>exact⟨k+1,v', R', out,oo,oo,rfl,oo,HOL.out,s2,by simpa using u2,a2,HE1.out,HE2.out,bQ⟩
  case measure=>simp[intOf];omega
  ):p:=h
theorem k05{p:Prop}(h:p:=by
  (go_wp2_with fail);refine(HTop.out _).mono ?_;rintro e W0 ⟨rfl,q,rfl⟩;(go_wp2_with fail);refine(HPart _).mono ?_;rintro e W1 ⟨rfl,hB1⟩;obtain⟨t0,t1,t2,t3,hB2⟩:=oD (qN hB1);have sP:=hS.below hB2;have uP:=qY hu hB2 HSz;have aP:=hA;have bP:=hB.trans (hB2.mono HSz);have HZ1:=hB2.size
  have HT1:wr.heap.size<W1.heap.size:=by
   have:=hB1.size
   simp at this;omega
  clear hB2 hB1 HPart HTop hS hu hA;(go_wp2_with (at_builtin;refine wpList_append_own_at _ rfl _ _ 61 rfl w.heap.size 3 i0 (.int .i64 0) 1 8 Tryz.underlying61 hi hz0 hz1 hz2 rfl (by decide) _ _ _ rfl (uP.alloc _) ⟨W1.heap.size,0,none⟩ 1 1 [.int .i64 (k:Int)] rfl rfl (cell_one_new _ _ _) (by simp[Value.oneCell']) (by unfold maxLen;omega) oo (by simp;omega) ?_;intro v2 w2 hown2 hgrow hnil2 hat;obtain⟨sP2,aP2,hk2,bP2⟩:=gDq sP uP aP hgrow hat;have hT:=hk2 wr.heap.size HT1 (fun e=>Nat.lt_irrefl _ (HTu.out _ e));have r0:w2.cell? ⟨wr.heap.size,0,none⟩=some (.int .i64 xk):=(zzi (a:=⟨wr.heap.size,0,none⟩) hT).trans t0;have r1:w2.cell? ⟨wr.heap.size,1,none⟩=some (.int .i64 xt):=(zzi (a:=⟨wr.heap.size,1,none⟩) hT).trans t1;have r2:w2.cell? ⟨wr.heap.size,2,none⟩=some (.int .i64 xn):=(zzi (a:=⟨wr.heap.size,2,none⟩) hT).trans t2;have r3:w2.cell? ⟨wr.heap.size,3,none⟩=some (.int .i64 xm):=(zzi (a:=⟨wr.heap.size,3,none⟩) hT).trans t3;have bP3:=bP.trans bP2;clear sP uP aP bP hk2 bP2 hT t0 t1 t2 t3 hgrow hat hnil2));refine(HPass.out _ _ _ _ sP2 hown2 aP2 bP3.size).mono ?_;rintro e W2 ⟨rfl,v', s2,u2,a2,b2⟩;have bQ:=bP3.trans b2;clear sP2 hown2 aP2 bP3 b2 HPass;obtain⟨-,s33,-⟩:=s2.cells;go_wp2
  go_roundw
  case rel=>exact⟨k+1,v', R', out++[(k:Int)],oo,oo,rfl,oo,HOL.out,s2,by simpa using u2,a2,HE1.out,HE2.out,bQ⟩
  case measure=>simp[intOf];omega
  ):p:=h
theorem gYi (a:Option Addr)(len cap:Nat)(l:List Tok)(w:World)(hl:mC w a len l)(hsz:len<=4398046511104) :
  Calls Tryz.prog 42 #[.slice a len cap,.int .i64 (-1)] w fun e w' => ∃a' cap', e=.returned (.slice a' (kids l (-1)).length cap')/\hFn .i64 w' a' (kids l (-1)).length cap' (kids l (-1))/\Below w.heap.size w w' := by
 obtain⟨i0,hi,hz0,hz1,hz2⟩:=info_parts gUt
 have hL:=hl.1
 have HG0:Hid (mT l (-1) 0 [] (kids l (-1))):=.inr ⟨oo,by unfold kids;rw[if_neg oo];rfl⟩
 have HS0:Hid (gK l ((0:Nat):Int)=[]):=pW l
 have HN0:Hid (Stk (w.alloc (.cells oB 111)) w.heap.size w.heap.size (.slice none 0 0) []):=yI w
 have HB0:Hid (∀o,Below w.heap.size w (w.alloc o)):=fun o=>(zzd _ w).alloc (zzb _) o
 generalize kids l (-1)=K at *
 go_enter Tryz.func42,Tryz.ntmps42
 go_wp2
 go_loopw [5,7] (fun u u7 w' => ∃(k:Nat) (v:Value) (R out:List Int),k<=len/\0<=k/\u7=.int .i64 (k:Int)/\R.length<=k/\out.length<=k/\Stk w' w.heap.size w.heap.size v R/\w'.ownsRow w.heap.size 3 1 u out.length (out.map (Value.int .i64))/\zP u v/\gK l (k:Int)=R/\mT l (-1) k out K/\Below w.heap.size w w') (fun _ u7 _=>len - (intOf u7).toNat)
 case atStart=>exact⟨0,_,[],[],oo,oo,by first | (simp;done) | (simp;decide),by simp,by simp,HN0.out,World.ownsRow_nil _ _ _ _,fun _ h=>by simp[Value.ownBlock] at h,HS0.out,HG0.out,HB0.out _⟩
 case round=>
  obtain⟨k,v,R,out,hk,hik,rfl,hR,hO,hS,hu,hA,hSi,hG,hB⟩:=hrel;clear HS0 HG0 HN0 HB0
  by_cases hlt:k<len
  ·obtain⟨b,o,x,rfl,hbl,hx,hc⟩:=hl.token hlt
   obtain⟨c0,c1,c2,c3⟩:=hc wr hB
   have hst0:Hid (gK l ((k+1:Nat):Int)=lA x k R/\mT l (-1) (k+1) (kept (-1) x k R out) K):=by
    show _/\_
    rw[lX l k x hx,hSi];exact⟨rfl,by have:=hCg oo hx hG;rw[hSi] at this;exact this⟩
   have hst:=hst0.out;clear hst0;have HL:=sO x k R
   have HOL:Hid ((kept (-1) x k R out).length<=k+1):=by
    show (kept (-1) x k R out).length<=k+1
    unfold kept
    split<;>first | omega | (simp;omega)
   (have HTop:Hid (∀o,Calls Tryz.prog 78 #[.pointer (some ⟨w.heap.size,0,none⟩)] (wr.alloc o) fun e w' => e=.returned (.int .i64 (R.getLast?.getD (-1)))/\∃q,w' = (wr.alloc o).drewN q):=fun o=>zY _ _ _ _ _ (hS.alloc o) oo);have HPart:=fun W=>zG x W
   have HPass:Hid (∀W u (n:Nat) (xs:List Value),Stk W w.heap.size w.heap.size v R->W.ownsRow w.heap.size 3 1 u n xs->zP u v->w.heap.size<=W.heap.size->Calls Tryz.prog 69 #[.pointer (some ⟨w.heap.size,0,none⟩),.int .i64 (k:Int),nT x] W fun e w' => e=.returned (.tuple #[])/\∃v', Stk w' w.heap.size w.heap.size v' (lA x k R)/\w'.ownsRow w.heap.size 3 1 u n xs/\zP u v' /\ Below w.heap.size W w'):=by
    exact k66
   have HSz:=hB.size;(have HTu:Hid (∀j,u5.ownBlock=some j->j<wr.heap.size):=fun j hj=>(oF hu j hj).2.1);rw[gIt] at hst HOL;clear hc hl hx hSi hG;generalize lA x k R=R' at *;generalize hy:R.getLast?.getD (-1)=y at *;generalize mG x=pq at *;obtain⟨xk,xt,xn,xm⟩:=x;simp only[nT] at *
   by_cases hyi:y = -1
   ·subst hyi
    cases pq
    ·rw[if_neg (fun h=>by simp at h)] at hst HOL
     obtain⟨g1,g2⟩:=hst;have HE1:Hid (gK l ((k+1:Nat):Int)=R'):=g1;have HE2:Hid (mT l (-1) (k+1) (out) K):=g2;clear g1 g2;exact k23
    ·rw[if_pos ⟨rfl,rfl⟩] at hst HOL
     obtain⟨g1,g2⟩:=hst;have HE1:Hid (gK l ((k+1:Nat):Int)=R'):=g1;have HE2:Hid (mT l (-1) (k+1) (out++[(k:Int)]) K):=g2;clear g1 g2;exact k05
   ·have ey:(y == -1)=false:=by simpa using hyi
    rw[if_neg (fun h=>hyi h.1)] at hst HOL;obtain⟨g1,g2⟩:=hst;have HE1:Hid (gK l ((k+1:Nat):Int)=R'):=g1;have HE2:Hid (mT l (-1) (k+1) (out) K):=g2;clear g1 g2;exact k15
  ·obtain rfl:k=len:=by omega
   have HE:Hid (K=out):=gJf (l:=l) (i := -1) oo (by rw[hL];exact hG);exact k52
end Go.Proofs.YtjkebndkeamijaaGreatDoor
