/-
  PROVED HERE: what the texts DARefSays, DAROne, DARTok, DARCheck say.
-/
import Derived.Test.YtjkebndkeamijaaGreatDoorCADANetsD
import Derived.Test.YtjkebndkeamijaaGreatDoorCA37
set_option maxRecDepth 100000
set_option maxHeartbeats 2000000
namespace Go.Proofs.YtjkebndkeamijaaGreatDoor
open Go.RowKit
theorem gPa:∀(n:Nat) (t:DataW Unit),jN n t=true->gCy iE subs n t:=by
 intro n
 induction n with
 | zero=>intro t _;trivial
 | succ n ih=>
  intro t h;rw[jN,Bool.and_eq_true,List.all_eq_true] at h;obtain⟨h1,h2⟩:=h;refine⟨?_,fun x hx=>ih x (by have:=h1 x hx;rw[Bool.and_eq_true] at this;exact this.2)⟩;unfold nN at h2
  by_cases k0:iE t=0
  ·omega
  ·rw[if_neg k0] at h2
   by_cases k1:iE t=1
   ·omega
   ·rw[if_neg k1] at h2
    by_cases k2:iE t=4\/iE t=5\/iE t=6
    ·omega
    ·rw[if_neg k2] at h2
     by_cases k3:iE t=2\/iE t=3
     ·omega
     ·rw[if_neg k3] at h2
      cases h2
def TyN (N:List gL):Prop:=∀(i:Nat) (x:gL),N[i]? = some x->x.2.1.length<=16
theorem rG {N:List gL}(h:TyN N):TyN (gI N):=fun i x hx=>by
 rcases wL hx with e | rfl
 ·exact h i x e
 ·exact zzn _
theorem oS {N:List gL}(h:TyN N)(a b:Nat):TyN (iT N a b):=fun i x hx=>by
 obtain⟨y,hy,rfl⟩:=sJ hx
 have:=h i y hy
 split<;>exact this
theorem hDq {N:List gL}(h:TyN N)(c:Nat){ts:List Int}(ht:ts.length<=16)(b:Nat):TyN (pC N c ts b):=fun i x hx=>by
 obtain⟨y,hy,rfl⟩:=sJ hx
 have:=h i y hy
 split
 ·exact ht
 ·exact this
theorem hGb {T:Type}{f:T->Nat->Nat->List gL->List gL}(hf:∀x a b N,TyN N->TyN (f x a b N)):∀(l:List T) a b N,TyN N->TyN (yU f l a b N):=by
 intro l
 induction l with
 | nil=>intro a b N h;exact oS h a b
 | cons x r ih=>intro a b N h;exact ih _ _ _ (hf x _ _ _ (rG h))
theorem hGd {T:Type}{f:T->Nat->Nat->List gL->List gL}(hf:∀x a b N,TyN N->TyN (f x a b N)):∀(l:List T) a b N,TyN N->TyN (uE f l a b N):=by
 intro l
 induction l with
 | nil=>intro a b N h;exact h
 | cons x r ih=>intro a b N h;exact ih _ _ _ (hf x _ _ _ h)
theorem hGc {T:Type}(K:T->Int)(Ty:T->List Int)(U:T->List T)(hT:∀t,(Ty t).length<=16):∀(n:Nat) (t:T) (a b:Nat) (N:List gL),TyN N->TyN (sA K Ty U n t a b N):=by
 intro n
 induction n with
 | zero=>intro t a b N h;exact h
 | succ n ih=>
  intro t a b N h;rw[sA]
  split
  ·exact oS h a b
  ·split
   ·exact hDq (oS (rG h) _ _) _ (hT t) _
   ·split
    ·exact hGb (fun x a b N h=>ih x a b N h) _ _ _ _ h
    ·split
     ·exact hGd (fun x a b N h=>ih x a b N h) _ _ _ _ h
     ·have h1:TyN (gGk (sA K Ty U n) (U t) N.length (N.length+1) (iT (gI (gI N)) a N.length)):=by
       cases U t with
       | nil=>exact oS (rG (rG h)) _ _
       | cons x r=>exact ih x _ _ _ (oS (rG (rG h)) _ _)
      dsimp only[sU]
      split
      ·split
       ·exact oS h1 _ _
       ·exact oS (oS h1 _ _) _ _
      ·split
       ·exact oS (oS h1 _ _) _ _
       ·exact oS (oS (oS h1 _ _) _ _) _ _
theorem hDr {gs:List Grp}(hr:kB gs=true)(s:ByteArray):(tyG gs s).length<=16:=by
 unfold kB at hr
 rw[Bool.and_eq_true] at hr
 have hr2:=List.all_eq_true.1 hr.2
 clear hr
 induction gs with
 | nil=>exact zzn _
 | cons g r ih=>
  rw[tyG]
  split
  ·have hg:=hr2 g (zzg ..)
   unfold jO at hg;rw[Bool.and_eq_true] at hg;exact of_decide_eq_true hg.1
  ·exact ih fun y hy=>hr2 y (zzk _ hy)
theorem gJo {n:Nat}{t:DataW Unit}{gs:List Grp}(h:chk n t gs=0):SK gs n t/\kB gs=true/\size subs n t<=200:=by
 obtain⟨h1,h2,h3⟩:=gBo h
 refine⟨⟨h1,gPa n t ?_⟩,h2,h3⟩
 apply gBp
 unfold chk at h
 split at h
 ·assumption
 ·rename_i hc;exact absurd h hc
theorem yN {n:Nat}{t:DataW Unit}{gs:List Grp}(h:chk n t gs=0):gZe (vI gs n t) (iZ gs n t)/\(vI gs n t).length<=50000/\lW 50000 (vI gs n t)/\TyN (vI gs n t):=by
 obtain⟨⟨hS,hK⟩,hr,hsz⟩:=gJo h
 have hA:tQ tN (vI gs n t) (4 * size subs n t - 2) (4 * size subs n t):=sL hS (by decide) (by decide)
 have hfew:lW 0 tN:=fun p x hx=>by
  exact k108
 have hty:TyN tN:=rG (rG (fun i x hx=>by simp at hx))
 refine⟨hGk iE (fun t=>kD gs (nV t)) (tyS gs) subs (fun t a=>gFb hr (nV t) a) (fun s hs e=>hs ((gMq hr (nV s)).2 e)) n t hS hK hA,?_,(hA.few 0 hfew).more oo,hGc iE (tyS gs) subs (fun t=>hDr hr (nV t)) n t 0 1 tN hty⟩
 have:=hA.hi
 have e:tN.length=2:=rfl
 omega
theorem gSb {F:List gD}(hF:wf F)(hm:∀(i:Nat) (x:gD),F[i]? = some x->x.1<65536):∀(m p:Nat),p<=m->p<F.length->∃k v,jZ F k p v:=by
 intro m
 induction m with
 | zero=>
  intro p hp _;(have e0:p=0:=by omega);subst e0;exact⟨0,[],rfl,rfl⟩
 | succ m ih=>
  intro p hp hl;rcases Nat.eq_zero_or_pos p with rfl | hpos
  ·exact⟨0,[],rfl,rfl⟩
  ·have hx:F[p]? = some F[p]:=zze hl
   rcases hF.2 p _ hpos hx with ⟨h1,q,h2,h3,_⟩ | ⟨h1,h2,q,h3,h4,_⟩
   ·obtain⟨k,v,hr⟩:=ih q oo oo
    obtain⟨j,r,e⟩:=hEq F[p].1 F[p].1 (zzb _) h1
    have hj:F[p].1.testBit j=true:=by
     rw[e,Nat.mul_comm,Nat.testBit_mul_two_pow]
     simp
    have hj16:=gYo (hm p _ hx) hj;refine⟨k+1,(j:Int)::v,.inr ⟨_,hx,.inr ⟨h1,(j:Int),v,q,rfl,?_,by rw[h2];rfl,hr⟩⟩⟩;unfold mW
    simp
    exact⟨oo,hj⟩
   ·obtain⟨k,v,hr⟩:=ih q oo oo
    exact⟨k+1,v,.inr ⟨_,hx,.inl ⟨h1,q,h3,hr⟩⟩⟩
theorem gZk {F:List gD}{N:Nat}(hF:yD F N):∀{k p q:Nat},p<N->Via F k p q->q<N:=by
 intro k
 induction k with
 | zero=>rintro p q hp rfl;exact hp
 | succ k ih=>
  intro p q hp hv;rcases hv with rfl | ⟨x,hx,h0,r,hr,hv⟩
  ·exact hp
  ·exact ih (hF.lt p x hx h0 r hr) hv
theorem gZc {F:List gD}{N first:Nat}(hF:yD F N)(hf:first<N):∀w q,jU F (kP F first) w q->q<N:=by
 intro w
 rcases List.eq_nil_or_concat w with rfl | ⟨u,t,rfl⟩
 ·rintro q ⟨k,hv⟩
  exact gZk hF hf hv
 ·rw[List.concat_eq_append,gEb]
  rintro q ⟨a,x,r,k,_,hx,ht,hr,hv⟩;(have h0:x.1≠0:=fun e=>by rw[e,sQ] at ht;cases ht);rcases Nat.eq_zero_or_pos a with rfl | hpos
  ·rw[hF.wf.1] at hx
   cases hx;exact absurd rfl h0
  ·have hal:=(zzc.1 hx).1
   rcases hF.wf.2 a x hpos hx with ⟨_,q', e,hlt,_⟩ | ⟨h1,_⟩
   ·rw[e] at hr
    cases hr;exact gZk hF (by have:=hF.len;omega) hv
   ·exact absurd h1 h0
theorem hAq {n:Nat}{t:DataW Unit}{gs:List Grp}(h:chk n t gs=0)(w:List Int):rQ gs n t w↔∃v,iZ gs n t (w++v):=by
 obtain⟨hF,hf⟩:=vF h
 have h0:=hF.wf.1
 have key:∀v,iZ gs n t (w++v)↔∃a k,jU (kC gs n t) (kP (kC gs n t) (rP gs n t)) w a/\jZ (kC gs n t) k a v:=fun v=>by
  rw[<-gAf h,gDh h0 v _ (gQg (gDd _ _) w)];unfold jU;rw[List.foldl_append]
 constructor
 ·rintro⟨q,hq⟩
  obtain⟨k,v,hr⟩:=gSb hF.wf hF.mask q q (zzb _) (gZc hF hf w q hq);exact⟨v,(key v).2 ⟨q,k,hq,hr⟩⟩
 ·rintro⟨v,hv⟩
  obtain⟨a,k,ha,_⟩:=(key v).1 hv;exact⟨a,ha⟩
end Go.Proofs.YtjkebndkeamijaaGreatDoor
/- RefAsks: what the document's Accepts, Begins and Nexts answer. -/
namespace Go.Proofs.YtjkebndkeamijaaGreatDoor
open Go.RowKit
theorem hBb {w W:World}{Bn n:Nat}{t:DataW Unit}{gs:List Grp}(h:chk n t gs=0)(hN:gW w W Bn (vI gs n t)):zO w W Bn (vI gs n t):=by
 obtain⟨h1,h2,h3,_⟩:=yN h
 exact⟨hN,h1.fit,h1.two,h2,h3⟩
theorem hAa {w:World}{n:Nat}{t:DataW Unit}{v:Value}{ga:Option Addr}{gl gc:Nat}{gs:List Grp}{za:Option Addr}{zl zc:Nat}{zs:List Int}(h:Ex w n t v)(hG:iS w ga gl gs)(hZ:kA w za zl zs)(hc:chk n t gs=0) :
  ∀X,Below w.heap.size w X->Calls Tryz.prog 75 #[v,.slice ga gl gc] X fun e w' => ∃Bn,e=.returned (.pointer (some ⟨Bn,0,none⟩))/\zO X w' Bn (vI gs n t)/\Below X.heap.size X w' ∧
   Calls Tryz.prog 76 #[.pointer (some ⟨Bn,0,none⟩),.slice za zl zc] w' fun e w2=>∃(a:Addr) (c:Nat) (bs:List Bool) (i:Nat),e=.returned (.tuple #[.slice (some a) (vI gs n t).length c,.int .i64 (i:Int)])/\mQ w2 (some a) (vI gs n t).length bs/\gQl (vI gs n t) zs bs i/\Below w'.heap.size w' w2:=fun X hX=>by
 obtain⟨hS,_,hsz⟩:=gJo hc
 refine(gSq n t v ga gl gc gs X (Ex.below hX _ _ _ h) hS (hG.below hX) hsz).mono ?_
 rintro e W ⟨Bn,rfl,hN⟩
 exact⟨Bn,rfl,hBb hc hN,hN.bel,gWa X W Bn _ (hBb hc hN) (yN hc).2.2.2 za zl zc zs (hZ.below (hX.trans (hN.bel.mono hX.size)))⟩
theorem hAb {n:Nat}{t:DataW Unit}{gs:List Grp}(hc:chk n t gs=0){zs:List Int}{bs:List Bool}{i:Nat}(h:gQl (vI gs n t) zs bs i):pZ gs n t zs i:=by
 obtain⟨hN,_⟩:=yN hc
 obtain⟨h1,h2,h3⟩:=h
 have key:∀xs,(∃q,qO (vI gs n t) xs q)↔rQ gs n t xs:=fun xs=>by rw[hN.begins,<-hAq hc]
 exact⟨h1,(key _).1 h2.1,fun hi hp=>h3 hi ((key _).2 hp)⟩
theorem gCi (n:Nat)(t:DataW Unit)(v:Value)(ga:Option Addr)(gl gc:Nat)(gs:List Grp)(za:Option Addr)(zl zc:Nat)(zs:List Int)(w:World)(h:Ex w n t v)(hN:oG n t)(hb:cnt n t<=1152921504606846976)(hG:iS w ga gl gs)(hZ:kA w za zl zs) :
  Calls Tryz.prog 37 #[v,.slice ga gl gc,.slice za zl zc] w fun e w' => ∃b:Bool,e=.returned (.bool b)/\(b=true↔(chk n t gs=0/\iZ gs n t zs))/\Below w.heap.size w w' := by
 obtain⟨k,s,ka,kl,kc,rfl⟩:∃k s a len cap,v=.agg #[.int .i64 k,.string s,.slice a len cap]:=by
  exact k130
 obtain⟨w1,hw1⟩:∃w1,w1=w.alloc (.cells #[.int .i64 k,.string s,.slice ka kl kc] 69):=⟨_,rfl⟩
 have hB1:Below w.heap.size w w1:=by rw[hw1];exact(zzd _ w).alloc (zzb _) _
 have m0:w1.heap[w.heap.size]? = some (.cells #[.int .i64 k,.string s,.slice ka kl kc] 69 (0,0)):=by rw[hw1];exact World.alloc_heap_new w _
 have hlt1:w.heap.size<w1.heap.size:=(zza.1 m0).1
 have HK:Hid (∀X:World,Below w1.heap.size w1 X->X.cell? ⟨w.heap.size,0,none⟩=some (.int .i64 k)/\X.cell? ⟨w.heap.size,1,none⟩=some (.string s)/\X.cell? ⟨w.heap.size,2,none⟩=some (.slice ka kl kc)):=fun X hX=>by
  exact k157
 have HW1:Hid (w.alloc (.cells #[.int .i64 k,.string s,.slice ka kl kc] 69)=w1):=hw1.symm
 have HBW:Hid (∀X,Below w1.heap.size w1 X->Below w.heap.size w X):=fun X hX=>hB1.trans (hX.mono hB1.size)
 have HC:Hid (Calls Tryz.prog 74 #[.agg #[.int .i64 k,.string s,.slice ka kl kc],.slice ga gl gc] w1 fun e w' => e=.returned (.int .i64 (chk n t gs))/\Below w1.heap.size w1 w'):=sW n t _ ga gl gc gs w1 (Ex.below hB1 _ _ _ h) hN hb (hG.below hB1)
 obtain⟨q0,q1,q2⟩:=HK.out w1 (zzd _ _)
 have hzi:(zl:Int)<=9223372036854775807:=by have:=hZ.2.1;omega
 have HZL:Hid (zs.length=zl):=hZ.1
 obtain⟨f,hf⟩:∃f,chk n t gs=f:=⟨_,rfl⟩
 by_cases hf0:f≠0
 ·have e0:(f==0)=false:=by simpa using hf0
  (have e1:(f != 0)=true:=by simp[bne,e0]);rw[hf] at HC;(have HF:Hid (chk n t gs≠0):=by rw[hf];exact hf0);clear h hN hb hG hB1 m0 hlt1 hw1 hZ hf;go_enter Tryz.func37,Tryz.ntmps37;(go_wp2_with fail);rw[HW1.out];refine HC.out.mono ?_;rintro e X ⟨rfl,hX⟩;have HEND:Hid (Below w.heap.size w X):=HBW.out X hX;clear hX;go_wp2;go_ret;exact⟨false,rfl,⟨fun e=>(by cases e),fun e=>absurd e.1 HF.out⟩,HEND.out⟩
 ·have hf0:f=0:=Classical.not_not.1 hf0
  subst hf0;rw[hf] at HC;have hb0:((0:Int) != 0)=false:=rfl;(have HM:Hid (∀X,Below w1.heap.size w1 X->_):=fun X hX=>hAa h hG hZ (gc:=gc) (zc:=zc) hf X (HBW.out X hX));have HH:Hid (chk n t gs=0):=hf;clear h hN hb hG hB1 m0 hlt1 hw1 hZ hf;go_enter Tryz.func37,Tryz.ntmps37;(go_wp2_with fail);rw[HW1.out];refine HC.out.mono ?_;rintro e X ⟨rfl,hX⟩;have HMX:=HM.out X hX;obtain⟨r0,r1,r2⟩:=HK.out X hX;have HBX:Hid (Below w.heap.size w X):=HBW.out X hX;clear hX HM HC;(go_wp2_with fail);refine HMX.mono ?_;rintro e W ⟨Bn,rfl,hNet,hBW,hrun⟩;have HNet:Hid (zO X W Bn (vI gs n t)):=hNet;have HBB:Hid (Below w.heap.size w W):=HBX.out.trans (hBW.mono HBX.out.size);clear hNet hBW HMX;(go_wp2_with fail);refine hrun.mono ?_;rintro e W2 ⟨a,c,bs,i,rfl,hbs,hR,hB2⟩;obtain⟨hN2,_⟩:=yN HH.out;have h2:=hN2.two;obtain⟨b,o,y,e1,hy,cy⟩:=hbs.at (i:=1) oo;cases e1;have c1:=cy W2 (zzd _ _);(have h1i:(1:Int)<((vI gs n t).length:Int):=by omega);have HBE:Hid (Below w.heap.size w W2):=HBB.out.trans (hB2.mono HBB.out.size);have hzz:i<=zl:=by have:=hR.1;have:=HZL.out;omega
  by_cases hi:i=zl
  ·subst hi
   have HE:Hid (y=true↔(chk n t gs=0/\iZ gs n t zs)):=by
    have hlen:=HZL.out
    have:=hR.2.1.2 1
    rw[hy,<-hlen,List.take_length,hN2.ends] at this
    constructor
    ·intro e
     subst e;exact⟨HH.out,this.1 rfl⟩
    ·intro e
     have:=this.2 e.2
     cases this
     rfl
   (have hii:((i:Int)==(i:Int))=true:=by simp);clear hbs hR hB2 hrun cy hy h2 hN2 hzz;go_wp2;go_ret;exact⟨y,rfl,HE.out,HBE.out⟩
  ·have HE:Hid (false=true↔(chk n t gs=0/\iZ gs n t zs)):=by
    refine⟨fun e=>(by cases e),fun e=>?_⟩;have hlen:=HZL.out;exfalso;refine hR.2.2 oo ?_;rw[hN2.begins];exact⟨zs.drop (i+1),by rw[List.take_append_drop];exact e.2⟩
   (have hii:((i:Int)==(zl:Int))=false:=by rw[beq_eq_false_iff_ne];omega);clear hbs hR hB2 hrun cy hy h2 hN2 hzz hi;go_wp2;go_ret;exact⟨false,rfl,HE.out,HBE.out⟩
theorem gEl (n:Nat)(t:DataW Unit)(v:Value)(ga:Option Addr)(gl gc:Nat)(gs:List Grp)(za:Option Addr)(zl zc:Nat)(zs:List Int)(w:World)(h:Ex w n t v)(hN:oG n t)(hb:cnt n t<=1152921504606846976)(hG:iS w ga gl gs)(hZ:kA w za zl zs) :
  Calls Tryz.prog 73 #[v,.slice ga gl gc,.slice za zl zc] w fun e w' => ∃i:Nat,e=.returned (.int .i64 (i:Int))/\(chk n t gs=0->pZ gs n t zs i)/\(chk n t gs≠0->i=0)/\Below w.heap.size w w' := by
 obtain⟨k,s,ka,kl,kc,rfl⟩:∃k s a len cap,v=.agg #[.int .i64 k,.string s,.slice a len cap]:=by
  exact k130
 obtain⟨w1,hw1⟩:∃w1,w1=w.alloc (.cells #[.int .i64 k,.string s,.slice ka kl kc] 69):=⟨_,rfl⟩
 have hB1:Below w.heap.size w w1:=by rw[hw1];exact(zzd _ w).alloc (zzb _) _
 have m0:w1.heap[w.heap.size]? = some (.cells #[.int .i64 k,.string s,.slice ka kl kc] 69 (0,0)):=by rw[hw1];exact World.alloc_heap_new w _
 have hlt1:w.heap.size<w1.heap.size:=(zza.1 m0).1
 have HK:Hid (∀X:World,Below w1.heap.size w1 X->X.cell? ⟨w.heap.size,0,none⟩=some (.int .i64 k)/\X.cell? ⟨w.heap.size,1,none⟩=some (.string s)/\X.cell? ⟨w.heap.size,2,none⟩=some (.slice ka kl kc)):=fun X hX=>by
  exact k157
 have HW1:Hid (w.alloc (.cells #[.int .i64 k,.string s,.slice ka kl kc] 69)=w1):=hw1.symm
 have HBW:Hid (∀X,Below w1.heap.size w1 X->Below w.heap.size w X):=fun X hX=>hB1.trans (hX.mono hB1.size)
 have HC:Hid (Calls Tryz.prog 74 #[.agg #[.int .i64 k,.string s,.slice ka kl kc],.slice ga gl gc] w1 fun e w' => e=.returned (.int .i64 (chk n t gs))/\Below w1.heap.size w1 w'):=sW n t _ ga gl gc gs w1 (Ex.below hB1 _ _ _ h) hN hb (hG.below hB1)
 obtain⟨q0,q1,q2⟩:=HK.out w1 (zzd _ _)
 have hzi:(zl:Int)<=9223372036854775807:=by have:=hZ.2.1;omega
 have HZL:Hid (zs.length=zl):=hZ.1
 obtain⟨f,hf⟩:∃f,chk n t gs=f:=⟨_,rfl⟩
 by_cases hf0:f≠0
 ·have e0:(f==0)=false:=by simpa using hf0
  (have e1:(f != 0)=true:=by simp[bne,e0]);rw[hf] at HC;(have HF:Hid (chk n t gs≠0):=by rw[hf];exact hf0);clear h hN hb hG hB1 m0 hlt1 hw1 hZ hf;go_enter Tryz.func73,Tryz.ntmps73;(go_wp2_with fail);rw[HW1.out];refine HC.out.mono ?_;rintro e X ⟨rfl,hX⟩;have HEND:Hid (Below w.heap.size w X):=HBW.out X hX;clear hX;go_wp2;go_ret;exact⟨0,rfl,fun e=>absurd e HF.out,fun _=>rfl,HEND.out⟩
 ·have hf0:f=0:=Classical.not_not.1 hf0
  subst hf0;rw[hf] at HC;have hb0:((0:Int) != 0)=false:=rfl;(have HM:Hid (∀X,Below w1.heap.size w1 X->_):=fun X hX=>hAa h hG hZ (gc:=gc) (zc:=zc) hf X (HBW.out X hX));have HH:Hid (chk n t gs=0):=hf;clear h hN hb hG hB1 m0 hlt1 hw1 hZ hf;go_enter Tryz.func73,Tryz.ntmps73;(go_wp2_with fail);rw[HW1.out];refine HC.out.mono ?_;rintro e X ⟨rfl,hX⟩;have HMX:=HM.out X hX;obtain⟨r0,r1,r2⟩:=HK.out X hX;have HBX:Hid (Below w.heap.size w X):=HBW.out X hX;clear hX HM HC;(go_wp2_with fail);refine HMX.mono ?_;rintro e W ⟨Bn,rfl,hNet,hBW,hrun⟩;have HNet:Hid (zO X W Bn (vI gs n t)):=hNet;have HBB:Hid (Below w.heap.size w W):=HBX.out.trans (hBW.mono HBX.out.size);clear hNet hBW HMX;(go_wp2_with fail);refine hrun.mono ?_;rintro e W2 ⟨a,c,bs,i,rfl,hbs,hR,hB2⟩;have HE:Hid (pZ gs n t zs i/\Below w.heap.size w W2):=⟨hAb HH.out hR,HBB.out.trans (hB2.mono HBB.out.size)⟩;clear hbs hR hB2 hrun;go_wp2;go_ret;exact⟨i,rfl,fun _=>HE.out.1,fun e=>absurd HH.out e,HE.out.2⟩
end Go.Proofs.YtjkebndkeamijaaGreatDoor
/- RefNexts: what the document's Nexts answers. -/
namespace Go.Proofs.YtjkebndkeamijaaGreatDoor
open Go.RowKit
end Go.Proofs.YtjkebndkeamijaaGreatDoor
namespace Go.Proofs.YtjkebndkeamijaaGreatDoor
open Go.RowKit
theorem gGe {w w' : World}{b e n m:Nat}{v:Value}{xs:List Value}(h:w.ownsRow b e n v m xs)(hB:Below w.heap.size w w'):w'.ownsRow b e n v m xs:=gF h fun g hg=>hB.block g (gC h hg).1
theorem gSh {w:World}{b e n m k c:Nat}{a:Option Addr}{xs:List Value}(h:w.ownsRow b e n (.slice a k c) m xs):a=none->c=0:=by
 rintro rfl
 rcases h.2 with ⟨e,_⟩ | ⟨g,cap,cur,e,_⟩
 ·cases e;rfl
 ·cases e
theorem zR {w:World}{G:List Grp}{T:DataW Unit}{v:Value}{ga:Option Addr}{gl gc:Nat}(hT:∃s,T=gO s)(hex:Ex w 200 T v)(hG:iS w ga gl G)(hck:chk 200 T G=0)(X:World)(hX:Below w.heap.size w X)(za:Option Addr)(zl zc:Nat)(zs:List Int)(hI:kA X za zl zs) :
  (Calls Tryz.prog 37 #[v,.slice ga gl gc,.slice za zl zc] X fun e w' => ∃b:Bool,e=.returned (.bool b)/\(b=true↔iZ G 200 T zs)/\Below X.heap.size X w') ∧
  (Calls Tryz.prog 73 #[v,.slice ga gl gc,.slice za zl zc] X fun e w' => ∃i:Nat,e=.returned (.int .i64 (i:Int))/\(i=zl↔rQ G 200 T zs)/\Below X.heap.size X w'):=by
 obtain⟨s,rfl⟩:=hT
 constructor
 ·refine(gCi 200 (gO s) v ga gl gc G za zl zc zs X (Ex.below hX _ _ _ hex) (uN s) (gKy s) (hG.below hX) hI).mono ?_
  rintro e w' ⟨b,q1,q2,q3⟩;exact⟨b,q1,q2.trans ⟨fun q=>q.2,fun q=>⟨hck,q⟩⟩,q3⟩
 ·refine(gEl 200 (gO s) v ga gl gc G za zl zc zs X (Ex.below hX _ _ _ hex) (uN s) (gKy s) (hG.below hX) hI).mono ?_
  rintro e w' ⟨i,q1,q2,_,q3⟩;exact⟨i,q1,by rw[<-hI.1];exact gXj (q2 hck),q3⟩
theorem gRn {B:Nat}{whole:ByteArray}{a:Option Addr}{len cap:Nat}{sp:List gV}{gs:List Grp}{ks:List gN}(w:World)(h:gAg w B whole a len cap sp gs)(hks:ks.map (·.1)=jC::sp)(ta:Option Addr)(tl tc:Nat)(l:List Tok)(hl:mC w ta tl l)(hsz:tl<=2048)(hg:oA l 0=some 0)(j:Nat)(hj:j<tl)(hall:∀q,q<j->vR ks (gJ sp gs) (gS whole sp) l q) :
  Calls Tryz.prog 36 #[.pointer (some ⟨B,0,none⟩),.slice ta tl tc,.int .i64 (j:Int)] w fun e w' => ∃r:Bool,e=.returned (.bool r)/\(r=true↔vR ks (gJ sp gs) (gS whole sp) l j)/\Below w.heap.size w w' := by
 have hll:=hl.1
 have hkn:=hCe hks (show j<=l.length by omega) hall
 have hge:=pY l j oo
 have hpl:=lM l j oo
 have hm1 : -1<=gB l (j:Int):=by rcases hpl with e | ⟨m,e,_⟩<;>omega
 obtain⟨rk,rn,ra,rl,rc,hex,hru⟩:=gFv w h ta tl tc l hl hsz _ hkn
 have htk0:=fun (X:World) (hX:Below w.heap.size w X)=>gMu X (h.below hX) hks ta tl tc l (hl.below hX) hsz j
 obtain⟨tr,ea,ec,ng,nc,h1,_,_,h4,_,h6,_⟩:=h
 have hBl:=(zza.1 h1).1
 have hck:=sV (whole:=whole) h6 hkn
 have hT:=gMt (whole:=whole) hkn
 have hsay:=zR hT hex h4 (gc:=nc) hck
 have hahd:=gFx hg (show j<=l.length by omega)
 have hwo:=fun (X:World) (hX:Below w.heap.size w X)=>tV ta tl tc l (gB l (j:Int)) (gB l (j:Int)+1).toNat j (j - (gB l (j:Int)+1).toNat) X (hl.below hX) hsz oo oo oo
 rw[hahd] at hwo
 have har:=fun (X:World) (hX:Below w.heap.size w X)=>sE ta tl tc l (j:Int) X (hl.below hX) oo
 obtain⟨b,o,x,rfl,hbl,hx,hc⟩:=hl.token (k:=j) hj
 have hkx:=iF hx
 have hrx:=zX l 0 0 hg x (zzj hx)
 have htx:jP l (j:Int)=x.t:=by unfold jP;rw[Int.toNat_natCast,hx];rfl
 have htk:=fun (X:World) (hX:Below w.heap.size w X)=>htk0 X hX x hx (fun e=>by
  unfold qV qW at hrx;rw[if_pos e] at hrx;simp at hrx
  exact hrx.2) _ hkn
 have HO:Hid (vR ks (gJ sp gs) (gS whole sp) l j↔((x.k=2->iZ (gJ sp gs) 200 (iQ (gS whole sp) l (gB l (j:Int))) (iD l (mO l (gB l (j:Int)) j)))/\(x.k≠2->nE ks (oZ ks l (gB l (j:Int))) x=true/\rQ (gJ sp gs) 200 (iQ (gS whole sp) l (gB l (j:Int))) (iD l (mO l (gB l (j:Int)) j)++[x.t])))):=by
  show _↔_
  unfold vR;rw[hkx,hx,htx,Option.getD_some]
 have HCE:Hid (∀X,Below w.heap.size w X->X.cell? ⟨B,5,none⟩=some (.slice (some ⟨ng,0,none⟩) (gJ sp gs).length nc)/\X.cell? ⟨b,o+j * 4,none⟩=some (.int .i64 x.k)/\X.cell? ⟨b,o+j * 4+1,none⟩=some (.int .i64 x.t)):=fun X hX=>⟨cell_of_row X B 5 _ _ _ ((hX.block _ hBl).trans h1),(hc X hX).1,(hc X hX).2.1⟩
 have hwl:(iD l (mO l (gB l (j:Int)) j)).length<=2048:=by
  have:=tB l (gB l (j:Int))
  have h2:(mO l (gB l (j:Int)) j).length<=(kids l (gB l (j:Int))).length:=List.length_filter_le ..;rw[pT];omega
 generalize vR ks (gJ sp gs) (gS whole sp) l j=PP at *
 generalize nE ks (oZ ks l (gB l (j:Int))) x=fb at *
 generalize iQ (gS whole sp) l (gB l (j:Int))=T at *
 generalize iD l (mO l (gB l (j:Int)) j)=wd at *
 generalize gJ sp gs=G at *
 generalize gB l (j:Int)=ar at *
 obtain⟨wl,hwl2⟩:∃wl,wd.length=wl:=⟨_,rfl⟩
 obtain⟨gl,hgl2⟩:∃gl,G.length=gl:=⟨_,rfl⟩
 rw[hwl2] at hwo hwl
 rw[hgl2] at hsay HCE
 obtain⟨xk,xt,xn,xm⟩:=x
 dsimp only at *
 have HAR:=Hid.mk_ har
 have HWO:=Hid.mk_ hwo
 have HRU:=Hid.mk_ hru
 have HSY:=Hid.mk_ hsay
 have HTK:=Hid.mk_ htk
 have HWL:=Hid.mk_ hwl2
 have hjt:(j:Int)<(tl:Int):=by omega
 have htl:(tl:Int)<=2048:=by omega
 clear h1 h4 h6 hBl hck hT hsay hahd hwo har hkx hrx htx htk htk0 hx hc hex hru hkn hge hpl hm1 hall hks hll hl hsz hg hj hbl hwl2 hgl2
 go_enter Tryz.func36,Tryz.ntmps36
 go_wp2_with fail
 refine(HAR.out _ (zzd _ _)).mono ?_
 rintro e X1 ⟨rfl,hB1⟩
 have HW1:=HWO.out X1 hB1
 have HB1:=Hid.mk_ hB1
 have HS1:=Hid.mk_ hB1.size
 clear hB1 HAR HWO
 go_wp2_with fail
 refine HW1.mono ?_
 rintro e X2 ⟨wa,wc,rfl,hO2,hB2⟩
 have HB2:=Hid.mk_ (HB1.out.trans (hB2.mono HB1.out.size))
 obtain⟨_,_,e1,hI2⟩:=pJ hO2 oo
 cases e1
 have HO2:=Hid.mk_ (And.intro hO2 hI2)
 have HS2:=Hid.mk_ hB2.size
 obtain⟨q0,q1,q2⟩:=HCE.out X2 HB2.out
 clear hO2 hI2 hB2 HW1 HB1
 by_cases hk2:xk=2
 ·subst hk2
  have HE:Hid (PP↔iZ G 200 T wd):=HO.out.trans ⟨fun q=>q.1 rfl,fun q=>⟨fun _=>q,fun e=>absurd rfl e⟩⟩;clear HO HTK;(go_wp2_with fail);refine wp_region_held_drew (S:=fun X=>Below X2.heap.size X2 X) hmx (zzd _ _).drew (fun hS=>?_);refine gA 0 (some 22) hS ?_;refine gA 1 (some 23) hS ?_;refine gA 2 (some 24) hS ?_;refine gA 4 (some 26) hS ?_;refine gA 5 (some 27) hS ?_;refine gA 6 (some 28) hS ?_;refine gA 7 (some 29) hS ?_ (hy:=by intro w hSw;obtain⟨q0,q1,q2⟩:=HCE.out _ (HB2.out.trans (hSw.mono HB2.out.size));go_simp;with_reducible rfl);refine gA 8 (some 30) hS ?_;refine gT 3 kr rfl (fun K hK=>?_);rw[if_pos (by rfl)];go_simp;refine(HRU.out _ (HB2.out.trans (hS.mono HB2.out.size))).mono ?_;rintro e Y ⟨rfl,bY⟩;have hY:=hS.trans (bY.mono hS.size);clear bY;refine hK.out _ _ hY (fun _=>?_);clear hK K;refine gT 9 kr rfl (fun K hK=>?_);rw[if_pos (by rfl)];go_simp;refine(HSY.out Y (HB2.out.trans (hY.mono HB2.out.size)) wa wl wc wd (HO2.out.2.below hY)).1.mono ?_;rintro e Z ⟨r,rfl,hr,bZ⟩;have hZ:=hY.trans (bZ.mono hY.size);have HRR:=Hid.mk_ (And.intro (hr.trans HE.out.symm) (HB2.out.trans (hZ.mono HB2.out.size)));clear bZ hr;refine hK.out _ _ hZ (fun _=>?_);clear hK K;refine gA 10 (some 6) hZ ?_;refine wpAnyH_done kr ?_ _;clear HCE HSY HE HRU HO2;go_wp2;go_ret;exact⟨r,rfl,HRR.out.1,HRR.out.2⟩
 ·have b2:(xk==2)=false:=by simpa using hk2
  have HE:Hid (PP↔(fb=true/\rQ G 200 T (wd++[xt]))):=HO.out.trans ⟨fun q=>q.2 hk2,fun q=>⟨fun e=>absurd e hk2,fun _=>q⟩⟩;have HT2:=HTK.out X2 HB2.out;clear HO HTK hk2;cases fb with
  | false=>
   (go_wp2_with fail);refine HT2.mono ?_;rintro e X3 ⟨rfl,hB3⟩;have HB3:=Hid.mk_ (HB2.out.trans (hB3.mono HB2.out.size));(have HN:Hid (¬PP):=fun p=>by cases (HE.out.1 p).1);clear hB3 HT2 HCE HSY HE HRU HO2;go_wp2;go_ret
   first | exact⟨false,rfl,iff_of_false (by simp) HN.out,HB3.out⟩ | exact .inl ⟨rfl,HN.out,HB3.out⟩
  | true=>
   have HPE:Hid (PP↔rQ G 200 T (wd++[xt])):=HE.out.trans ⟨fun q=>q.2,fun q=>⟨rfl,q⟩⟩;clear HE;(go_wp2_with fail);refine HT2.mono ?_;rintro e X3 ⟨rfl,hB3⟩;have HB3:=Hid.mk_ (HB2.out.trans (hB3.mono HB2.out.size));obtain⟨q0,q1,q2⟩:=HCE.out X3 HB3.out;have hown3:=gGe HO2.out.1 hB3;have hown4:=World.ownsRow.alloc hown3 (.cells #[.int .i64 xt] 3);have hints:=kA.one (World.alloc_heap_new X3 (.cells #[.int .i64 xt] 3));have hB4:=HB3.out.alloc HB3.out.size (.cells #[.int .i64 xt] 3);have HW:=Hid.mk_ (And.intro hown4 (And.intro hints hB4));have hs1:wl+1<=1000000000:=by omega
   have HS3:Hid (X1.heap.size<=(X3.alloc (.cells #[.int .i64 xt] 3)).heap.size):=by
    show _<=_
    rw[World.size_alloc];exact Nat.le_succ_of_le (Nat.le_trans HS2.out hB3.size)
   clear hown3 hown4 hints hB3 HT2 hB4;(go_wp2_with (first | (at_builtin;refine kH rfl (.tmp 38) (.tmp 44) rfl X1.heap.size _ wl _ rfl HW.out.1 _ 1 1 [xt] rfl (fun e=>by cases e) HW.out.2.1 hs1 HS3.out ?_;intro v1 X5 hown5 hB5;obtain⟨va,vc,rfl⟩:=nO hown5;have HN:=Hid.mk_ (And.intro hown5 (HW.out.2.2.trans (hB5.mono HS1.out)));clear hown5 hB5 HW) | fail));obtain⟨_,_,e1,hI5⟩:=pJ HN.out.1 oo;cases e1;have HI5:=Hid.mk_ hI5;have HB5:=Hid.mk_ HN.out.2;obtain⟨ul,hul⟩:∃ul,wl+1=ul:=⟨_,rfl⟩;rw[hul] at HI5;clear hI5 HN HS1 HS2 HS3 HB3 HO2 q0 q1 q2;refine wp_region_held_drew (S:=fun X=>Below X5.heap.size X5 X) hmx (zzd _ _).drew (fun hS=>?_);refine gA 0 (some 46) hS ?_;refine gA 1 (some 47) hS ?_;refine gA 2 (some 48) hS ?_;refine gA 4 (some 50) hS ?_;refine gA 5 (some 51) hS ?_;refine gA 6 (some 52) hS ?_;refine gA 7 (some 53) hS ?_ (hy:=by intro w hSw;obtain⟨q0,q1,q2⟩:=HCE.out _ (HB5.out.trans (hSw.mono HB5.out.size));go_simp;with_reducible rfl);refine gA 8 (some 54) hS ?_;refine gA 10 (some 56) hS ?_;refine gA 11 (some 57) hS ?_;refine gT 3 kr rfl (fun K hK=>?_);rw[if_pos (by rfl)];go_simp;refine(HRU.out _ (HB5.out.trans (hS.mono HB5.out.size))).mono ?_;rintro e Y ⟨rfl,bY⟩;have hY:=hS.trans (bY.mono hS.size);clear bY;refine hK.out _ _ hY (fun _=>?_);clear hK K;refine gT 9 kr rfl (fun K hK=>?_);rw[if_pos (by rfl)];go_simp;refine(HSY.out Y (HB5.out.trans (hY.mono HB5.out.size)) va ul vc _ (HI5.out.below hY)).2.mono ?_;rintro e Z ⟨i,rfl,hi,bZ⟩;have hZ:=hY.trans (bZ.mono hY.size);have HRR:=Hid.mk_ (And.intro (hi.trans HPE.out.symm) (HB5.out.trans (hZ.mono HB5.out.size)));clear bZ hi;refine hK.out _ _ hZ (fun _=>?_);clear hK K;refine gA 12 (some 58) hZ ?_;refine gA 13 (some 6) hZ ?_;refine wpAnyH_done kr ?_ _;clear HCE HSY HRU HPE;go_wp2;go_ret;exact⟨_,rfl,by rw[beq_iff_eq,Int.natCast_inj];exact HRR.out.1,HRR.out.2⟩
theorem gKs (s:Int)(w:World):Calls Tryz.prog 108 #[.int .i64 s] w fun e w' => e=.returned (.bool (qW s))/\w' = w:=by
 unfold qW
 cases h1:decide (0<=s)
 all_goals
  go_enter Tryz.func108,Tryz.ntmps108;go_wp2;go_ret;exact⟨rfl,rfl⟩
theorem gNy (n:Int)(w:World):Calls Tryz.prog 107 #[.int .i64 n] w fun e w' => e=.returned (.bool (tY n))/\w' = w:=by
 unfold tY
 cases h1:decide (0<=n)<;>cases h2:decide (n<=1114111)<;>cases h3:decide (n<55296)
 all_goals
  go_enter Tryz.func107,Tryz.ntmps107;go_wp2;go_ret;exact⟨rfl,rfl⟩
theorem k110{p:Prop}(h:p:=by
  go_enter Tryz.func71,Tryz.ntmps71;go_wp2;go_ret;exact⟨rfl,(zzd _ _).alloc (zzb _) _⟩
  ):p:=h
theorem k88{p:Prop}(h:p:=by
  simp only[Bool.false_and];go_enter Tryz.func71,Tryz.ntmps71;go_wp2;go_ret;exact⟨rfl,(zzd _ _).alloc (zzb _) _⟩
  ):p:=h
theorem k59{p:Prop}(h:p:=by
  go_enter Tryz.func71,Tryz.ntmps71;(go_wp2_with fail);refine(c1 _).mono ?_;rintro e w' ⟨rfl,rfl⟩;(go_wp2_with fail);refine(c2 _).mono ?_;rintro e w' ⟨rfl,rfl⟩;go_wp2;go_ret;exact⟨rfl,(zzd _ _).alloc (zzb _) _⟩
  ):p:=h
theorem k10{p:Prop}(h:p:=by
  cases h0:decide (1<=t)
  ·simp only[Bool.false_and]
   go_enter Tryz.func71,Tryz.ntmps71;go_wp2;go_ret;exact⟨rfl,(zzd _ _).alloc (zzb _) _⟩
  ·cases h1:decide (t<16)
   ·simp only[Bool.and_false,Bool.false_and]
    go_enter Tryz.func71,Tryz.ntmps71;go_wp2;go_ret;exact⟨rfl,(zzd _ _).alloc (zzb _) _⟩
   ·cases h2:decide (0<=n)
    ·simp only[Bool.and_false,Bool.false_and]
     go_enter Tryz.func71,Tryz.ntmps71;go_wp2;go_ret;exact⟨rfl,(zzd _ _).alloc (zzb _) _⟩
    ·cases h3:decide (n<=15)
     ·simp only[Bool.and_false,Bool.false_and]
      go_enter Tryz.func71,Tryz.ntmps71;go_wp2;go_ret;exact⟨rfl,(zzd _ _).alloc (zzb _) _⟩
     ·cases h4:m==0
      ·simp only[Bool.and_false]
       go_enter Tryz.func71,Tryz.ntmps71;go_wp2;go_ret;exact⟨rfl,(zzd _ _).alloc (zzb _) _⟩
      ·go_enter Tryz.func71,Tryz.ntmps71
       go_wp2;go_ret;exact⟨rfl,(zzd _ _).alloc (zzb _) _⟩
  ):p:=h
theorem gKr (x:Tok)(w:World):Calls Tryz.prog 71 #[nT x] w fun e w' => e=.returned (.bool (qV x))/\Below w.heap.size w w' := by
 obtain⟨k,t,n,m⟩:=x
 unfold nT qV
 simp only
 by_cases k0:k=0
 ·subst k0
  rw[if_pos rfl];(have c1:=fun W=>gNy n W);(have c2:=fun W=>gKs m W);generalize tY n=p at *;generalize qW m=q at *;cases h0:t==0
  ·exact k88
  ·cases h1:p
   ·rw[h1] at c1
    simp only[Bool.and_false,Bool.false_and];go_enter Tryz.func71,Tryz.ntmps71;(go_wp2_with fail);refine(c1 _).mono ?_;rintro e w' ⟨rfl,rfl⟩;go_wp2;go_ret;exact⟨rfl,(zzd _ _).alloc (zzb _) _⟩
   ·rw[h1] at c1
    cases h2:q
    ·rw[h2] at c2
     simp only[Bool.and_false];exact k59
    ·rw[h2] at c2
     exact k59
 rw[if_neg k0]
 have e0:(k==0)=false:=by simpa using k0
 by_cases k1:k=1
 ·subst k1
  rw[if_pos (.inl rfl)];exact k10
 have e1:(k==1)=false:=by simpa using k1
 by_cases k3:k=3
 ·subst k3
  rw[if_pos (.inr rfl)];exact k10
 have e3:(k==3)=false:=by simpa using k3
 rw[if_neg oo]
 by_cases k2:k=2
 ·subst k2
  rw[if_pos rfl];cases h0:t==0
  ·exact k88
  ·cases h1:n==0
   ·simp only[Bool.and_false,Bool.false_and]
    exact k110
   ·cases h2:m==0
    ·simp only[Bool.and_false]
     exact k110
    ·exact k110
 have e2:(k==2)=false:=by simpa using k2
 rw[if_neg k2]
 exact k110
theorem k132{p:Prop}(h:p:=by
  have hB2:Below w.heap.size w W1:=hB.trans (hB1.mono hB.size);go_wp2;go_ret2;exact⟨by rw[HD.out];rfl,hB2⟩
  ):p:=h
theorem gNt (a:Option Addr)(len cap:Nat)(l:List Tok)(w:World)(hl:mC w a len l)(hsz:len<=35184372088832) :
  Calls Tryz.prog 35 #[.slice a len cap] w fun e w' => e=.returned (.tuple #[.int .i64 (iO l).1,.int .i64 (iO l).2])/\Below w.heap.size w w' := by
 by_cases hlong:2048<len
 ·rw[show iO l=(0,2) from by unfold iO;rw[if_pos (by rw[hl.1];exact hlong)]]
  go_enter Tryz.func35,Tryz.ntmps35;go_wp2;go_ret2;exact⟨rfl,zzd _ _⟩
 ·have HC:Hid (iO l=mM l 0 0):=by show iO l=_;unfold iO;rw[if_neg (by rw[hl.1];exact hlong)]
  go_enter Tryz.func35,Tryz.ntmps35;go_wp2
  go_loopw [4,5] (fun u i w' => ∃(k:Nat) (d:Int),k<=len/\i=.int .i64 (k:Int)/\u=.int .i64 d/\0<=d/\d<=32/\mM (l.drop k) k d=iO l/\Below w.heap.size w w') (fun _ i _=>len - (intOf i).toNat)
  case atStart=>exact⟨0,0,zzn _,rfl,rfl,oo,oo,HC.out.symm,zzd _ _⟩
  case round=>
   obtain⟨k,d,hk,rfl,rfl,d0,d1,hch,hB⟩:=hrel;have hl' := hl.below hB
   by_cases hlt:k<len
   ·obtain⟨x,hx,hdr⟩:=uS (l:=l) (k:=k) (by rw[hl.1];exact hlt)
    obtain⟨b,o,rfl,hbl,hcl⟩:=(show ∃b o,a=some ⟨b,o,none⟩/\b<wr.heap.size/\∀i x,l[i]? = some x->wr.cell? ⟨b,o+i * 4,none⟩=some (.int .i64 x.k)/\wr.cell? ⟨b,o+i * 4+1,none⟩=some (.int .i64 x.t) ∧
     wr.cell? ⟨b,o+i * 4+2,none⟩=some (.int .i64 x.n)/\wr.cell? ⟨b,o+i * 4+3,none⟩=some (.int .i64 x.m) from by
      rcases hl'.2 with h | h
      ·omega
      ·exact h)
    obtain⟨c0,c1,c2,c3⟩:=hcl k x hx;(have hr:=fun W=>gKr x W);have hl0:=hl.1;clear hcl hl' hl;rw[hdr] at hch;clear hdr;rw[mM] at hch;obtain⟨xk,xt,xn,xm⟩:=x;generalize qV ⟨xk,xt,xn,xm⟩=p at *;simp only[nT] at *;cases p
    ·have HD:Hid (iO l=((k:Int),4)):=by show iO l=_;rw[<-hch];simp
     clear hch;(go_wp2_with fail);refine(hr _).mono ?_;rintro e W1 ⟨rfl,hB1⟩;have c4:W1.cell? ⟨b,o+k * 4,none⟩=some (.int .i64 xk):=(hB1.cell (p:=⟨b,_,none⟩) hbl).trans c0;exact k132
    ·simp only[Bool.not_true,Bool.false_or] at hch
     by_cases k1:xk=1
     ·subst k1
      simp only[show ((1:Int)==2)=false from rfl,Bool.false_and,Bool.false_eq_true,if_false,if_true] at hch
      by_cases hd:d=32
      ·subst hd
       (have HD:Hid (iO l=((k:Int),8)):=by show iO l=_;rw[<-hch];simp);clear hch;(go_wp2_with fail);refine(hr _).mono ?_;rintro e W1 ⟨rfl,hB1⟩;have c4:W1.cell? ⟨b,o+k * 4,none⟩=some (.int .i64 1):=(hB1.cell (p:=⟨b,_,none⟩) hbl).trans c0;exact k132
      ·have HD:Hid (iO l=mM (l.drop (k+1)) (k+1) (d+1)):=by show iO l=_;rw[<-hch,if_neg oo]
       clear hch;(go_wp2_with fail);refine(hr _).mono ?_;rintro e W1 ⟨rfl,hB1⟩;have c4:W1.cell? ⟨b,o+k * 4,none⟩=some (.int .i64 1):=(hB1.cell (p:=⟨b,_,none⟩) hbl).trans c0;have hB2:Below w.heap.size w W1:=hB.trans (hB1.mono hB.size);go_wp2
       go_roundw
       case rel=>exact⟨k+1,d+1,oo,rfl,rfl,oo,oo,HD.out.symm,hB2⟩
       case measure=>simp[intOf];omega
     ·by_cases k2:xk=2
      ·subst k2
       simp only[show ((2:Int)==2)=true from rfl,Bool.true_and,show ¬((2:Int)=1) from by decide,if_false,if_true] at hch
       by_cases hd:d=0
       ·subst hd
        (have HD:Hid (iO l=((k:Int),4)):=by show iO l=_;rw[<-hch];simp);clear hch;(go_wp2_with fail);refine(hr _).mono ?_;rintro e W1 ⟨rfl,hB1⟩;have c4:W1.cell? ⟨b,o+k * 4,none⟩=some (.int .i64 2):=(hB1.cell (p:=⟨b,_,none⟩) hbl).trans c0;exact k132
       ·have HD:Hid (iO l=mM (l.drop (k+1)) (k+1) (d - 1)):=by show iO l=_;rw[<-hch,if_neg (by simpa using hd),if_neg oo]
        (have ed:(d==0)=false:=by simpa using hd);clear hch;(go_wp2_with fail);refine(hr _).mono ?_;rintro e W1 ⟨rfl,hB1⟩;have c4:W1.cell? ⟨b,o+k * 4,none⟩=some (.int .i64 2):=(hB1.cell (p:=⟨b,_,none⟩) hbl).trans c0;have hB2:Below w.heap.size w W1:=hB.trans (hB1.mono hB.size);go_wp2
        go_roundw
        case rel=>exact⟨k+1,d - 1,oo,rfl,rfl,oo,oo,HD.out.symm,hB2⟩
        case measure=>simp[intOf];omega
      ·have e1:(xk==1)=false:=by simpa using k1
       (have e2:(xk==2)=false:=by simpa using k2);simp only[e2,Bool.false_and,Bool.false_eq_true,if_false,k1,k2] at hch;(have HD:Hid (iO l=mM (l.drop (k+1)) (k+1) d):=by show iO l=_;rw[<-hch,if_neg oo]);clear hch;(go_wp2_with fail);refine(hr _).mono ?_;rintro e W1 ⟨rfl,hB1⟩;have c4:W1.cell? ⟨b,o+k * 4,none⟩=some (.int .i64 xk):=(hB1.cell (p:=⟨b,_,none⟩) hbl).trans c0;have hB2:Below w.heap.size w W1:=hB.trans (hB1.mono hB.size);go_wp2
       go_roundw
       case rel=>exact⟨k+1,d,oo,rfl,rfl,oo,oo,HD.out.symm,hB2⟩
       case measure=>simp[intOf];omega
   ·obtain rfl:k=len:=by omega
    rw[show l.drop k=[] from List.drop_eq_nil_of_le (by rw[hl.1];exact zzb _),mM] at hch
    by_cases hd:0<d
    ·have HD:Hid (iO l=((k:Int),3)):=by show iO l=_;rw[<-hch,if_pos hd]
     clear hch;go_wp2;go_ret2;exact⟨by rw[HD.out];rfl,hB⟩
    ·have HD:Hid (iO l=((k:Int),0)):=by show iO l=_;rw[<-hch,if_neg hd]
     clear hch;go_wp2;go_ret2;exact⟨by rw[HD.out];rfl,hB⟩
end Go.Proofs.YtjkebndkeamijaaGreatDoor
