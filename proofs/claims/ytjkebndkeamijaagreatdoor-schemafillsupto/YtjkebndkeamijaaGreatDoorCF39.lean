/-
  PROVED HERE: what the texts DFRefSays, DFFillP, DFNetNm, DFWays say.
-/
import Derived.Test.YtjkebndkeamijaaGreatDoorCFDFNetsD
import Derived.Test.YtjkebndkeamijaaGreatDoorCFDFFillB
import Derived.Laws.IdiomRangeMap
set_option maxRecDepth 100000
set_option maxHeartbeats 1000000
namespace Go.Proofs.YtjkebndkeamijaaGreatDoor
open Go.RowKit
theorem kinds_right:∀(n:Nat) (t:DataW Unit),rightE n t=true->KindsN kindT subs n t:=by
 intro n
 induction n with
 | zero=>intro t _;trivial
 | succ n ih=>
  intro t h;rw[rightE,Bool.and_eq_true,List.all_eq_true] at h;obtain⟨h1,h2⟩:=h;refine⟨?_,fun x hx=>ih x (by have:=h1 x hx;rw[Bool.and_eq_true] at this;exact this.2)⟩;unfold shapely at h2
  by_cases k0:kindT t=0
  ·omega
  ·rw[if_neg k0] at h2
   by_cases k1:kindT t=1
   ·omega
   ·rw[if_neg k1] at h2
    by_cases k2:kindT t=4\/kindT t=5\/kindT t=6
    ·omega
    ·rw[if_neg k2] at h2
     by_cases k3:kindT t=2\/kindT t=3
     ·omega
     ·rw[if_neg k3] at h2
      cases h2
def TyN (N:List Node):Prop:=∀(i:Nat) (x:Node),N[i]? = some x->x.2.1.length<=16
theorem ty_place {N:List Node}(h:TyN N):TyN (placeN N):=fun i x hx=>by
 rcases place_at hx with e | rfl
 ·exact h i x e
 ·exact zzn _
theorem ty_free {N:List Node}(h:TyN N)(a b:Nat):TyN (freeN N a b):=fun i x hx=>by
 obtain⟨y,hy,rfl⟩:=modify_at hx
 have:=h i y hy
 split<;>exact this
theorem ty_name {N:List Node}(h:TyN N)(c:Nat){ts:List Int}(ht:ts.length<=16)(b:Nat):TyN (nameN N c ts b):=fun i x hx=>by
 obtain⟨y,hy,rfl⟩:=modify_at hx
 have:=h i y hy
 split
 ·exact ht
 ·exact this
theorem ty_seq {T:Type}{f:T->Nat->Nat->List Node->List Node}(hf:∀x a b N,TyN N->TyN (f x a b N)):∀(l:List T) a b N,TyN N->TyN (seqN f l a b N):=by
 intro l
 induction l with
 | nil=>intro a b N h;exact ty_free h a b
 | cons x r ih=>intro a b N h;exact ih _ _ _ (hf x _ _ _ (ty_place h))
theorem ty_alt {T:Type}{f:T->Nat->Nat->List Node->List Node}(hf:∀x a b N,TyN N->TyN (f x a b N)):∀(l:List T) a b N,TyN N->TyN (altsN f l a b N):=by
 intro l
 induction l with
 | nil=>intro a b N h;exact h
 | cons x r ih=>intro a b N h;exact ih _ _ _ (hf x _ _ _ h)
theorem ty_lay {T:Type}(K:T->Int)(Ty:T->List Int)(U:T->List T)(hT:∀t,(Ty t).length<=16):∀(n:Nat) (t:T) (a b:Nat) (N:List Node),TyN N->TyN (layN K Ty U n t a b N):=by
 intro n
 induction n with
 | zero=>intro t a b N h;exact h
 | succ n ih=>
  intro t a b N h;rw[layN]
  split
  ·exact ty_free h a b
  ·split
   ·exact ty_name (ty_free (ty_place h) _ _) _ (hT t) _
   ·split
    ·exact ty_seq (fun x a b N h=>ih x a b N h) _ _ _ _ h
    ·split
     ·exact ty_alt (fun x a b N h=>ih x a b N h) _ _ _ _ h
     ·have h1:TyN (oneN (layN K Ty U n) (U t) N.length (N.length+1) (freeN (placeN (placeN N)) a N.length)):=by
       cases U t with
       | nil=>exact ty_free (ty_place (ty_place h)) _ _
       | cons x r=>exact ih x _ _ _ (ty_free (ty_place (ty_place h)) _ _)
      dsimp only[signN]
      split
      ·split
       ·exact ty_free h1 _ _
       ·exact ty_free (ty_free h1 _ _) _ _
      ·split
       ·exact ty_free (ty_free h1 _ _) _ _
       ·exact ty_free (ty_free (ty_free h1 _ _) _ _) _ _
theorem tyG_few {gs:List Grp}(hr:rightG gs=true)(s:ByteArray):(tyG gs s).length<=16:=by
 unfold rightG at hr
 rw[Bool.and_eq_true] at hr
 have hr2:=List.all_eq_true.1 hr.2
 clear hr
 induction gs with
 | nil=>exact zzn _
 | cons g r ih=>
  rw[tyG]
  split
  ·have hg:=hr2 g (zzg ..)
   unfold rightTs at hg;rw[Bool.and_eq_true] at hg;exact of_decide_eq_true hg.1
  ·exact ih fun y hy=>hr2 y (zzk _ hy)
theorem chk_parts {n:Nat}{t:DataW Unit}{gs:List Grp}(h:chk n t gs=0):SK gs n t/\rightG gs=true/\size subs n t<=200:=by
 obtain⟨h1,h2,h3⟩:=chk_zero h
 refine⟨⟨h1,kinds_right n t ?_⟩,h2,h3⟩
 apply checkE_right
 unfold chk at h
 split at h
 ·assumption
 ·rename_i hc;exact absurd h hc
theorem netF_nets {n:Nat}{t:DataW Unit}{gs:List Grp}(h:chk n t gs=0):Nets (netF gs n t) (LangD gs n t)/\(netF gs n t).length<=50000/\FewN 50000 (netF gs n t)/\TyN (netF gs n t):=by
 obtain⟨⟨hS,hK⟩,hr,hsz⟩:=chk_parts h
 have hA:Adds twoN (netF gs n t) (4 * size subs n t - 2) (4 * size subs n t):=adds_layM hS (by decide) (by decide)
 have hfew:FewN 0 twoN:=fun p x hx=>by
  exact k89
 have hty:TyN twoN:=ty_place (ty_place (fun i x hx=>by simp at hx))
 refine⟨net_of kindT (fun t=>maskG gs (nameT t)) (tyS gs) subs (fun t a=>tyG_mask hr (nameT t) a) (fun s hs e=>hs ((tyG_zero hr (nameT s)).2 e)) n t hS hK hA,?_,(hA.few 0 hfew).more oo,ty_lay kindT (tyS gs) subs (fun t=>tyG_few hr (nameT t)) n t 0 1 twoN hty⟩
 have:=hA.hi
 have e:twoN.length=2:=rfl
 omega
theorem place_live {F:List Place}(hF:wf F)(hm:∀(i:Nat) (x:Place),F[i]? = some x->x.1<65536):∀(m p:Nat),p<=m->p<F.length->∃k v,Reads F k p v:=by
 intro m
 induction m with
 | zero=>
  intro p hp _;(have e0:p=0:=by omega);subst e0;exact⟨0,[],rfl,rfl⟩
 | succ m ih=>
  intro p hp hl;rcases Nat.eq_zero_or_pos p with rfl | hpos
  ·exact⟨0,[],rfl,rfl⟩
  ·have hx:F[p]? = some F[p]:=zze hl
   rcases hF.2 p _ hpos hx with ⟨h1,q,h2,h3,_⟩ | ⟨h1,h2,q,h3,h4,_⟩
   ·obtain⟨k,v,hr⟩:=ih q oo oo
    obtain⟨j,r,e⟩:=low_bit F[p].1 F[p].1 (zzb _) h1
    have hj:F[p].1.testBit j=true:=by
     rw[e,Nat.mul_comm,Nat.testBit_mul_two_pow]
     simp
    have hj16:=bit_small (hm p _ hx) hj;refine⟨k+1,(j:Int)::v,.inr ⟨_,hx,.inr ⟨h1,(j:Int),v,q,rfl,?_,by rw[h2];rfl,hr⟩⟩⟩;unfold takes
    simp
    exact⟨oo,hj⟩
   ·obtain⟨k,v,hr⟩:=ih q oo oo
    exact⟨k+1,v,.inr ⟨_,hx,.inl ⟨h1,q,h3,hr⟩⟩⟩
theorem via_lt {F:List Place}{N:Nat}(hF:Sound1 F N):∀{k p q:Nat},p<N->Via F k p q->q<N:=by
 intro k
 induction k with
 | zero=>rintro p q hp rfl;exact hp
 | succ k ih=>
  intro p q hp hv;rcases hv with rfl | ⟨x,hx,h0,r,hr,hv⟩
  ·exact hp
  ·exact ih (hF.lt p x hx h0 r hr) hv
theorem after_ltS {F:List Place}{N first:Nat}(hF:Sound1 F N)(hf:first<N):∀w q,afterS F (startS F first) w q->q<N:=by
 intro w
 rcases List.eq_nil_or_concat w with rfl | ⟨u,t,rfl⟩
 ·rintro q ⟨k,hv⟩
  exact via_lt hF hf hv
 ·rw[List.concat_eq_append,afterS_snoc]
  rintro q ⟨a,x,r,k,_,hx,ht,hr,hv⟩;(have h0:x.1≠0:=fun e=>by rw[e,takes_zero] at ht;cases ht);rcases Nat.eq_zero_or_pos a with rfl | hpos
  ·rw[hF.wf.1] at hx
   cases hx;exact absurd rfl h0
  ·have hal:=(zzc.1 hx).1
   rcases hF.wf.2 a x hpos hx with ⟨_,q', e,hlt,_⟩ | ⟨h1,_⟩
   ·rw[e] at hr
    cases hr;exact via_lt hF (by have:=hF.len;omega) hv
   ·exact absurd h1 h0
theorem pre_lang {n:Nat}{t:DataW Unit}{gs:List Grp}(h:chk n t gs=0)(w:List Int):PreD gs n t w↔∃v,LangD gs n t (w++v):=by
 obtain⟨hF,hf⟩:=plan_sound h
 have h0:=hF.wf.1
 have key:∀v,LangD gs n t (w++v)↔∃a k,afterS (planF gs n t) (startS (planF gs n t) (firstF gs n t)) w a/\Reads (planF gs n t) k a v:=fun v=>by
  rw[<-after_lang h,reads_after h0 v _ (afterS_shut (startS_shut _ _) w)];unfold afterS;rw[List.foldl_append]
 constructor
 ·rintro⟨q,hq⟩
  obtain⟨k,v,hr⟩:=place_live hF.wf hF.mask q q (zzb _) (after_ltS hF hf w q hq);exact⟨v,(key v).2 ⟨q,k,hq,hr⟩⟩
 ·rintro⟨v,hv⟩
  obtain⟨a,k,ha,_⟩:=(key v).1 hv;exact⟨a,ha⟩
end Go.Proofs.YtjkebndkeamijaaGreatDoor
/- RefAsks: what the document's Accepts, Begins and Nexts answer. -/
namespace Go.Proofs.YtjkebndkeamijaaGreatDoor
open Go.RowKit
theorem net_ok {w W:World}{Bn n:Nat}{t:DataW Unit}{gs:List Grp}(h:chk n t gs=0)(hN:NetIn w W Bn (netF gs n t)):NetOk w W Bn (netF gs n t):=by
 obtain⟨h1,h2,h3,_⟩:=netF_nets h
 exact⟨hN,h1.fit,h1.two,h2,h3⟩
theorem ran_of {w:World}{n:Nat}{t:DataW Unit}{v:Value}{ga:Option Addr}{gl gc:Nat}{gs:List Grp}{za:Option Addr}{zl zc:Nat}{zs:List Int}(h:Ex w n t v)(hG:Groups w ga gl gs)(hZ:Ints w za zl zs)(hc:chk n t gs=0) :
  ∀X,Below w.heap.size w X->Calls Tryz.prog 75 #[v,.slice ga gl gc] X fun e w' => ∃Bn,e=.returned (.pointer (some ⟨Bn,0,none⟩))/\NetOk X w' Bn (netF gs n t)/\Below X.heap.size X w' ∧
   Calls Tryz.prog 76 #[.pointer (some ⟨Bn,0,none⟩),.slice za zl zc] w' fun e w2=>∃(a:Addr) (c:Nat) (bs:List Bool) (i:Nat),e=.returned (.tuple #[.slice (some a) (netF gs n t).length c,.int .i64 (i:Int)])/\Bools w2 (some a) (netF gs n t).length bs/\ReadM (netF gs n t) zs bs i/\Below w'.heap.size w' w2:=fun X hX=>by
 obtain⟨hS,_,hsz⟩:=chk_parts hc
 refine(made_calls n t v ga gl gc gs X (Ex.below hX _ _ _ h) hS (hG.below hX) hsz).mono ?_
 rintro e W ⟨Bn,rfl,hN⟩
 exact⟨Bn,rfl,net_ok hc hN,hN.bel,run_calls X W Bn _ (net_ok hc hN) (netF_nets hc).2.2.2 za zl zc zs (hZ.below (hX.trans (hN.bel.mono hX.size)))⟩
theorem ran_long {n:Nat}{t:DataW Unit}{gs:List Grp}(hc:chk n t gs=0){zs:List Int}{bs:List Bool}{i:Nat}(h:ReadM (netF gs n t) zs bs i):LongD gs n t zs i:=by
 obtain⟨hN,_⟩:=netF_nets hc
 obtain⟨h1,h2,h3⟩:=h
 have key:∀xs,(∃q,afterM (netF gs n t) xs q)↔PreD gs n t xs:=fun xs=>by rw[hN.begins,<-pre_lang hc]
 exact⟨h1,(key _).1 h2.1,fun hi hp=>h3 hi ((key _).2 hp)⟩
end Go.Proofs.YtjkebndkeamijaaGreatDoor
/- RefNexts: what the document's Nexts answers. -/
namespace Go.Proofs.YtjkebndkeamijaaGreatDoor
open Go.RowKit
theorem pre_small {gs:List Grp}{n:Nat}{t:DataW Unit}{zs:List Int}(hc:chk n t gs=0){x:Int}(h:PreD gs n t (zs++[x])):0<=x/\x<16:=by
 classical
 obtain⟨hs,_⟩:=plan_sound hc
 rw[pre_snoc hs (S:=fun q=>decide (afterS (planF gs n t) (startS (planF gs n t) (firstF gs n t)) zs q)) (fun q=>by simp)] at h
 obtain⟨j,rfl,p,y,h1,h2,h3⟩:=h
 have:=bit_small (hs.mask p y h2) h3
 omega
end Go.Proofs.YtjkebndkeamijaaGreatDoor
namespace Go.Proofs.YtjkebndkeamijaaGreatDoor
open Go.RowKit
theorem nat_least {Q:Nat->Prop}:∀n,Q n->∃m,Q m/\∀k,k<m->¬Q k:=by
 intro n
 induction n using Nat.strongRecOn with
 | ind n ih=>
  intro h
  by_cases hk:∃k,k<n/\Q k
  ·obtain⟨k,h1,h2⟩:=hk
   exact ih k h1 h2
  ·exact⟨n,h,fun k h1 h2=>hk ⟨k,h1,h2⟩⟩
theorem lex_least:∀(m:Nat) (P:List Int->Prop),(∀x,P x->x.length=m/\∀a∈x,0<=a)->(∃x,P x)->∃x,P x/\∀y,P y->x=y\/lexLt x y:=by
 intro m
 induction m with
 | zero=>
  rintro P hP ⟨x,hx⟩;refine⟨x,hx,fun y hy=>.inl ?_⟩;rw[List.length_eq_zero_iff.1 (hP x hx).1,List.length_eq_zero_iff.1 (hP y hy).1]
 | succ m ih=>
  rintro P hP ⟨x,hx⟩
  have hcons:∀x,P x->∃(n:Nat) (r:List Int),x=(n:Int)::r:=fun x hx=>by
   obtain⟨h1,h2⟩:=hP x hx;cases x with
   | nil=>cases h1
   | cons a r=>exact⟨a.toNat,r,by have:=h2 a (zzg ..);rw[Int.toNat_of_nonneg this]⟩
  obtain⟨n0,r0,rfl⟩:=hcons x hx;obtain⟨n,⟨r,hn⟩,hl⟩:=nat_least (Q:=fun n:Nat=>∃r,P ((n:Int)::r)) n0 ⟨r0,hx⟩
  obtain⟨s,hs,hmin⟩:=ih (fun r=>P ((n:Int)::r)) (fun r hr=>by
   obtain⟨h1,h2⟩:=hP _ hr;rw[List.length_cons] at h1
   exact⟨oo,fun a ha=>h2 a (zzk _ ha)⟩) ⟨r,hn⟩
  refine⟨(n:Int)::s,hs,fun y hy=>?_⟩;obtain⟨k,q,rfl⟩:=hcons y hy;rcases Nat.lt_trichotomy n k with h | h | h
  ·exact .inr (.inl oo)
  ·subst h
   rcases hmin q hy with h | h
   ·rw[h];exact .inl rfl
   ·exact .inr (.inr ⟨rfl,h⟩)
  ·exact absurd ⟨q,hy⟩ (hl k h)
theorem best_exists {gs:List Grp}{n:Nat}{t:DataW Unit}(hc:chk n t gs=0)(hp:PreD gs n t []):∃xs,BestD gs n t [] xs:=by
 obtain⟨v,hv⟩:=(pre_lang hc []).1 hp
 rw[List.nil_append] at hv
 obtain⟨m,⟨x,hx,hxl⟩,hm⟩:=nat_least (Q:=fun m=>∃x,LangD gs n t x/\x.length=m) v.length ⟨v,hv,rfl⟩
 have small:∀x,LangD gs n t x->∀a∈x,0<=a:=fun x hx a ha=>by
  obtain⟨u,w,rfl⟩:=List.append_of_mem ha;refine(pre_small hc (zs:=u) (x:=a) ((pre_lang hc _).2 ⟨w,?_⟩)).1;rw[List.append_assoc];exact hx
 obtain⟨s,⟨hs,hsl⟩,hmin⟩:=lex_least m (fun x=>LangD gs n t x/\x.length=m) (fun x hx=>⟨hx.2,small x hx.1⟩) ⟨x,hx,hxl⟩
 refine⟨s,by rw[List.nil_append];exact hs,fun ys hy=>?_⟩
 rw[List.nil_append] at hy
 rcases Nat.lt_trichotomy s.length ys.length with h | h | h
 ·exact .inr (.inl h)
 ·rcases hmin ys ⟨hy,oo⟩ with e | e
  ·exact .inl e
  ·exact .inr (.inr ⟨h,e⟩)
 ·exact absurd ⟨ys,hy,rfl⟩ (hm ys.length oo)
theorem asks_of {gs:List Grp}{ts:List (DataW Unit)}(hc:∀(i:Nat) (t:DataW Unit),ts[i]? = some t->chk 200 t gs=0):∃ask,Asks gs ts ask:=by
 have key:∀i:Nat,∃o:Option (List Int),∀t,ts[i]? = some t->(o=none->¬PreD gs 200 t [])/\∀xs,o=some xs->PreD gs 200 t []/\BestD gs 200 t [] xs:=fun i=>by
  cases ht:ts[i]? with
  | none=>exact⟨none,fun t h=>by cases h⟩
  | some t=>
   by_cases hp:PreD gs 200 t []
   ·obtain⟨xs,hx⟩:=best_exists (hc i t ht) hp
    refine⟨some xs,fun t' h=>?_⟩;cases h;exact⟨fun h=>(by cases h),fun ys h=>(by cases h;exact⟨hp,hx⟩)⟩
   ·refine⟨none,fun t' h=>?_⟩
    cases h;exact⟨fun _=>hp,fun ys h=>(by cases h)⟩
 exact⟨fun i=>(key i).choose,fun i t ht=>(key i).choose_spec t ht⟩
def exL (F:Int->Option (List Tok)):List Int->Option (List Tok)
 | []=>some []
 | t::r=>match F t with
  | none=>none
  | some x=>match exL F r with
   | none=>none
   | some y=>some (x++y)
def exD (sp:Nat->SpecD)(n:Nat)(ask:Nat->Option (List Int)):Nat->Int->Option (List Tok)
 | 0,t=>if 1<=t/\t<n/\(sp t.toNat).leaf=true then some [⟨3,t,(sp t.toNat).least,0⟩] else none
 | f+1,t=>
  if 1<=t/\t<n then
   if (sp t.toNat).leaf=true then some [⟨3,t,(sp t.toNat).least,0⟩]
   else match ask t.toNat with
    | none=>none
    | some ws=>match exL (exD sp n ask f) ws with
     | none=>none
     | some x=>some (⟨1,t,(sp t.toNat).least,0⟩::(x++[⟨2,0,0,0⟩]))
  else none
def fitT (l:List Tok):Option (List Tok)->Option (List Tok)
 | none=>none
 | some x=>if l.length+x.length<=2048 then some (l++x) else none
theorem addD_fit {l:List Tok}(hl:l.length<=2048)(x:Tok):addD l x=fitT l (some [x]):=by
 unfold addD fitT
 dsimp only
 by_cases h:l.length=2048
 ·rw[if_pos h,if_neg (by rw[List.length_singleton];omega)]
 ·rw[if_neg h,if_pos (by rw[List.length_singleton];omega)]
theorem fillL_fit {F:List Tok->Int->Option (List Tok)}{E:Int->Option (List Tok)}(hF:∀l t,l.length<=2048->F l t=fitT l (E t)):∀(ws:List Int) (l:List Tok),l.length<=2048->fillL F ws l=fitT l (exL E ws):=by
 intro ws
 induction ws with
 | nil=>
  intro l hl;rw[fillL,exL,fitT,if_pos (by simpa using hl),List.append_nil]
 | cons t r ih=>
  intro l hl;rw[fillL,exL,hF l t hl];cases hE:E t with
  | none=>rfl
  | some x=>
   by_cases hx:l.length+x.length<=2048
   ·have e1:fitT l (some x)=some (l++x):=by rw[fitT,if_pos hx]
    rw[e1]
    show fillL F r (l++x)=_
    rw[ih (l++x) (by rw[List.length_append];exact hx)];cases exL E r with
    | none=>rfl
    | some y=>
     show (if (l++x).length+y.length<=2048 then some (l++x++y) else none)=(if l.length+(x++y).length<=2048 then some (l++(x++y)) else none)
     rw[List.length_append,List.length_append,List.append_assoc,Nat.add_assoc]
   ·have e1:fitT l (some x)=none:=by rw[fitT,if_neg hx]
    rw[e1];cases exL E r with
    | none=>rfl
    | some y=>
     show none=(if l.length+(x++y).length<=2048 then some (l++(x++y)) else none)
     rw[if_neg (by rw[List.length_append];omega)]
theorem fillS_fit {sp:Nat->SpecD}{n:Nat}{ask:Nat->Option (List Int)}:∀(f:Nat) (l:List Tok) (t:Int),l.length<=2048->fillS sp n ask (f+1) l t=fitT l (exD sp n ask f t):=by
 intro f
 induction f with
 | zero=>
  intro l t hl;rw[fillS,exD]
  by_cases h:1<=t/\t<n
  ·rw[if_pos h]
   by_cases hf:(sp t.toNat).leaf=true
   ·rw[if_pos hf,if_pos ⟨h.1,h.2,hf⟩]
    exact addD_fit hl _
   ·rw[if_neg hf,if_neg (fun q=>hf q.2.2)]
    cases ask t.toNat with
    | none=>rfl
    | some ws=>rfl
  ·rw[if_neg h,if_neg (fun q=>h ⟨q.1,q.2.1⟩)]
   rfl
 | succ f ih=>
  intro l t hl;rw[fillS,exD]
  by_cases h:1<=t/\t<n
  ·rw[if_pos h,if_pos h]
   by_cases hf:(sp t.toNat).leaf=true
   ·rw[if_pos hf,if_pos hf]
    exact addD_fit hl _
   ·rw[if_neg hf,if_neg hf]
    cases ask t.toNat with
    | none=>rfl
    | some ws=>
     dsimp only;rw[if_neg (Nat.succ_ne_zero f),addD_fit hl]
     by_cases h1:l.length+1<=2048
     ·have e1:∀x:Tok,fitT l (some [x])=some (l++[x]):=fun x=>by rw[fitT,if_pos (by rw[List.length_singleton];exact h1)]
      rw[e1];dsimp only;rw[fillL_fit (E:=exD sp n ask f) (fun l t hl=>ih l t hl) ws _ (by rw[List.length_append,List.length_singleton];exact h1)];cases exL (exD sp n ask f) ws with
      | none=>rfl
      | some x=>
       dsimp only[fitT];rw[List.length_append,List.length_singleton]
       by_cases h2:l.length+1+x.length<=2048
       ·rw[if_pos h2]
        dsimp only;rw[addD_fit (by simp only[List.length_append,List.length_singleton];omega)];dsimp only[fitT];simp only[List.length_append,List.length_cons,List.length_nil,List.append_assoc,List.cons_append]
        by_cases h3:l.length+1+x.length+1<=2048
        ·rw[if_pos oo,if_pos oo]
         rfl
        ·rw[if_neg oo,if_neg oo]
       ·rw[if_neg h2,if_neg (by simp only[List.length_append,List.length_cons,List.length_nil];omega)]
     ·have e1:∀x:Tok,fitT l (some [x])=none:=fun x=>by rw[fitT,if_neg (by rw[List.length_singleton];exact h1)]
      rw[e1];cases exL (exD sp n ask f) ws with
      | none=>rfl
      | some x=>
       dsimp only[fitT];rw[if_neg (by simp only[List.length_append,List.length_cons,List.length_nil];omega)]
  ·rw[if_neg h,if_neg h]
   rfl
def dcL (F:Int->Option (List Tok)):List Int->List Tok->Option (List Tok)
 | [],l=>some l
 | t::r,l=>match F t with
  | none=>none
  | some x=>if 2048<(l++x).length then none else dcL F r (l++x)
def dcD (sp:Nat->SpecD)(n:Nat)(ask:Nat->Option (List Int)):Nat->Int->Option (List Tok)
 | 0,t=>if 1<=t/\t<n/\(sp t.toNat).leaf=true then some [⟨3,t,(sp t.toNat).least,0⟩] else none
 | f+1,t=>
  if 1<=t/\t<n then
   if (sp t.toNat).leaf=true then some [⟨3,t,(sp t.toNat).least,0⟩]
   else match ask t.toNat with
    | none=>none
    | some ws=>match dcL (dcD sp n ask f) ws [⟨1,t,(sp t.toNat).least,0⟩] with
     | none=>none
     | some x=>some (x++[⟨2,0,0,0⟩])
  else none
def LikeD (F E:Int->Option (List Tok)):Prop:=∀t,(∀y,F t=some y->E t=some y/\y.length<=2049)/\∀y,E t=some y->y.length<=2048->F t=some y
theorem dcL_like {F E:Int->Option (List Tok)}(h:LikeD F E):∀(ws:List Int) (l:List Tok),l.length<=2048->(∀z,dcL F ws l=some z->z.length<=2048/\∃x,exL E ws=some x/\z=l++x)/\∀x,exL E ws=some x->l.length+x.length<=2048->dcL F ws l=some (l++x):=by
 intro ws
 induction ws with
 | nil=>
  intro l hl;refine⟨fun z hz=>?_,fun x hx _=>?_⟩
  ·rw[dcL] at hz
   cases hz;exact⟨hl,[],rfl,(List.append_nil l).symm⟩
  ·rw[exL] at hx
   cases hx;rw[dcL,List.append_nil]
 | cons t r ih=>
  intro l hl;refine⟨fun z hz=>?_,fun x hx hlen=>?_⟩
  ·rw[dcL] at hz
   cases hF:F t with
   | none=>rw[hF] at hz;cases hz
   | some x=>
    rw[hF] at hz;dsimp only at hz
    by_cases hb:2048<(l++x).length
    ·rw[if_pos hb] at hz;cases hz
    ·rw[if_neg hb] at hz
     obtain⟨h1,y,h2,rfl⟩:=(ih (l++x) oo).1 z hz;refine⟨h1,x++y,?_,List.append_assoc ..⟩;rw[exL,((h t).1 x hF).1,h2]
  ·rw[exL] at hx
   cases hE:E t with
   | none=>rw[hE] at hx;cases hx
   | some x1=>
    rw[hE] at hx;dsimp only at hx;cases hR:exL E r with
    | none=>rw[hR] at hx;cases hx
    | some y=>
     rw[hR] at hx;cases hx;rw[List.length_append] at hlen;rw[dcL,(h t).2 x1 hE oo];dsimp only;rw[if_neg (by rw[List.length_append];omega),(ih (l++x1) (by rw[List.length_append];omega)).2 y hR (by rw[List.length_append];omega),List.append_assoc]
theorem dcD_like {sp:Nat->SpecD}{n:Nat}{ask:Nat->Option (List Int)}:∀f,LikeD (dcD sp n ask f) (exD sp n ask f):=by
 intro f
 induction f with
 | zero=>
  intro t;rw[dcD,exD]
  split
  ·exact⟨fun y hy=>⟨hy,(by cases hy;rw[List.length_singleton];omega)⟩,fun y hy _=>hy⟩
  ·exact⟨fun y hy=>(by cases hy),fun y hy _=>hy⟩
 | succ f ih=>
  intro t;rw[dcD,exD]
  split
  ·split
   ·exact⟨fun y hy=>⟨hy,(by cases hy;rw[List.length_singleton];omega)⟩,fun y hy _=>hy⟩
   ·cases ask t.toNat with
    | none=>exact⟨fun y hy=>(by cases hy),fun y hy _=>hy⟩
    | some ws=>
     dsimp only;obtain⟨h1,h2⟩:=dcL_like ih ws [⟨1,t,(sp t.toNat).least,0⟩] (by rw[List.length_singleton];omega);refine⟨fun y hy=>?_,fun y hy hl=>?_⟩
     ·cases hd:dcL (dcD sp n ask f) ws [⟨1,t,(sp t.toNat).least,0⟩] with
      | none=>rw[hd] at hy;cases hy
      | some z=>
       rw[hd] at hy;cases hy;obtain⟨h3,x,h4,rfl⟩:=h1 z hd;rw[h4];refine⟨?_,by rw[List.length_append,List.length_singleton];omega⟩;rw[List.append_assoc,List.singleton_append]
     ·cases he:exL (exD sp n ask f) ws with
      | none=>rw[he] at hy;cases hy
      | some x=>
       rw[he] at hy;cases hy;rw[List.length_cons,List.length_append,List.length_singleton] at hl;rw[h2 x he (by rw[List.length_singleton];omega)];dsimp only;rw[List.append_assoc,List.singleton_append]
  ·exact⟨fun y hy=>(by cases hy),fun y hy _=>hy⟩
theorem fill_same {sp:Nat->SpecD}{n:Nat}{ask:Nat->Option (List Int)}(t:Int):fillS sp n ask 33 [] t=match dcD sp n ask 32 t with
  | none=>none
  | some l=>if 2048<l.length then none else some l:=by
 have e:=fillS_fit (sp:=sp) (n:=n) (ask:=ask) 32 [] t (by decide)
 rw[show (33:Nat)=32+1 from rfl,e]
 obtain⟨h1,h2⟩:=dcD_like (sp:=sp) (n:=n) (ask:=ask) 32 t
 cases hd:dcD sp n ask 32 t with
 | none=>
  cases he:exD sp n ask 32 t with
  | none=>rfl
  | some x=>
   dsimp only[fitT];rw[List.length_nil,Nat.zero_add,List.nil_append]
   by_cases hl:x.length<=2048
   ·rw[h2 x he hl] at hd;cases hd
   ·rw[if_neg hl]
 | some y=>
  rw[(h1 y hd).1];dsimp only[fitT];rw[List.length_nil,Nat.zero_add,List.nil_append]
  by_cases hl:y.length<=2048
  ·rw[if_pos hl,if_neg oo]
  ·rw[if_neg hl,if_pos oo]
end Go.Proofs.YtjkebndkeamijaaGreatDoor
namespace Go.Proofs.YtjkebndkeamijaaGreatDoor
def nm:List Node->Nat
 | []=>0
 | x::r=>(if x.2.1=[] then 0 else 1)+nm r
theorem nm_append (N M:List Node):nm (N++M)=nm N+nm M:=by
 induction N with
 | nil=>simp[nm]
 | cons x r ih=>rw[List.cons_append,nm,nm,ih];omega
theorem nm_modify {f:Node->Node}(hf:∀x,(f x).2.1=x.2.1):∀(N:List Node) (a:Nat),nm (N.modify a f)=nm N:=by
 intro N
 induction N with
 | nil=>intro a;simp[nm]
 | cons x r ih=>
  intro a;cases a with
  | zero=>rw[List.modify_zero_cons,nm,nm,hf]
  | succ a=>rw[List.modify_succ_cons,nm,nm,ih]
theorem nm_modify_le (f:Node->Node):∀(N:List Node) (a:Nat),nm (N.modify a f)<=nm N+1:=by
 intro N
 induction N with
 | nil=>intro a;simp[nm]
 | cons x r ih=>
  intro a;cases a with
  | zero=>rw[List.modify_zero_cons,nm,nm];split<;>split<;>omega
  | succ a=>rw[List.modify_succ_cons,nm,nm];have:=ih a;omega
theorem nm_place (N:List Node):nm (placeN N)=nm N:=by unfold placeN newNode;rw[nm_append];simp[nm]
theorem nm_free (N:List Node)(a b:Nat):nm (freeN N a b)=nm N:=nm_modify (f:=fun x=>(x.1++[b],x.2)) (fun _=>rfl) N a
theorem nm_name (N:List Node)(c:Nat)(ts:List Int)(b:Nat):nm (nameN N c ts b)<=nm N+1:=nm_modify_le _ N c
section
variable {T:Type}
theorem nm_seq {f:T->Nat->Nat->List Node->List Node}{s:T->Nat}:∀(l:List T),(∀x∈l,∀a b N,nm (f x a b N)<=nm N+s x)->∀a b N,nm (seqN f l a b N)<=nm N+(l.map s).sum:=by
 intro l
 induction l with
 | nil=>intro _ a b N;rw[seqN,nm_free];exact Nat.le_add_right ..
 | cons x r ih=>
  intro h a b N;have h1:=h x (zzg ..) a N.length (placeN N);have h2:=ih (fun y hy=>h y (zzk _ hy)) N.length b (f x a N.length (placeN N));rw[nm_place] at h1;rw[seqN,List.map_cons,List.sum_cons];omega
theorem nm_alt {f:T->Nat->Nat->List Node->List Node}{s:T->Nat}:∀(l:List T),(∀x∈l,∀a b N,nm (f x a b N)<=nm N+s x)->∀a b N,nm (altsN f l a b N)<=nm N+(l.map s).sum:=by
 intro l
 induction l with
 | nil=>intro _ a b N;rw[altsN];exact Nat.le_add_right ..
 | cons x r ih=>
  intro h a b N;have h1:=h x (zzg ..) a b N;have h2:=ih (fun y hy=>h y (zzk _ hy)) a b (f x a b N);rw[altsN,List.map_cons,List.sum_cons];omega
variable (K:T->Int) (Ty:T->List Int) (U:T->List T)
theorem nm_lay:∀(n:Nat) (t:T) (a b:Nat) (N:List Node),nm (layN K Ty U n t a b N)<=nm N+size U n t:=by
 intro n
 induction n with
 | zero=>intro t a b N;rw[layN];exact Nat.le_add_right ..
 | succ n ih=>
  intro t a b N;rw[size,layN]
  split
  ·rw[nm_free];omega
  split
  ·have:=nm_name (freeN (placeN N) a N.length) N.length (Ty t) b
   rw[nm_free,nm_place] at this;omega
  split
  ·have:=nm_seq (s:=size U n) (U t) (fun x _=>ih x) a b N
   omega
  split
  ·have:=nm_alt (s:=size U n) (U t) (fun x _=>ih x) a b N
   omega
  dsimp only[signN]
  have h2:nm (oneN (layN K Ty U n) (U t) N.length (N.length+1) (freeN (placeN (placeN N)) a N.length))<=nm N+((U t).map (size U n)).sum:=by
   cases hu:U t with
   | nil=>rw[oneN,nm_free,nm_place,nm_place];exact Nat.le_add_right ..
   | cons x r=>
    rw[oneN,List.map_cons,List.sum_cons]
    have:=ih x N.length (N.length+1) (freeN (placeN (placeN N)) a N.length)
    rw[nm_free,nm_place,nm_place] at this;omega
  split<;>split<;>(repeat rw[nm_free])<;>omega
end
def nxs:List Node->List Nat
 | []=>[]
 | x::r=>if x.2.1=[] then nxs r else x.2.2.toNat::nxs r
theorem nxs_length (N:List Node):(nxs N).length=nm N:=by
 induction N with
 | nil=>rfl
 | cons x r ih=>rw[nxs,nm];split<;>simp[ih]<;>omega
theorem nxs_mem:∀{N:List Node} {a:Nat} {x:Node} {t:Int} {q:Nat},N[a]? = some x->t∈x.2.1->x.2.2=(q:Int)->q∈nxs N:=by
 intro N
 induction N with
 | nil=>intro a x t q h;simp at h
 | cons y r ih=>
  intro a x t q h ht hq;rw[nxs];cases a with
  | zero=>
   simp only[List.getElem?_cons_zero,Option.some.injEq] at h;subst h;rw[if_neg (fun e=>by rw[e] at ht;cases ht),hq];exact zzg ..
  | succ a=>
   rw[List.getElem?_cons_succ] at h
   have:=ih h ht hq
   split
   ·exact this
   ·exact zzk _ this
theorem hop_nxs {F:List Node}{S:Nat->Prop}{t:Int}{q:Nat}(h:hopM F S t q):q∈nxs F:=by
 obtain⟨a,x,_,h1,h2,h3⟩:=h
 exact nxs_mem h1 h2 h3
def behind (F:List Node)(zs:List Int)(u:List Int):Nat->Prop:=afterM F (zs++u)
theorem behind_snoc (F:List Node)(zs u:List Int)(x:Int):behind F zs (u++[x])=stepM F (behind F zs u) x:=by
 unfold behind
 rw[<-List.append_assoc,afterM_snoc]
theorem behind_same (F:List Node)(zs:List Int)(u v:List Int)(x:Int)(h:behind F zs u=behind F zs v):behind F zs (u++[x])=behind F zs (v++[x]):=by rw[behind_snoc,behind_snoc,h]
theorem few_behind {F:List Node}{zs:List Int}{ws:List (List Int)}{i t:Nat}(h:Bfs (behind F zs) ws i t):ws.length<=2 ^ nm F+1:=by
 rw[<-nxs_length]
 refine h.few (nxs F) (fun v=>hopM F (behind F zs v.dropLast) (v.getLast?.getD 0)) (fun u v x y hq=>?_)
 simp only[List.dropLast_concat,List.getLast?_concat,Option.getD_some] at hq
 rw[behind_snoc,behind_snoc]
 unfold stepM
 have:hopM F (behind F zs u) x=hopM F (behind F zs v) y:=by
  funext q
  refine propext ⟨fun h=>(hq q (hop_nxs h)).1 h,fun h=>(hq q (hop_nxs h)).2 h⟩
 rw[this]
theorem nm_netF (gs:List Grp)(n:Nat)(t:DataW Unit):nm (netF gs n t)<=size subs n t:=by
 have:=nm_lay kindT (tyS gs) subs n t 0 1 twoN
 have e:nm twoN=0:=by unfold twoN;rw[nm_place,nm_place];rfl
 rw[e] at this
 unfold netF layM
 omega
end Go.Proofs.YtjkebndkeamijaaGreatDoor
namespace Go.Proofs.YtjkebndkeamijaaGreatDoor
open Go.RowKit
theorem infoWay:(Tryz.prog.info? 188).map (fun i=>(i.zero,i.size,i.bytes))=some (some (.agg #[.slice none 0 0,.slice none 0 0]),2,48):=by kernel_rfl
abbrev Wy:Type:=(Addr×Nat×List Bool)×(Option Addr×Nat×List Int)
def wayV (N:Nat)(e:Wy):List Value:=[.slice (some e.1.1) N e.1.2.1,.slice e.2.1 e.2.2.2.length e.2.2.1]
def flatW (N:Nat):List Wy->List Value
 | []=>[]
 | e::r=>wayV N e++flatW N r
theorem flatW_append (N:Nat)(l m:List Wy):flatW N (l++m)=flatW N l++flatW N m:=by
 induction l with
 | nil=>rfl
 | cons e r ih=>rw[List.cons_append,flatW,flatW,ih,List.append_assoc]
theorem flatW_at {N:Nat}:∀{l:List Wy} {i:Nat} {e:Wy},l[i]? = some e->(flatW N l)[i * 2]? = some (.slice (some e.1.1) N e.1.2.1)/\(flatW N l)[i * 2+1]? = some (.slice e.2.1 e.2.2.2.length e.2.2.1):=by
 intro l
 induction l with
 | nil=>intro i e h;simp at h
 | cons x r ih=>
  intro i e h;cases i with
  | zero=>
   simp only[List.getElem?_cons_zero,Option.some.injEq] at h;subst h;exact⟨rfl,rfl⟩
  | succ i=>
   rw[List.getElem?_cons_succ] at h;obtain⟨h1,h2⟩:=ih h;rw[flatW];(have e1:(i+1) * 2=(wayV N x).length+i * 2:=by simp only[wayV,List.length_cons,List.length_nil];omega);rw[e1,Nat.add_assoc,List.getElem?_append_right (Nat.le_add_right ..),List.getElem?_append_right (Nat.le_add_right ..),Nat.add_sub_cancel_left,Nat.add_sub_cancel_left];exact⟨h1,h2⟩
structure WayOk (N:Nat) (W:World) (e:Wy):Prop where
 bools:Bools W (some e.1.1) N e.1.2.2
 row:W.ownsRow 0 3 1 (.slice e.2.1 e.2.2.2.length e.2.2.1) e.2.2.2.length (intsV e.2.2.2)
theorem WayOk.below {N:Nat}{W W' : World}{e:Wy}(h:WayOk N W e)(hB:Below W.heap.size W W'):WayOk N W' e :=
 ⟨h.bools.below hB,owns_same h.row fun g hg=>hB.block g (owns_lt h.row hg).1⟩
structure Ways (base:Nat) (W:World) (v:Value) (N:Nat) (es:List Wy):Prop where
 row:W.ownsRow base 188 2 v es.length (flatW N es)
 ok:∀e∈es,WayOk N W e
theorem Ways.below {base:Nat}{W W' : World}{v:Value}{N:Nat}{es:List Wy}(h:Ways base W v N es)(hB:Below W.heap.size W W'):Ways base W' v N es :=
 ⟨owns_same h.row fun g hg=>hB.block g (owns_lt h.row hg).1,fun e he=>(h.ok e he).below hB⟩
theorem Ways.cell {base:Nat}{W:World}{v:Value}{N:Nat}{es:List Wy}(h:Ways base W v N es)(h0:0<es.length):∃g cap,v=.slice (some ⟨g,0,none⟩) es.length cap/\∀(X:World),Below W.heap.size W X->∀(i:Nat) (e:Wy),es[i]? = some e->X.cell? ⟨g,i * 2,none⟩=some (.slice (some e.1.1) N e.1.2.1)/\X.cell? ⟨g,i * 2+1,none⟩=some (.slice e.2.1 e.2.2.2.length e.2.2.1):=by
 obtain⟨g,cap,e,hc⟩:=owns_cell h.row h0
 refine⟨g,cap,e,fun X hX i x hx=>?_⟩
 obtain⟨f1,f2⟩:=flatW_at (N:=N) hx
 have hlt:g<W.heap.size:=(owns_lt h.row (g:=g) (by rw[e];rfl)).1
 exact⟨(hX.cell (p:=⟨g,i * 2,none⟩) hlt).trans (hc _ _ f1),(hX.cell (p:=⟨g,i * 2+1,none⟩) hlt).trans (hc _ _ f2)⟩
theorem ways_type:4≠188/\3≠188:=by decide
theorem WayOk.grown {N:Nat}{W W' : World}{e:Wy}{v:Value}{base n:Nat}{xs:List Value}(h:WayOk N W e)(hr:W.ownsRow base 188 2 v n xs)(hg:W.grownBy W' v.ownBlock):WayOk N W' e:=by
 have hne:∀k c f t,W.heap[k]? = some (.cells c t f)->t≠188->some k≠v.ownBlock:=fun k c f t hk ht he=>by
  obtain⟨_,cur,hcur⟩:=owns_lt hr he.symm;rw[hcur] at hk;(injection hk with hk);(injection hk with _ h2 _);exact ht h2.symm
 have hb:=h.bools
 refine⟨⟨hb.1,hb.2.1,?_⟩,owns_same h.row fun g hg' => ?_⟩
 ·rcases hb.2.2 with h0 | ⟨b,o,e', hI,hc⟩
  ·exact .inl h0
  ·have hl:=hI.lt
   obtain⟨c,f,hh⟩:=hI;have hsame:=hg.block b hl (hne b c f _ hh ways_type.1);exact .inr ⟨b,o,e', ⟨c,f,hsame.trans hh⟩,fun i x hx=>(zzi hsame).trans (hc i x hx)⟩
 ·obtain⟨hl,cur,hcur⟩:=owns_lt h.row hg'
  exact hg.block g hl (hne g cur _ _ hcur ways_type.2)
theorem Ways.put {base:Nat}{W:World}{v:Value}{N:Nat}{es:List Wy}(h:Ways base W v N es)(e:Wy)(he:WayOk N W e)(hlen:es.length<=1000000000)(hbase:base<=W.heap.size)
  (b cap:Nat) (hc:∀j u,(wayV N e)[j]? = some u->W.cell? ((⟨b,0,none⟩:Addr).add j)=some u) :
  ∃v' W1,(Builtin.append_ #[189,189] 189 #[v,.slice (some ⟨b,0,none⟩) 1 cap]).run Tryz.prog W=.ok v' W1/\(∃g' cap', v' = .slice (some ⟨g', 0,none⟩) (es.length+1) cap')/\Ways base W1 v' N (es++[e])/\W.grownBy W1 v.ownBlock:=by
 obtain⟨i0,hi,hz0,hz1,hz2⟩:=info_parts infoWay
 obtain⟨v', W1,hrun,r1,r2,_,_⟩:=run_append_own_at (P:=Tryz.prog) W base 189 189 188 i0 _ 2 48 Tryz.underlying189 hi hz0 hz1 hz2 rfl (by decide) v es.length _ h.row ⟨b,0,none⟩ 1 cap (wayV N e) rfl hc (fun u hu=>by
  simp only[wayV,List.mem_cons,List.not_mem_nil,or_false] at hu
  rcases hu with rfl | rfl<;>rfl) (by unfold maxLen;omega) oo hbase
 have e1:flatW N es++wayV N e=flatW N (es++[e]):=by rw[flatW_append];simp[flatW]
 rw[e1] at r1
 refine⟨v', W1,hrun,?_,⟨by rw[List.length_append];exact r1,fun x hx=>?_⟩,r2⟩
 ·obtain⟨g,cap', e2,_⟩:=owns_cell r1 (Nat.succ_pos _)
  exact⟨g,cap', e2⟩
 ·rcases List.mem_append.1 hx with hx | hx
  ·exact(h.ok x hx).grown h.row r2
  ·rw[List.mem_singleton] at hx
   subst hx;exact he.grown h.row r2
theorem twin_calls (w:World)(xa ya:Option Addr)(xc yc N:Nat)(xs ys:List Bool)(hx:Bools w xa N xs)(hy:Bools w ya N ys) :
  Calls Tryz.prog 158 #[.slice xa N xc,.slice ya N yc] w fun e w' => ∃r:Bool,e=.returned (.bool r)/\(r=true↔xs=ys)/\Below w.heap.size w w' := by
 have hzi:(N:Int)<=9223372036854775807:=by have:=hx.2.1;omega
 have HX:Hid (∀(X:World) (i:Nat),Below w.heap.size w X->i<N->∃b o b' o' x y,xa=some ⟨b,o,none⟩/\ya=some ⟨b', o', none⟩/\X.cell? ⟨b,o+i,none⟩=some (.bool x)/\X.cell? ⟨b', o' + i,none⟩=some (.bool y)/\xs[i]? = some x/\ys[i]? = some y):=fun X i hX hi=>by
  obtain⟨b,o,x,e1,e2,e3⟩:=hx.at hi;obtain⟨b', o', x', f1,f2,f3⟩:=hy.at hi;exact⟨b,o,b', o', x,x', e1,f1,e3 X hX,f3 X hX,e2,f2⟩
 have HL:Hid (xs.length=N/\ys.length=N):=⟨hx.1,hy.1⟩
 clear hx hy
 go_enter Tryz.func158,Tryz.ntmps158
 go_wp2
 go_loopg [5] (N+1) (fun gk v wr=>∃i:Nat,i<=N/\N<i+gk/\v=.int .i64 (i:Int)/\xs.take i=ys.take i/\Below w.heap.size w wr)
 case atStart=>exact⟨0,zzn _,oo,rfl,by simp,zzd _ _⟩
 case round=>
  obtain⟨i,hi,hgk,rfl,hT,hB⟩:=hrel
  by_cases hlt:i<N
  ·obtain⟨b,o,b', o', x,y,rfl,rfl,c1,c2,g1,g2⟩:=HX.out wr i hB hlt
   (have hii:(i:Int)<(N:Int):=by omega);have hi0:(0:Int)<=(i:Int):=by omega
   by_cases hxy:x=y
   ·subst hxy
    (have hxx:(x != x)=false:=by simp);have HB:Hid (xs.take (i+1)=ys.take (i+1)/\Below w.heap.size w wr):=⟨by rw[List.take_add_one,List.take_add_one,hT,g1,g2],hB⟩;clear hB HX hT g1 g2;go_wp2
    go_quiet (fail)
    go_wp2
    go_roundg (N - i)
    case measure=>omega
    case rel=>exact⟨i+1,oo,oo,by first | rfl | go_num,HB.out.1,by first | exact HB.out.2 | exact HB.out.2.trans ⟨rfl,rfl,rfl,zzb _,fun _ _=>rfl⟩⟩
   ·have hxx:(x==y)=false:=by simpa using hxy
    (have hxx2:(!(x==y))=true:=by rw[hxx];rfl);have HB:Hid (xs≠ys/\Below w.heap.size w wr):=⟨fun e=>by rw[e,g2] at g1;injection g1 with g1;exact hxy g1.symm,hB⟩;clear hB HX hT g1 g2;go_wp2
    go_quiet (fail)
    go_wp2;go_ret;exact⟨false,rfl,⟨fun e=>(by cases e),fun e=>absurd e HB.out.1⟩,by first | exact HB.out.2 | exact HB.out.2.trans ⟨rfl,rfl,rfl,zzb _,fun _ _=>rfl⟩⟩
  ·obtain rfl:i=N:=by omega
   have hd:decide ((i:Int)<(i:Int))=false:=by simp
   have HB:Hid (xs=ys/\Below w.heap.size w wr):=⟨by
    have h1:=zzm (l:=xs) (i:=i) (by have:=HL.out.1;omega);have h2:=zzm (l:=ys) (i:=i) (by have:=HL.out.2;omega)
    rw[<-h1,<-h2,hT],hB⟩
   clear hB HX hT;go_wp2;go_ret;exact⟨true,rfl,⟨fun _=>HB.out.1,fun _=>rfl⟩,HB.out.2⟩
end Go.Proofs.YtjkebndkeamijaaGreatDoor
