/-
  PROVED HERE: what the texts DARefSays, DAAloneC, DAAwakeS, DAAloneW say.
-/
import Derived.Test.YtmablhmpfcefnaaGreatDoorCADANetsD
import Derived.Test.YtmablhmpfcefnaaGreatDoorCA35
import Derived.Test.YtmablhmpfcefnaaGreatDoorCA29
namespace Go.Proofs.YtmablhmpfcefnaaGreatDoor
open Go.RowKit
theorem kinds_right:∀(n:Nat) (t:DataW Unit),rightE n t=true->KindsN kindT subs n t:=by
 intro n
 induction n with
 | zero=>intro t _;trivial
 | succ n ih=>
  intro t h
  rw[rightE,Bool.and_eq_true,List.all_eq_true] at h
  obtain⟨h1,h2⟩:=h
  refine⟨?_,fun x hx=>ih x (by have:=h1 x hx;rw[Bool.and_eq_true] at this;exact this.2)⟩
  unfold shapely at h2
  by_cases k0:kindT t=0
  ·omega
  ·rw[if_neg k0] at h2
   by_cases k1:kindT t=1
   ·omega
   ·rw[if_neg k1] at h2
    by_cases k2:kindT t=4\/kindT t=5\/kindT t=6
    ·omega
    ·rw[if_neg k2] at h2
     by_cases k3:kindT t=2\/kindT t=3
     ·omega
     ·rw[if_neg k3] at h2
      cases h2
def TyN (N:List Node):Prop:=∀(i:Nat) (x:Node),N[i]? = some x->x.2.1.length<=16
theorem ty_place {N:List Node} (h:TyN N):TyN (placeN N):=fun i x hx=>by
 rcases place_at hx with e | rfl
 ·exact h i x e
 ·exact zzn _
theorem ty_free {N:List Node} (h:TyN N) (a b:Nat):TyN (freeN N a b):=fun i x hx=>by
 obtain⟨y,hy,rfl⟩:=modify_at hx
 have:=h i y hy
 split<;>exact this
theorem ty_name {N:List Node} (h:TyN N) (c:Nat) {ts:List Int} (ht:ts.length<=16) (b:Nat):TyN (nameN N c ts b):=fun i x hx=>by
 obtain⟨y,hy,rfl⟩:=modify_at hx
 have:=h i y hy
 split
 ·exact ht
 ·exact this
theorem ty_seq {T:Type} {f:T->Nat->Nat->List Node->List Node} (hf:∀x a b N,TyN N->TyN (f x a b N)):∀(l:List T) a b N,TyN N->TyN (seqN f l a b N):=by
 intro l
 induction l with
 | nil=>intro a b N h;exact ty_free h a b
 | cons x r ih=>intro a b N h;exact ih _ _ _ (hf x _ _ _ (ty_place h))
theorem ty_alt {T:Type} {f:T->Nat->Nat->List Node->List Node} (hf:∀x a b N,TyN N->TyN (f x a b N)):∀(l:List T) a b N,TyN N->TyN (altsN f l a b N):=by
 intro l
 induction l with
 | nil=>intro a b N h;exact h
 | cons x r ih=>intro a b N h;exact ih _ _ _ (hf x _ _ _ h)
theorem ty_lay {T:Type} (K:T->Int) (Ty:T->List Int) (U:T->List T) (hT:∀t,(Ty t).length<=16):∀(n:Nat) (t:T) (a b:Nat) (N:List Node),TyN N->TyN (layN K Ty U n t a b N):=by
 intro n
 induction n with
 | zero=>intro t a b N h;exact h
 | succ n ih=>
  intro t a b N h
  rw[layN]
  split
  ·exact ty_free h a b
  ·split
   ·exact ty_name (ty_free (ty_place h) _ _) _ (hT t) _
   ·split
    ·exact ty_seq (fun x a b N h=>ih x a b N h) _ _ _ _ h
    ·split
     ·exact ty_alt (fun x a b N h=>ih x a b N h) _ _ _ _ h
     ·have h1:TyN (oneN (layN K Ty U n) (U t) N.length (N.length+1) (freeN (placeN (placeN N)) a N.length)):=by
       cases U t with
       | nil=>exact ty_free (ty_place (ty_place h)) _ _
       | cons x r=>exact ih x _ _ _ (ty_free (ty_place (ty_place h)) _ _)
      dsimp only[signN]
      split
      ·split
       ·exact ty_free h1 _ _
       ·exact ty_free (ty_free h1 _ _) _ _
      ·split
       ·exact ty_free (ty_free h1 _ _) _ _
       ·exact ty_free (ty_free (ty_free h1 _ _) _ _) _ _
theorem tyG_few {gs:List Grp} (hr:rightG gs=true) (s:ByteArray):(tyG gs s).length<=16:=by
 unfold rightG at hr
 rw[Bool.and_eq_true] at hr
 have hr2:=List.all_eq_true.1 hr.2
 clear hr
 induction gs with
 | nil=>exact zzn _
 | cons g r ih=>
  rw[tyG]
  split
  ·have hg:=hr2 g (zzg ..)
   unfold rightTs at hg
   rw[Bool.and_eq_true] at hg
   exact of_decide_eq_true hg.1
  ·exact ih fun y hy=>hr2 y (zzk _ hy)
theorem chk_parts {n:Nat} {t:DataW Unit} {gs:List Grp} (h:chk n t gs=0):SK gs n t/\rightG gs=true/\size subs n t<=200:=by
 obtain⟨h1,h2,h3⟩:=chk_zero h
 refine⟨⟨h1,kinds_right n t ?_⟩,h2,h3⟩
 apply checkE_right
 unfold chk at h
 split at h
 ·assumption
 ·rename_i hc;exact absurd h hc
theorem netF_nets {n:Nat} {t:DataW Unit} {gs:List Grp} (h:chk n t gs=0):Nets (netF gs n t) (LangD gs n t)/\(netF gs n t).length<=50000/\FewN 50000 (netF gs n t)/\TyN (netF gs n t):=by
 obtain⟨⟨hS,hK⟩,hr,hsz⟩:=chk_parts h
 have hA:Adds twoN (netF gs n t) (4 * size subs n t - 2) (4 * size subs n t):=adds_layM hS (by decide) (by decide)
 have hfew:FewN 0 twoN:=fun p x hx=>by
  unfold twoN at hx
  rcases place_at hx with hx | rfl
  ·rcases place_at hx with hx | rfl
   ·simp at hx
   ·exact zzb _
  ·exact zzb _
 have hty:TyN twoN:=ty_place (ty_place (fun i x hx=>by simp at hx))
 refine⟨net_of kindT (fun t=>maskG gs (nameT t)) (tyS gs) subs (fun t a=>tyG_mask hr (nameT t) a) (fun s hs e=>hs ((tyG_zero hr (nameT s)).2 e)) n t hS hK hA,?_,(hA.few 0 hfew).more (by omega),ty_lay kindT (tyS gs) subs (fun t=>tyG_few hr (nameT t)) n t 0 1 twoN hty⟩
 have:=hA.hi
 have e:twoN.length=2:=rfl
 omega
end Go.Proofs.YtmablhmpfcefnaaGreatDoor
/- RefAsks: what the document's Accepts, Begins and Nexts answer. -/
namespace Go.Proofs.YtmablhmpfcefnaaGreatDoor
open Go.RowKit
theorem net_ok {w W:World} {Bn n:Nat} {t:DataW Unit} {gs:List Grp} (h:chk n t gs=0) (hN:NetIn w W Bn (netF gs n t)):NetOk w W Bn (netF gs n t):=by
 obtain⟨h1,h2,h3,_⟩:=netF_nets h
 exact⟨hN,h1.fit,h1.two,h2,h3⟩
theorem ran_of {w:World} {n:Nat} {t:DataW Unit} {v:Value} {ga:Option Addr} {gl gc:Nat} {gs:List Grp} {za:Option Addr} {zl zc:Nat} {zs:List Int} (h:Ex w n t v) (hG:Groups w ga gl gs) (hZ:Ints w za zl zs) (hc:chk n t gs=0) :
  ∀X,Below w.heap.size w X->Calls Tryz.prog 65 #[v,.slice ga gl gc] X fun e w' => ∃Bn,e=.returned (.pointer (some ⟨Bn,0,none⟩))/\NetOk X w' Bn (netF gs n t)/\Below X.heap.size X w' ∧
   Calls Tryz.prog 66 #[.pointer (some ⟨Bn,0,none⟩),.slice za zl zc] w' fun e w2=>∃(a:Addr) (c:Nat) (bs:List Bool) (i:Nat),e=.returned (.tuple #[.slice (some a) (netF gs n t).length c,.int .i64 (i:Int)])/\Bools w2 (some a) (netF gs n t).length bs/\ReadM (netF gs n t) zs bs i/\Below w'.heap.size w' w2:=fun X hX=>by
 obtain⟨hS,_,hsz⟩:=chk_parts hc
 refine(made_calls n t v ga gl gc gs X (Ex.below hX _ _ _ h) hS (hG.below hX) hsz).mono ?_
 rintro e W ⟨Bn,rfl,hN⟩
 exact⟨Bn,rfl,net_ok hc hN,hN.bel,run_calls X W Bn _ (net_ok hc hN) (netF_nets hc).2.2.2 za zl zc zs (hZ.below (hX.trans (hN.bel.mono hX.size)))⟩
set_option maxRecDepth 100000 in
set_option maxHeartbeats 2000000 in
theorem refaccepts_calls (n:Nat) (t:DataW Unit) (v:Value) (ga:Option Addr) (gl gc:Nat) (gs:List Grp) (za:Option Addr) (zl zc:Nat) (zs:List Int) (w:World) (h:Ex w n t v) (hN:named n t) (hb:cnt n t<=1152921504606846976) (hG:Groups w ga gl gs) (hZ:Ints w za zl zs) :
  Calls Tryz.prog 32 #[v,.slice ga gl gc,.slice za zl zc] w fun e w' => ∃b:Bool,e=.returned (.bool b)/\(b=true↔(chk n t gs=0/\LangD gs n t zs))/\Below w.heap.size w w' := by
 obtain⟨k,s,ka,kl,kc,rfl⟩:∃k s a len cap,v=.agg #[.int .i64 k,.string s,.slice a len cap]:=by
  cases n with
  | zero=>exact h.elim
  | succ n=>obtain⟨k,s,a,len,cap,ts,_,rfl,_⟩:=h;exact⟨k,s,a,len,cap,rfl⟩
 obtain⟨w1,hw1⟩:∃w1,w1=w.alloc (.cells #[.int .i64 k,.string s,.slice ka kl kc] 64):=⟨_,rfl⟩
 have hB1:Below w.heap.size w w1:=by rw[hw1];exact(zzd _ w).alloc (zzb _) _
 have m0:w1.heap[w.heap.size]? = some (.cells #[.int .i64 k,.string s,.slice ka kl kc] 64 (0,0)):=by rw[hw1];exact World.alloc_heap_new w _
 have hlt1:w.heap.size<w1.heap.size:=(zza.1 m0).1
 have HK:Hid (∀X:World,Below w1.heap.size w1 X->X.cell? ⟨w.heap.size,0,none⟩=some (.int .i64 k)/\X.cell? ⟨w.heap.size,1,none⟩=some (.string s)/\X.cell? ⟨w.heap.size,2,none⟩=some (.slice ka kl kc)):=fun X hX=>by
  obtain⟨a0,a1,a2,_⟩:=cells3 ((hX.block _ hlt1).trans m0)
  exact⟨a0,a1,a2⟩
 have HW1:Hid (w.alloc (.cells #[.int .i64 k,.string s,.slice ka kl kc] 64)=w1):=hw1.symm
 have HBW:Hid (∀X,Below w1.heap.size w1 X->Below w.heap.size w X):=fun X hX=>hB1.trans (hX.mono hB1.size)
 have HC:Hid (Calls Tryz.prog 64 #[.agg #[.int .i64 k,.string s,.slice ka kl kc],.slice ga gl gc] w1 fun e w' => e=.returned (.int .i64 (chk n t gs))/\Below w1.heap.size w1 w'):=refcheck_calls n t _ ga gl gc gs w1 (Ex.below hB1 _ _ _ h) hN hb (hG.below hB1)
 obtain⟨q0,q1,q2⟩:=HK.out w1 (zzd _ _)
 have hzi:(zl:Int)<=9223372036854775807:=by have:=hZ.2.1;omega
 have HZL:Hid (zs.length=zl):=hZ.1
 obtain⟨f,hf⟩:∃f,chk n t gs=f:=⟨_,rfl⟩
 by_cases hf0:f≠0
 ·have e0:(f==0)=false:=by simpa using hf0
  have e1:(f != 0)=true:=by simp[bne,e0]
  rw[hf] at HC
  have HF:Hid (chk n t gs≠0):=by rw[hf];exact hf0
  clear h hN hb hG hB1 m0 hlt1 hw1 hZ hf
  go_enter Tryz.func32,Tryz.ntmps32
  go_wp2_with fail
  rw[HW1.out]
  refine HC.out.mono ?_
  rintro e X ⟨rfl,hX⟩
  have HEND:Hid (Below w.heap.size w X):=HBW.out X hX
  clear hX
  go_wp2
  go_ret
  exact⟨false,rfl,⟨fun e=>(by cases e),fun e=>absurd e.1 HF.out⟩,HEND.out⟩
 ·have hf0:f=0:=Classical.not_not.1 hf0
  subst hf0
  rw[hf] at HC
  have hb0:((0:Int) != 0)=false:=rfl
  have HM:Hid (∀X,Below w1.heap.size w1 X->_):=fun X hX=>ran_of h hG hZ (gc:=gc) (zc:=zc) hf X (HBW.out X hX)
  have HH:Hid (chk n t gs=0):=hf
  clear h hN hb hG hB1 m0 hlt1 hw1 hZ hf
  go_enter Tryz.func32,Tryz.ntmps32
  go_wp2_with fail
  rw[HW1.out]
  refine HC.out.mono ?_
  rintro e X ⟨rfl,hX⟩
  have HMX:=HM.out X hX
  obtain⟨r0,r1,r2⟩:=HK.out X hX
  have HBX:Hid (Below w.heap.size w X):=HBW.out X hX
  clear hX HM HC
  go_wp2_with fail
  refine HMX.mono ?_
  rintro e W ⟨Bn,rfl,hNet,hBW,hrun⟩
  have HNet:Hid (NetOk X W Bn (netF gs n t)):=hNet
  have HBB:Hid (Below w.heap.size w W):=HBX.out.trans (hBW.mono HBX.out.size)
  clear hNet hBW HMX
  go_wp2_with fail
  refine hrun.mono ?_
  rintro e W2 ⟨a,c,bs,i,rfl,hbs,hR,hB2⟩
  obtain⟨hN2,_⟩:=netF_nets HH.out
  have h2:=hN2.two
  obtain⟨b,o,y,e1,hy,cy⟩:=hbs.at (i:=1) (by omega)
  cases e1
  have c1:=cy W2 (zzd _ _)
  have h1i:(1:Int)<((netF gs n t).length:Int):=by omega
  have HBE:Hid (Below w.heap.size w W2):=HBB.out.trans (hB2.mono HBB.out.size)
  have hzz:i<=zl:=by have:=hR.1;have:=HZL.out;omega
  by_cases hi:i=zl
  ·subst hi
   have HE:Hid (y=true↔(chk n t gs=0/\LangD gs n t zs)):=by
    have hlen:=HZL.out
    have:=hR.2.1.2 1
    rw[hy,<-hlen,List.take_length,hN2.ends] at this
    constructor
    ·intro e
     subst e
     exact⟨HH.out,this.1 rfl⟩
    ·intro e
     have:=this.2 e.2
     cases this
     rfl
   have hii:((i:Int)==(i:Int))=true:=by simp
   clear hbs hR hB2 hrun cy hy h2 hN2 hzz
   go_wp2
   go_ret
   exact⟨y,rfl,HE.out,HBE.out⟩
  ·have HE:Hid (false=true↔(chk n t gs=0/\LangD gs n t zs)):=by
    refine⟨fun e=>(by cases e),fun e=>?_⟩
    have hlen:=HZL.out
    exfalso
    refine hR.2.2 (by omega) ?_
    rw[hN2.begins]
    exact⟨zs.drop (i+1),by rw[List.take_append_drop];exact e.2⟩
   have hii:((i:Int)==(zl:Int))=false:=by rw[beq_eq_false_iff_ne];omega
   clear hbs hR hB2 hrun cy hy h2 hN2 hzz hi
   go_wp2
   go_ret
   exact⟨false,rfl,HE.out,HBE.out⟩
end Go.Proofs.YtmablhmpfcefnaaGreatDoor
/- RefNexts: what the document's Nexts answers. -/
namespace Go.Proofs.YtmablhmpfcefnaaGreatDoor
open Go.RowKit
end Go.Proofs.YtmablhmpfcefnaaGreatDoor
namespace Go.Proofs.YtmablhmpfcefnaaGreatDoor
open Go.RowKit
set_option maxRecDepth 100000 in
set_option maxHeartbeats 1600000 in
theorem alone_calls {B g c ng nc:Nat} {ks:List KindD} {gs:List Grp} {ts:List (DataW Unit)} (w:World) (h:SchAt w B g c ng nc ks gs ts) (h0:0<ks.length) (t u:Int) :
  Calls Tryz.prog 23 #[.pointer (some ⟨B,0,none⟩),.int .i64 t,.int .i64 u] w fun e w' => ∃r:Bool,e=.returned (.bool r)/\(r=true↔(1<=t/\t<ks.length/\LangD gs 200 (ts.getD t.toNat emptyT) [u]))/\Below w.heap.size w w' := by
 have HT:=typeof_calls w h h0 t
 have HBW:Hid (Below w.heap.size w w):=zzd _ _
 by_cases hc:1<=t/\t<ks.length
 ·rw[if_pos hc] at HT
  obtain⟨n,rfl⟩:∃n:Nat,t=(n:Int):=⟨t.toNat,by omega⟩
  rw[Int.toNat_natCast] at HT ⊢
  obtain⟨y,hy⟩:∃y,ks[n]? = some y:=⟨_,zze (by omega)⟩
  obtain⟨hex,hnm,hck⟩:=h.trees n y (ts.getD n emptyT) hy (getD_at (by have:=h.len;omega))
  have HCE:Hid (∀X,Below w.heap.size w X->X.cell? ⟨g,n * 10+7,none⟩=some (.int .i64 y.2.1)/\X.cell? ⟨g,n * 10+7+1,none⟩=some (.string y.2.2.1)/\X.cell? ⟨g,n * 10+7+2,none⟩=some (.slice y.2.2.2.1 y.2.2.2.2.1 y.2.2.2.2.2)/\X.cell? ⟨B,1,none⟩=some (.slice (some ⟨ng,0,none⟩) gs.length nc)):=fun X hX=>by
   obtain⟨_,h2,h3,h4⟩:=(h.below hX).kinds n y hy
   exact⟨h2,h3,h4,(h.cells X hX).2⟩
  have HAC:Hid (∀X za zc,Below w.heap.size w X->Ints X za 1 [u]->Calls Tryz.prog 41 #[.agg #[.int .i64 y.2.1,.string y.2.2.1,.slice y.2.2.2.1 y.2.2.2.2.1 y.2.2.2.2.2],.slice (some ⟨ng,0,none⟩) gs.length nc,.slice za 1 zc] X fun e w' => ∃b,e=.returned (.bool b)/\(b=true↔LangD gs 200 (ts.getD n emptyT) [u])/\Below X.heap.size X w'):=fun X za zc hX hI=>by
   refine(accepts_calls 200 (ts.getD n emptyT) _ (some ⟨ng,0,none⟩) gs.length nc gs za 1 zc _ X (Ex.below hX _ _ _ hex) hnm (h.below hX).names hI).mono ?_
   rintro e w' ⟨b,h1,h2,h3⟩
   exact⟨b,h1,h2.trans ⟨fun q=>q.2,fun q=>⟨hck,q⟩⟩,h3⟩
  have HFIN:Hid (∀b:Bool,(b=true↔LangD gs 200 (ts.getD n emptyT) [u])->(b=true↔(1<=(n:Int)/\(n:Int)<(ks.length:Int)/\LangD gs 200 (ts.getD n emptyT) [u]))):=fun b hb=>hb.trans ⟨fun q=>⟨hc.1,hc.2,q⟩,fun q=>q.2.2⟩
  generalize (1<=(n:Int)/\(n:Int)<(ks.length:Int)/\LangD gs 200 (ts.getD n emptyT) [u])=PP at *
  generalize LangD gs 200 (ts.getD n emptyT) [u]=LL at *
  obtain⟨gl,hgl⟩:∃gl,gs.length=gl:=⟨_,rfl⟩
  rw[hgl] at HAC HCE
  obtain⟨sp,tk,tn,ta,tl,tc⟩:=y
  dsimp only at *
  clear h hex hnm hck hy hc hgl
  go_enter Tryz.func23,Tryz.ntmps23
  go_wp2_with fail
  refine HT.mono ?_
  rintro e X1 ⟨rfl,rfl⟩
  clear HT
  go_wp2_with fail
  refine wp_region_held_drew (S:=fun X=>Below X1.heap.size X1 X) hmx (zzd _ _).drew (fun hS=>?_)
  refine takeG 0 (some 11) hS ?_
  refine takeG 1 (some 12) hS ?_
  refine takeG 2 (some 13) hS ?_
  refine takeG 3 (some 14) hS ?_
  refine takeG 4 (some 15) hS ?_
  refine takeG 5 (some 16) hS ?_
  refine takeG 6 (some 17) hS ?_ (hy:=by intro w hSw;obtain⟨q0,q1,q2,q3⟩:=HCE.out _ hSw;go_simp;with_reducible rfl)
  refine takeG 7 (some 18) hS ?_
  refine takeG 8 (some 19) hS ?_
  refine takeG 9 (some 20) hS ?_
  refine takeG 10 (some 21) hS ?_ (hy:=by intro w hSw;obtain⟨q0,q1,q2,q3⟩:=HCE.out _ hSw;go_simp;with_reducible rfl)
  refine takeG 11 (some 22) hS ?_
  refine callD 12 (by kernel_rfl) rfl (fun K hK=>?_)
  rw[if_pos (by rfl)]
  go_simp
  have hSb:=hS.alloc hS.size (.cells #[.int .i64 u] 3)
  have hI:=Hid.mk_ (one_ints X1.drew u)
  refine hK.out _ _ hSb (fun _=>?_)
  clear hK K
  try simp only[lay4]
  refine callD 13 (by kernel_rfl) rfl (fun K hK=>?_)
  rw[if_pos (by rfl)]
  go_simp
  refine(HAC.out _ _ _ hSb hI.out).mono ?_
  rintro e Y ⟨b,rfl,hb,bY⟩
  have hY:=hSb.trans (bY.mono hSb.size)
  have HBB:=Hid.mk_ hb
  clear bY hb
  refine hK.out _ _ hY (fun _=>?_)
  clear hK K
  try simp only[lay4]
  refine takeG 14 (some 25) hY ?_
  refine takeG 15 (some 6) hY ?_
  refine wpAnyH_done (by kernel_rfl) ?_ _
  clear HCE HAC
  go_wp2
  go_ret
  exact⟨b,rfl,HFIN.out b HBB.out,HBW.out.trans (hY.mono HBW.out.size)⟩
 ·rw[if_neg hc] at HT
  have HN:Hid (¬(1<=t/\t<(ks.length:Int)/\LangD gs 200 (ts.getD t.toNat emptyT) [u])):=fun q=>hc ⟨q.1,q.2.1⟩
  generalize (1<=t/\t<(ks.length:Int)/\LangD gs 200 (ts.getD t.toNat emptyT) [u])=PP at *
  clear h hc
  go_enter Tryz.func23,Tryz.ntmps23
  go_wp2_with fail
  refine HT.mono ?_
  rintro e X1 ⟨rfl,rfl⟩
  clear HT
  go_wp2_with fail
  refine wp_region_held_drew (S:=fun X=>Below X1.heap.size X1 X) hmx (zzd _ _).drew (fun hS=>?_)
  refine takeG 0 (some 11) hS ?_
  refine takeG 1 (some 12) hS ?_
  refine takeG 2 (some 13) hS ?_
  refine takeD 3 (some 14) (v:=undef) rfl rfl (by kernel_rfl) (by kernel_rfl) (by kernel_rfl) (fun _ _ _ h=>h) (Or.inr ⟨by rfl,rfl⟩) hS ?_
  try simp only[lay4]
  refine takeD 4 (some 15) (v:=undef) rfl rfl (by kernel_rfl) (by kernel_rfl) (by kernel_rfl) (fun _ _ _ h=>h) (Or.inr ⟨by rfl,rfl⟩) hS ?_
  try simp only[lay4]
  refine takeD 5 (some 16) (v:=undef) rfl rfl (by kernel_rfl) (by kernel_rfl) (by kernel_rfl) (fun _ _ _ h=>h) (Or.inr ⟨by rfl,rfl⟩) hS ?_
  try simp only[lay4]
  refine takeD 6 (some 17) (v:=undef) rfl rfl (by kernel_rfl) (by kernel_rfl) (by kernel_rfl) (fun _ _ _ h=>h) (Or.inr ⟨by rfl,rfl⟩) hS ?_
  try simp only[lay4]
  refine takeD 7 (some 18) (v:=undef) rfl rfl (by kernel_rfl) (by kernel_rfl) (by kernel_rfl) (fun _ _ _ h=>h) (Or.inr ⟨by rfl,rfl⟩) hS ?_
  try simp only[lay4]
  refine takeD 8 (some 19) (v:=undef) rfl rfl (by kernel_rfl) (by kernel_rfl) (by kernel_rfl) (fun _ _ _ h=>h) (Or.inr ⟨by rfl,rfl⟩) hS ?_
  try simp only[lay4]
  refine takeD 9 (some 20) (v:=undef) rfl rfl (by kernel_rfl) (by kernel_rfl) (by kernel_rfl) (fun _ _ _ h=>h) (Or.inr ⟨by rfl,rfl⟩) hS ?_
  try simp only[lay4]
  refine takeD 10 (some 21) (v:=undef) rfl rfl (by kernel_rfl) (by kernel_rfl) (by kernel_rfl) (fun _ _ _ h=>h) (Or.inr ⟨by rfl,rfl⟩) hS ?_
  try simp only[lay4]
  refine takeD 11 (some 22) (v:=undef) rfl rfl (by kernel_rfl) (by kernel_rfl) (by kernel_rfl) (fun _ _ _ h=>h) (Or.inr ⟨by rfl,rfl⟩) hS ?_
  try simp only[lay4]
  refine takeD 12 (some 23) (v:=undef) rfl rfl (by kernel_rfl) (by kernel_rfl) (by kernel_rfl) (fun _ _ _ h=>h) (Or.inr ⟨by rfl,rfl⟩) hS ?_
  try simp only[lay4]
  refine takeD 13 (some 24) (v:=undef) rfl rfl (by kernel_rfl) (by kernel_rfl) (by kernel_rfl) (fun _ _ _ h=>h) (Or.inr ⟨by rfl,rfl⟩) hS ?_
  try simp only[lay4]
  refine takeG 14 (some 25) hS ?_
  refine takeG 15 (some 6) hS ?_
  refine wpAnyH_done (by kernel_rfl) ?_ _
  go_wp2
  go_ret
  exact⟨false,rfl,iff_of_false (by simp) HN.out,HBW.out.trans (hS.mono HBW.out.size)⟩
set_option maxRecDepth 100000 in
set_option maxHeartbeats 1600000 in
theorem ralone_calls {B:Nat} {whole:ByteArray} {a:Option Addr} {len cap:Nat} {l:List SpecD} {gs:List Grp} (w:World) (h:RSch w B whole a len cap l gs) (t u:Int) :
  Calls Tryz.prog 24 #[.pointer (some ⟨B,0,none⟩),.int .i64 t,.int .i64 u] w fun e w' => ∃r:Bool,e=.returned (.bool r)/\(r=true↔(1<=t/\t<=(len:Int)/\LangD (namesD l gs) 200 (outTree (specL l t).expr) [u]))/\Below w.heap.size w w' := by
 have HSP:=rspec_calls w h t
 obtain⟨⟨sn,se,sf,sm,sl,sk,sb⟩,hss⟩:∃s,specL l t=s:=⟨_,rfl⟩
 rw[hss] at HSP ⊢
 unfold specV at HSP
 dsimp only at HSP ⊢
 by_cases hc:1<=t/\t<=(len:Int)
 ·rw[show decide (1<=t/\t<=(len:Int))=true by simpa using hc] at HSP
  obtain⟨tr,ea,ec,ng,nc,h1,_,h3,h4,h5,h6,h15⟩:=h
  have hll:=h3.1
  obtain⟨n,rfl⟩:∃n:Nat,t=(n:Int)+1:=⟨(t - 1).toNat,by omega⟩
  obtain⟨x,hx⟩:∃x,l[n]? = some x:=⟨_,zze (by omega)⟩
  have hse:x.expr=se:=by
   unfold specL at hss
   rw[if_pos ⟨hc.1,by rw[hll];exact hc.2⟩,show ((n:Int)+1 - 1).toNat=n by omega,hx] at hss
   rw[show x=_ from hss]
  obtain⟨eg,⟨rk,rn,ra,rl,rc⟩,rfl,hgl,c0,c1,c2,hex⟩:=h5 n x hx
  rw[hse] at hex
  have hck:chk 200 (outTree se) (namesD l gs)=0:=by
   rw[<-hse]
   refine readE_zero ?_
   have key:∀(ss:List ByteArray) (G:List Grp),firstE ss G=0->∀s∈ss,readE s G=0:=by
    intro ss G
    induction ss with
    | nil=>intro _ s hs;cases hs
    | cons q r ih=>
     intro h0 s hs
     rw[firstE] at h0
     by_cases hq:readE q G=0
     ·rw[if_neg (by rw[hq];simp)] at h0
      rcases List.mem_cons.1 hs with rfl | hs
      ·exact hq
      ·exact ih h0 s hs
     ·rw[if_pos hq] at h0
      exact absurd h0 hq
   exact key _ _ h6 x.expr (zzk _ (List.mem_map.2 ⟨x,zzj hx,rfl⟩))
  have hBl:=(zza.1 h1).1
  have HCE0:Hid (∀X,Below w.heap.size w X->X.cell? ⟨B,4,none⟩=some (.slice (some ⟨eg,0,none⟩) len ec)/\X.cell? ⟨B,5,none⟩=some (.slice (some ⟨ng,0,none⟩) (namesD l gs).length nc)/\X.cell? ⟨eg,n * 3,none⟩=some (.int .i64 rk)/\X.cell? ⟨eg,n * 3+1,none⟩=some (.string rn)/\X.cell? ⟨eg,n * 3+2,none⟩=some (.slice ra rl rc)):=fun X hX=>by
   have hm:=(hX.block _ hBl).trans h1
   have hq:∀j,X.cell? ⟨eg,j,none⟩=w.cell? ⟨eg,j,none⟩:=fun j=>zzi (hX.block eg hgl)
   exact⟨cell_of_row X B 4 _ _ _ hm,cell_of_row X B 5 _ _ _ hm,by rw[hq];exact c0,by rw[hq];exact c1,by rw[hq];exact c2⟩
  have HAC0:Hid (∀X za zc,Below w.heap.size w X->Ints X za 1 [u]->Calls Tryz.prog 32 #[.agg #[.int .i64 rk,.string rn,.slice ra rl rc],.slice (some ⟨ng,0,none⟩) (namesD l gs).length nc,.slice za 1 zc] X fun e w' => ∃b,e=.returned (.bool b)/\(b=true↔LangD (namesD l gs) 200 (outTree se) [u])/\Below X.heap.size X w'):=fun X za zc hX hI=>by
   refine(refaccepts_calls 200 (outTree se) _ (some ⟨ng,0,none⟩) (namesD l gs).length nc (namesD l gs) za 1 zc _ X (Ex.below hX _ _ _ hex) (out_named se) (out_cnt se) (h4.below hX) hI).mono ?_
   rintro e w' ⟨b,q1,q2,q3⟩
   exact⟨b,q1,q2.trans ⟨fun q=>q.2,fun q=>⟨hck,q⟩⟩,q3⟩
  have HFIN:Hid (∀b:Bool,(b=true↔LangD (namesD l gs) 200 (outTree se) [u])->(b=true↔(1<=(n:Int)+1/\(n:Int)+1<=(len:Int)/\LangD (namesD l gs) 200 (outTree se) [u]))):=fun b hb=>hb.trans ⟨fun q=>⟨hc.1,hc.2,q⟩,fun q=>q.2.2⟩
  generalize (1<=(n:Int)+1/\(n:Int)+1<=(len:Int)/\LangD (namesD l gs) 200 (outTree se) [u])=PP at *
  generalize LangD (namesD l gs) 200 (outTree se) [u]=LL at *
  obtain⟨gl,hgl2⟩:∃gl,(namesD l gs).length=gl:=⟨_,rfl⟩
  rw[hgl2] at HAC0 HCE0
  have hn0:(0:Int)<=(n:Int):=by omega
  have hnl:(n:Int)<(len:Int):=by omega
  have hns:(n:Int)+1 - 1=(n:Int):=by omega
  have hwr:IntKind.i64.wrap (n:Int)=(n:Int):=by rw[IntKind.wrap_i64];omega
  have hli:(len:Int)<=15:=by omega
  clear h1 h3 h4 h5 h6 hex hck hx hc hgl2 hss hse hll hgl c0 c1 c2 hBl h15
  go_enter Tryz.func24,Tryz.ntmps24
  go_wp2_with fail
  refine HSP.mono ?_
  rintro e X1 ⟨rfl,hB1⟩
  obtain⟨X2,hX2⟩:∃X2,X2=X1.alloc (.cells #[.string sn,.string se,.bool sf,.int .i64 sm,.int .i64 sl,.int .i64 sk,.bool sb] 34):=⟨_,rfl⟩
  have HBW:Hid (Below w.heap.size w X2):=by rw[hX2];exact hB1.alloc hB1.size _
  have HCE:Hid (∀X,Below X2.heap.size X2 X->X.cell? ⟨B,4,none⟩=some (.slice (some ⟨eg,0,none⟩) len ec)/\X.cell? ⟨B,5,none⟩=some (.slice (some ⟨ng,0,none⟩) gl nc)/\X.cell? ⟨eg,n * 3,none⟩=some (.int .i64 rk)/\X.cell? ⟨eg,n * 3+1,none⟩=some (.string rn)/\X.cell? ⟨eg,n * 3+2,none⟩=some (.slice ra rl rc)):=fun X hX=>HCE0.out X (HBW.out.trans (hX.mono HBW.out.size))
  have HAC:Hid (∀X za zc,Below X2.heap.size X2 X->Ints X za 1 [u]->Calls Tryz.prog 32 #[.agg #[.int .i64 rk,.string rn,.slice ra rl rc],.slice (some ⟨ng,0,none⟩) gl nc,.slice za 1 zc] X fun e w' => ∃b,e=.returned (.bool b)/\(b=true↔LL)/\Below X.heap.size X w'):=fun X za zc hX hI=>HAC0.out X za zc (HBW.out.trans (hX.mono HBW.out.size)) hI
  clear HSP hB1 HCE0 HAC0
  go_wp2_with fail
  rw[<-hX2]
  clear hX2
  refine wp_region_held_drew (S:=fun X=>Below X2.heap.size X2 X) hmx (zzd _ _).drew (fun hS=>?_)
  refine takeG 0 (some 15) hS ?_
  refine takeG 1 (some 16) hS ?_
  refine takeG 2 (some 17) hS ?_
  refine takeG 3 (some 18) hS ?_
  refine takeG 4 (some 19) hS ?_
  refine takeG 5 (some 20) hS ?_ (hy:=by intro w hSw;obtain⟨q0,q1,q2,q3,q4⟩:=HCE.out _ hSw;go_simp;with_reducible rfl)
  refine takeG 6 (some 21) hS ?_
  refine takeG 7 (some 22) hS ?_
  refine takeG 8 (some 23) hS ?_
  refine takeG 9 (some 24) hS ?_ (hy:=by intro w hSw;obtain⟨q0,q1,q2,q3,q4⟩:=HCE.out _ hSw;go_simp;with_reducible rfl)
  refine takeG 10 (some 25) hS ?_
  refine takeG 11 (some 26) hS ?_
  refine takeG 12 (some 27) hS ?_
  refine takeG 13 (some 28) hS ?_ (hy:=by intro w hSw;obtain⟨q0,q1,q2,q3,q4⟩:=HCE.out _ hSw;go_simp;with_reducible rfl)
  refine takeG 14 (some 29) hS ?_
  refine callD 15 (by kernel_rfl) rfl (fun K hK=>?_)
  rw[if_pos (by rfl)]
  go_simp
  have hSb:=hS.alloc hS.size (.cells #[.int .i64 u] 3)
  have hI:=Hid.mk_ (one_ints X2.drew u)
  refine hK.out _ _ hSb (fun _=>?_)
  clear hK K
  try simp only[lay4]
  refine callD 16 (by kernel_rfl) rfl (fun K hK=>?_)
  rw[if_pos (by rfl)]
  go_simp
  refine(HAC.out _ _ _ hSb hI.out).mono ?_
  rintro e Y ⟨b,rfl,hb,bY⟩
  have hY:=hSb.trans (bY.mono hSb.size)
  have HBB:=Hid.mk_ hb
  clear bY hb
  refine hK.out _ _ hY (fun _=>?_)
  clear hK K
  try simp only[lay4]
  refine takeG 17 (some 32) hY ?_
  refine takeG 18 (some 6) hY ?_
  refine wpAnyH_done (by kernel_rfl) ?_ _
  clear HCE HAC
  go_wp2
  go_ret
  exact⟨b,rfl,HFIN.out b HBB.out,HBW.out.trans (hY.mono HBW.out.size)⟩
 ·rw[show decide (1<=t/\t<=(len:Int))=false by simpa using hc] at HSP
  have HN:Hid (¬(1<=t/\t<=(len:Int)/\LangD (namesD l gs) 200 (outTree se) [u])):=fun q=>hc ⟨q.1,q.2.1⟩
  generalize (1<=t/\t<=(len:Int)/\LangD (namesD l gs) 200 (outTree se) [u])=PP at *
  clear h hc hss
  go_enter Tryz.func24,Tryz.ntmps24
  go_wp2_with fail
  refine HSP.mono ?_
  rintro e X1 ⟨rfl,hB1⟩
  obtain⟨X2,hX2⟩:∃X2,X2=X1.alloc (.cells #[.string sn,.string se,.bool sf,.int .i64 sm,.int .i64 sl,.int .i64 sk,.bool sb] 34):=⟨_,rfl⟩
  have HBW:Hid (Below w.heap.size w X2):=by rw[hX2];exact hB1.alloc hB1.size _
  clear HSP hB1
  go_wp2_with fail
  rw[<-hX2]
  clear hX2
  refine wp_region_held_drew (S:=fun X=>Below X2.heap.size X2 X) hmx (zzd _ _).drew (fun hS=>?_)
  refine takeG 0 (some 15) hS ?_
  refine takeG 1 (some 16) hS ?_
  refine takeD 2 (some 17) (v:=undef) rfl rfl (by kernel_rfl) (by kernel_rfl) (by kernel_rfl) (fun _ _ _ h=>h) (Or.inr ⟨by rfl,rfl⟩) hS ?_
  try simp only[lay4]
  refine takeD 3 (some 18) (v:=undef) rfl rfl (by kernel_rfl) (by kernel_rfl) (by kernel_rfl) (fun _ _ _ h=>h) (Or.inr ⟨by rfl,rfl⟩) hS ?_
  try simp only[lay4]
  refine takeD 4 (some 19) (v:=undef) rfl rfl (by kernel_rfl) (by kernel_rfl) (by kernel_rfl) (fun _ _ _ h=>h) (Or.inr ⟨by rfl,rfl⟩) hS ?_
  try simp only[lay4]
  refine takeD 5 (some 20) (v:=undef) rfl rfl (by kernel_rfl) (by kernel_rfl) (by kernel_rfl) (fun _ _ _ h=>h) (Or.inr ⟨by rfl,rfl⟩) hS ?_
  try simp only[lay4]
  refine takeD 6 (some 21) (v:=undef) rfl rfl (by kernel_rfl) (by kernel_rfl) (by kernel_rfl) (fun _ _ _ h=>h) (Or.inr ⟨by rfl,rfl⟩) hS ?_
  try simp only[lay4]
  refine takeD 7 (some 22) (v:=undef) rfl rfl (by kernel_rfl) (by kernel_rfl) (by kernel_rfl) (fun _ _ _ h=>h) (Or.inr ⟨by rfl,rfl⟩) hS ?_
  try simp only[lay4]
  refine takeD 8 (some 23) (v:=undef) rfl rfl (by kernel_rfl) (by kernel_rfl) (by kernel_rfl) (fun _ _ _ h=>h) (Or.inr ⟨by rfl,rfl⟩) hS ?_
  try simp only[lay4]
  refine takeD 9 (some 24) (v:=undef) rfl rfl (by kernel_rfl) (by kernel_rfl) (by kernel_rfl) (fun _ _ _ h=>h) (Or.inr ⟨by rfl,rfl⟩) hS ?_
  try simp only[lay4]
  refine takeD 10 (some 25) (v:=undef) rfl rfl (by kernel_rfl) (by kernel_rfl) (by kernel_rfl) (fun _ _ _ h=>h) (Or.inr ⟨by rfl,rfl⟩) hS ?_
  try simp only[lay4]
  refine takeD 11 (some 26) (v:=undef) rfl rfl (by kernel_rfl) (by kernel_rfl) (by kernel_rfl) (fun _ _ _ h=>h) (Or.inr ⟨by rfl,rfl⟩) hS ?_
  try simp only[lay4]
  refine takeD 12 (some 27) (v:=undef) rfl rfl (by kernel_rfl) (by kernel_rfl) (by kernel_rfl) (fun _ _ _ h=>h) (Or.inr ⟨by rfl,rfl⟩) hS ?_
  try simp only[lay4]
  refine takeD 13 (some 28) (v:=undef) rfl rfl (by kernel_rfl) (by kernel_rfl) (by kernel_rfl) (fun _ _ _ h=>h) (Or.inr ⟨by rfl,rfl⟩) hS ?_
  try simp only[lay4]
  refine takeD 14 (some 29) (v:=undef) rfl rfl (by kernel_rfl) (by kernel_rfl) (by kernel_rfl) (fun _ _ _ h=>h) (Or.inr ⟨by rfl,rfl⟩) hS ?_
  try simp only[lay4]
  refine takeD 15 (some 30) (v:=undef) rfl rfl (by kernel_rfl) (by kernel_rfl) (by kernel_rfl) (fun _ _ _ h=>h) (Or.inr ⟨by rfl,rfl⟩) hS ?_
  try simp only[lay4]
  refine takeD 16 (some 31) (v:=undef) rfl rfl (by kernel_rfl) (by kernel_rfl) (by kernel_rfl) (fun _ _ _ h=>h) (Or.inr ⟨by rfl,rfl⟩) hS ?_
  try simp only[lay4]
  refine takeG 17 (some 32) hS ?_
  refine takeG 18 (some 6) hS ?_
  refine wpAnyH_done (by kernel_rfl) ?_ _
  go_wp2
  go_ret
  exact⟨false,rfl,iff_of_false (by simp) HN.out,HBW.out.trans (hS.mono HBW.out.size)⟩
theorem lies_none:Lies none 0 0:=by
 unfold Lies
 simp
theorem toks_nil (w:World):Toks w none 0 []:=⟨rfl,.inl rfl⟩
theorem toks_pp (w:World) (b:Nat) (h:w.heap[b]? = some (.cells #[.int .i64 1,.int .i64 1,.int .i64 0,.int .i64 0,.int .i64 2,.int .i64 0,.int .i64 0,.int .i64 0] 53 (0,0))):Toks w (some ⟨b,0,none⟩) 2 [openP,closeT]:=by
 have hc:=fun j=>cell_of_row w b j _ _ _ h
 refine⟨rfl,.inr ⟨b,0,rfl,(zza.1 h).1,fun i x hx=>?_⟩⟩
 match i,hx with
 | 0,hx=>cases hx;exact⟨hc 0,hc 1,hc 2,hc 3⟩
 | 1,hx=>cases hx;exact⟨hc 4,hc 5,hc 6,hc 7⟩
 | n+2,hx=>simp at hx
theorem house_ck {w:World} {B g c ng nc:Nat} {ks:List KindD} (h:SchAt w B g c ng nc ks gsH (treesOf houseW houseL)) (h8:ks.length=8):chk 200 (outTree houseW) gsH=0:=by
 obtain⟨x,hx⟩:∃x,ks[0]? = some x:=⟨_,zze (by omega)⟩
 exact(h.trees 0 x _ hx rfl).2.2
set_option maxRecDepth 100000 in
set_option maxHeartbeats 600000 in
theorem awakes_calls (w:World) (hE:ETy w):Calls Tryz.prog 7 #[] w fun e w' => e=.returned (.bool true)/\Below w.heap.size w w' := by
 have HH:Hid (∀X,Below w.heap.size w X->Calls Tryz.prog 8 #[] X fun e w' => ∃B,e=.returned (.pointer (some ⟨B,0,none⟩))/\MadeS w' B houseW houseL houseG/\Below X.heap.size X w'):=fun X hX=>house_calls X (hE.below hX)
 have HC1:Hid (∀(X:World) (B:Nat),MadeS X B houseW houseL houseG->Calls Tryz.prog 10 #[.pointer (some ⟨B,0,none⟩),.slice (some ⟨X.heap.size,0,none⟩) 2 2] (X.alloc (.cells #[.int .i64 1,.int .i64 1,.int .i64 0,.int .i64 0,.int .i64 2,.int .i64 0,.int .i64 0,.int .i64 0] 53)) fun e w' => e=.returned (.tuple #[.int .i64 2,.int .i64 0])/\Below X.heap.size X w'):=fun X B hm=>by
  have hBX:Below X.heap.size X (X.alloc (.cells #[.int .i64 1,.int .i64 1,.int .i64 0,.int .i64 0,.int .i64 2,.int .i64 0,.int .i64 0,.int .i64 0] 53)):=(zzd _ X).alloc (zzb _) _
  obtain⟨g,c,ng,nc,ks,h1,h8,hs⟩:=house_kinds (hm.below hBX)
  refine(scheck_calls _ h1 (by omega) (some ⟨X.heap.size,0,none⟩) 2 2 [openP,closeT] (toks_pp _ _ (World.alloc_heap_new X _)) (by unfold Lies;simp) (by omega) (fun _ i x hx hk=>?_)).mono ?_
  ·match i,hx with
   | 0,hx=>cases hx;rw[h8];decide
   | 1,hx=>cases hx;exact absurd hk (by decide)
   | n+2,hx=>simp at hx
  ·rintro e w' ⟨rfl,hB⟩
   rw[check_para h8 hs]
   exact⟨rfl,hBX.trans (hB.mono hBX.size)⟩
 have HC2:Hid (∀(X:World) (B:Nat),MadeS X B houseW houseL houseG->Calls Tryz.prog 10 #[.pointer (some ⟨B,0,none⟩),.slice none 0 0] X fun e w' => e=.returned (.tuple #[.int .i64 0,.int .i64 9])/\Below X.heap.size X w'):=fun X B hm=>by
  obtain⟨g,c,ng,nc,ks,h1,h8,hs⟩:=house_kinds hm
  refine(scheck_calls _ h1 (by omega) none 0 0 [] (toks_nil X) lies_none (by omega) (fun _ i x hx hk=>by simp at hx)).mono ?_
  rintro e w' ⟨rfl,hB⟩
  rw[check_none (house_ck h1 h8)]
  exact⟨rfl,hB⟩
 clear hE
 go_enter Tryz.func7,Tryz.ntmps7
 go_wp2_with fail
 refine(HH.out w (zzd _ _)).mono ?_
 rintro e X1 ⟨B1,rfl,hm1,hB1⟩
 have HX:=HC1.out X1 B1 hm1
 have HB1:=Hid.mk_ hB1
 clear hm1 hB1 HC1
 go_wp2_with fail
 refine HX.mono ?_
 rintro e X2 ⟨rfl,hB2⟩
 have HB2:=Hid.mk_ (HB1.out.trans (hB2.mono HB1.out.size))
 have HH2:=HH.out X2 HB2.out
 clear hB2 HX HB1 HH
 go_wp2_with fail
 refine HH2.mono ?_
 rintro e X3 ⟨B3,rfl,hm3,hB3⟩
 have HX3:=HC2.out X3 B3 hm3
 have HB3:=Hid.mk_ (HB2.out.trans (hB3.mono HB2.out.size))
 clear hm3 hB3 HC2 HH2 HB2
 go_wp2_with fail
 refine HX3.mono ?_
 rintro e X4 ⟨rfl,hB4⟩
 have HB4:=Hid.mk_ (HB3.out.trans (hB4.mono HB3.out.size))
 clear hB4 HX3 HB3
 go_wp2
 go_ret
 exact⟨rfl,HB4.out⟩
theorem made_kinds {w:World} {B:Nat} {whole:ByteArray} {l:List SpecD} {gs:List Grp} (h:MadeS w B whole l gs):∃g c ng nc ks,SchAt w B g c ng nc ks (namesD l gs) (treesOf whole l)/\ks.length=l.length+1/\ks.map (·.1)=zeroS::l:=by
 obtain⟨g,c,ng,nc,ks,h1,h2⟩:=h
 refine⟨g,c,ng,nc,ks,h1,?_,h2⟩
 have:=congrArg List.length h2
 rw[List.length_map,List.length_cons] at this
 exact this
theorem tree_spec (whole:ByteArray) (l:List SpecD) (t:Int) (h1:1<=t) (h2:t<=(l.length:Int)):(treesOf whole l).getD t.toNat emptyT=outTree (specL l t).expr:=by
 obtain⟨n,rfl⟩:∃n:Nat,t=(n:Int)+1:=⟨(t - 1).toNat,by omega⟩
 unfold specL treesOf
 rw[if_pos ⟨h1,h2⟩,show ((n:Int)+1).toNat=n+1 by omega,show ((n:Int)+1 - 1).toNat=n by omega]
 obtain⟨x,hx⟩:∃x,l[n]? = some x:=⟨_,zze (by omega)⟩
 rw[List.getD_eq_getElem?_getD,List.getElem?_map,List.getElem?_cons_succ,List.getElem?_map,hx]
 rfl
set_option maxRecDepth 100000 in
set_option maxHeartbeats 1600000 in
theorem alone_walk (whole:ByteArray) (a:Option Addr) (len cap:Nat) (l:List SpecD) (ga:Option Addr) (gl gc:Nat) (gs:List Grp) (t u:Int) (w:World) (hw:whole.size<=9223372036854775807) (hl:Specs w a len l) (hG:Groups w ga gl gs) (hls:∀x∈l,x.name.size<=9223372036854775807/\x.expr.size<=9223372036854775807) (hgs:∀x∈gs,x.1.size<=9223372036854775807/\x.2.length<=1500000) (hE:ETy w) :
  Calls Tryz.prog 6 #[.string whole,.slice a len cap,.slice ga gl gc,.int .i64 t,.int .i64 u] w fun e w' => e=.returned (.bool true)/\Below w.heap.size w w' := by
 have hll:=hl.1
 have hl63:=hl.2.1
 have HAW:Hid (∀X,Below w.heap.size w X->Calls Tryz.prog 7 #[] X fun e w' => e=.returned (.bool true)/\Below X.heap.size X w'):=fun X hX=>awakes_calls X (hE.below hX)
 have HN1:=new_calls whole a len cap l ga gl gc gs w hw hl hG hls hgs hE
 have HN2:Hid (∀X,Below w.heap.size w X->Calls Tryz.prog 17 #[.string whole,.slice a len cap,.slice ga gl gc] X fun e w' => Below X.heap.size X w' /\ ((newE whole l gs≠0/\e=.returned (.tuple #[.pointer none,.int .i64 (newE whole l gs)]))\/(newE whole l gs=0/\∃B,e=.returned (.tuple #[.pointer (some ⟨B,0,none⟩),.int .i64 0])/\RSch w' B whole a len cap l gs))):=fun X hX=>rnew_calls whole a len cap l ga gl gc gs X hw (hl.below hX) (hG.below hX) hls (fun x hx=>(hgs x hx).1)
 obtain⟨NE,hNE⟩:∃NE,newE whole l gs=NE:=⟨_,rfl⟩
 rw[hNE] at HN1 HN2
 clear hl hG hls hgs hE hNE
 by_cases h0:NE=0
 ·subst h0
  go_enter Tryz.func6,Tryz.ntmps6
  go_wp2_with fail
  refine HN1.mono ?_
  rintro e X1 ⟨hB1,⟨hx,_⟩ | ⟨_,B1,rfl,hm⟩⟩
  ·exact absurd rfl hx
  have HM:=Hid.mk_ hm
  have HB1:=Hid.mk_ hB1
  have HN3:=HN2.out X1 hB1
  clear HN1 HN2 hm hB1
  go_wp2_with fail
  refine HN3.mono ?_
  rintro e X2 ⟨hB2,⟨hx,_⟩ | ⟨_,B2,rfl,hr⟩⟩
  ·exact absurd rfl hx
  have HR:=Hid.mk_ hr
  have HB12:=Hid.mk_ hB2
  have HB2:=Hid.mk_ (HB1.out.trans (hB2.mono HB1.out.size))
  obtain⟨g,c,ng,nc,ks,hS,hks,_⟩:=made_kinds (HM.out.below hB2)
  have HAL:Hid (∀X t,Below X2.heap.size X2 X->Calls Tryz.prog 23 #[.pointer (some ⟨B1,0,none⟩),.int .i64 t,.int .i64 u] X fun e w' => ∃r:Bool,e=.returned (.bool r)/\(r=true↔(1<=t/\t<=(len:Int)/\LangD (namesD l gs) 200 (outTree (specL l t).expr) [u]))/\Below X.heap.size X w'):=fun X t hX=>by
   refine(alone_calls X (hS.below hX) (by omega) t u).mono ?_
   rintro e w' ⟨r,h1,h2,h3⟩
   refine⟨r,h1,h2.trans ?_,h3⟩
   constructor
   ·rintro⟨q1,q2,q3⟩
    rw[tree_spec whole l t q1 (by omega)] at q3
    exact⟨q1,by omega,q3⟩
   ·rintro⟨q1,q2,q3⟩
    rw[<-tree_spec whole l t q1 (by omega)] at q3
    exact⟨q1,by omega,q3⟩
  have HRA:Hid (∀X,Below X2.heap.size X2 X->Calls Tryz.prog 24 #[.pointer (some ⟨B2,0,none⟩),.int .i64 t,.int .i64 u] X fun e w' => ∃r:Bool,e=.returned (.bool r)/\(r=true↔(1<=t/\t<=(len:Int)/\LangD (namesD l gs) 200 (outTree (specL l t).expr) [u]))/\Below X.heap.size X w'):=fun X hX=>ralone_calls X (HR.out.below hX) t u
  have h15:len<=15:=by obtain⟨_,_,_,_,_,_,_,_,_,_,_,q⟩:=HR.out;exact q
  have hli:(len:Int)<=15:=by omega
  have HA1:=HAL.out X2 t (zzd _ _)
  generalize (1<=t/\t<=(len:Int)/\LangD (namesD l gs) 200 (outTree (specL l t).expr) [u])=PP at HA1 HRA
  have b0:((0:Int) != 0)=false:=rfl
  clear hB2 hr HN3 hS hks
  go_wp2_with fail
  refine HA1.mono ?_
  rintro e X3 ⟨r1,rfl,hr1,hB3⟩
  have HA2:=HRA.out X3 hB3
  have HB3:=Hid.mk_ hB3
  have HR1:=Hid.mk_ hr1
  clear hB3 hr1 HA1 HRA
  go_wp2_with fail
  refine HA2.mono ?_
  rintro e X4 ⟨r2,rfl,hr2,hB4⟩
  have HB4:=Hid.mk_ (HB3.out.trans (hB4.mono HB3.out.size))
  obtain rfl:r1=r2:=by
   have h:=HR1.out.trans hr2.symm
   cases r1<;>cases r2<;>simp_all
  have HA3:=HAL.out X4 0 HB4.out
  clear hB4 hr2 HA2 HR1
  go_wp2_with fail
  refine HA3.mono ?_
  rintro e X5 ⟨r3,rfl,hr3,hB5⟩
  have HB5:=Hid.mk_ (HB4.out.trans (hB5.mono HB4.out.size))
  obtain rfl:r3=false:=by
   cases r3 with
   | false=>rfl
   | true=>have:=(hr3.1 rfl).1;omega
  have HA4:=HAL.out X5 ((len:Int)+1) HB5.out
  clear hB5 hr3 HA3 HAL
  go_wp2_with fail
  refine HA4.mono ?_
  rintro e X6 ⟨r4,rfl,hr4,hB6⟩
  have HB6:=Hid.mk_ (HB5.out.trans (hB6.mono HB5.out.size))
  obtain rfl:r4=false:=by
   cases r4 with
   | false=>rfl
   | true=>have:=(hr4.1 rfl).2.1;omega
  have HB26:=Hid.mk_ (HB2.out.trans (HB6.out.mono HB2.out.size))
  have HA5:=HAW.out X6 HB26.out
  clear hB6 hr4 HA4
  go_wp2_with fail
  refine HA5.mono ?_
  rintro e X7 ⟨rfl,hB7⟩
  have HE:=Hid.mk_ (HB26.out.trans (hB7.mono HB26.out.size))
  clear hB7 HA5
  go_wp2
  go_ret
  first | exact HE.out | exact⟨rfl,HE.out⟩
 ·have b0:(NE != 0)=true:=by simpa using h0
  go_enter Tryz.func6,Tryz.ntmps6
  go_wp2_with fail
  refine HN1.mono ?_
  rintro e X1 ⟨hB1,⟨_,rfl⟩ | ⟨hx,_⟩⟩
  ·have HB1:=Hid.mk_ hB1
   have HN3:=HN2.out X1 hB1
   clear HN1 HN2 hB1
   go_wp2_with fail
   refine HN3.mono ?_
   rintro e X2 ⟨hB2,⟨_,rfl⟩ | ⟨hx,_⟩⟩
   ·have HB2:=Hid.mk_ (HB1.out.trans (hB2.mono HB1.out.size))
    have HA2:=HAW.out X2 HB2.out
    clear hB2 HN3
    go_wp2_with fail
    refine HA2.mono ?_
    rintro e X3 ⟨rfl,hB3⟩
    have HE:=Hid.mk_ (HB2.out.trans (hB3.mono HB2.out.size))
    clear hB3 HA2
    go_wp2
    go_ret
    first | exact HE.out | exact⟨rfl,HE.out⟩
   ·exact absurd hx h0
  ·exact absurd hx h0
end Go.Proofs.YtmablhmpfcefnaaGreatDoor
