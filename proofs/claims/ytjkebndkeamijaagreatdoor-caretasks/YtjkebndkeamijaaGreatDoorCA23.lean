/-
  PROVED HERE: what the texts DAFKidsI, DAFKids, DAWordO, DAWordFt, DAFaultI say.
-/
import Derived.Test.YtjkebndkeamijaaGreatDoorCA22
set_option maxRecDepth 100000
set_option maxHeartbeats 2000000
namespace Go.Proofs.YtjkebndkeamijaaGreatDoor
open Go.RowKit
theorem k26{p:Prop}(h:p:=by
  (go_wp2_with fail);refine(HPass.out _ _ _ _ sP uP aP bP.size).mono ?_;rintro e W2 ⟨rfl,v', s2,u2,a2,b2⟩;have bQ:=bP.trans b2;clear sP uP aP bP b2 HPass;obtain⟨-,s33,-⟩:=s2.cells;simp only[List.length_nil] at s33;obtain⟨a', cap', hu', hr⟩:=vA (n:=(out).length) (bs:=out) (by simpa using u2);rw[<-HE.out] at hr hu';obtain⟨N,hN⟩:∃N,K.length=N:=⟨_,rfl⟩;have HN:Hid (K.length=N):=hN;rw[hN] at hr hu';clear u2 s2 a2 hN;subst hu';go_wp2;go_ret
  first | exact⟨a', ⟨cap', by rw[HN.out];rfl⟩,by rw[HN.out];exact hr,bQ⟩ | exact⟨a', cap', by rw[HN.out];rfl,by rw[HN.out];exact hr,bQ⟩
  ):p:=h
theorem hCs (a:Option Addr)(len cap:Nat)(l:List Tok)(n:Nat)(w:World)(hl:mC w a len l)(hsz:len<=4398046511104)(hn:n<len)(hk1:kindAt l n=1) :
  Calls Tryz.prog 42 #[.slice a len cap,.int .i64 (n:Int)] w fun e w' => ∃a' cap', e=.returned (.slice a' (kids l n).length cap')/\hFn .i64 w' a' (kids l n).length cap' (kids l n)/\Below w.heap.size w w' := by
 obtain⟨i0,hi,hz0,hz1,hz2⟩:=info_parts gUt
 have hL:=hl.1
 have HG0:Hid (mT l n n [] (kids l n)):=.inl ⟨rfl,rfl,by unfold kids;rw[if_neg (by rw[Int.toNat_natCast];omega),show ((n:Int)+1).toNat=n+1 from by omega]⟩
 have HS0:Hid (tK l n n []):=.inl ⟨rfl,rfl⟩
 have HN0:Hid (Stk (w.alloc (.cells oB 111)) w.heap.size w.heap.size (.slice none 0 0) []):=yI w
 have HB0:Hid (∀o,Below w.heap.size w (w.alloc o)):=fun o=>(zzd _ w).alloc (zzb _) o
 have HO:=zH a len cap l n w hl
 rw[show decide (0<=(n:Int)/\(n:Int)<len/\kindAt l (n:Int).toNat=1)=true from by rw[Int.toNat_natCast];exact decide_eq_true ⟨oo,oo,hk1⟩] at HO
 have HK1:Hid (kindAt l n=1):=hk1
 have e1:((n:Int) == -1)=false:=by rw[beq_eq_false_iff_ne];omega
 clear hk1
 generalize kids l n=K at *
 go_enter Tryz.func42,Tryz.ntmps42
 go_wp2_with fail
 refine HO.mono ?_
 rintro e W ⟨rfl,hWw⟩
 rw[hWw]
 clear HO hWw
 go_wp2
 go_loopw [5,7] (fun u u7 w' => ∃(k:Nat) (v:Value) (R out:List Int),k<=len/\n<=k/\u7=.int .i64 (k:Int)/\R.length<=k/\out.length<=k/\Stk w' w.heap.size w.heap.size v R/\w'.ownsRow w.heap.size 3 1 u out.length (out.map (Value.int .i64))/\zP u v/\tK l n k R/\mT l (n) k out K/\Below w.heap.size w w') (fun _ u7 _=>len - (intOf u7).toNat)
 case atStart=>exact⟨n,_,[],[],oo,oo,by simp,by simp,by simp,HN0.out,World.ownsRow_nil _ _ _ _,fun _ h=>by simp[Value.ownBlock] at h,HS0.out,HG0.out,HB0.out _⟩
 case round=>
  obtain⟨k,v,R,out,hk,hik,rfl,hR,hO,hS,hu,hA,hSi,hG,hB⟩:=hrel;clear HS0 HG0 HN0 HB0
  by_cases hlt:k<len
  ·obtain⟨b,o,x,rfl,hbl,hx,hc⟩:=hl.token hlt
   obtain⟨c0,c1,c2,c3⟩:=hc wr hB;have hst:=gXv hSi hik oo hx HK1.out hG;have HL:=sO x k R
   have HOL:Hid ((kept (n) x k R out).length<=k+1):=by
    show (kept (n) x k R out).length<=k+1
    unfold kept
    split<;>first | omega | (simp;omega)
   (have HTop:Hid (∀o,Calls Tryz.prog 78 #[.pointer (some ⟨w.heap.size,0,none⟩)] (wr.alloc o) fun e w' => e=.returned (.int .i64 (R.getLast?.getD (-1)))/\∃q,w' = (wr.alloc o).drewN q):=fun o=>zY _ _ _ _ _ (hS.alloc o) oo);have HPart:=fun W=>zG x W
   have HPass:Hid (∀W u (n:Nat) (xs:List Value),Stk W w.heap.size w.heap.size v R->W.ownsRow w.heap.size 3 1 u n xs->zP u v->w.heap.size<=W.heap.size->Calls Tryz.prog 69 #[.pointer (some ⟨w.heap.size,0,none⟩),.int .i64 (k:Int),nT x] W fun e w' => e=.returned (.tuple #[])/\∃v', Stk w' w.heap.size w.heap.size v' (lA x k R)/\w'.ownsRow w.heap.size 3 1 u n xs/\zP u v' /\ Below w.heap.size W w'):=by
    exact k66
   have HSz:=hB.size;(have HTu:Hid (∀j,u5.ownBlock=some j->j<wr.heap.size):=fun j hj=>(oF hu j hj).2.1);rw[gIt] at hst HOL;clear hc hl hx hSi hG;generalize lA x k R=R' at *;generalize hy:R.getLast?.getD (-1)=y at *;generalize mG x=pq at *;obtain⟨xk,xt,xn,xm⟩:=x;simp only[nT] at *
   by_cases hyi:y=n
   ·subst hyi
    cases pq
    ·rw[if_neg (fun h=>by simp at h)] at hst HOL
     rcases hst with ⟨rfl,hE⟩ | ⟨h1,g1,g2⟩
     ·have HE:Hid (K=out):=hE
      clear hE;(go_wp2_with fail);refine(HTop.out _).mono ?_;rintro e W0 ⟨rfl,q,rfl⟩;(go_wp2_with fail);refine(HPart _).mono ?_;rintro e W1 ⟨rfl,hB1⟩;obtain⟨t0,t1,t2,t3,hB2⟩:=oD (qN hB1);have sP:=hS.below hB2;have uP:=qY hu hB2 HSz;have aP:=hA;have bP:=hB.trans (hB2.mono HSz);have HZ1:=hB2.size;clear hB2 hB1 HPart HTop;exact k26
     ·have HE1:Hid (tK l n (k+1) R'):=g1
      have HE2:Hid (mT l n (k+1) (out) K):=g2;(have ne:((R'.length:Int)==0)=false:=by simpa using h1);clear h1 g1 g2;exact k23
    ·rw[if_pos ⟨rfl,rfl⟩] at hst HOL
     rcases hst with ⟨rfl,hE⟩ | ⟨h1,g1,g2⟩
     ·have HE:Hid (K=out++[(k:Int)]):=hE
      clear hE;(go_wp2_with fail);refine(HTop.out _).mono ?_;rintro e W0 ⟨rfl,q,rfl⟩;(go_wp2_with fail);refine(HPart _).mono ?_;rintro e W1 ⟨rfl,hB1⟩;obtain⟨t0,t1,t2,t3,hB2⟩:=oD (qN hB1);have sP:=hS.below hB2;have uP:=qY hu hB2 HSz;have aP:=hA;have bP:=hB.trans (hB2.mono HSz);have HZ1:=hB2.size
      have HT1:wr.heap.size<W1.heap.size:=by
       have:=hB1.size
       simp at this;omega
      clear hB2 hB1 HPart HTop hS hu hA;(go_wp2_with (at_builtin;refine wpList_append_own_at _ rfl _ _ 61 rfl w.heap.size 3 i0 (.int .i64 0) 1 8 Tryz.underlying61 hi hz0 hz1 hz2 rfl (by decide) _ _ _ rfl (uP.alloc _) ⟨W1.heap.size,0,none⟩ 1 1 [.int .i64 (k:Int)] rfl rfl (cell_one_new _ _ _) (by simp[Value.oneCell']) (by unfold maxLen;omega) oo (by simp;omega) ?_;intro v2 w2 hown2 hgrow hnil2 hat;obtain⟨sP2,aP2,hk2,bP2⟩:=gDq sP uP aP hgrow hat;have hT:=hk2 wr.heap.size HT1 (fun e=>Nat.lt_irrefl _ (HTu.out _ e));have r0:w2.cell? ⟨wr.heap.size,0,none⟩=some (.int .i64 xk):=(zzi (a:=⟨wr.heap.size,0,none⟩) hT).trans t0;have r1:w2.cell? ⟨wr.heap.size,1,none⟩=some (.int .i64 xt):=(zzi (a:=⟨wr.heap.size,1,none⟩) hT).trans t1;have r2:w2.cell? ⟨wr.heap.size,2,none⟩=some (.int .i64 xn):=(zzi (a:=⟨wr.heap.size,2,none⟩) hT).trans t2;have r3:w2.cell? ⟨wr.heap.size,3,none⟩=some (.int .i64 xm):=(zzi (a:=⟨wr.heap.size,3,none⟩) hT).trans t3;have bP3:=bP.trans bP2;clear sP uP aP bP hk2 bP2 hT t0 t1 t2 t3 hgrow hat hnil2));refine(HPass.out _ _ _ _ sP2 hown2 aP2 bP3.size).mono ?_;rintro e W2 ⟨rfl,v', s2,u2,a2,b2⟩;have bQ:=bP3.trans b2;clear sP2 hown2 aP2 bP3 b2 HPass;obtain⟨-,s33,-⟩:=s2.cells;simp only[List.length_nil] at s33;obtain⟨a', cap', hu', hr⟩:=vA (n:=(out++[(k:Int)]).length) (bs:=out++[(k:Int)]) (by simpa using u2);rw[<-HE.out] at hr hu';obtain⟨N,hN⟩:∃N,K.length=N:=⟨_,rfl⟩;have HN:Hid (K.length=N):=hN;rw[hN] at hr hu';clear u2 s2 a2 hN;subst hu';go_wp2;go_ret
      first | exact⟨a', ⟨cap', by rw[HN.out];rfl⟩,by rw[HN.out];exact hr,bQ⟩ | exact⟨a', cap', by rw[HN.out];rfl,by rw[HN.out];exact hr,bQ⟩
     ·have HE1:Hid (tK l n (k+1) R'):=g1
      have HE2:Hid (mT l n (k+1) (out++[(k:Int)]) K):=g2;(have ne:((R'.length:Int)==0)=false:=by simpa using h1);clear h1 g1 g2;exact k05
   ·have ey:(y==n)=false:=by simpa using hyi
    rw[if_neg (fun h=>hyi h.1)] at hst HOL;rcases hst with ⟨rfl,hE⟩ | ⟨h1,g1,g2⟩
    ·have HE:Hid (K=out):=hE
     clear hE;(go_wp2_with fail);refine(HTop.out _).mono ?_;rintro e W0 ⟨rfl,q,rfl⟩;have bT:Below (wr.alloc (.cells #[.int .i64 xk,.int .i64 xt,.int .i64 xn,.int .i64 xm] 58)).heap.size (wr.alloc (.cells #[.int .i64 xk,.int .i64 xt,.int .i64 xn,.int .i64 xm] 58)) ((wr.alloc (.cells #[.int .i64 xk,.int .i64 xt,.int .i64 xn,.int .i64 xm] 58)).drewN q):=below_drewN (zzd _ _) _;obtain⟨t0,t1,t2,t3,hB2⟩:=oD bT;have sP:=hS.below hB2;have uP:=qY hu hB2 HSz;have aP:=hA;have bP:=hB.trans (hB2.mono HSz);clear hB2 bT HPart HTop;exact k26
    ·have HE1:Hid (tK l n (k+1) R'):=g1
     have HE2:Hid (mT l n (k+1) (out) K):=g2;(have ne:((R'.length:Int)==0)=false:=by simpa using h1);clear h1 g1 g2;exact k15
  ·obtain rfl:k=len:=by omega
   have HE:Hid (K=out):=gJf (l:=l) (i:=n) oo (by rw[hL];exact hG);exact k52
theorem gDu (a:Option Addr)(len cap:Nat)(l:List Tok)(i:Int)(w:World)(hl:mC w a len l)(hsz:len<=4398046511104) :
  Calls Tryz.prog 42 #[.slice a len cap,.int .i64 i] w fun e w' => ∃a' cap', e=.returned (.slice a' (kids l i).length cap')/\hFn .i64 w' a' (kids l i).length cap' (kids l i)/\Below w.heap.size w w' := by
 by_cases hm:i = -1
 ·subst hm
  exact gYi a len cap l w hl hsz
 by_cases hO:0<=i/\i<len/\kindAt l i.toNat=1
 ·obtain⟨n,rfl⟩:=Int.eq_ofNat_of_zero_le hO.1
  exact hCs a len cap l n w hl hsz oo (by have:=hO.2.2;rwa [Int.toNat_natCast] at this)
 have HO:=zH a len cap l i w hl
 rw[decide_eq_false hO] at HO
 rw[show kids l i=[] from by unfold kids;rw[if_pos (by rw[hl.1];omega)]]
 have e1:(i == -1)=false:=by simpa using hm
 clear hl
 go_enter Tryz.func42,Tryz.ntmps42
 go_wp2_with fail
 refine HO.mono ?_
 rintro e W ⟨rfl,rfl⟩
 go_wp2
 go_ret
 first | exact⟨none,⟨0,rfl⟩,⟨⟨rfl,.inl rfl⟩,zzb _,by decide⟩,zzd _ _⟩ | exact⟨none,0,rfl,⟨⟨rfl,.inl rfl⟩,zzb _,by decide⟩,zzd _ _⟩
def kR (ks:List gN)(i:Nat):gV:=(ks[i]?.map (·.1)).getD jC
theorem wC {ks:List gN}{i:Nat}{x:gN}(h:ks[i]? = some x):kR ks i=x.1:=by unfold kR;rw[h];rfl
def nE (ks:List gN)(s:gV)(x:Tok):Bool:=if x.k=0 then gCc s x else if 1<=x.t/\x.t<ks.length then gCo (kR ks x.t.toNat) x else false
theorem gNf {B g c ng nc:Nat}{ks:List gN}{gs:List Grp}{ts:List (DataW Unit)}(w:World)(h:qP w B g c ng nc ks gs ts)(h0:0<ks.length)(x:Tok)(s:gV)(o:Nat)(hs:nH w g o s):Calls Tryz.prog 105 #[.pointer (some ⟨B,0,none⟩),nT x,.pointer (some ⟨g,o,none⟩)] w fun e w' => e=.returned (.bool (nE ks s x))/\Below w.heap.size w w' := by
 obtain⟨V,hV⟩:∃V,V=w.alloc (.cells #[.int .i64 x.k,.int .i64 x.t,.int .i64 x.n,.int .i64 x.m] 58):=⟨_,rfl⟩
 have hBV:Below w.heap.size w V:=by rw[hV];exact(zzd _ w).alloc (zzb _) _
 have m0:V.heap[w.heap.size]? = some (.cells #[.int .i64 x.k,.int .i64 x.t,.int .i64 x.n,.int .i64 x.m] 58 (0,0)):=by rw[hV];exact World.alloc_heap_new w _
 have hc:=fun j=>cell_of_row V w.heap.size j _ _ _ m0
 have k0:V.cell? ⟨w.heap.size,0,none⟩=some (.int .i64 x.k):=hc 0
 have k1:V.cell? ⟨w.heap.size,1,none⟩=some (.int .i64 x.t):=hc 1
 have k2:V.cell? ⟨w.heap.size,2,none⟩=some (.int .i64 x.n):=hc 2
 have k3:V.cell? ⟨w.heap.size,3,none⟩=some (.int .i64 x.m):=hc 3
 have HTR:=gEh g o s x V (hs.same (hBV.block g h.glt)) (zzl h.glt hBV.size)
 have HTO:=gKe V (h.below hBV) h0 x.t
 have HMB:Hid (1<=x.t/\x.t<ks.length->Calls Tryz.prog 133 #[.pointer (some ⟨g,x.t.toNat * 10,none⟩),nT x] V fun e w' => e=.returned (.bool (gCo (kR ks x.t.toNat) x))/\Below V.heap.size V w'):=fun hx=>by
  obtain⟨y,hy⟩:∃y,ks[x.t.toNat]? = some y:=⟨_,zze oo⟩;rw[wC hy];exact gOo g _ y.1 x V ((h.below hBV).kinds _ y hy).1 (h.below hBV).glt
 have HB:Hid (Below w.heap.size w V):=hBV
 have HV:Hid (w.alloc (.cells #[.int .i64 x.k,.int .i64 x.t,.int .i64 x.n,.int .i64 x.m] 58)=V):=hV.symm
 unfold nE
 unfold nT at *
 clear h hs m0 hc hV hBV
 by_cases d0:x.k=0
 ·rw[if_pos d0]
  (have hd0:(x.k==0)=true:=by simpa using d0);generalize gCc s x=R at *;clear HTO HMB d0;go_enter Tryz.func105,Tryz.ntmps105;(go_wp2_with fail);rw[HV.out];refine HTR.mono ?_;rintro e W ⟨rfl,hB1⟩;have HB1:Hid (Below w.heap.size w W):=HB.out.trans (hB1.mono HB.out.size);clear hB1 HTR;go_wp2;go_ret;exact⟨rfl,HB1.out⟩
 ·rw[if_neg d0]
  have hd0:(x.k==0)=false:=by simpa using d0
  clear HTR d0
  by_cases d1:1<=x.t/\x.t<ks.length
  ·rw[if_pos d1] at HTO ⊢
   have HM:=HMB.out d1;generalize gCo (kR ks x.t.toNat) x=R at *;clear HMB d1;go_enter Tryz.func105,Tryz.ntmps105;(go_wp2_with fail);rw[HV.out];refine HTO.mono ?_;rintro e W ⟨rfl,rfl⟩;(go_wp2_with fail);refine HM.mono ?_;rintro e W2 ⟨rfl,hB1⟩;have HB1:Hid (Below w.heap.size w W2):=HB.out.trans (hB1.mono HB.out.size);clear hB1 HM;go_wp2;go_ret;exact⟨rfl,HB1.out⟩
  ·rw[if_neg d1] at HTO ⊢
   clear HMB d1;go_enter Tryz.func105,Tryz.ntmps105;(go_wp2_with fail);rw[HV.out];refine HTO.mono ?_;rintro e W ⟨rfl,rfl⟩;go_wp2;go_ret;exact⟨rfl,HB.out⟩
def jP (l:List Tok)(p:Int):Int:=((l[p.toNat]?).map (·.t)).getD 0
def iD (l:List Tok)(ps:List Int):List Int:=ps.map (jP l)
theorem gAj (a:Option Addr)(len cap:Nat)(l:List Tok)(ka:Option Addr)(kl kc:Nat)(ps:List Int)(w:World)(hl:mC w a len l)(hk:kA w ka kl ps)(hsz:len<=2048)(hkl:kl<=5000)(hps:∀p∈ps,0<=p/\p<len) :
  Calls Tryz.prog 45 #[.slice a len cap,.slice ka kl kc] w fun e w' => ∃wa wc,e=.returned (.slice wa kl wc)/\w'.ownsRow w.heap.size 3 1 (.slice wa kl wc) kl (iG (iD l ps))/\Below w.heap.size w w' := by
 have HL:Hid (∀(X:World) (p:Nat),Below w.heap.size w X->p<len->∃b o x,a=some ⟨b,o,none⟩/\l[p]? = some x/\X.cell? ⟨b,o+p * 4+1,none⟩=some (.int .i64 x.t)):=fun X p hX hp=>by
  obtain⟨b,o,x,h1,_,h3,h4⟩:=hl.token hp;exact⟨b,o,x,h1,h3,(h4 X hX).2.1⟩
 have HK:Hid (∀(X:World) (i:Nat),Below w.heap.size w X->i<kl->∃b o p,ka=some ⟨b,o,none⟩/\ps[i]? = some p/\X.cell? ⟨b,o+i,none⟩=some (.int .i64 p)/\0<=p/\p<len):=fun X i hX hi=>by
  obtain⟨b,o,p,h1,h2,h3⟩:=hk.at hi;exact⟨b,o,p,h1,h2,h3 X hX,hps p (zzj h2)⟩
 have HPL:Hid (ps.length=kl):=hk.1
 have hli:(len:Int)<=2048:=by omega
 have hki:(kl:Int)<=5000:=by omega
 have HO0:Hid (w.ownsRow w.heap.size 3 1 (.slice none 0 0) 0 (iG [])):=World.ownsRow_nil ..
 clear hl hk hps
 go_enter Tryz.func45,Tryz.ntmps45
 go_wp2
 go_loopg [5,10] (kl+1) (fun gk u v wr=>∃(i:Nat) (ua:Option Addr) (uc:Nat),i<=kl/\kl<i+gk/\u=.slice ua i uc/\v=.int .i64 (i:Int)/\wr.ownsRow w.heap.size 3 1 (.slice ua i uc) i (iG (iD l (ps.take i)))/\Below w.heap.size w wr)
 case atStart=>exact⟨0,none,0,zzn _,oo,rfl,rfl,HO0.out,zzd _ _⟩
 case round=>
  obtain⟨i,ua,uc,hi,hgk,rfl,rfl,hown,hB⟩:=hrel;clear HO0
  by_cases hlt:i<kl
  ·obtain⟨b,o,p,rfl,hp,c0,hp0,hp1⟩:=HK.out wr i hB hlt
   obtain⟨q,rfl⟩:∃q:Nat,p=(q:Int):=⟨p.toNat,oo⟩;obtain⟨b', o', x,rfl,hx,c1⟩:=HL.out wr q hB oo;(have hii:(i:Int)<(kl:Int):=by omega);(have hi0:(0:Int)<=(i:Int):=by omega);(have hd:decide ((i:Int)<(kl:Int))=true:=by simpa using hii);have hown2:=World.ownsRow.alloc hown (.cells #[.int .i64 x.t] 3);have hints:=kA.one (World.alloc_heap_new wr (.cells #[.int .i64 x.t] 3));have HW:Hid ((wr.alloc (.cells #[.int .i64 x.t] 3)).ownsRow w.heap.size 3 1 (.slice ua i uc) i (iG (iD l (ps.take i)))/\kA (wr.alloc (.cells #[.int .i64 x.t] 3)) (some ⟨wr.heap.size,0,none⟩) 1 [x.t]/\Below w.heap.size w (wr.alloc (.cells #[.int .i64 x.t] 3))):=⟨hown2,hints,hB.alloc hB.size _⟩;have hs1:i+1<=1000000000:=by omega
   have HT:Hid (iD l (ps.take (i+1))=iD l (ps.take i)++[x.t]):=by
    show iD l (ps.take (i+1))=iD l (ps.take i)++[x.t]
    unfold iD;rw[List.take_add_one,hp,List.map_append]
    congr 1
    show [jP l (q:Int)]=[x.t]
    unfold jP;rw[Int.toNat_natCast,hx]
    rfl
   clear hown hB hown2 hints HK HL hp hx
   go_wp2_with (first
    | (at_builtin;refine kH rfl (.tmp 14) (.tmp 20) rfl w.heap.size _ i _ rfl HW.out.1 _ 1 1 [x.t] rfl (fun e=>by cases e) HW.out.2.1 hs1 HW.out.2.2.size ?_;intro v1 W5 hown3 hB3;obtain⟨va,vc,rfl⟩:=nO hown3;have HN:Hid (W5.ownsRow w.heap.size 3 1 (.slice va (i+1) vc) (i+1) (iG (iD l (ps.take (i+1))))/\Below w.heap.size w W5):=⟨by rw[HT.out];exact hown3,HW.out.2.2.trans hB3⟩;clear hown3 hB3 HW HT)
    | fail)
   go_roundg (kl - i)
   case measure=>omega
   case rel=>exact⟨i+1,va,vc,oo,oo,rfl,by first | rfl | go_num,HN.out⟩
  ·obtain rfl:i=kl:=by omega
   have hd:decide ((i:Int)<(i:Int))=false:=by simp
   have HE:Hid (wr.ownsRow w.heap.size 3 1 (.slice ua i uc) i (iG (iD l ps))/\Below w.heap.size w wr):=by
    rw[zzm (by have:=HPL.out;omega)] at hown;exact⟨hown,hB⟩
   clear hown hB HK HL;go_wp2;go_ret;exact⟨ua,uc,rfl,HE.out⟩
theorem gXi {gs:List Grp}{n:Nat}{t:DataW Unit}{zs:List Int}{i j:Nat}(h:pZ gs n t zs i)(h' : pZ gs n t zs j):i=j:=by
 have key:∀{i j:Nat},pZ gs n t zs i->pZ gs n t zs j->j<=i:=fun {i j} h h' => by
  rcases Nat.lt_or_ge i j with hlt | hge
  ·exfalso
   have hp:=h'.2.1
   have e:zs.take j=zs.take (i+1)++(zs.take j).drop (i+1):=by
    have:=(List.take_append_drop (i+1) (zs.take j)).symm
    rw[List.take_take,Nat.min_eq_left oo] at this;exact this
   rw[e] at hp;exact h.2.2 (by have:=h'.1;omega) (gGa hp)
  ·exact hge
 exact Nat.le_antisymm (key h' h) (key h h')
noncomputable def gTu (gs:List Grp)(t:DataW Unit)(zs:List Int):Nat:=Classical.epsilon (pZ gs 200 t zs)
theorem gMe {gs:List Grp}{t:DataW Unit}{zs:List Int}{i:Nat}(h:pZ gs 200 t zs i):gTu gs t zs=i:=gXi (Classical.epsilon_spec ⟨i,h⟩) h
noncomputable def oC (gs:List Grp)(t:DataW Unit)(l:List Tok)(i:Int)(ps:List Int):Int :=
 open Classical in
 if iZ gs 200 t (iD l ps) then 2049
 else if gTu gs t (iD l ps)<ps.length then ps.getD (gTu gs t (iD l ps)) 0
 else if i = -1 then l.length else iU l i
theorem zS {X:World}{N b n:Nat}{v:Value}{xs:List Value}{old cs:Array Value}{f:Nat×Nat}(h:X.ownsRow b 3 1 v n xs)(m:X.heap[N]? = some (.cells old 69 f)):(X.setRow N cs).ownsRow b 3 1 v n xs:=by
 refine gF h fun k hk=>?_
 obtain⟨_,cur,hcur⟩:=gC h hk
 refine setRow_other _ _ _ _ (fun e=>?_)
 subst e
 rw[m] at hcur
 injection hcur with hk
 injection hk with _ h2 _
 exact absurd h2 (by decide)
theorem k02{p:Prop}(h:p:=by
  clear m7 hN;clear hK K
  try simp only[Act.put,List.setIfInBounds_toArray]
  refine jQ 12 (some 10) (v:=?_) hV ?_ ?_
  rotate_left
  ·intro w hSw
   try go_simp
   with_reducible rfl
  try simp only[Act.put]
  refine wpAnyH_done kr ?_ _
  have HCV:Hid (∀X,Below V.heap.size V X->(X.cell? ⟨N,0,none⟩=some (.int .i64 tk)/\X.cell? ⟨N,1,none⟩=some (.string tn)/\X.cell? ⟨N,2,none⟩=some (.slice ta tl tc))/\X.cell? ⟨B,1,none⟩=some (.slice (some ⟨ng,0,none⟩) gl nc)):=fun X hX=>by
   have mX:=(hX.block _ (zza.1 mV).1).trans mV;(have hc:=fun j=>cell_of_row X N j _ _ _ mX);exact⟨⟨hc 0,hc 1,hc 2⟩,HSC.out X (hV.trans (hX.mono hV.size))⟩
  have HQI:Hid (∀X,Below V.heap.size V X->kA X wa kl zs):=fun X hX=>by
   obtain⟨a', c', e,hi⟩:=pJ HQ.out oo;(injection e with e1);subst e1;exact hi.below hX
  clear HQ mV HTC HKA HWO HSC;(go_wp2_with fail);refine wp_region_held_drew (S:=fun X=>Below V.heap.size V X) hmx (zzd _ _).drew (fun hS2=>?_);refine jQ 0 (some 22) (v:=?_) hS2 ?_ ?_
  rotate_left
  ·intro w hSw
   obtain⟨⟨q0,q1,q2⟩,q3⟩:=HCV.out _ hSw;go_simp
   with_reducible rfl
  try simp only[gQ]
  refine gA 1 (some 23) hS2 ?_;refine gA 2 (some 24) hS2 ?_;refine gA 3 (some 25) hS2 ?_;refine gA 4 (some 26) hS2 ?_ (hy:=by intro w hSw;obtain⟨⟨q0,q1,q2⟩,q3⟩:=HCV.out _ hSw;go_simp;with_reducible rfl);refine gA 5 (some 27) hS2 ?_;refine gT 6 kr rfl (fun K hK=>?_);rw[if_pos (by rfl)];go_simp;refine(HAC.out _ wa wc (hV.trans (hS2.mono hV.size)) (HQI.out _ hS2)).mono ?_;rintro e Y ⟨b,rfl,hb,bY⟩;have hY:=hS2.trans (bY.mono hS2.size);clear bY;refine hK.out _ _ hY (fun _=>?_);clear hK K
  try simp only[gQ]
  refine wpAnyH_done kr ?_ _;have HE:=Hid.mk_ (hV.trans (hY.mono hV.size));have HBB:=Hid.mk_ hb;clear hb;cases b with
  | true=>
   have HRR:=Hid.mk_ (HF1.out (HBB.out.1 (by first | rfl | trivial)));clear HCV HQI;go_wp2;go_ret;exact⟨by rw[HRR.out];rfl,HE.out⟩
  | false=>
   (go_wp2_with fail);refine wp_region_held_drew (S:=fun X=>Below V.heap.size V X) hmx hY.drew (fun hS4=>?_);refine gA 0 (some 29) hS4 ?_ (hy:=by intro w hSw;obtain⟨⟨q0,q1,q2⟩,q3⟩:=HCV.out _ hSw;go_simp;with_reducible rfl);refine gA 1 (some 30) hS4 ?_;refine gA 2 (some 31) hS4 ?_;refine gA 3 (some 32) hS4 ?_;refine gA 4 (some 33) hS4 ?_ (hy:=by intro w hSw;obtain⟨⟨q0,q1,q2⟩,q3⟩:=HCV.out _ hSw;go_simp;with_reducible rfl);refine gA 5 (some 34) hS4 ?_;refine gT 6 kr rfl (fun K hK=>?_);rw[if_pos (by rfl)];go_simp;refine(HBE.out _ wa wc (hV.trans (hS4.mono hV.size)) (HQI.out _ hS4)).mono ?_;rintro e Y2 ⟨n,rfl,hn,bY⟩;have hY2:=hS4.trans (bY.mono hS4.size);clear bY;refine hK.out _ _ hY2 (fun _=>?_);clear hK K
   try simp only[gQ]
   refine gA 7 (some 11) hY2 ?_;refine wpAnyH_done kr ?_ _;have HE2:=Hid.mk_ (hV.trans (hY2.mono hV.size));have HV2:=Hid.mk_ hV;clear hY2 hV hY HCV HQI HAC HBE
   by_cases dn:n<kl
   ·obtain⟨b', o', p,rfl,hp,c9⟩:=HKP.out Y2 HE2.out n dn
    (have hni:(n:Int)<(kl:Int):=by omega);(have hn0:(0:Int)<=(n:Int):=by omega);(have hdn:decide ((n:Int)<(kl:Int))=true:=by simpa using hni);have HRR:=Hid.mk_ (HF2.out (fun h=>by cases HBB.out.2 h) n hn p dn hp);clear HKP;go_wp2;go_ret;exact⟨by rw[HRR.out];rfl,HE2.out⟩
   ·have hdn:decide ((n:Int)<(kl:Int))=false:=by simp;omega
    clear HKP
    by_cases di:i = -1
    ·have HRR:=Hid.mk_ (HF3.out (fun h=>by cases HBB.out.2 h) n hn dn di)
     subst di;go_wp2;go_ret;exact⟨by rw[HRR.out];rfl,HE2.out⟩
    ·have hdi:(i == -1)=false:=by simpa using di
     have HRR:=Hid.mk_ (HF4.out (fun h=>by cases HBB.out.2 h) n hn dn di);have HP:=HPA.out Y2 HE2.out;(go_wp2_with fail);refine HP.mono ?_;rintro e Z ⟨rfl,bZ⟩;have HE3:=Hid.mk_ (HE2.out.trans (bZ.mono HE2.out.size));clear bZ HP;go_wp2;go_ret;exact⟨by rw[HRR.out];rfl,HE3.out⟩
  ):p:=h
theorem gEg {B g c ng nc:Nat}{ks:List gN}{gs:List Grp}{ts:List (DataW Unit)}(w:World)(h:qP w B g c ng nc ks gs ts)(a:Option Addr)(len cap:Nat)(l:List Tok)(hl:mC w a len l)(hlie:gBw a len cap)(hsz:len<=2048)(i:Int)(kx:Nat)(t:DataW Unit)(ht:ts[kx]? = some t)
  (hka:∀X,Below w.heap.size w X->Calls Tryz.prog 47 #[.pointer (some ⟨B,0,none⟩),.slice a len cap,.int .i64 i] X fun e w' => e=.returned (.pointer (some ⟨g,kx * 10,none⟩))/\Below X.heap.size X w')
  (ka:Option Addr) (kl kc:Nat) (ps:List Int) (hk:kA w ka kl ps) (hkl:kl<=5000) (hps:∀p∈ps,0<=p/\p<len) :
  Calls Tryz.prog 106 #[.pointer (some ⟨B,0,none⟩),.slice a len cap,.int .i64 i,.slice ka kl kc] w fun e w' => e=.returned (.int .i64 (oC gs t l i ps))/\Below w.heap.size w w' := by
 obtain⟨x,hx⟩:∃x,ks[kx]? = some x:=⟨_,zze (by have:=(zzc.1 ht).1;have:=h.len;omega)⟩
 obtain⟨zs,hzs⟩:∃zs,zs=iD l ps:=⟨_,rfl⟩
 obtain⟨gl,hgl⟩:∃gl,gl=gs.length:=⟨_,rfl⟩
 have HKA:=Hid.mk_ hka
 have HWO:Hid (∀X,Below w.heap.size w X->Calls Tryz.prog 45 #[.slice a len cap,.slice ka kl kc] X fun e w' => ∃wa wc,e=.returned (.slice wa kl wc)/\w'.ownsRow X.heap.size 3 1 (.slice wa kl wc) kl (iG zs)/\Below X.heap.size X w'):=fun X hX=>by
  rw[hzs];exact gAj a len cap l ka kl kc ps X (hl.below hX) (hk.below hX) hsz hkl hps
 have HPA:Hid (∀X,Below w.heap.size w X->Calls Tryz.prog 135 #[.slice a len cap,.int .i64 i] X fun e w' => e=.returned (.int .i64 (iU l i))/\Below X.heap.size X w'):=fun X hX=>gGz a len cap l i X (hl.below hX) oo hlie
 have HKP:Hid (∀X,Below w.heap.size w X->∀n,n<kl->∃b o p,ka=some ⟨b,o,none⟩/\ps[n]? = some p/\X.cell? ⟨b,o+n,none⟩=some (.int .i64 p)):=fun X hX n hn=>by
  obtain⟨b,o,p,h1,h2,h3⟩:=hk.at hn;exact⟨b,o,p,h1,h2,h3 X hX⟩
 have HSC:Hid (∀X,Below w.heap.size w X->X.cell? ⟨B,1,none⟩=some (.slice (some ⟨ng,0,none⟩) gl nc)):=fun X hX=>by rw[hgl];exact(h.cells X hX).2
 have hpl:=hk.1
 have hll:=hl.1
 obtain⟨R,hR⟩:∃R,oC gs t l i ps=R:=⟨_,rfl⟩
 have hR' := hR
 unfold oC at hR'
 rw[<-hzs] at hR'
 have HF1:Hid (iZ gs 200 t zs->R=2049):=fun h1=>by rw[if_pos h1] at hR';exact hR'.symm
 have HF2:Hid (¬iZ gs 200 t zs->∀n,pZ gs 200 t zs n->∀p,n<kl->ps[n]? = some p->R=p):=fun h1 n hn p h2 hp=>by
  rw[if_neg h1,gMe hn,if_pos oo] at hR';rw[<-hR', List.getD_eq_getElem?_getD,hp]
  rfl
 have HF3:Hid (¬iZ gs 200 t zs->∀n,pZ gs 200 t zs n->¬n<kl->i = -1->R=(len:Int)):=fun h1 n hn h2 h3=>by
  rw[if_neg h1,gMe hn,if_neg oo,if_pos h3] at hR';rw[<-hR', hll]
 have HF4:Hid (¬iZ gs 200 t zs->∀n,pZ gs 200 t zs n->¬n<kl->i ≠ -1->R=iU l i):=fun h1 n hn h2 h3=>by
  rw[if_neg h1,gMe hn,if_neg oo,if_neg h3] at hR';exact hR'.symm
 obtain⟨⟨sp,tk,tn,ta,tl,tc⟩,hxx⟩:∃y,x=y:=⟨_,rfl⟩
 subst hxx
 have HTC:Hid (∀X,Below w.heap.size w X->X.cell? ⟨g,kx * 10+7,none⟩=some (.int .i64 tk)/\X.cell? ⟨g,kx * 10+7+1,none⟩=some (.string tn)/\X.cell? ⟨g,kx * 10+7+2,none⟩=some (.slice ta tl tc)):=fun X hX=>by
  obtain⟨_,h2,h3,h4⟩:=(h.below hX).kinds kx _ hx;exact⟨h2,h3,h4⟩
 obtain⟨hE,hnm,hck⟩:=h.trees kx _ t hx ht
 have HAC:Hid (∀X (wa:Option Addr) (wc:Nat),Below w.heap.size w X->kA X wa kl zs->Calls Tryz.prog 46 #[.agg #[.int .i64 tk,.string tn,.slice ta tl tc],.slice (some ⟨ng,0,none⟩) gl nc,.slice wa kl wc] X fun e w' => ∃b,e=.returned (.bool b)/\(b=true↔iZ gs 200 t zs)/\Below X.heap.size X w'):=fun X wa wc hX hi=>by
  rw[hgl];refine(zM 200 t _ (some ⟨ng,0,none⟩) gs.length nc gs wa kl wc zs X (Ex.below hX _ _ _ hE) hnm (h.names.below hX) hi).mono ?_;rintro e w' ⟨b,rfl,h1,h2⟩;exact⟨b,rfl,⟨fun e=>(h1.1 e).2,fun e=>h1.2 ⟨hck,e⟩⟩,h2⟩
 have HBE:Hid (∀X (wa:Option Addr) (wc:Nat),Below w.heap.size w X->kA X wa kl zs->Calls Tryz.prog 134 #[.agg #[.int .i64 tk,.string tn,.slice ta tl tc],.slice (some ⟨ng,0,none⟩) gl nc,.slice wa kl wc] X fun e w' => ∃n:Nat,e=.returned (.int .i64 (n:Int))/\pZ gs 200 t zs n/\Below X.heap.size X w'):=fun X wa wc hX hi=>by
  rw[hgl];exact gMd 200 t _ (some ⟨ng,0,none⟩) gs.length nc gs wa kl wc zs X (Ex.below hX _ _ _ hE) hnm (h.names.below hX) hi hck
 have hli:(len:Int)<=2048:=by omega
 have hki:(kl:Int)<=5000:=by omega
 rw[hR]
 clear h hl hlie hka hk hps hx ht hzs hgl hR hR' hE hnm hck hpl hll
 go_enter Tryz.func106,Tryz.ntmps106
 go_wp2_with fail
 refine wp_region_held_drew (S:=fun X=>Below w.heap.size w X) hmx (zzd _ _).drew (fun hS=>?_)
 generalize w.drew=X0 at hS ⊢
 refine gA 0 (some 12) hS ?_
 refine gA 1 (some 13) hS ?_
 refine gA 2 (some 14) hS ?_
 refine gA 7 (some 19) hS ?_
 refine gA 8 (some 20) hS ?_
 refine wpAnyH_ready (rs:=[3,10]) kr (by simp) (AllReadyH.cons rfl (fun K hK=>?_) ( AllReadyH.cons rfl (fun K hK=>?_) (AllReadyH.nil)))
 ·rw[if_pos (by rfl)]
  go_simp;refine(HKA.out _ hS).mono ?_;rintro e X1 ⟨rfl,b1⟩;have hS1:=hS.trans (b1.mono hS.size);clear b1;refine hK.out _ _ hS1 (fun _=>?_);clear hK K
  try simp only[gQ]
  refine gA 4 (some 16) hS1 ?_;refine gA 5 (some 17) hS1 ?_;refine gA 6 (some 18) hS1 ?_ (hy:=by intro w hSw;obtain⟨q0,q1,q2⟩:=HTC.out _ hSw;go_simp;with_reducible rfl);refine wpAnyH_ready (rs:=[9,10]) kr (by simp) (AllReadyH.cons rfl (fun K hK=>?_) ( AllReadyH.cons rfl (fun K hK=>?_) (AllReadyH.nil)))
  ·rw[if_pos (by rfl)]
   go_simp;refine(HWO.out _ hS1).mono ?_;rintro e X2 ⟨wa,wc,rfl,hQ,b2⟩;have hS2:=hS1.trans (b2.mono hS1.size);have HQ:=Hid.mk_ hQ;clear hQ;clear b2;refine hK.out _ _ hS2 (fun _=>?_);clear hK K
   try simp only[gQ]
   refine gT 10 kr rfl (fun K hK=>?_);rw[if_pos (by rfl)];go_simp;have hS3:=hS2.alloc hS2.size (.cells #[.int .i64 0,.string ⟨#[]⟩,.slice none 0 0] 69);have m7:=World.alloc_heap_new X2 (.cells #[.int .i64 0,.string ⟨#[]⟩,.slice none 0 0] 69);have hN:w.heap.size<=(X2).heap.size:=hS2.size;have HQ:=Hid.mk_ (World.ownsRow.alloc HQ.out (.cells #[.int .i64 0,.string ⟨#[]⟩,.slice none 0 0] 69));refine hK.out _ _ hS3 (fun _=>?_);generalize (X2).alloc (.cells #[.int .i64 0,.string ⟨#[]⟩,.slice none 0 0] 69)=X3 at *;clear hK K
   try simp only[gQ]
   refine gT 11 kr rfl (fun K hK=>?_);rw[if_pos (by rfl)];refine wp_store_row 69 _ _ rfl (X2).heap.size #[.int .i64 tk,.string tn,.slice ta tl tc] rfl rfl 69 _ m7 gE rfl (jF ..) ?_;have hV:=below_setRow hS3 hN #[.int .i64 tk,.string tn,.slice ta tl tc];have mV:=setRow_heap _ _ _ #[.int .i64 tk,.string tn,.slice ta tl tc] _ _ m7;have HQ:=Hid.mk_ (zS (cs:=#[.int .i64 tk,.string tn,.slice ta tl tc]) HQ.out m7);refine hK.out _ _ hV (fun _=>?_);generalize World.setRow X3 (X2).heap.size #[.int .i64 tk,.string tn,.slice ta tl tc]=V at *;generalize (X2).heap.size=N at *;exact k02
  ·rw[if_pos (by rfl)]
   go_simp;have hS2:=hS1.alloc hS1.size (.cells #[.int .i64 0,.string ⟨#[]⟩,.slice none 0 0] 69);have m7:=World.alloc_heap_new X1 (.cells #[.int .i64 0,.string ⟨#[]⟩,.slice none 0 0] 69);have hN:w.heap.size<=(X1).heap.size:=hS1.size;refine hK.out _ _ hS2 (fun _=>?_);generalize (X1).alloc (.cells #[.int .i64 0,.string ⟨#[]⟩,.slice none 0 0] 69)=X2 at *;clear hK K
   try simp only[gQ]
   refine gT 9 kr rfl (fun K hK=>?_);rw[if_pos (by rfl)];go_simp;refine(HWO.out _ hS2).mono ?_;rintro e X3 ⟨wa,wc,rfl,hQ,b3⟩;have hS3:=hS2.trans (b3.mono hS2.size);replace m7:=(b3.block _ (zza.1 m7).1).trans m7;have HQ:=Hid.mk_ hQ;clear hQ;clear b3;refine hK.out _ _ hS3 (fun _=>?_);clear hK K
   try simp only[gQ]
   refine gT 11 kr rfl (fun K hK=>?_);rw[if_pos (by rfl)];refine wp_store_row 69 _ _ rfl (X1).heap.size #[.int .i64 tk,.string tn,.slice ta tl tc] rfl rfl 69 _ m7 gE rfl (jF ..) ?_;have hV:=below_setRow hS3 hN #[.int .i64 tk,.string tn,.slice ta tl tc];have mV:=setRow_heap _ _ _ #[.int .i64 tk,.string tn,.slice ta tl tc] _ _ m7;have HQ:=Hid.mk_ (zS (cs:=#[.int .i64 tk,.string tn,.slice ta tl tc]) HQ.out m7);refine hK.out _ _ hV (fun _=>?_);generalize World.setRow X3 (X1).heap.size #[.int .i64 tk,.string tn,.slice ta tl tc]=V at *;generalize (X1).heap.size=N at *;exact k02
 ·rw[if_pos (by rfl)]
  go_simp;have hS1:=hS.alloc hS.size (.cells #[.int .i64 0,.string ⟨#[]⟩,.slice none 0 0] 69);have m7:=World.alloc_heap_new X0 (.cells #[.int .i64 0,.string ⟨#[]⟩,.slice none 0 0] 69);have hN:w.heap.size<=(X0).heap.size:=hS.size;refine hK.out _ _ hS1 (fun _=>?_);generalize (X0).alloc (.cells #[.int .i64 0,.string ⟨#[]⟩,.slice none 0 0] 69)=X1 at *;clear hK K
  try simp only[gQ]
  refine gT 3 kr rfl (fun K hK=>?_);rw[if_pos (by rfl)];go_simp;refine(HKA.out _ hS1).mono ?_;rintro e X2 ⟨rfl,b2⟩;have hS2:=hS1.trans (b2.mono hS1.size);replace m7:=(b2.block _ (zza.1 m7).1).trans m7;clear b2;refine hK.out _ _ hS2 (fun _=>?_);clear hK K
  try simp only[gQ]
  refine gA 4 (some 16) hS2 ?_;refine gA 5 (some 17) hS2 ?_;refine gA 6 (some 18) hS2 ?_ (hy:=by intro w hSw;obtain⟨q0,q1,q2⟩:=HTC.out _ hSw;go_simp;with_reducible rfl);refine gT 9 kr rfl (fun K hK=>?_);rw[if_pos (by rfl)];go_simp;refine(HWO.out _ hS2).mono ?_;rintro e X3 ⟨wa,wc,rfl,hQ,b3⟩;have hS3:=hS2.trans (b3.mono hS2.size);replace m7:=(b3.block _ (zza.1 m7).1).trans m7;have HQ:=Hid.mk_ hQ;clear hQ;clear b3;refine hK.out _ _ hS3 (fun _=>?_);clear hK K
  try simp only[gQ]
  refine gT 11 kr rfl (fun K hK=>?_);rw[if_pos (by rfl)];refine wp_store_row 69 _ _ rfl (X0).heap.size #[.int .i64 tk,.string tn,.slice ta tl tc] rfl rfl 69 _ m7 gE rfl (jF ..) ?_;have hV:=below_setRow hS3 hN #[.int .i64 tk,.string tn,.slice ta tl tc];have mV:=setRow_heap _ _ _ #[.int .i64 tk,.string tn,.slice ta tl tc] _ _ m7;have HQ:=Hid.mk_ (zS (cs:=#[.int .i64 tk,.string tn,.slice ta tl tc]) HQ.out m7);refine hK.out _ _ hV (fun _=>?_);generalize World.setRow X3 (X0).heap.size #[.int .i64 tk,.string tn,.slice ta tl tc]=V at *;generalize (X0).heap.size=N at *;exact k02
noncomputable def lJ (ks:List gN)(gs:List Grp)(t:DataW Unit)(s:gV)(l:List Tok)(i:Int)(ps:List Int):Nat->Nat->Int
 | _,0=>oC gs t l i ps
 | j,f+1=>if nE ks s ((l[(ps.getD j 0).toNat]?).getD ⟨0,0,0,0⟩)=true then lJ ks gs t s l i ps (j+1) f else min (ps.getD j 0) (oC gs t l i (ps.take (j+1)))
noncomputable def nU (ks:List gN)(gs:List Grp)(t:DataW Unit)(s:gV)(l:List Tok)(i:Int):Int:=lJ ks gs t s l i (kids l i) 0 (kids l i).length
theorem gNk {w:World}{a:Option Addr}{n:Nat}{zs:List Int}(h:Row .i64 w a n zs)(hn:n<=9223372036854775807):kA w a n zs:=by
 obtain⟨h1,h2⟩:=h
 refine⟨h1,hn,?_⟩
 rcases h2 with h2 | ⟨b,o,h3,h4,h5⟩
 ·exact .inl h2
 ·exact .inr ⟨b,o,h3,h4,fun i x hx=>by
   have:=h5 i (by have:=(zzc.1 hx).1;omega)
   rw[List.getD_eq_getElem?_getD,hx] at this
   exact this⟩
theorem k141{p:Prop}(h:p:=by
  obtain⟨b,o,y,h1,_,h3,h4⟩:=hl.token hp;obtain⟨d1,d2,d3,d4⟩:=h4 X hX;exact⟨b,o,y,h1,h3,d1,d2,d3,d4⟩
  ):p:=h
theorem zI {B g c ng nc:Nat}{ks:List gN}{gs:List Grp}{ts:List (DataW Unit)}(w:World)(h:qP w B g c ng nc ks gs ts)(h0:0<ks.length)(a:Option Addr)(len cap:Nat)(l:List Tok)(hl:mC w a len l)(hlie:gBw a len cap)(hsz:len<=2048)(i:Int)(kx:Nat)(t:DataW Unit)(ht:ts[kx]? = some t)
  (hka:∀X,Below w.heap.size w X->Calls Tryz.prog 47 #[.pointer (some ⟨B,0,none⟩),.slice a len cap,.int .i64 i] X fun e w' => e=.returned (.pointer (some ⟨g,kx * 10,none⟩))/\Below X.heap.size X w')
  (hkl:(kids l i).length<=2048)(hps:∀p∈kids l i,0<=p/\p<len) :
  Calls Tryz.prog 70 #[.pointer (some ⟨B,0,none⟩),.slice a len cap,.int .i64 i] w fun e w' => e=.returned (.int .i64 (nU ks gs t (kR ks kx) l i))/\Below w.heap.size w w' := by
 obtain⟨x,hx⟩:∃x,ks[kx]? = some x:=⟨_,zze (by have:=(zzc.1 ht).1;have:=h.len;omega)⟩
 rw[wC hx]
 unfold nU
 generalize hps0:kids l i=ps at *
 have HKA:=Hid.mk_ hka
 have HKI:Hid (∀X,Below w.heap.size w X->Calls Tryz.prog 42 #[.slice a len cap,.int .i64 i] X fun e w' => ∃a' cap', e=.returned (.slice a' ps.length cap')/\kA w' a' ps.length ps/\ps.length<=cap' /\ cap' <= 9223372036854775807/\Below X.heap.size X w'):=fun X hX=>by
  refine(gDu a len cap l i X (hl.below hX) oo).mono ?_;rintro e w' ⟨a', cap', rfl,h1,h2⟩;rw[hps0] at h1 ⊢;exact⟨a', cap', rfl,gNk h1.1 oo,h1.2.1,h1.2.2,h2⟩
 have HFI:Hid (∀X (y:Tok),Below w.heap.size w X->Calls Tryz.prog 105 #[.pointer (some ⟨B,0,none⟩),nT y,.pointer (some ⟨g,kx * 10,none⟩)] X fun e w' => e=.returned (.bool (nE ks x.1 y))/\Below X.heap.size X w'):=fun X y hX=>gNf X (h.below hX) h0 y x.1 (kx * 10) ((h.below hX).kinds kx x hx).1
 have HWF:Hid (∀X (ka:Option Addr) (kl kc:Nat) (qs:List Int),Below w.heap.size w X->kA X ka kl qs->kl<=2048->(∀p∈qs,p∈ps)->Calls Tryz.prog 106 #[.pointer (some ⟨B,0,none⟩),.slice a len cap,.int .i64 i,.slice ka kl kc] X fun e w' => e=.returned (.int .i64 (oC gs t l i qs))/\Below X.heap.size X w'):=fun X ka kl kc qs hX hq hk hm=>gEg X (h.below hX) a len cap l (hl.below hX) hlie hsz i kx t ht (fun Y hY=>hka Y (hX.trans (hY.mono hX.size))) ka kl kc qs hq oo (fun p hp=>hps p (hm p hp))
 have HL:Hid (∀(X:World) (p:Nat),Below w.heap.size w X->p<len->∃b o y,a=some ⟨b,o,none⟩/\l[p]? = some y/\X.cell? ⟨b,o+p * 4,none⟩=some (.int .i64 y.k)/\X.cell? ⟨b,o+p * 4+1,none⟩=some (.int .i64 y.t)/\X.cell? ⟨b,o+p * 4+2,none⟩=some (.int .i64 y.n)/\X.cell? ⟨b,o+p * 4+3,none⟩=some (.int .i64 y.m)):=fun X p hX hp=>by
  exact k141
 have HPS:=Hid.mk_ hps
 have hli:(len:Int)<=2048:=by omega
 have hpi:(ps.length:Int)<=2048:=by omega
 clear h hl hlie hka hps ht hx hps0
 obtain⟨xs,xr⟩:=x
 dsimp only at *
 go_enter Tryz.func70,Tryz.ntmps70
 go_wp2_with fail
 refine(HKA.out w (zzd _ _)).mono ?_
 rintro e W1 ⟨rfl,hB1⟩
 have HB1:=Hid.mk_ hB1
 have HC2:=HKI.out W1 hB1
 clear hB1 HKA HKI
 go_wp2_with fail
 refine HC2.mono ?_
 rintro e W2 ⟨ka,kc,rfl,hk,hkc1,hkc2,hB2⟩
 have HB2:=Hid.mk_ (HB1.out.trans (hB2.mono HB1.out.size))
 have HK:Hid (∀(X:World),Below W2.heap.size W2 X->kA X ka ps.length ps):=fun X hX=>hk.below hX
 have HKC:Hid (∀(X:World) (j:Nat),Below W2.heap.size W2 X->j<ps.length->∃b o p,ka=some ⟨b,o,none⟩/\ps[j]? = some p/\X.cell? ⟨b,o+j,none⟩=some (.int .i64 p)):=fun X j hX hj=>by
  obtain⟨b,o,p,h1,h2,h3⟩:=hk.at hj;exact⟨b,o,p,h1,h2,h3 X hX⟩
 have hkc3:(ps.length:Int)<=(kc:Int):=by omega
 have hkc4:(kc:Int)<=9223372036854775807:=by omega
 clear hk hB2 HC2 HB1
 go_wp2
 go_loopg [20] (ps.length+1) (fun gk v wr=>∃j:Nat,j<=ps.length/\ps.length<j+gk/\v=.int .i64 (j:Int)/\lJ ks gs t xs l i ps j (ps.length - j)=lJ ks gs t xs l i ps 0 ps.length/\Below W2.heap.size W2 wr)
 case atStart=>exact⟨0,zzn _,oo,rfl,by rw[Nat.sub_zero],zzd _ _⟩
 case round=>
  obtain⟨j,hj,hgk,rfl,hF,hB⟩:=hrel
  by_cases hlt:j<ps.length
  ·obtain⟨b,o,p,rfl,hp,c0⟩:=HKC.out wr j hB hlt
   obtain⟨hp0,hp1⟩:=HPS.out p (zzj hp);obtain⟨q,rfl⟩:∃q:Nat,p=(q:Int):=⟨p.toNat,oo⟩;have hBw:=HB2.out.trans (hB.mono HB2.out.size);obtain⟨b', o', y,rfl,hy,d1,d2,d3,d4⟩:=HL.out wr q hBw oo;(have hii:(j:Int)<(ps.length:Int):=by omega);(have hj0:(0:Int)<=(j:Int):=by omega);(have hd:decide ((j:Int)<(ps.length:Int))=true:=by simpa using hii);(have hgp:ps.getD j 0=(q:Int):=by rw[List.getD_eq_getElem?_getD,hp];rfl);(have hgy:(l[(ps.getD j 0).toNat]?).getD ⟨0,0,0,0⟩=y:=by rw[hgp,Int.toNat_natCast,hy];rfl);(have hst:ps.length - j=(ps.length - (j+1))+1:=by omega);rw[hst,lJ,hgy,hgp] at hF;have HFT:=HFI.out wr y hBw;obtain⟨r,hr⟩:∃r,nE ks xs y=r:=⟨_,rfl⟩;rw[hr] at hF HFT;have HBw:=Hid.mk_ hBw;have HBr:=Hid.mk_ hB;have HFF:=Hid.mk_ hF;unfold nT at HFT;clear hF hB hBw hp hy hr hgp hgy hst HKC HFI HL;obtain⟨yk,yt,yn,ym⟩:=y;dsimp only at *;(go_wp2_with fail);refine HFT.mono ?_;rintro e W3 ⟨rfl,hB3⟩;have HB3:=Hid.mk_ (HBr.out.trans (hB3.mono HBr.out.size));clear hB3 HFT;cases r with
   | true=>
    have HN:Hid (lJ ks gs t xs l i ps (j+1) (ps.length - (j+1))=lJ ks gs t xs l i ps 0 ps.length):=by
     have:=HFF.out
     rw[if_pos rfl] at this;exact this
    clear HFF;go_wp2
    go_roundg (ps.length - j)
    case measure=>omega
    case rel=>exact⟨j+1,oo,oo,by first | rfl | go_num,HN.out,HB3.out⟩
   | false=>
    have HN:Hid (lJ ks gs t xs l i ps 0 ps.length=min (q:Int) (oC gs t l i (ps.take (j+1)))):=by
     have:=HFF.out
     rw[if_neg (by simp)] at this;exact this.symm
    have hB23:=HB2.out.trans (HB3.out.mono HB2.out.size)
    have hint:kA W3 (some ⟨b,o,none⟩) (j+1) (ps.take (j+1)):=by
     have h1:=HK.out W3 HB3.out;refine⟨by rw[List.length_take];omega,oo,.inr ?_⟩;rcases h1.2.2 with h2 | ⟨b2,o2,e2,h3,h4⟩
     ·omega
     ·refine⟨b2,o2,e2,h3,fun k z hz=>h4 k z ?_⟩
      rw[List.getElem?_take] at hz
      split at hz
      ·exact hz
      ·cases hz
    (have HWX:Hid (∀kc', Calls Tryz.prog 106 #[.pointer (some ⟨B,0,none⟩),.slice (some ⟨b', o', none⟩) len cap,.int .i64 i,.slice (some ⟨b,o,none⟩) (j+1) kc'] W3 fun e w' => e=.returned (.int .i64 (oC gs t l i (ps.take (j+1))))/\Below W3.heap.size W3 w'):=fun kc' => HWF.out W3 (some ⟨b,o,none⟩) (j+1) kc' (ps.take (j+1)) hB23 hint oo (fun p hp=>List.mem_of_mem_take hp));have HB23:=Hid.mk_ hB23;generalize oC gs t l i (ps.take (j+1))=R at *;clear hB23 hint HFF HK HWF;(have hjk:(j:Int)+1<=(kc:Int):=by omega);(have hjk2:j+1<=kc:=by omega);(go_wp2_with fail);refine(HWX.out _).mono ?_;rintro e W4 ⟨rfl,hB4⟩;have HB4:=Hid.mk_ (HB23.out.trans (hB4.mono HB23.out.size));clear hB4 HWX;go_wp2;go_ret;exact⟨by rw[HN.out];first | rfl | (congr 1;congr 1;omega),HB4.out⟩
  ·obtain rfl:j=ps.length:=by omega
   (have hd:decide ((ps.length:Int)<(ps.length:Int))=false:=by simp);have hBw:=HB2.out.trans (hB.mono HB2.out.size);have HWX:=HWF.out wr ka ps.length kc ps hBw (HK.out wr hB) oo (fun p hp=>hp);have HBw:=Hid.mk_ hBw
   have HN:Hid (lJ ks gs t xs l i ps 0 ps.length=oC gs t l i ps):=by
    rw[Nat.sub_self,lJ] at hF;exact hF.symm
   generalize oC gs t l i ps=R at *;clear hF hB hBw HK HKC HWF HFI HL;(go_wp2_with fail);refine HWX.mono ?_;rintro e W4 ⟨rfl,hB4⟩;have HB4:=Hid.mk_ (HBw.out.trans (hB4.mono HBw.out.size));clear hB4 HWX;go_wp2;go_ret;exact⟨by rw[HN.out];rfl,HB4.out⟩
end Go.Proofs.YtjkebndkeamijaaGreatDoor
