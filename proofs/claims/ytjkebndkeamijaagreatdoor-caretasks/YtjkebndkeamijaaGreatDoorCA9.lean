/-
  PROVED HERE: what the texts DANmd, DALays, DAPlan, DAAdd, DAArgs say.
-/
import Derived.Test.YtjkebndkeamijaaGreatDoorCA8
import Derived.Test.YtjkebndkeamijaaGreatDoorRows
import Derived.Deep.Slices
import Derived.ChangeSlices
import Derived.SizedLaws
set_option maxRecDepth 100000
set_option maxHeartbeats 2000000
namespace Go.Proofs.YtjkebndkeamijaaGreatDoor
open Go.RowKit
def nmd (gs:List Grp):Nat->DataW Unit->Bool
 | 0,_=>true
 | n+1,t=>if iE t=1 then !(((kD gs (nV t):Nat):Int)==0) else (subs t).all (nmd gs n)
theorem k73{p:Prop}(h:p:=by
  go_enter Tryz.func145,Tryz.ntmps145;(go_wp2_with fail);refine(HT.out _ (HB0.out _)).mono ?_;rintro e W ⟨rfl,hW⟩;go_wp2;go_ret;exact⟨rfl,(HB0.out _).trans (hW.mono (by simp))⟩
  ):p:=h
theorem gOm (ga:Option Addr)(gl gc:Nat)(gs:List Grp)(hr:kB gs=true):∀(n:Nat) (t:DataW Unit) (v:Value) (w:World),Ex w n t v->iS w ga gl gs →
  Calls Tryz.prog 145 #[v,.slice ga gl gc] w fun e w' => e=.returned (.bool (nmd gs n t))/\Below w.heap.size w w' := by
 intro n
 induction n with
 | zero=>intro t v w h;exact h.elim
 | succ n ih=>
  intro t v w h hG;obtain⟨k,s,a,len,cap,ts,rfl,rfl,hl,hz,hk⟩:=h;(have HB0:Hid (∀o,Below w.heap.size w (w.alloc o)):=fun o=>(zzd _ w).alloc (zzb _) _);rw[nmd,iN,iC,kT]
  by_cases k1:k=1
  ·subst k1
   rw[if_pos rfl];(have HT:Hid (∀W,Below w.heap.size w W->Calls Tryz.prog 147 #[.string s,.slice ga gl gc] W fun e w' => e=.returned (.int .u16 (kD gs s:Int))/\Below W.heap.size W w'):=fun W hW=>yW s ga gl gc gs W (hG.below hW) hr);generalize ((kD gs s:Nat):Int)=m at *;clear hk ih hG;cases hm:(m==0) with
   | true=>
    (have hm2:(m != 0)=false:=by simp[bne,hm]);exact k73
   | false=>
    (have hm2:(m != 0)=true:=by simp[bne,hm]);exact k73
  ·rw[if_neg k1]
   (have e1:(k==1)=false:=by simpa using k1);obtain⟨R,hR⟩:∃R,ts.all (nmd gs n)=R:=⟨_,rfl⟩;rw[hR];have HR:Hid (ts.all (nmd gs n)=R):=hR;clear hR;go_enter Tryz.func145,Tryz.ntmps145;go_wp2
   go_loopw [18] (fun i w' => ∃j:Nat,j<=len/\i=.int .i64 (j:Int)/\(ts.take j).all (nmd gs n)=true/\Below (w.alloc (.cells #[.int .i64 k,.string s,.slice a len cap] 69)).heap.size (w.alloc (.cells #[.int .i64 k,.string s,.slice a len cap] 69)) w') (fun i _=>len - (intOf i).toNat)
   case atStart=>exact⟨0,oo,rfl,rfl,zzd _ _⟩
   case round=>
    obtain⟨i,hi,rfl,hT,hB⟩:=hrel;obtain⟨-,-,-,hBw⟩:=lT hB
    by_cases hlt:i<len
    ·obtain⟨b,o,x,kx,sx,ax,lx,cx,rfl,_,hx,hcx⟩:=pM hl hk hlt
     obtain⟨p0,p1,p2,p3⟩:=hcx wr hBw;(have HI:Hid ((ts.take (i+1)).all (nmd gs n)=nmd gs n x):=by show _=_;rw[sK hx,hT,Bool.true_and]);(have HO:Hid (nmd gs n x=false->R=false):=fun e=>by rw[<-HR.out];exact gHj hx e);(have HC:Hid (∀W,Below wr.heap.size wr W->Calls Tryz.prog 145 #[.agg #[.int .i64 kx,.string sx,.slice ax lx cx],.slice ga gl gc] W fun e w' => e=.returned (.bool (nmd gs n x))/\Below W.heap.size W w'):=fun W hW=>ih x _ W (Ex.below hW _ _ _ p3) ((hG.below hBw).below hW));(have HW:Hid (∀o,Below wr.heap.size wr (wr.alloc o)):=fun o=>(zzd _ wr).alloc (zzb _) _);clear hcx hk p3 hx ih hT hG;generalize nmd gs n x=q at *;cases q with
     | false=>
      have HF:Hid (R=false):=HO.out rfl;clear HO;(go_wp2_with fail);refine(HC.out _ (HW.out _)).mono ?_;rintro e W2 ⟨rfl,hW2⟩;have hB2:Below wr.heap.size wr W2:=(HW.out _).trans (hW2.mono (by simp));go_wp2;go_ret;exact⟨by rw[HF.out];rfl,hBw.trans (hB2.mono hBw.size)⟩
     | true=>
      clear HO;(go_wp2_with fail);refine(HC.out _ (HW.out _)).mono ?_;rintro e W2 ⟨rfl,hW2⟩;have hB2:Below wr.heap.size wr W2:=(HW.out _).trans (hW2.mono (by simp));exact k114
    ·obtain rfl:i=len:=by omega
     have HF:Hid (R=true):=by
      show R=true
      rw[<-HR.out,<-hT,zzm (Nat.le_of_eq hl)]
     clear hk ih hT hG;go_wp2;go_ret;exact⟨by rw[HF.out];rfl,hBw⟩
def chk (n:Nat)(t:DataW Unit)(gs:List Grp):Int:=if kU n t=0 then (if kB gs=true then (if nmd gs n t=true then 0 else 6) else 1) else kU n t
theorem k24{p:Prop}(h:p:=by
  go_enter Tryz.func117,Tryz.ntmps117;(go_wp2_with fail);refine(H1.out _ (HB0.out _)).mono ?_;rintro e W ⟨rfl,hW⟩;obtain⟨c0,c1,c2,hBw⟩:=HF0.out W hW;(go_wp2_with fail);refine(H2.out _ hBw).mono ?_;rintro e W2 ⟨rfl,hW2⟩;have hB2:Below (w.alloc (.cells #[.int .i64 k,.string s,.slice a len cap] 69)).heap.size (w.alloc (.cells #[.int .i64 k,.string s,.slice a len cap] 69)) W2:=hW.trans (hW2.mono hW.size);obtain⟨d0,d1,d2,hBw2⟩:=HF0.out W2 hB2;clear c0 c1 c2;(go_wp2_with fail);refine(H3'.out _ hBw2).mono ?_;rintro e W3 ⟨rfl,hW3⟩;go_wp2;go_ret;exact⟨rfl,hBw2.trans (hW3.mono hBw2.size)⟩
  ):p:=h
theorem vD (n:Nat)(t:DataW Unit)(v:Value)(ga:Option Addr)(gl gc:Nat)(gs:List Grp)(w:World)(h:Ex w n t v)(hN:oG n t)(hG:iS w ga gl gs) :
  Calls Tryz.prog 117 #[v,.slice ga gl gc] w fun e w' => e=.returned (.int .i64 (chk n t gs))/\Below w.heap.size w w' := by
 have H1:Hid (∀W,Below w.heap.size w W->Calls Tryz.prog 143 #[v] W fun e w' => e=.returned (.int .i64 (kU n t))/\Below W.heap.size W w'):=fun W hW=>gDy n t v W (Ex.below hW _ _ _ h) hN
 have H2:Hid (∀W,Below w.heap.size w W->Calls Tryz.prog 144 #[.slice ga gl gc] W fun e w' => e=.returned (.bool (kB gs))/\Below W.heap.size W w'):=fun W hW=>gAq ga gl gc gs W (hG.below hW)
 have H3:Hid (kB gs=true->∀W,Below w.heap.size w W->Calls Tryz.prog 145 #[v,.slice ga gl gc] W fun e w' => e=.returned (.bool (nmd gs n t))/\Below W.heap.size W w'):=fun hr W hW=>gOm ga gl gc gs hr n t v W (Ex.below hW _ _ _ h) (hG.below hW)
 unfold chk
 generalize kU n t=c at *
 generalize kB gs=r at *
 generalize nmd gs n t=q at *
 have HB0:Hid (∀o,Below w.heap.size w (w.alloc o)):=fun o=>(zzd _ w).alloc (zzb _) _
 obtain⟨k,s,a,len,cap,rfl⟩:∃k s a len cap,v=.agg #[.int .i64 k,.string s,.slice a len cap]:=by
  exact k130
 have HF0:Hid (∀W:World,Below (w.alloc (.cells #[.int .i64 k,.string s,.slice a len cap] 69)).heap.size (w.alloc (.cells #[.int .i64 k,.string s,.slice a len cap] 69)) W->W.cell? ⟨w.heap.size,0,none⟩=some (.int .i64 k)/\W.cell? ⟨w.heap.size,1,none⟩=some (.string s)/\W.cell? ⟨w.heap.size,2,none⟩=some (.slice a len cap)/\Below w.heap.size w W):=fun W hW=>lT hW
 clear h hN hG
 by_cases hc:c=0
 ·subst hc
  rw[if_pos rfl];cases r with
  | false=>
   rw[if_neg (by decide)];clear H3;go_enter Tryz.func117,Tryz.ntmps117;(go_wp2_with fail);refine(H1.out _ (HB0.out _)).mono ?_;rintro e W ⟨rfl,hW⟩;obtain⟨c0,c1,c2,hBw⟩:=HF0.out W hW;(go_wp2_with fail);refine(H2.out _ hBw).mono ?_;rintro e W2 ⟨rfl,hW2⟩;go_wp2;go_ret;exact⟨rfl,hBw.trans (hW2.mono hBw.size)⟩
  | true=>
   rw[if_pos rfl];have H3' : Hid (∀W,Below w.heap.size w W->Calls Tryz.prog 145 #[.agg #[.int .i64 k,.string s,.slice a len cap],.slice ga gl gc] W fun e w' => e=.returned (.bool q)/\Below W.heap.size W w'):=H3.out rfl;clear H3;cases q with
   | false=>
    rw[if_neg (by decide)];exact k24
   | true=>
    rw[if_pos rfl];exact k24
 ·rw[if_neg hc]
  (have e0:(c==0)=false:=by simpa using hc);(have e1:(c != 0)=true:=by simp[bne,e0]);clear H2 H3;go_enter Tryz.func117,Tryz.ntmps117;(go_wp2_with fail);refine(H1.out _ (HB0.out _)).mono ?_;rintro e W ⟨rfl,hW⟩;obtain⟨c0,c1,c2,hBw⟩:=HF0.out W hW;go_wp2;go_ret;exact⟨rfl,hBw⟩
end Go.Proofs.YtjkebndkeamijaaGreatDoor
namespace Go.Proofs.YtjkebndkeamijaaGreatDoor
section
variable {T:Type} (K:T->Int) (M:T->Nat) (U:T->List T)
def lF (L:List gD)(ways:List Nat):Nat:=ways.foldl (fun m q=>min m (gG L q)) (gG L (ways.headD 0))
def iJ (f:T->Nat->List gD->List gD×Nat):List T->Nat->List gD->List gD×Nat
 | [],next,L=>(L,next)
 | x::r,next,L=>iJ f r (f x next L).2 (f x next L).1
def gP (f:T->Nat->List gD->List gD×Nat)(next:Nat):List T->List gD->List Nat->List gD×List Nat
 | [],L,ways=>(L,ways)
 | x::r,L,ways=>gP f next r (f x next L).1 (ways++[(f x next L).2])
def jH (L:List gD)(ways:List Nat):List gD×Nat:=(L++[(0,ways,lF L ways)],L.length)
def sY (f:T->Nat->List gD->List gD×Nat):List T->Nat->List gD->List gD×Nat
 | x::_,next,L=>jH (f x next L).1 [next,(f x next L).2]
 | [],next,L=>(L,next)
def iI (f:T->Nat->List gD->List gD×Nat):List T->Nat->List gD->List gD×Nat×Nat
 | x::_,next,L=>(nX (f x L.length (jH L [next]).1).1 L.length (f x L.length (jH L [next]).1).2,L.length,(f x L.length (jH L [next]).1).2)
 | [],next,L=>(L,next,next)
def lay:Nat->T->Nat->List gD->List gD×Nat
 | 0,_,next,L=>(L,next)
 | n+1,t,next,L=>
  if K t=1 then (L++[(M t,[next],gG L next+1)],L.length)
  else if K t=2 then iJ (lay n) (U t).reverse next L
  else if K t=3 then jH (gP (lay n) next (U t) L []).1 (gP (lay n) next (U t) L []).2
  else if K t=4 then ((iI (lay n) (U t) next L).1,(iI (lay n) (U t) next L).2.1)
  else if K t=5 then ((iI (lay n) (U t) next L).1,(iI (lay n) (U t) next L).2.2)
  else if K t=6 then sY (lay n) (U t) next L
  else (L,next)
def gCx:Nat->T->Prop
 | 0,_=>False
 | n+1,t=>(K t=1->M t≠0)/\(K t=2\/K t=3->U t≠[])/\(K t=4\/K t=5\/K t=6->∃x,U t=[x])/\∀x∈U t,gCx n x
def size:Nat->T->Nat
 | 0,_=>0
 | n+1,t=>1+((U t).map (size n)).sum
def qQ:Nat->T->Nat
 | 0,_=>0
 | n+1,t=>(U t).length * ((U t).map (size U n)).sum+((U t).map (qQ n)).sum+3
theorem gIn (n:Nat)(t:T):size U n t<=qQ U n t:=by
 cases n with
 | zero=>exact zzb _
 | succ n=>
  rw[size,qQ];cases h:U t with
  | nil=>simp
  | cons x r=>
   have:((x::r).map (size U n)).sum<=(x::r).length * ((x::r).map (size U n)).sum:=Nat.le_mul_of_pos_left _ (by simp)
   omega
theorem gVp {α:Type}{f:α->Nat}{c:Nat}{g:α->Nat}:∀(l:List α),(∀x∈l,f x<=c * g x)->(l.map f).sum<=c * (l.map g).sum:=by
 intro l
 induction l with
 | nil=>intro _;simp
 | cons x r ih=>
  intro h;have h1:=h x (zzg ..);have h2:=ih (fun y hy=>h y (zzk _ hy));simp only[List.map_cons,List.sum_cons];rw[Nat.mul_add];omega
theorem sR {α:Type}{f:α->Nat}{x:α}:∀(l:List α),x∈l->f x<=(l.map f).sum:=by
 intro l
 induction l with
 | nil=>intro h;cases h
 | cons y r ih=>
  intro h;simp only[List.map_cons,List.sum_cons];rcases List.mem_cons.1 h with rfl | h
  ·omega
  ·have:=ih h;omega
theorem hEp:∀(n:Nat) (t:T),size U n t<=200->(∀m x,m<n->x∈U t->1<=size U m x\/True)->qQ U n t<=40003 * size U n t:=by
 intro n
 induction n with
 | zero=>intro t _ _;exact zzn _
 | succ n ih=>
  intro t h _;have h' := h;rw[size] at h
  have hs:((U t).map (qQ U n)).sum<=40003 * ((U t).map (size U n)).sum:=gVp (U t) fun x hx=>ih x (by
   have:=sR (f:=size U n) (U t) hx
   omega) (fun _ _ _ _=>.inr trivial)
  have hlen:(U t).length<=200\/((U t).map (size U n)).sum=0:=by
   cases n with
   | zero=>
    right
    have:∀l:List T,(l.map (size U 0)).sum=0:=by
     intro l
     induction l with
     | nil=>rfl
     | cons x r ih=>rw[List.map_cons,List.sum_cons,ih];rfl
    exact this _
   | succ m=>
    left
    have:∀l:List T,l.length<=(l.map (size U (m+1))).sum:=by
     intro l
     induction l with
     | nil=>exact zzb _
     | cons x r ih=>
      (have h1:1<=size U (m+1) x:=by rw[size];omega);rw[List.map_cons,List.sum_cons,List.length_cons];omega
    have:=this (U t)
    omega
  rw[qQ,size]
  have hm:(U t).length * ((U t).map (size U n)).sum<=40000:=by
   rcases hlen with h1 | h1
   ·exact Nat.le_trans (Nat.mul_le_mul h1 (by omega:((U t).map (size U n)).sum<=200)) (by decide)
   ·rw[h1];simp
  omega
def vY (f:T->Nat->List gD->List gD×Nat)(sz:T->Nat)(x:T):Prop :=
 ∀next L,wf L->next<L.length->wf (f x next L).1/\(f x next L).2<(f x next L).1.length/\L.length<=(f x next L).1.length/\(∀p,p<L.length->(f x next L).1[p]? = L[p]?)/\gG L next<=gG (f x next L).1 (f x next L).2/\(f x next L).1.length<=L.length+sz x
theorem gBm (L:List gD):∀(ways:List Nat) (m:Nat),ways.foldl (fun m q=>min m (gG L q)) m<=m/\(∀q∈ways,ways.foldl (fun m q=>min m (gG L q)) m<=gG L q)/\(ways.foldl (fun m q=>min m (gG L q)) m=m\/∃q∈ways,ways.foldl (fun m q=>min m (gG L q)) m=gG L q):=by
 intro ways
 induction ways with
 | nil=>intro m;exact⟨zzb _,fun q hq=>(by cases hq),.inl rfl⟩
 | cons a r ih=>
  intro m;obtain⟨h1,h2,h3⟩:=ih (min m (gG L a));simp only[List.foldl_cons];refine⟨oo,fun q hq=>?_,?_⟩
  ·rcases List.mem_cons.1 hq with rfl | hq
   ·omega
   ·exact h2 q hq
  ·rcases h3 with h3 | ⟨q,hq,h3⟩
   ·rw[h3]
    by_cases h:m<=gG L a
    ·exact .inl oo
    ·exact .inr ⟨a,zzg ..,oo⟩
   ·exact .inr ⟨q,zzk _ hq,h3⟩
theorem gLv (L:List gD){ways:List Nat}(h:ways≠[]):(∀q∈ways,lF L ways<=gG L q)/\∃q∈ways,lF L ways=gG L q:=by
 obtain⟨h1,h2,h3⟩:=gBm L ways (gG L (ways.headD 0))
 refine⟨h2,?_⟩
 rcases h3 with h3 | h3
 ·cases ways with
  | nil=>exact absurd rfl h
  | cons a r=>exact⟨a,zzg ..,h3⟩
 ·exact h3
theorem uR {L:List gD}(hL:wf L){ways:List Nat}(h:ways≠[])(hw:∀q∈ways,q<L.length){m:Nat}(hm:∀q∈ways,m<=gG L q) :
  wf (jH L ways).1/\(jH L ways).2<(jH L ways).1.length/\(jH L ways).1.length=L.length+1/\(∀p,p<L.length->(jH L ways).1[p]? = L[p]?)/\m<=gG (jH L ways).1 (jH L ways).2:=by
 obtain⟨h1,h2⟩:=gLv L h
 unfold jH
 refine⟨gZj hL (.inr ⟨rfl,fun q hq=>⟨hw q hq,h1 q hq⟩,h2⟩),by simp,by simp,fun p hp=>lB hp,?_⟩
 rw[nP jR]
 obtain⟨q,hq,e⟩:=h2
 show m<=lF L ways
 rw[e]
 exact hm q hq
theorem tZ {f:T->Nat->List gD->List gD×Nat}{sz:T->Nat}:∀(l:List T),(∀x∈l,vY f sz x)->∀next L,wf L->next<L.length →
  wf (iJ f l next L).1/\(iJ f l next L).2<(iJ f l next L).1.length/\L.length<=(iJ f l next L).1.length/\(∀p,p<L.length->(iJ f l next L).1[p]? = L[p]?)/\gG L next<=gG (iJ f l next L).1 (iJ f l next L).2/\(iJ f l next L).1.length<=L.length+(l.map sz).sum:=by
 intro l
 induction l with
 | nil=>intro _ next L hL hn;exact⟨hL,hn,zzb _,fun _ _=>rfl,zzb _,Nat.le_add_right _ _⟩
 | cons x r ih=>
  intro hg next L hL hn;obtain⟨a1,a2,a3,a4,a5,a6⟩:=hg x (zzg ..) next L hL hn;obtain⟨b1,b2,b3,b4,b5,b6⟩:=ih (fun y hy=>hg y (zzk _ hy)) (f x next L).2 (f x next L).1 a1 a2;rw[iJ];refine⟨b1,b2,Nat.le_trans a3 b3,fun p hp=>(b4 p oo).trans (a4 p hp),Nat.le_trans a5 b5,?_⟩;simp only[List.map_cons,List.sum_cons];omega
theorem uA {f:T->Nat->List gD->List gD×Nat}{sz:T->Nat}(next:Nat):∀(l:List T),(∀x∈l,vY f sz x)->∀(L:List gD) (ways:List Nat),wf L->next<L.length->(∀q∈ways,q<L.length/\gG L next<=gG L q) →
  wf (gP f next l L ways).1/\(∀q∈(gP f next l L ways).2,q<(gP f next l L ways).1.length/\gG L next<=gG (gP f next l L ways).1 q)/\L.length<=(gP f next l L ways).1.length/\(∀p,p<L.length->(gP f next l L ways).1[p]? = L[p]?)/\(gP f next l L ways).1.length<=L.length+(l.map sz).sum/\(gP f next l L ways).2.length=ways.length+l.length:=by
 intro l
 induction l with
 | nil=>intro _ L ways hL hn hw;exact⟨hL,hw,zzb _,fun _ _=>rfl,Nat.le_add_right _ _,rfl⟩
 | cons x r ih=>
  intro hg L ways hL hn hw;obtain⟨a1,a2,a3,a4,a5,a6⟩:=hg x (zzg ..) next L hL hn;have hkeep:∀q,q<L.length->gG (f x next L).1 q=gG L q:=fun q hq=>mH (a4 q hq)
  obtain⟨b1,b2,b3,b4,b5,b6⟩:=ih (fun y hy=>hg y (zzk _ hy)) (f x next L).1 (ways++[(f x next L).2]) a1 oo (fun q hq=>by
   rw[hkeep next hn];rcases List.mem_append.1 hq with hq | hq
   ·obtain⟨g1,g2⟩:=hw q hq
    exact⟨oo,by rw[hkeep q g1];exact g2⟩
   ·simp at hq
    subst hq
    exact⟨a2,a5⟩)
  rw[hkeep next hn] at b2;rw[gP];refine⟨b1,b2,Nat.le_trans a3 b3,fun p hp=>(b4 p oo).trans (a4 p hp),?_,?_⟩
  ·simp only[List.map_cons,List.sum_cons]
   omega
  ·rw[b6]
   simp
   omega
theorem gBb {f:T->Nat->List gD->List gD×Nat}{sz:T->Nat}{x:T}(hg:vY f sz x){next:Nat}{L:List gD}(hL:wf L)(hn:next<L.length) :
  wf (iI f [x] next L).1/\(iI f [x] next L).2.1=L.length/\L.length<(iI f [x] next L).1.length/\(iI f [x] next L).2.2<(iI f [x] next L).1.length/\(∀p,p<L.length->(iI f [x] next L).1[p]? = L[p]?) ∧
  gG L next<=gG (iI f [x] next L).1 L.length/\gG L next<=gG (iI f [x] next L).1 (iI f [x] next L).2.2/\(iI f [x] next L).1.length<=L.length+(1+sz x):=by
 obtain⟨c1,c2,c3,c4,c5⟩:=uR hL (ways:=[next]) (by simp) (by simpa using hn) (m:=gG L next) (by simp)
 have e2:(jH L [next]).2=L.length:=rfl
 rw[e2] at c5
 obtain⟨a1,a2,a3,a4,a5,a6⟩:=hg L.length (jH L [next]).1 c1 oo
 rw[iI]
 generalize hf:f x L.length (jH L [next]).1=r at *
 have hat:(jH L [next]).1[L.length]? = some (0,[next],lF L [next]):=jR
 have hr:r.1[L.length]? = some (0,[next],lF L [next]):=(a4 _ oo).trans hat
 have hpos:=hL.pos
 refine⟨hDo a1 hpos hr rfl a2 ?_,rfl,by rw[kF];omega,by rw[kF];exact a2,fun p hp=>?_,?_,?_,?_⟩
 ·rw[<-nP hat];exact a5
 ·rw[pO oo,a4 p oo,c4 p hp]
 ·rw[mP,mH (a4 L.length oo)];exact c5
 ·rw[mP];exact Nat.le_trans c5 (by rw[<-mH (a4 L.length oo)];exact Nat.le_trans (by rw[mH (a4 L.length oo)];exact zzb _) a5)
 ·rw[kF];omega
theorem uO:∀(n:Nat) (t:T),gCx K M U n t->vY (lay K M U n) (size U n) t:=by
 intro n
 induction n with
 | zero=>intro t h;exact h.elim
 | succ n ih=>
  intro t ⟨s1,s3,s4,sk⟩ next L hL hn;(have hk:∀x∈U t,vY (lay K M U n) (size U n) x:=fun x hx=>ih x (sk x hx));rw[lay,size]
  by_cases k1:K t=1
  ·rw[if_pos k1]
   refine⟨gZj hL (.inl ⟨s1 k1,next,rfl,hn,rfl⟩),by simp,by simp,fun p hp=>lB hp,?_,by simp⟩;rw[nP jR];exact Nat.le_succ _
  rw[if_neg k1]
  by_cases k2:K t=2
  ·rw[if_pos k2]
   obtain⟨b1,b2,b3,b4,b5,b6⟩:=tZ (U t).reverse (fun x hx=>hk x (List.mem_reverse.1 hx)) next L hL hn;refine⟨b1,b2,b3,b4,b5,?_⟩;rw[List.map_reverse,List.sum_reverse] at b6;omega
  rw[if_neg k2]
  by_cases k3:K t=3
  ·rw[if_pos k3]
   obtain⟨b1,b2,b3,b4,b5,b6⟩:=uA next (U t) hk L [] hL hn (fun q hq=>by cases hq)
   have hne:(gP (lay K M U n) next (U t) L []).2≠[]:=by
    intro e;rw[e] at b6
    have:=List.length_pos_iff.2 (s3 (.inr k3))
    simp at b6;simp[b6] at this
   obtain⟨c1,c2,c3,c4,c5⟩:=uR b1 hne (fun q hq=>(b2 q hq).1) (fun q hq=>(b2 q hq).2);refine⟨c1,c2,oo,fun p hp=>(c4 p oo).trans (b4 p hp),c5,?_⟩;omega
  rw[if_neg k3]
  by_cases k4:K t=4
  ·rw[if_pos k4]
   obtain⟨x,hx⟩:=s4 (.inl k4);rw[hx];obtain⟨a1,a2,a3,a4,a5,a6,a7,a8⟩:=gBb (hk x (by rw[hx];exact List.mem_singleton.2 rfl)) hL hn;refine⟨a1,by rw[a2];exact a3,Nat.le_of_lt a3,a5,by rw[a2];exact a6,?_⟩;simpa using a8
  rw[if_neg k4]
  by_cases k5:K t=5
  ·rw[if_pos k5]
   obtain⟨x,hx⟩:=s4 (.inr (.inl k5));rw[hx];obtain⟨a1,a2,a3,a4,a5,a6,a7,a8⟩:=gBb (hk x (by rw[hx];exact List.mem_singleton.2 rfl)) hL hn;refine⟨a1,a4,Nat.le_of_lt a3,a5,a7,?_⟩;simpa using a8
  rw[if_neg k5]
  by_cases k6:K t=6
  ·rw[if_pos k6]
   obtain⟨x,hx⟩:=s4 (.inr (.inr k6));rw[hx,sY];obtain⟨a1,a2,a3,a4,a5,a6⟩:=hk x (by rw[hx];exact List.mem_singleton.2 rfl) next L hL hn;have hkeep:gG (lay K M U n x next L).1 next=gG L next:=mH (a4 next hn)
   obtain⟨c1,c2,c3,c4,c5⟩:=uR a1 (ways:=[next,(lay K M U n x next L).2]) (by simp) (fun q hq=>by
    simp at hq;rcases hq with rfl | rfl
    ·omega
    ·exact a2) (m:=gG L next) (fun q hq=>by
    simp at hq;rcases hq with rfl | rfl
    ·rw[hkeep];exact zzb _
    ·exact a5)
   refine⟨c1,c2,oo,fun p hp=>(c4 p oo).trans (a4 p hp),c5,?_⟩
   simp
   omega
  rw[if_neg k6];exact⟨hL,hn,zzb _,fun _ _=>rfl,zzb _,Nat.le_add_right _ _⟩
end
end Go.Proofs.YtjkebndkeamijaaGreatDoor
namespace Go.Proofs.YtjkebndkeamijaaGreatDoor
open Go.RowKit
abbrev vQ:Type:=Nat×Value×Nat
def vW:List vQ->List Value
 | []=>[]
 | x::r=>.int .u16 (x.1:Int)::x.2.1 :: .int .i64 (x.2.2:Int)::vW r
theorem gNo (l m:List vQ):vW (l++m)=vW l++vW m:=by
 induction l with
 | nil=>rfl
 | cons x r ih=>simp[vW,ih]
theorem gNn (l:List vQ):(vW l).length=l.length * 3:=by
 induction l with
 | nil=>rfl
 | cons x r ih=>simp[vW,ih];omega
theorem gKn (l:List vQ)(i:Nat)(x:vQ)(h:l[i]? = some x):(vW l)[i * 3]? = some (.int .u16 (x.1:Int))/\(vW l)[i * 3+1]? = some x.2.1/\(vW l)[i * 3+2]? = some (.int .i64 (x.2.2:Int)):=by
 induction l generalizing i with
 | nil=>simp at h
 | cons y r ih=>
  cases i with
  | zero=>
   (obtain rfl:y=x:=by simpa using h);exact⟨rfl,rfl,rfl⟩
  | succ i=>
   have:=ih i (by simpa using h)
   rw[show (i+1) * 3=i * 3+3 from by omega,show i * 3+3+1=i * 3+1+3 from by omega,show i * 3+3+2=i * 3+2+3 from by omega];exact this
def lU (l:List Nat):List Value:=l.map (fun q:Nat=>Value.int .i64 (q:Int))
theorem gAx (l m:List Nat):lU (l++m)=lU l++lU m:=by unfold lU;simp
theorem gAw {l:List Nat}{i q:Nat}(h:l[i]? = some q):(lU l)[i]? = some (.int .i64 (q:Int)):=by unfold lU;rw[List.getElem?_map,h];rfl
theorem gF {w w' : World}{base:Nat}{e:TypeId}{sz:Nat}{v:Value}{n:Nat}{xs:List Value}(h:w.ownsRow base e sz v n xs)(hs:∀g,v.ownBlock=some g->w'.heap[g]? = w.heap[g]?):w'.ownsRow base e sz v n xs:=by
 obtain⟨h1,h2⟩:=h
 refine⟨h1,?_⟩
 rcases h2 with h2 | ⟨g,cap,cur,rfl,hb,hg,hr⟩
 ·exact .inl h2
 ·exact .inr ⟨g,cap,cur,rfl,hb,(hs g rfl).trans hg,hr⟩
theorem gC {w:World}{base:Nat}{e:TypeId}{sz:Nat}{v:Value}{n:Nat}{xs:List Value}(h:w.ownsRow base e sz v n xs){g:Nat}(hg:v.ownBlock=some g):g<w.heap.size/\∃cur,w.heap[g]? = some (.cells cur e (0,0)):=by
 rcases h.2 with ⟨rfl,_⟩ | ⟨g', cap,cur,rfl,hb,hg', _⟩
 ·cases hg
 ·cases hg
  exact⟨(zza.1 hg').1,cur,hg'⟩
theorem hAt {w:World}{base:Nat}{e:TypeId}{sz:Nat}{v:Value}{n:Nat}{xs:List Value}(h:w.ownsRow base e sz v n xs):v.oneCell' = true:=by
 rcases h.2 with ⟨rfl,_⟩ | ⟨g', cap,cur,rfl,_⟩<;>rfl
theorem gY {w:World}{base:Nat}{e:TypeId}{sz:Nat}{v:Value}{n:Nat}{xs:List Value}(h:w.ownsRow base e sz v n xs)(hn:0<n):∃g cap,v=.slice (some ⟨g,0,none⟩) n cap/\∀j u,xs[j]? = some u->w.cell? ⟨g,j,none⟩=some u:=by
 obtain⟨h1,h2⟩:=h
 rcases h2 with ⟨_,rfl⟩ | ⟨g,cap,cur,rfl,hb,hg,_,_,_,hx⟩
 ·omega
 ·refine⟨g,cap,rfl,fun j u hj=>?_⟩
  have hjl:j<n * sz:=by
   have:=(zzc.1 hj).1
   omega
  rw[<-hx,List.getElem?_take,if_pos hjl,Array.getElem?_toList] at hj;simp[World.cell?,hg,hj]
structure tL (A:Nat->Prop) (w:World) (B:Nat) (gv v:Value) (rs:List vQ) (L:List gD):Prop where
 plan:w.heap[B]? = some (.cells #[gv,v] 169 (0,0))
 own:A B
 row:w.ownsRow 0 167 3 v L.length (vW rs)
 rowA:∀g,v.ownBlock=some g->A g
 len:rs.length=L.length
 each:∀(i:Nat) (x:gD),L[i]? = some x->∃r,rs[i]? = some r/\r.1=x.1/\r.2.2=x.2.2/\w.ownsRow 0 3 1 r.2.1 x.2.1.length (lU x.2.1)/\∀g,r.2.1.ownBlock=some g->A g
 apart:∀(i j:Nat) (ri rj:vQ) (g:Nat),rs[i]? = some ri->rs[j]? = some rj->ri.2.1.ownBlock=some g->rj.2.1.ownBlock=some g->i=j
def iA (A:Nat->Prop)(w:World)(B:Nat)(gv:Value)(L:List gD):Prop:=∃v rs,tL A w B gv v rs L
theorem tL.kept {A A' : Nat->Prop}{w w' : World}{B:Nat}{gv v:Value}{rs:List vQ}{L:List gD}(h:tL A w B gv v rs L)(hA:∀b,A b->A' b)(hs:∀b,b<w.heap.size->A b->w'.heap[b]? = w.heap[b]?):tL A' w' B gv v rs L:=by
 refine⟨(hs B (zza.1 h.plan).1 h.own).trans h.plan,hA _ h.own,gF h.row fun g hg=>hs g (gC h.row hg).1 (h.rowA g hg),fun g hg=>hA g (h.rowA g hg),h.len,fun i x hx=>?_,h.apart⟩
 obtain⟨r,h1,h2,h3,h4,h5⟩:=h.each i x hx
 exact⟨r,h1,h2,h3,gF h4 fun g hg=>hs g (gC h4 hg).1 (h5 g hg),fun g hg=>hA g (h5 g hg)⟩
theorem iA.kept {A A' : Nat->Prop}{w w' : World}{B:Nat}{gv:Value}{L:List gD}(h:iA A w B gv L)(hA:∀b,A b->A' b)(hs:∀b,b<w.heap.size->A b->w'.heap[b]? = w.heap[b]?):iA A' w' B gv L:=by
 obtain⟨v,rs,h⟩:=h
 exact⟨v,rs,h.kept hA hs⟩
structure Fr (A:Nat->Prop) (w:World) (A' : Nat->Prop) (w' : World):Prop where
 below:Below 0 w w'
 same:∀b,b<w.heap.size->¬A b->w'.heap[b]? = w.heap[b]?
 sub:∀b,A' b->A b\/w.heap.size<=b
theorem Fr.refl (A:Nat->Prop)(w:World):Fr A w A w:=⟨zzd _ _,fun _ _ _=>rfl,fun _ h=>.inl h⟩
theorem Fr.trans {A A' A'' : Nat->Prop}{w w' w'' : World}(h:Fr A w A' w')(k:Fr A' w' A'' w''):Fr A w A'' w'' := by
 have hs:=h.below.size
 refine⟨h.below.trans k.below,fun b hb hA=>?_,fun b hb=>?_⟩
 ·rw[k.same b oo (fun h' => by rcases h.sub b h' with h1 | h1;exact hA h1;omega),h.same b hb hA]
 ·rcases k.sub b hb with h1 | h1
  ·exact h.sub b h1
  ·exact .inr oo
theorem Fr.alloc {A A' : Nat->Prop}{w w' : World}(h:Fr A w A' w')(o:Obj):Fr A w A' (w'.alloc o) :=
 ⟨h.below.alloc (zzn _) o,fun b hb hA=>(zzf w' o b (zzl hb h.below.size)).trans (h.same b hb hA),h.sub⟩
theorem Fr.toBelow {A A' : Nat->Prop}{w w' : World}(h:Fr A w A' w'){base:Nat}(hb:base<=w.heap.size)(hA:∀b,b<base->¬A b):Below base w w' :=
 ⟨h.below.os,h.below.tape,h.below.output,h.below.size,fun b hlt=>h.same b oo (hA b hlt)⟩
theorem Fr.of_below {A:Nat->Prop}{w w' : World}(h:Below w.heap.size w w'):Fr A w A w' := ⟨h.mono (zzn _),fun b hb _=>h.block b hb,fun _ h=>.inl h⟩
theorem Fr.less {A A1 A' : Nat->Prop}{w w' : World}(h:Fr A1 w A' w')(hA:∀b,A1 b->A b\/w.heap.size<=b):Fr A w A' w' :=
 ⟨h.below,fun b hb hn=>h.same b hb (fun h1=>by rcases hA b h1 with h2 | h2;exact hn h2;omega),fun b hb=>by
  rcases h.sub b hb with h1 | h1
  ·exact hA b h1
  ·exact .inr h1⟩
theorem gYb:(Tryz.prog.info? 167).map (fun i=>(i.zero,i.size,i.bytes))=some (some (.agg #[.int .u16 0,.slice none 0 0,.int .i64 0]),3,40):=by kernel_rfl
theorem gEu:(Tryz.prog.info? 3).map (fun i=>(i.zero,i.size,i.bytes))=some (some (.int .i64 0),1,8):=by kernel_rfl
theorem heap_setCell {w:World}{B:Nat}{c0 c1:Value}{t:TypeId}(h:w.heap[B]? = some (.cells #[c0,c1] t (0,0)))(u:Value):(w.setCell ⟨B,1,none⟩ u).heap[B]? = some (.cells #[c0,u] t (0,0)):=by
 obtain⟨hlt,hk⟩:=zza.1 h
 show (w.heap.modify B _)[B]? = _
 rw[Array.getElem?_eq_getElem (by rw[Array.size_modify];exact hlt),Array.getElem_modify_self,hk]
 rfl
theorem k145{p:Prop}(h:p:=by
  exact⟨r2.os,r2.tape,r2.output,by have:=r2.size;simpa using this,fun k hk=>absurd hk oo⟩
  ):p:=h
theorem gWn {A:Nat->Prop}{W:World}{B:Nat}{gv v:Value}{rs:List vQ}{L:List gD}(h:tL A W B gv v rs L)(t l:Nat)(next:List Nat)(hv:Value)(hh:W.ownsRow 0 3 1 hv next.length (lU next))(hf:∀g,hv.ownBlock=some g->¬A g)(hlen:L.length<=2000000000)
  (b cap:Nat) (hc:∀j u,(vW [(t,hv,l)])[j]? = some u->W.cell? ((⟨b,0,none⟩:Addr).add j)=some u) :
  ∃v' W1 A', (Builtin.append_ #[159,159] 159 #[v,.slice (some ⟨b,0,none⟩) 1 cap]).run Tryz.prog W=.ok v' W1/\(∃g' cap', v' = .slice (some ⟨g', 0,none⟩) (L.length+1) cap')/\W1.heap[B]? = W.heap[B]? ∧
   (∀k,k<W.heap.size->v.ownBlock≠some k->W1.heap[k]? = W.heap[k]?) ∧
   tL A' (W1.setCell ⟨B,1,none⟩ v') B gv v' (rs++[(t,hv,l)]) (L++[(t,next,l)])/\Fr (fun k=>A k\/hv.ownBlock=some k) W A' (W1.setCell ⟨B,1,none⟩ v'):=by
 obtain⟨i0,hi,hz0,hz1,hz2⟩:=info_parts gYb
 obtain⟨v', W1,hrun,r1,r2,_,r4⟩:=run_append_own_at (P:=Tryz.prog) W 0 159 159 167 i0 _ 3 40 Tryz.underlying159 hi hz0 hz1 hz2 rfl (by decide) v L.length _ h.row ⟨b,0,none⟩ 1 cap (vW [(t,hv,l)]) (by rw[gNn];rfl) hc (fun u hu=>by
  simp only[vW,List.mem_cons,List.not_mem_nil,or_false] at hu;rcases hu with rfl | rfl | rfl
  ·rfl
  ·exact hAt hh
  ·rfl) (by unfold maxLen;omega) oo (zzn _)
 rw[<-gNo] at r1
 have hBlt:B<W.heap.size:=(zza.1 h.plan).1
 have hBv:∀g,v.ownBlock=some g->B≠g:=fun g hg e=>by
  subst e;obtain⟨_,cur,hcur⟩:=gC h.row hg;rw[h.plan] at hcur;cases hcur
 have hsame:∀k,k<W.heap.size->v.ownBlock≠some k->W1.heap[k]? = W.heap[k]? := fun k hk hne=>r2.block k hk (fun e=>hne e.symm)
 have hB1:W1.heap[B]? = W.heap[B]? := hsame B hBlt (fun e=>hBv B e rfl)
 have hset:∀k,k≠B->(W1.setCell ⟨B,1,none⟩ v').heap[k]? = W1.heap[k]? := fun k hk=>zzh W1 _ _ k hk
 have hv'B:∀g,v'.ownBlock=some g->g≠B:=fun g hg e=>by
  subst e;rcases r4 with e | e
  ·rw[e] at hg
   exact hBv g hg rfl
  ·rw[e] at hg
   cases hg;omega
 have hrowl:∀g,v.ownBlock=some g->∃cur,W.heap[g]? = some (.cells cur 167 (0,0)):=fun g hg=>(gC h.row hg).2
 -- a row of numbers is as it was
 have hnum:∀(u:Value) (n:Nat) (xs:List Value),W.ownsRow 0 3 1 u n xs->(W1.setCell ⟨B,1,none⟩ v').ownsRow 0 3 1 u n xs:=fun u n xs ho=>gF ho fun g hg=>by
  obtain⟨hlt,cur,hcur⟩:=gC ho hg
  rw[hset g (fun e=>by subst e;rw[h.plan] at hcur;cases hcur),hsame g hlt (fun e=>by
   obtain⟨cur', hcur'⟩:=hrowl g e;rw[hcur] at hcur'
   cases hcur')]
 refine⟨v', W1,fun k=>(A k\/hv.ownBlock=some k)\/v'.ownBlock=some k,hrun,?_,hB1,hsame,⟨heap_setCell (hB1.trans h.plan) v', .inl (.inl h.own),?_,fun g hg=>.inr hg,by simp[h.len],fun i x hx=>?_,?_⟩,⟨?_,fun k hk hn=>?_,fun k hk=>?_⟩⟩
 ·obtain⟨g', cap', e,_⟩:=gY r1 oo
  exact⟨g', cap', e⟩
 ·have:=gF (w' := W1.setCell ⟨B,1,none⟩ v') r1 fun g hg=>hset g (hv'B g hg)
  simpa using this
 ·rcases Nat.lt_or_ge i L.length with hlt | hge
  ·rw[lB hlt] at hx
   obtain⟨r,h1,h2,h3,h4,h5⟩:=h.each i x hx;refine⟨r,?_,h2,h3,hnum _ _ _ h4,fun g hg=>.inl (.inl (h5 g hg))⟩;rw[List.getElem?_append_left (by rw[h.len];exact hlt)];exact h1
  ·have hil:i=L.length:=by
    have:=(zzc.1 hx).1
    simp at this;omega
   subst hil;rw[jR] at hx;cases hx;refine⟨(t,hv,l),?_,rfl,rfl,hnum _ _ _ hh,fun g hg=>.inl (.inr hg)⟩;rw[<-h.len]
   simp
 ·have hold:∀(i:Nat) (r:vQ) (g:Nat),i<rs.length->rs[i]? = some r->r.2.1.ownBlock=some g->A g:=fun i r g hi hr hg=>by
   obtain⟨x,hx⟩:∃x,L[i]? = some x:=⟨_,zze (by rw[<-h.len];exact hi)⟩;obtain⟨r', h1,_,_,_,h5⟩:=h.each i x hx;rw[hr] at h1;cases h1;exact h5 g hg
  have hcase:∀(i:Nat) (r:vQ),(rs++[((t,hv,l):vQ)])[i]? = some r->(i<rs.length/\rs[i]? = some r)\/(i=rs.length/\r=(t,hv,l)):=fun i r hr=>by
   rcases Nat.lt_or_ge i rs.length with hlt | hge
   ·rw[List.getElem?_append_left hlt] at hr
    exact .inl ⟨hlt,hr⟩
   ·have hil:i=rs.length:=by
     have:=(zzc.1 hr).1
     simp at this;omega
    subst hil;simp at hr;exact .inr ⟨rfl,hr.symm⟩
  intro i j ri rj g hi hj gi gj;rcases hcase i ri hi with ⟨i1,i2⟩ | ⟨i1,rfl⟩<;>rcases hcase j rj hj with ⟨j1,j2⟩ | ⟨j1,rfl⟩
  ·exact h.apart i j ri rj g i2 j2 gi gj
  ·exact absurd (hold i ri g i1 i2 gi) (hf g gj)
  ·exact absurd (hold j rj g j1 j2 gj) (hf g gi)
  ·rw[i1,j1]
 ·exact k145
 ·have hkB:k≠B:=fun e=>hn (.inl (e▸h.own))
  rw[hset k hkB];exact hsame k hk (fun e=>hn (.inl (h.rowA k e)))
 ·rcases hk with hk | hk
  ·exact .inl hk
  ·rcases r4 with e | e
   ·rw[e] at hk
    exact .inl (.inl (h.rowA k hk))
   ·rw[e] at hk
    cases hk;exact .inr (zzb _)
theorem hmx:Tryz.prog.follows .mixedOrders=true:=by kernel_rfl
theorem nS {o:Oper}{a:Act}{w:World}{K:Act->World->Prop}{Q:Exit->Act->World->Prop}(s x:Operand)(t:TypeId)(ho:o.op=.call { callee:=.builtin .append,args:=#[s,x],argTypes:=#[t,t] })
  (v u v' : Value) (w' : World) (hs:a.eval s=v) (hx:a.eval x=u) (hr:(Builtin.append_ #[t,t] o.type #[v,u]).run Tryz.prog w=.ok v' w') (h:K (a.put o.dst v') w'):o.wp Tryz.prog a w K Q:=by
 unfold Oper.wp execOp
 simp only[ho,resolve,invoke,builtin,Sem.run_bind,Sem.run_pure,Result.andThen_ok,List.map_toArray,List.map_cons,List.map_nil,hs,hx,hr]
 exact h
theorem iW {ops:Array Oper}{rest:List Oper}{o:Oper}{a:Act}{w:World}{Q:Exit->Act->World->Prop}(hgd:o.guard=none)(s x:Operand)(t:TypeId)(ho:o.op=.call { callee:=.builtin .append,args:=#[s,x],argTypes:=#[t,t] })
  (v u v' : Value) (w' : World) (hs:a.eval s=v) (hx:a.eval x=u) (hr:(Builtin.append_ #[t,t] o.type #[v,u]).run Tryz.prog w=.ok v' w') (h:wpList Tryz.prog ops Q rest (a.put o.dst v') w'):wpList Tryz.prog ops Q (o::rest) a w :=
 wpList_plain hgd fun _ hK=>nS s x t ho v u v' w' hs hx hr (hK _ _ h)
theorem mN {w:World}{B:Nat}{gv v:Value}(h:w.heap[B]? = some (.cells #[gv,v] 169 (0,0))):w.cell? ⟨B,0,none⟩=some gv/\w.cell? ⟨B,1,none⟩=some v/\w.frozen? ⟨B,1,none⟩=false:=by
 have hc:=fun j=>cell_of_row w B j _ _ _ h
 refine⟨hc 0,hc 1,?_⟩
 simp[World.frozen?,h]
theorem k62{p:Prop}(h:p:=by
  intro j u hj;(have hadd:(⟨w.heap.size,0,none⟩:Addr).add j=⟨w.heap.size,j,none⟩:=by unfold Addr.add;split<;>simp_all);rw[hadd]
  match j,hj with
  | 0,hj=>simp at hj;subst hj;simp
  | 1,hj=>simp at hj;subst hj;simp
  | 2,hj=>simp at hj;subst hj;simp
  ):p:=h
theorem gVm (w:World)(x0 x1 x2:Value)(t:TypeId):∀j u,[x0,x1,x2][j]? = some u->(w.alloc (.cells #[x0,x1,x2] t)).cell? ((⟨w.heap.size,0,none⟩:Addr).add j)=some u:=by
 exact k62
theorem k16{p:Prop}(h:p:=by
  refine hK.out _ _ hSW (fun _=>?_);clear hK K
  try simp only[gQ]
  refine gT 7 kr rfl (fun K hK=>?_);rw[if_pos (by rfl)];refine nS _ _ 159 rfl _ _ (.slice (some ⟨g', 0,none⟩) (L.length+1) cap') W1 rfl rfl hrun ?_;refine hK.out _ _ hSW1 (fun _=>?_);clear hK K
  try simp only[Act.put,List.setIfInBounds_toArray]
  refine jQ 8 (some 13) (v:=?_) hSW1 ?_ ?_
  rotate_left
  ·intro w hSw
   obtain⟨s1,s2,s3⟩:=hSw;go_simp
   with_reducible rfl
  try simp only[Act.put]
  refine jQ 9 (some 14) (v:=?_) hSW1 ?_ ?_
  rotate_left
  ·intro w hSw
   obtain⟨s1,s2,s3⟩:=hSw;go_simp
   with_reducible rfl
  try simp only[Act.put]
  refine gT 10 kr rfl (fun K hK=>?_);rw[if_pos (by rfl)];go_simp;refine hK.out _ _ hSf (fun _=>?_);clear hK K
  try simp only[gQ]
  refine wpAnyH_done kr ?_ _;go_wp2;go_ret;exact⟨by first | rfl | (congr 2;omega),A', HP.out,HF.out⟩
  ):p:=h
theorem gJv (A:Nat->Prop)(B:Nat)(gv:Value)(L:List gD)(w:World)(t l:Nat)(next:List Nat)(ha:Option Addr)(hn hc:Nat)(h:iA A w B gv L)(hh:w.ownsRow 0 3 1 (.slice ha hn hc) next.length (lU next))(hf:∀g,(Value.slice ha hn hc).ownBlock=some g->¬A g)(hlen:L.length<=2000000000) :
  Calls Tryz.prog 146 #[.pointer (some ⟨B,0,none⟩),.agg #[.int .u16 (t:Int),.slice ha hn hc,.int .i64 (l:Int)]] w fun e w' => e=.returned (.int .i64 (L.length:Int))/\∃A', iA A' w' B gv (L++[(t,next,l)])/\Fr (fun k=>A k\/(Value.slice ha hn hc).ownBlock=some k) w A' w' := by
 obtain⟨v,rs,h⟩:=h
 -- the worlds
 obtain⟨w1,hw1⟩:∃w1,w1=w.alloc (.cells #[.int .u16 (t:Int),.slice ha hn hc,.int .i64 (l:Int)] 167):=⟨_,rfl⟩
 have hb1:Below w.heap.size w w1:=by rw[hw1];exact(zzd _ w).alloc (zzb _) _
 have hs1:w1.heap.size=w.heap.size+1:=by rw[hw1];simp
 obtain⟨W,hW⟩:∃W,W=(w1.alloc (.cells #[.int .u16 (t:Int),.slice ha hn hc,.int .i64 (l:Int)] 167)).drew:=⟨_,rfl⟩
 have hb2:Below w1.heap.size w1 W:=by rw[hW];exact((zzd _ w1).alloc (zzb _) _).drew
 have hbW:Below w.heap.size w W:=hb1.trans (hb2.mono oo)
 have hPW:tL A W B gv v rs L:=h.kept (fun _ h=>h) fun b hb _=>hbW.block b hb
 have hhW:W.ownsRow 0 3 1 (.slice ha hn hc) next.length (lU next):=gF hh fun g hg=>hbW.block g (gC hh hg).1
 obtain⟨v', W1,A', hrun,⟨g', cap', rfl⟩,hB1,hkeep,hP', hF'⟩:=gWn hPW t l next (.slice ha hn hc) hhW hf hlen (w.heap.size+1) 1 (by rw[hW,<-hs1];exact gVm w1 _ _ _ _)
 have hBlt:B<w.heap.size:=(zza.1 h.plan).1
 obtain⟨p0,p1,pf⟩:=mN h.plan
 obtain⟨q0,q1,qf⟩:=mN (hB1.trans hPW.plan)
 obtain⟨z0,z1,zf⟩:=mN hP'.plan
 have hbx:∀X:World,X.heap[w.heap.size]? = w1.heap[w.heap.size]? -> X.cell? ⟨w.heap.size,0,none⟩=some (.int .u16 (t:Int))/\X.cell? ⟨w.heap.size,1,none⟩=some (.slice ha hn hc)/\X.cell? ⟨w.heap.size,2,none⟩=some (.int .i64 (l:Int)):=fun X hX=>by
  have:X.heap[w.heap.size]? = some (.cells #[.int .u16 (t:Int),.slice ha hn hc,.int .i64 (l:Int)] 167 (0,0)):=by rw[hX,hw1];exact World.alloc_heap_new w _
  have hc:=fun j=>cell_of_row X w.heap.size j _ _ _ this
  exact⟨hc 0,hc 1,hc 2⟩
 have hvne:v.ownBlock≠some w.heap.size:=fun e=>by
  have:=(gC h.row e).1
  omega
 have hS1:w1.drew.cell? ⟨w.heap.size,0,none⟩=some (.int .u16 (t:Int))/\w1.drew.cell? ⟨w.heap.size,1,none⟩=some (.slice ha hn hc)/\w1.drew.cell? ⟨w.heap.size,2,none⟩=some (.int .i64 (l:Int)):=hbx w1 rfl
 have hSW:W.cell? ⟨w.heap.size,0,none⟩=some (.int .u16 (t:Int))/\W.cell? ⟨w.heap.size,1,none⟩=some (.slice ha hn hc)/\W.cell? ⟨w.heap.size,2,none⟩=some (.int .i64 (l:Int)):=hbx W (hb2.block _ oo)
 have hSW1:=hbx W1 (by rw[hkeep _ (by have:=hb2.size;omega) hvne,hb2.block _ oo])
 have hSf:=hbx (W1.setCell ⟨B,1,none⟩ (.slice (some ⟨g', 0,none⟩) (L.length+1) cap')) (by rw[zzh _ _ _ _ (by show w.heap.size≠B;omega),hkeep _ (by have:=hb2.size;omega) hvne,hb2.block _ oo])
 have c1:w1.cell? ⟨B,1,none⟩=some v:=(hb1.cell (p:=⟨B,1,none⟩) hBlt).trans p1
 have cW:W.cell? ⟨B,1,none⟩=some v:=(hbW.cell (p:=⟨B,1,none⟩) hBlt).trans p1
 have HP:Hid (iA A' (W1.setCell ⟨B,1,none⟩ (.slice (some ⟨g', 0,none⟩) (L.length+1) cap')) B gv (L++[(t,next,l)])):=⟨_,_,hP'⟩
 have HF:Hid (Fr (fun k=>A k\/(Value.slice ha hn hc).ownBlock=some k) w A' (W1.setCell ⟨B,1,none⟩ (.slice (some ⟨g', 0,none⟩) (L.length+1) cap'))):=(Fr.of_below hbW).trans hF'
 have HW:Hid ((w1.alloc (.cells #[.int .u16 (t:Int),.slice ha hn hc,.int .i64 (l:Int)] 167)).drew=W):=hW.symm
 clear hPW hhW hP' hF' h hh hf p0 p1 pf q0 hB1 hkeep hbx hvne hb2 hbW hW hb1 z0 zf
 go_enter Tryz.func146,Tryz.ntmps146
 go_wp2_with fail
 rw[<-hw1]
 clear hw1
 refine wp_region_held_drew (S:=fun X=>X.cell? ⟨w.heap.size,0,none⟩=some (.int .u16 (t:Int))/\X.cell? ⟨w.heap.size,1,none⟩=some (.slice ha hn hc)/\X.cell? ⟨w.heap.size,2,none⟩=some (.int .i64 (l:Int))) hmx hS1 (fun hS=>?_)
 refine gA 0 (some 5) hS ?_ (hy:=by intro w hSw;obtain⟨s1,s2,s3⟩:=hSw;(try go_simp);with_reducible rfl)
 refine gA 1 (some 6) hS ?_ (hy:=by intro w hSw;obtain⟨s1,s2,s3⟩:=hSw;(try go_simp);with_reducible rfl)
 refine gA 2 (some 7) hS ?_ (hy:=by intro w hSw;obtain⟨s1,s2,s3⟩:=hSw;go_simp;with_reducible rfl)
 refine gA 3 (some 8) hS ?_ (hy:=by intro w hSw;obtain⟨s1,s2,s3⟩:=hSw;go_simp;with_reducible rfl)
 refine gA 5 (some 10) hS ?_ (hy:=by intro w hSw;obtain⟨s1,s2,s3⟩:=hSw;go_simp;with_reducible rfl)
 refine wpAnyH_ready (rs:=[4,6]) kr (by simp) (AllReadyH.cons rfl (fun K hK=>?_) (AllReadyH.cons rfl (fun K hK=>?_) AllReadyH.nil))
 ·go_simp
  refine hK.out _ _ hS1 (fun _=>?_);clear hK K
  try simp only[gQ]
  refine gT 6 kr rfl (fun K hK=>?_);go_simp;rw[HW.out];exact k16
 ·go_simp
  rw[HW.out];refine hK.out _ _ hSW (fun _=>?_);clear hK K
  try simp only[gQ]
  refine gT 4 kr rfl (fun K hK=>?_);go_simp;exact k16
end Go.Proofs.YtjkebndkeamijaaGreatDoor
namespace Go.Proofs.YtjkebndkeamijaaGreatDoor
open Go.ChangeShapes Go.WideShapes Go.ChangeAt Go.RowKit
theorem gQi (b o i:Nat):(⟨b,o,none⟩:Addr).add i=⟨b,o+i,none⟩:=by unfold Addr.add;split<;>simp_all
theorem own:ownKnob Tryz.prog.godebug=none:=by kernel_rfl
theorem hEt:laidOutB Tryz.prog=true:=by kernel_rfl
end Go.Proofs.YtjkebndkeamijaaGreatDoor
