/-
  PROVED HERE: what the texts DAFork, DANext, DALoop, DABox3 say.
-/
import Derived.Test.YtjkebndkeamijaaGreatDoorCA9
set_option maxRecDepth 100000
set_option maxHeartbeats 1000000
namespace Go.Proofs.YtjkebndkeamijaaGreatDoor
open Go.RowKit
theorem tL.cells {A:Nat->Prop}{w:World}{B:Nat}{gv v:Value}{rs:List vQ}{L:List gD}(h:tL A w B gv v rs L)(h0:0<L.length):∃g cap,v=.slice (some ⟨g,0,none⟩) L.length cap/\∀(i:Nat) (x:gD),L[i]? = some x →
  w.cell? ⟨g,i * 3,none⟩=some (.int .u16 (x.1:Int))/\w.cell? ⟨g,i * 3+2,none⟩=some (.int .i64 (x.2.2:Int))/\∃hv,w.cell? ⟨g,i * 3+1,none⟩=some hv/\w.ownsRow 0 3 1 hv x.2.1.length (lU x.2.1):=by
 obtain⟨g,cap,e,hc⟩:=gY h.row h0
 refine⟨g,cap,e,fun i x hx=>?_⟩
 obtain⟨r,h1,h2,h3,h4,_⟩:=h.each i x hx
 obtain⟨f0,f1,f2⟩:=gKn rs i r h1
 rw[h2] at f0
 rw[h3] at f2
 exact⟨hc _ _ f0,hc _ _ f2,r.2.1,hc _ _ f1,h4⟩
theorem Fr.drewN0 (A:Nat->Prop)(w:World)(q:Nat):Fr A w A (w.drewN q):=⟨⟨rfl,rfl,rfl,zzb _,fun _ _=>rfl⟩,fun _ _ _=>rfl,fun _ h=>.inl h⟩
theorem gDn {L:List gD}{p:Nat}(h:p<L.length):∃x,L[p]? = some x/\x.2.2=gG L p:=⟨L[p],zze h,by rw[nP (zze h)]⟩
theorem gYe (f:Nat->Nat->Nat)(m:Nat){l:List Nat}{j q:Nat}(h:l[j]? = some q):(l.take (j+1)).foldl f m=f ((l.take j).foldl f m) q:=by
 rw[List.take_add_one,h,List.foldl_append]
 rfl
theorem zZ (A:Nat->Prop)(B:Nat)(gv:Value)(L:List gD)(w:World)(ways:List Nat)(wa:Option Addr)(wn wc:Nat)(h:iA A w B gv L)(hh:w.ownsRow 0 3 1 (.slice wa wn wc) ways.length (lU ways))(hf:∀g,(Value.slice wa wn wc).ownBlock=some g->¬A g)(hlen:L.length<=2000000000)
  (hw0:ways≠[])(hw:∀q∈ways,q<L.length)(hwl:ways.length<=2000000000)(hll:∀p,gG L p<=2000000000) :
  Calls Tryz.prog 149 #[.pointer (some ⟨B,0,none⟩),.slice wa wn wc] w fun e w' => e=.returned (.int .i64 ((jH L ways).2:Int))/\∃A', iA A' w' B gv (jH L ways).1/\Fr (fun k=>A k\/(Value.slice wa wn wc).ownBlock=some k) w A' w' := by
 have HA:Hid (∀(q l:Nat),Calls Tryz.prog 146 #[.pointer (some ⟨B,0,none⟩),.agg #[.int .u16 0,.slice wa wn wc,.int .i64 (l:Int)]] (w.drewN q) fun e w' => e=.returned (.int .i64 (L.length:Int))/\∃A', iA A' w' B gv (L++[(0,ways,l)])/\Fr (fun k=>A k\/(Value.slice wa wn wc).ownBlock=some k) (w.drewN q) A' w') :=
  fun q l=>gJv A B gv L (w.drewN q) 0 l ways wa wn wc (h.kept (fun _ h=>h) fun _ _ _=>rfl) (gF hh fun _ _=>rfl) hf hlen
 obtain⟨v,rs,hP⟩:=h
 obtain⟨p0,p1,pf⟩:=mN hP.plan
 have hw1:0<ways.length:=List.length_pos_iff.2 hw0
 obtain⟨q0,hq0⟩:∃q,ways[0]? = some q:=⟨_,zze hw1⟩
 have hL0:0<L.length:=by have:=hw q0 (zzj hq0);omega
 obtain⟨g,cap,rfl,hc⟩:=hP.cells hL0
 obtain⟨wg,wcap,e,hwc⟩:=gY hh hw1
 cases e
 have hhead:ways.headD 0=q0:=by cases ways with | nil=>cases hq0 | cons a r=>simp at hq0;exact hq0
 have HG:Hid (∀q,q<L.length->w.cell? ⟨g,q * 3+2,none⟩=some (.int .i64 (gG L q:Int))):=fun q hq=>by
  obtain⟨x,hx,e⟩:=gDn hq;rw[<-e];exact(hc q x hx).2.1
 have hq0L:=hw q0 (zzj hq0)
 have c2:=HG.out q0 hq0L
 have c3:w.cell? ⟨wg,0,none⟩=some (.int .i64 (q0:Int)):=hwc 0 _ (gAw hq0)
 have HWC:Hid (∀(j q:Nat),ways[j]? = some q->w.cell? ⟨wg,j,none⟩=some (.int .i64 (q:Int))/\q<L.length):=fun j q hq=>⟨hwc j _ (gAw hq),hw q (zzj hq)⟩
 have HFL:Hid (jH L ways=(L++[(0,ways,ways.foldl (fun m q=>min m (gG L q)) (gG L q0))],L.length)):=by
  show _=_
  unfold jH lF;rw[hhead]
 have hb0:=hll q0
 have HLL:Hid (∀p,gG L p<=2000000000):=hll
 have HFo:Hid (∀j,(ways.take j).foldl (fun m q=>min m (gG L q)) (gG L q0)<=gG L q0):=fun j=>(gBm L (ways.take j) (gG L q0)).1
 obtain⟨m0,hm0⟩:∃m0,gG L q0=m0:=⟨_,rfl⟩
 rw[hm0] at c2 HFL HFo hb0
 obtain⟨Z,hZ⟩:∃Z,ways.foldl (fun m q=>min m (gG L q)) m0=Z:=⟨_,rfl⟩
 rw[HFL.out,hZ]
 have HZ:Hid (ways.foldl (fun m q=>min m (gG L q)) m0=Z):=hZ
 clear hZ HFL
 have HNt:Hid (ways.take ways.length=ways):=by show _=_;rw[zzm (zzb _)]
 have HNl:Hid (∀j,j<ways.length->∃q,ways[j]? = some q):=fun j hj=>⟨_,zze hj⟩
 generalize ways.length=N at *
 have hq0i:(q0:Int)<(L.length:Int):=by omega
 have hN0:(0:Int)<(N:Int):=by omega
 have hq0n:(0:Int)<=(q0:Int):=by omega
 clear hP hc hwc hw hh hhead hq0 hf hm0 hll
 go_enter Tryz.func149,Tryz.ntmps149
 go_wp2_with fail
 go_quiet (fail)
 go_wp2_with fail
 go_loop [5,20] (fun m i=>∃j:Nat,j<=N/\i=.int .i64 (j:Int)/\m=.int .i64 (((ways.take j).foldl (fun m q=>min m (gG L q)) m0:Nat):Int)) (fun _ i=>N - (intOf i).toNat)
 case atStart=>exact⟨0,oo,rfl,rfl⟩
 case round=>
  obtain⟨j,hj,rfl,rfl⟩:=hrel;have hfo:=HFo.out j
  by_cases hlt:j<N
  ·obtain⟨q,hq⟩:=HNl.out j hlt
   obtain⟨d1,hqL⟩:=HWC.out j q hq;have d2:=HG.out q hqL;have hst:=gYe (fun m q=>min m (gG L q)) m0 hq;have hbq:=HLL.out q;have HS:Hid ((ways.take (j+1)).foldl (fun m q=>min m (gG L q)) m0=min ((ways.take j).foldl (fun m q=>min m (gG L q)) m0) (gG L q)):=hst;(have hqi:(q:Int)<(L.length:Int):=by omega);(have hji:(j:Int)<(N:Int):=by omega);clear hst hq;generalize (ways.take j).foldl (fun m q=>min m (gG L q)) m0=z at *;generalize gG L q=y at *;go_wp2
   all_goals
    go_round
    case rel=>exact⟨j+1,oo,rfl,by rw[HS.out];congr 1;first | omega | (split<;>omega)⟩
    case measure=>simp[intOf];omega
  ·obtain rfl:j=N:=by omega
   rw[HNt.out,HZ.out];(go_wp2_with fail);refine(HA.out _ Z).mono ?_;rintro e W ⟨rfl,A', hP', hF'⟩;go_wp2;go_ret;exact⟨rfl,A', hP', (Fr.drewN0 _ _ _).trans hF'⟩
theorem iA.tight {A:Nat->Prop}{w:World}{B:Nat}{gv:Value}{L:List gD}(h:iA A w B gv L):iA (fun b=>A b/\b<w.heap.size) w B gv L:=by
 obtain⟨v,rs,h⟩:=h
 refine⟨v,rs,h.plan,⟨h.own,(zza.1 h.plan).1⟩,h.row,fun g hg=>⟨h.rowA g hg,(gC h.row hg).1⟩,h.len,fun i x hx=>?_,h.apart⟩
 obtain⟨r,h1,h2,h3,h4,h5⟩:=h.each i x hx
 exact⟨r,h1,h2,h3,h4,fun g hg=>⟨h5 g hg,(gC h4 hg).1⟩⟩
theorem wf.least_le {L:List gD}(h:wf L):∀p,gG L p<=p:=by
 intro p
 induction p using Nat.strongRecOn with
 | _ p ih=>
  cases hx:L[p]? with
  | none=>unfold gG;rw[hx];exact zzn _
  | some x=>
   rw[nP hx];rcases Nat.eq_zero_or_pos p with rfl | hp
   ·rw[h.1] at hx
    cases hx;exact zzb _
   ·rcases h.2 p x hp hx with ⟨_,q,_,hq,e⟩ | ⟨_,_,q,_,hq,e⟩
    ·have:=ih q hq
     omega
    ·have:=ih q hq
     omega
theorem wf.least_lt {L:List gD}(h:wf L)(p:Nat):gG L p<=L.length:=by
 rcases Nat.lt_or_ge p L.length with hp | hp
 ·have:=h.least_le p
  omega
 ·unfold gG
  rw[List.getElem?_eq_none hp];exact zzn _
theorem gIv (w:World)(q:Nat):(w.alloc (.cells #[.int .i64 (q:Int)] 3)).ownsRow 0 3 1 (.slice (some ⟨w.heap.size,0,none⟩) 1 1) 1 (lU [q]) :=
 ⟨rfl,.inr ⟨w.heap.size,1,#[.int .i64 (q:Int)],rfl,zzn _,World.alloc_heap_new w _,zzb _,by unfold maxLen;omega,rfl,rfl⟩⟩
theorem gWs (w:World)(p q:Nat):(w.alloc (.cells #[.int .i64 (p:Int),.int .i64 (q:Int)] 3)).ownsRow 0 3 1 (.slice (some ⟨w.heap.size,0,none⟩) 2 2) 2 (lU [p,q]) :=
 ⟨rfl,.inr ⟨w.heap.size,2,#[.int .i64 (p:Int),.int .i64 (q:Int)],rfl,zzn _,World.alloc_heap_new w _,zzb _,by unfold maxLen;omega,rfl,rfl⟩⟩
theorem gZt:∀(rs:List vQ) (i:Nat) (r:vQ) (hv:Value),rs[i]? = some r->vW (rs.set i (r.1,hv,r.2.2))=(vW rs).set (i * 3+1) hv:=by
 intro rs
 induction rs with
 | nil=>intro i r hv h;simp at h
 | cons y rs ih=>
  intro i r hv h;cases i with
  | zero=>
   obtain rfl:y=r:=by simpa using h
   rfl
  | succ i=>
   have:=ih i r hv (by simpa using h)
   rw[show (i+1) * 3+1=i * 3+1+3 from by omega];simp only[List.set_cons_succ,vW,this]
theorem k53{p:Prop}(h:p:=by
  obtain⟨h1,h2⟩:=h;refine⟨by rw[List.length_set];exact h1,?_⟩;rcases h2 with ⟨e1,_⟩ | ⟨g', cap', cur,e1,hb,hg,h3,h4,h5,h6⟩
  ·cases e1
  ·cases e1
   refine .inr ⟨g,cap,cur.setIfInBounds k u,rfl,hb,heap_setCell_same w g k cur e u hg,h3,h4,by simpa using h5,?_⟩;rw[Array.toList_setIfInBounds,List.take_set,h6]
  ):p:=h
theorem hAs {w:World}{e:TypeId}{sz g n cap:Nat}{xs:List Value}(h:w.ownsRow 0 e sz (.slice (some ⟨g,0,none⟩) n cap) n xs)(k:Nat)(u:Value)(_hk:k<n * sz):(w.setCell ⟨g,k,none⟩ u).ownsRow 0 e sz (.slice (some ⟨g,0,none⟩) n cap) n (xs.set k u):=by
 exact k53
theorem gWo {A:Nat->Prop}{W:World}{B:Nat}{gv:Value}{g cap:Nat}{rs:List vQ}{L:List gD}(h:tL A W B gv (.slice (some ⟨g,0,none⟩) L.length cap) rs L)(i q:Nat)(x:gD)(hi:L[i]? = some x)(hlen:x.2.1.length<=1048576)
  (b bc:Nat) (hc:∀j u,[Value.int .i64 (q:Int)][j]? = some u->W.cell? ((⟨b,0,none⟩:Addr).add j)=some u) :
  ∃hv v' W1 A', W.cell? ⟨g,i * 3+1,none⟩=some hv/\(Builtin.append_ #[61,61] 61 #[hv,.slice (some ⟨b,0,none⟩) 1 bc]).run Tryz.prog W=.ok v' W1/\(∃a n c,v' = .slice a n c)/\W1.heap[B]? = W.heap[B]? /\ W1.heap[g]? = W.heap[g]? ∧
   iA A' (W1.setCell ⟨g,i * 3+1,none⟩ v') B gv (nX L i q)/\Fr A W A' (W1.setCell ⟨g,i * 3+1,none⟩ v'):=by
 obtain⟨i0,hI,hz0,hz1,hz2⟩:=info_parts gEu
 obtain⟨r,h1,h2,h3,h4,h5⟩:=h.each i x hi
 obtain⟨v', W1,hrun,r1,r2,_,r4⟩:=run_append_own_at (P:=Tryz.prog) W 0 61 61 3 i0 _ 1 8 Tryz.underlying61 hI hz0 hz1 hz2 rfl (by decide) r.2.1 x.2.1.length _ h4 ⟨b,0,none⟩ 1 bc [.int .i64 (q:Int)] rfl hc (fun u hu=>by
  simp at hu;subst hu
  rfl) (by unfold maxLen;omega) oo (zzn _)
 have hiL:i<L.length:=(zzc.1 hi).1
 have hg:∃cur,W.heap[g]? = some (.cells cur 167 (0,0)):=(gC h.row (g:=g) rfl).2
 obtain⟨cur,hcur⟩:=hg
 have hglt:g<W.heap.size:=(zza.1 hcur).1
 have hBlt:B<W.heap.size:=(zza.1 h.plan).1
 have hgB:g≠B:=fun e=>by subst e;rw[h.plan] at hcur;cases hcur
 have hrnum:∀k,r.2.1.ownBlock=some k->k≠g/\k≠B:=fun k hk=>by
  obtain⟨_,c,hc⟩:=gC h4 hk;exact⟨fun e=>(by subst e;rw[hcur] at hc;cases hc),fun e=>(by subst e;rw[h.plan] at hc;cases hc)⟩
 have hsame:∀k,k<W.heap.size->r.2.1.ownBlock≠some k->W1.heap[k]? = W.heap[k]? := fun k hk hne=>r2.block k hk (fun e=>hne e.symm)
 have hB1:W1.heap[B]? = W.heap[B]? := hsame B hBlt (fun e=>(hrnum B e).2 rfl)
 have hg1:W1.heap[g]? = W.heap[g]? := hsame g hglt (fun e=>(hrnum g e).1 rfl)
 have hset:∀k,k≠g->(W1.setCell ⟨g,i * 3+1,none⟩ v').heap[k]? = W1.heap[k]? := fun k hk=>zzh W1 _ _ k hk
 have hv'g:∀k,v'.ownBlock=some k->k≠g:=fun k hk e=>by
  rcases r4 with e1 | e1
  ·rw[e1] at hk
   exact(hrnum k hk).1 e
  ·rw[e1] at hk
   cases hk;omega
 have hvs:∃a n c,v' = .slice a n c:=by
  rcases r1.2 with ⟨e,_⟩ | ⟨g', c', _,e,_⟩
  ·exact⟨_,_,_,e⟩
  ·exact⟨_,_,_,e⟩
 obtain⟨f0,f1,f2⟩:=gKn rs i r h1
 obtain⟨g2,cap2,e2,hcells⟩:=gY h.row oo
 cases e2
 refine⟨r.2.1,v', W1,fun k=>A k\/v'.ownBlock=some k,hcells _ _ f1,hrun,hvs,hB1,hg1,⟨.slice (some ⟨g,0,none⟩) L.length cap,rs.set i (r.1,v', r.2.2),?_,.inl h.own,?_,fun k hk=>.inl (h.rowA k hk),?_,fun j y hy=>?_,?_⟩,⟨?_,fun k hk hn=>?_,fun k hk=>?_⟩⟩
 ·rw[hset B (Ne.symm hgB),hB1]
  exact h.plan
 ·rw[kF,gZt rs i r v' h1]
  exact hAs (gF h.row fun k hk=>by cases hk;exact hg1) _ _ oo
 ·rw[List.length_set,kF]
  exact h.len
 ·by_cases hji:j=i
  ·subst hji
   rw[tJ hi] at hy;cases hy;refine⟨(r.1,v', r.2.2),?_,h2,h3,?_,fun k hk=>.inr hk⟩
   ·rw[List.getElem?_set]
    simp[h.len,hiL]
   ·have:=gF (w' := W1.setCell ⟨g,j * 3+1,none⟩ v') r1 fun k hk=>hset k (hv'g k hk)
    simpa [lU] using this
  ·rw[pO hji] at hy
   obtain⟨s,s1,s2,s3,s4,s5⟩:=h.each j y hy;refine⟨s,?_,s2,s3,gF s4 fun k hk=>?_,fun k hk=>.inl (s5 k hk)⟩
   ·rw[List.getElem?_set]
    simp[Ne.symm hji,s1]
   ·obtain⟨hlt,c,hcc⟩:=gC s4 hk
    rw[hset k (fun e=>by subst e;rw[hcur] at hcc;cases hcc),hsame k hlt (fun e=>hji (h.apart j i s r k s1 h1 hk e))]
 ·have hget:∀(j:Nat) (s:vQ),(rs.set i (r.1,v', r.2.2))[j]? = some s->(j=i/\s=(r.1,v', r.2.2))\/(j≠i/\rs[j]? = some s):=fun j s hs=>by
   rw[List.getElem?_set] at hs
   by_cases hji:i=j
   ·subst hji
    simp[h.len,hiL] at hs;exact .inl ⟨rfl,hs.symm⟩
   ·rw[if_neg hji] at hs
    exact .inr ⟨Ne.symm hji,hs⟩
  have hold:∀(j:Nat) (s:vQ) (k:Nat),j≠i->rs[j]? = some s->s.2.1.ownBlock=some k->v'.ownBlock≠some k:=fun j s k hji hs hk e=>by
   obtain⟨y,hy⟩:∃y,L[j]? = some y:=⟨_,zze (by rw[<-h.len];exact(zzc.1 hs).1)⟩;obtain⟨s', s1,_,_,s4,_⟩:=h.each j y hy;rw[hs] at s1;cases s1;rcases r4 with e1 | e1
   ·rw[e1] at e
    exact hji (h.apart j i s r k hs h1 hk e)
   ·rw[e1] at e
    cases e
    have:=(gC s4 hk).1
    omega
  intro j l rj rl k hj hl gj gl;rcases hget j rj hj with ⟨j1,rfl⟩ | ⟨j1,j2⟩<;>rcases hget l rl hl with ⟨l1,rfl⟩ | ⟨l1,l2⟩
  ·rw[j1,l1]
  ·exact absurd gj (hold l rl k l1 l2 gl)
  ·exact absurd gl (hold j rj k j1 j2 gj)
  ·exact h.apart j l rj rl k j2 l2 gj gl
 ·exact k145
 ·rw[hset k (fun e=>hn (h.rowA k (by rw[e];rfl)))]
  exact hsame k hk (fun e=>hn (h5 k e))
 ·rcases hk with hk | hk
  ·exact .inl hk
  ·rcases r4 with e | e
   ·rw[e] at hk
    exact .inl (h5 k hk)
   ·rw[e] at hk
    cases hk;exact .inr (zzb _)
def iM (gs:List Grp):Nat->DataW Unit->Nat->List gD->List gD×Nat:=lay iE (fun t=>kD gs (nV t)) subs
def qS (gs:List Grp):Nat->DataW Unit->Prop:=gCx iE (fun t=>kD gs (nV t)) subs
theorem uQ (gs:List Grp)(n:Nat)(t:DataW Unit)(h:qS gs n t):vY (iM gs n) (size subs n) t:=uO _ _ _ n t h
def gTz (W0:World)(gs:List Grp)(ga:Option Addr)(gl gc:Nat)(n:Nat):Prop :=
 ∀(t:DataW Unit) (v:Value) (w:World) (next:Nat) (A:Nat->Prop) (B:Nat) (L:List gD),Ex W0 n t v->qS gs n t->Below W0.heap.size W0 w->(∀b,A b->W0.heap.size<=b)->iA A w B (.slice ga gl gc) L->wf L->next<L.length->L.length+qQ subs n t<=1000000000 →
  Calls Tryz.prog 118 #[.pointer (some ⟨B,0,none⟩),v,.int .i64 (next:Int)] w fun e w' => e=.returned (.int .i64 ((iM gs n t next L).2:Int))/\∃A', iA A' w' B (.slice ga gl gc) (iM gs n t next L).1/\Fr A w A' w'
theorem pA {g n c k:Nat}(h:(Value.slice (some ⟨g,0,none⟩) n c).ownBlock=some k):k=g:=(zzo h).symm
theorem Fr.wide {A A1 A' : Nat->Prop}{w w' : World}(h:Fr A1 w A' w')(hA:∀b,A1 b->A b):Fr A w A' w' := h.less fun b hb=>.inl (hA b hb)
theorem k19{p:Prop}(h:p:=by
  refine hK.out _ _ xB (fun _=>?_);clear hK K
  try simp only[gQ]
  refine gT 15 kr rfl (fun K hK=>?_);rw[if_pos (by rfl)];refine nS _ _ 61 rfl _ _ (.slice a' n' c') W5 rfl rfl hrun ?_;refine hK.out _ _ y1 (fun _=>?_);clear hK K
  try simp only[Act.put,List.setIfInBounds_toArray]
  refine jQ 16 (some 34) (v:=?_) y1 ?_ ?_
  rotate_left
  ·intro w hSw
   go_simp
   with_reducible rfl
  try simp only[Act.put]
  refine jQ 17 (some 35) (v:=?_) y1 ?_ ?_
  rotate_left
  ·intro w hSw
   go_simp
   with_reducible rfl
  try simp only[Act.put]
  refine gT 18 kr rfl (fun K hK=>?_);rw[if_pos (by rfl)];go_simp;refine hK.out _ _ z1 (fun _=>?_);clear hK K
  try simp only[gQ]
  refine wpAnyH_done kr ?_ _;go_wp2;go_ret2;exact⟨rfl,A3,HE.out.1,HE.out.2⟩
  ):p:=h
theorem gGp (W0:World)(gs:List Grp)(ga:Option Addr)(gl gc n:Nat)(hlay:gTz W0 gs ga gl gc n)(t:DataW Unit)(v:Value)(w:World)(next:Nat)(A:Nat->Prop)(B:Nat)(L:List gD)(hE:Ex W0 n t v)(hS:qS gs n t)(hB:Below W0.heap.size W0 w)(hA:∀b,A b->W0.heap.size<=b)
  (hP:iA A w B (.slice ga gl gc) L)(hwf:wf L)(hn:next<L.length)(hlen:L.length+(1+qQ subs n t)<=1000000000) :
  Calls Tryz.prog 150 #[.pointer (some ⟨B,0,none⟩),v,.int .i64 (next:Int)] w fun e w' => e=.returned (.tuple #[.int .i64 ((iI (iM gs n) [t] next L).2.1:Int),.int .i64 ((iI (iM gs n) [t] next L).2.2:Int)])/\∃A', iA A' w' B (.slice ga gl gc) (iI (iM gs n) [t] next L).1/\Fr A w A' w' := by
 obtain⟨k,s,a,len,cap,rfl⟩:∃k s a len cap,v=.agg #[.int .i64 k,.string s,.slice a len cap]:=by
  cases n with
  | zero=>exact hE.elim
  | succ n=>obtain⟨k,s,a,len,cap,ts,_,rfl,_⟩:=hE;exact⟨k,s,a,len,cap,rfl⟩
 obtain⟨w1,hw1⟩:∃w1,w1=w.alloc (.cells #[.int .i64 k,.string s,.slice a len cap] 69):=⟨_,rfl⟩
 have hb1:Below w.heap.size w w1:=by rw[hw1];exact(zzd _ w).alloc (zzb _) _
 have hs1:w1.heap.size=w.heap.size+1:=by rw[hw1];simp
 obtain⟨w2,hw2⟩:∃w2,w2=w1.alloc (.cells #[.int .i64 (next:Int)] 3):=⟨_,rfl⟩
 have hb2:Below w1.heap.size w1 w2:=by rw[hw2];exact(zzd _ w1).alloc (zzb _) _
 have hs2:w2.heap.size=w.heap.size+2:=by rw[hw2];simp[hs1]
 have hbw2:Below w.heap.size w w2:=hb1.trans (hb2.mono oo)
 have hbase:=hB.size
 have hP2:iA (fun b=>A b/\b<w.heap.size) w2 B (.slice ga gl gc) L:=hP.tight.kept (fun _ h=>h) fun b hb _=>hbw2.block b hb
 have hrow:w2.ownsRow 0 3 1 (.slice (some ⟨w.heap.size+1,0,none⟩) 1 1) [next].length (lU [next]):=by rw[hw2,<-hs1];exact gIv w1 next
 have hfork:=zZ (fun b=>A b/\b<w.heap.size) B (.slice ga gl gc) L w2 [next] _ 1 1 hP2 hrow (fun g hg h=>by have:=pA hg;have:=h.2;omega) oo (by simp) (by simpa using hn) (by simp) (fun p=>by have:=hwf.least_lt p;omega)
 obtain⟨c1,c2,c3,c4,c5⟩:=uR hwf (ways:=[next]) (by simp) (by simpa using hn) (m:=gG L next) (by simp)
 obtain⟨a1,a2,a3,a4,a5,a6⟩:=uQ gs n t hS L.length (jH L [next]).1 c1 oo
 have hrl:(iM gs n t L.length (jH L [next]).1).1[L.length]? = some (0,[next],lF L [next]):=(a4 _ oo).trans jR
 have e2:(jH L [next]).2=L.length:=rfl
 rw[e2] at hfork
 have HX:Hid (∀(W3:World) (A1:Nat->Prop),iA A1 W3 B (.slice ga gl gc) (jH L [next]).1->Fr (fun k=>(A k/\k<w.heap.size)\/(Value.slice (some ⟨w.heap.size+1,0,none⟩) 1 1).ownBlock=some k) w2 A1 W3 →
   W3.cell? ⟨w.heap.size,0,none⟩=some (.int .i64 k)/\W3.cell? ⟨w.heap.size,1,none⟩=some (.string s)/\W3.cell? ⟨w.heap.size,2,none⟩=some (.slice a len cap)/\(∀b,A1 b->W0.heap.size<=b)/\Below W0.heap.size W0 W3/\Fr A w A1 W3):=by
  intro W3 A1 hP3 hF3
  have hnb:¬((A w.heap.size/\w.heap.size<w.heap.size)\/(Value.slice (some ⟨w.heap.size+1,0,none⟩) 1 1).ownBlock=some w.heap.size):=by
   rintro (h | h)
   ·omega
   ·have:=pA h
    omega
  have hbk:W3.heap[w.heap.size]? = some (.cells #[.int .i64 k,.string s,.slice a len cap] 69 (0,0)):=by
   rw[hF3.same _ oo hnb,hb2.block _ oo,hw1];exact World.alloc_heap_new w _
  have hc:=fun j=>cell_of_row W3 w.heap.size j _ _ _ hbk
  have hge:∀b,(A b/\b<w.heap.size)\/(Value.slice (some ⟨w.heap.size+1,0,none⟩) 1 1).ownBlock=some b->W0.heap.size<=b:=by
   rintro b (h | h)
   ·exact hA b h.1
   ·have:=pA h
    omega
  have hFw:Fr A w A1 W3:=((Fr.of_below hbw2).trans hF3).less (by
   rintro b (h | h)
   ·exact .inl h.1
   ·have:=pA h
    exact .inr oo)
  refine⟨hc 0,hc 1,hc 2,fun b hb=>?_,hB.trans (hFw.toBelow hbase (fun b hb h=>by have:=hA b h;omega)),hFw⟩;rcases hFw.sub b hb with h | h
  ·exact hA b h
  ·omega
 have HL:Hid (∀(W3:World) (A1:Nat->Prop),iA A1 W3 B (.slice ga gl gc) (jH L [next]).1->(∀b,A1 b->W0.heap.size<=b)->Below W0.heap.size W0 W3->Calls Tryz.prog 118 #[.pointer (some ⟨B,0,none⟩),.agg #[.int .i64 k,.string s,.slice a len cap],.int .i64 (L.length:Int)] W3 fun e w' => e=.returned (.int .i64 ((iM gs n t L.length (jH L [next]).1).2:Int))/\∃A', iA A' w' B (.slice ga gl gc) (iM gs n t L.length (jH L [next]).1).1/\Fr A1 W3 A' w') :=
  fun W3 A1 h1 h2 h3=>hlay t _ W3 L.length A1 B _ hE hS h3 h2 h1 c1 oo oo
 rw[iI]
 generalize hr:iM gs n t L.length (jH L [next]).1=r at *
 obtain⟨R,f⟩:=r
 simp only at *
 have hsn:=gIn subs n t
 have hRL:L.length<R.length:=by omega
 have HN:Hid (∀(W4:World) (A2:Nat->Prop),iA A2 W4 B (.slice ga gl gc) R->∃v g cap,v=.slice (some ⟨g,0,none⟩) R.length cap/\W4.cell? ⟨B,1,none⟩=some v ∧
   (∀(X:World) (b bc:Nat),(∀k,k<W4.heap.size->X.heap[k]? = W4.heap[k]?)->(∀j u,[Value.int .i64 (f:Int)][j]? = some u->X.cell? ((⟨b,0,none⟩:Addr).add j)=some u)->X.cell? ⟨B,1,none⟩=some v/\∃hv a n c W1 A', X.cell? ⟨g,L.length * 3+1,none⟩=some hv/\W4.cell? ⟨g,L.length * 3+1,none⟩=some hv/\(Builtin.append_ #[61,61] 61 #[hv,.slice (some ⟨b,0,none⟩) 1 bc]).run Tryz.prog X=.ok (.slice a n c) W1/\W1.cell? ⟨B,1,none⟩=some v/\(W1.setCell ⟨g,L.length * 3+1,none⟩ (.slice a n c)).cell? ⟨B,1,none⟩=some v/\(∃u,W1.cell? ⟨g,L.length * 3+1,none⟩=some u)/\W1.frozen? ⟨g,L.length * 3+1,none⟩=false ∧
    iA A' (W1.setCell ⟨g,L.length * 3+1,none⟩ (.slice a n c)) B (.slice ga gl gc) (nX R L.length f)/\Fr A2 X A' (W1.setCell ⟨g,L.length * 3+1,none⟩ (.slice a n c)))):=by
  rintro W4 A2 ⟨v,rs,hP4⟩;obtain⟨g,cap4,rfl,hc4⟩:=hP4.cells oo;obtain⟨_,p1,_⟩:=mN hP4.plan;refine⟨_,g,cap4,rfl,p1,fun X b bc hX hcell=>?_⟩;(have hPX:tL A2 X B (.slice ga gl gc) (.slice (some ⟨g,0,none⟩) R.length cap4) rs R:=hP4.kept (fun _ h=>h) fun k hk _=>hX k hk);obtain⟨hv,v', W1,A', d1,d2,⟨a', n', c', rfl⟩,d4,d5,d6,d7⟩:=gWo hPX L.length f _ hrl (by simp) b bc hcell;obtain⟨_,x1,_⟩:=mN hPX.plan;obtain⟨_,y1,_⟩:=mN (d4.trans hPX.plan);obtain⟨v6,rs6,hP6⟩:=d6;obtain⟨hglt,cur,hcur⟩:=gC hPX.row (g:=g) rfl;(have hgB:g≠B:=fun e=>by subst e;rw[hPX.plan] at hcur;cases hcur);have hW4g:W4.heap[g]? = X.heap[g]? := (hX g (gC hP4.row (g:=g) rfl).1).symm;refine⟨x1,hv,a', n', c', W1,A', d1,?_,d2,y1,?_,⟨hv,?_⟩,?_,⟨v6,rs6,hP6⟩,d7⟩
  ·rw[<-d1]
   exact zzi (w:=X) (a:=⟨g,L.length * 3+1,none⟩) hW4g
  ·have:(W1.setCell ⟨g,L.length * 3+1,none⟩ (.slice a' n' c')).cell? ⟨B,1,none⟩=W1.cell? ⟨B,1,none⟩:=zzi (w:=W1) (a:=⟨B,1,none⟩) (zzh W1 _ _ B (Ne.symm hgB))
   rw[this];exact y1
  ·have:W1.cell? ⟨g,L.length * 3+1,none⟩=X.cell? ⟨g,L.length * 3+1,none⟩:=zzi (w:=X) (a:=⟨g,L.length * 3+1,none⟩) d5
   rw[this];exact d1
  ·simp[World.frozen?,d5.trans hcur]
 have HFK:Hid (Calls Tryz.prog 149 #[.pointer (some ⟨B,0,none⟩),.slice (some ⟨w.heap.size+1,0,none⟩) 1 1] w2 fun e w' => e=.returned (.int .i64 (L.length:Int))/\∃A', iA A' w' B (.slice ga gl gc) (jH L [next]).1/\Fr (fun k=>(A k/\k<w.heap.size)\/(Value.slice (some ⟨w.heap.size+1,0,none⟩) 1 1).ownBlock=some k) w2 A' w'):=hfork
 have HW2:Hid ((w.alloc (.cells #[.int .i64 k,.string s,.slice a len cap] 69)).alloc (.cells #[.int .i64 (next:Int)] 3)=w2):=by show _=_;rw[hw2,hw1]
 have hRi:(L.length:Int)<(R.length:Int):=by omega
 have hR1:(R.length:Int)<=2000000000:=by omega
 have hL0:(0:Int)<=(L.length:Int):=by omega
 clear hfork hP2 hrow hw1 hw2 hb1 hb2 hbw2 hP hE hS hlay hB hA hwf c1 c2 c3 c4 c5 a1 a2 a3 a4 a5 a6 hrl hr hs1 hs2
 go_enter Tryz.func150,Tryz.ntmps150
 go_wp2_with fail
 rw[HW2.out]
 refine HFK.out.mono ?_
 rintro e W3 ⟨rfl,A1,hP3,hF3⟩
 obtain⟨x0,x1,x2,hA3,hB3,hFw⟩:=HX.out W3 A1 hP3 hF3
 have HFw:Hid (Fr A w A1 W3):=hFw
 go_wp2_with fail
 refine(HL.out W3 A1 hP3 hA3 hB3).mono ?_
 rintro e W4 ⟨rfl,A2,hP4,hF4⟩
 obtain⟨v,g,cap4,hv,q1,hnx⟩:=HN.out W4 A2 hP4
 subst hv
 obtain⟨X,hXd⟩:∃X,X=(W4.alloc (.cells #[.int .i64 (f:Int)] 3)).drew:=⟨_,rfl⟩
 obtain⟨xB,hv,a', n', c', W5,A3,xh,qh,hrun,y1,z1,⟨yu,yh⟩,yf,hP5,hF5⟩:=hnx X W4.heap.size 1 (fun k hk=>by rw[hXd];exact zzf W4 _ k hk) (by rw[hXd];exact cell_one_new W4 _ _)
 have HE:Hid (iA A3 (W5.setCell ⟨g,L.length * 3+1,none⟩ (.slice a' n' c')) B (.slice ga gl gc) (nX R L.length f)/\Fr A w A3 (W5.setCell ⟨g,L.length * 3+1,none⟩ (.slice a' n' c'))):=by
  refine⟨hP5,HFw.out.trans (hF4.trans (Fr.trans (Fr.of_below ?_) hF5))⟩;rw[hXd];exact((zzd _ W4).alloc (zzb _) _).drew
 have HXd:Hid ((W4.alloc (.cells #[.int .i64 (f:Int)] 3)).drew=X):=hXd.symm
 clear hP5 hF5 hnx HN HL HX HFK hP3 hF3 hA3 hB3 hFw hP4 hF4 hXd x0 x1 x2 HFw
 go_wp2_with fail
 refine wp_region_held_drew (S:=fun X=>X.cell? ⟨B,1,none⟩=some (.slice (some ⟨g,0,none⟩) R.length cap4)) hmx q1 (fun hS=>?_)
 refine gA 0 (some 18) hS ?_
 refine gA 1 (some 19) hS ?_
 refine gA 2 (some 20) hS ?_
 refine gA 3 (some 21) hS ?_
 refine gA 4 (some 22) hS ?_
 refine gA 5 (some 23) hS ?_
 refine gA 6 (some 24) hS ?_
 refine gA 7 (some 25) hS ?_
 refine gA 8 (some 26) hS ?_
 refine gA 9 (some 27) hS ?_
 refine gA 10 (some 28) hS ?_
 refine gA 11 (some 29) hS ?_
 refine gA 13 (some 31) hS ?_
 refine wpAnyH_ready (rs:=[12,14]) kr (by simp) (AllReadyH.cons rfl (fun K hK=>?_) (AllReadyH.cons rfl (fun K hK=>?_) AllReadyH.nil))
 ·go_simp
  refine hK.out _ _ q1 (fun _=>?_);clear hK K
  try simp only[gQ]
  refine gT 14 kr rfl (fun K hK=>?_);go_simp;rw[HXd.out];exact k19
 ·go_simp
  rw[HXd.out];refine hK.out _ _ xB (fun _=>?_);clear hK K
  try simp only[gQ]
  refine gT 12 kr rfl (fun K hK=>?_);go_simp;exact k19
def qK (w:World)(B:Nat)(k:Int)(s:ByteArray)(a:Option Addr)(len cap next:Nat):World :=
 ((w.alloc (.cells #[.pointer (some ⟨B,0,none⟩)] 164)).alloc (.cells #[.int .i64 k,.string s,.slice a len cap] 69)).alloc (.cells #[.int .i64 (next:Int)] 3)
theorem mJ (w:World)(B:Nat)(k:Int)(s:ByteArray)(a:Option Addr)(len cap next:Nat):(qK w B k s a len cap next).heap.size=w.heap.size+3:=by unfold qK;simp
theorem nK (w:World)(B:Nat)(k:Int)(s:ByteArray)(a:Option Addr)(len cap next:Nat):Below w.heap.size w (qK w B k s a len cap next):=by
 unfold qK
 exact(((zzd _ w).alloc (zzb _) _).alloc (by simp) _).alloc (by simp;omega) _
theorem gBd (w:World)(B:Nat)(k:Int)(s:ByteArray)(a:Option Addr)(len cap next:Nat) :
  (qK w B k s a len cap next).heap[w.heap.size]? = some (.cells #[.pointer (some ⟨B,0,none⟩)] 164 (0,0))/\(qK w B k s a len cap next).heap[w.heap.size+1]? = some (.cells #[.int .i64 k,.string s,.slice a len cap] 69 (0,0))/\(qK w B k s a len cap next).heap[w.heap.size+2]? = some (.cells #[.int .i64 (next:Int)] 3 (0,0)):=by
 unfold qK
 refine⟨?_,?_,?_⟩
 ·rw[zzf _ _ _ (by simp;omega),zzf _ _ _ (by simp)]
  exact World.alloc_heap_new w _
 ·rw[zzf _ _ _ (by simp)]
  have:=World.alloc_heap_new (w.alloc (.cells #[.pointer (some ⟨B,0,none⟩)] 164)) (.cells #[.int .i64 k,.string s,.slice a len cap] 69)
  rwa [World.size_alloc] at this
 ·have:=World.alloc_heap_new ((w.alloc (.cells #[.pointer (some ⟨B,0,none⟩)] 164)).alloc (.cells #[.int .i64 k,.string s,.slice a len cap] 69)) (.cells #[.int .i64 (next:Int)] 3)
  rwa [World.size_alloc,World.size_alloc] at this
theorem oJ {w X:World}{B:Nat}{k:Int}{s:ByteArray}{a:Option Addr}{len cap next:Nat}(h:∀b,b<3->X.heap[w.heap.size+b]? = (qK w B k s a len cap next).heap[w.heap.size+b]?) :
  X.cell? ⟨w.heap.size,0,none⟩=some (.pointer (some ⟨B,0,none⟩))/\X.cell? ⟨w.heap.size+1,0,none⟩=some (.int .i64 k)/\X.cell? ⟨w.heap.size+1,1,none⟩=some (.string s)/\X.cell? ⟨w.heap.size+1,2,none⟩=some (.slice a len cap)/\X.cell? ⟨w.heap.size+2,0,none⟩=some (.int .i64 (next:Int)):=by
 obtain⟨b0,b1,b2⟩:=gBd w B k s a len cap next
 have h0:=(h 0 oo).trans b0
 have h1:=(h 1 oo).trans b1
 have h2:=(h 2 oo).trans b2
 exact⟨cell_of_row X _ 0 _ _ _ h0,cell_of_row X _ 0 _ _ _ h1,cell_of_row X _ 1 _ _ _ h1,cell_of_row X _ 2 _ _ _ h1,cell_of_row X _ 0 _ _ _ h2⟩
end Go.Proofs.YtjkebndkeamijaaGreatDoor
