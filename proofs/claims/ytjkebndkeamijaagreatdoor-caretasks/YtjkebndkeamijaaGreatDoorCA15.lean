/-
  PROVED HERE: what the texts DATake, DASane say.
-/
import Derived.Test.YtjkebndkeamijaaGreatDoorCA14
set_option maxRecDepth 100000
set_option maxHeartbeats 1000000
namespace Go.Proofs.YtjkebndkeamijaaGreatDoor
open Go.RowKit Go.Maps
theorem hEw {x:Int}{kl:Lit}(h:keyOf Tryz.prog 3 (.int .i64 x)=some kl):kl=.int .i64 x/\(Lit.int .i64 x).wf=true:=by
 obtain⟨y,e1,e2,e3⟩:=keyOf_int_inv Tryz.underlying3 h
 cases e1
 exact⟨e2,e3⟩
theorem k25{p:Prop}(h:p:=by
  go_simp;refine hK.out _ _ trivial (fun _=>?_);clear hK K
  try simp only[gQ]
  refine gA 10 (some 60) trivial ?_;refine gA 11 (some 61) trivial ?_;refine gT 12 kr rfl (fun K hK=>?_);rw[if_pos (by rfl)];go_simp;refine hK.out _ _ trivial (fun _=>?_);clear hK K
  try simp only[gQ]
  refine gA 13 (some 62) trivial ?_;refine gA 14 (some 63) trivial ?_;refine gT 15 kr rfl (fun K hK=>?_);rw[if_pos (by rfl)];go_simp;refine hK.out _ _ trivial (fun _=>?_);clear hK K
  try simp only[gQ]
  refine wpAnyH_done kr ?_ _;go_wp2
  go_end0
  exact⟨rfl,HE'.out⟩
  ):p:=h
theorem gQx (F:List gD)(N:Nat)(hF:yD F N)(Bw bh bs:Nat)(lv:Value)(Sh:Nat->Bool)(t:Int)(w:World)(h:pP w Bw lv bh bs N F Sh) :
  Calls Tryz.prog 120 #[.pointer (some ⟨Bw,0,none⟩),.int .i64 t] w fun e w' => e=.returned (.tuple #[])/\∃S', pP w' Bw lv bs bh N F S' /\ (∀q,S' q=true↔wA F (fun p=>Sh p=true) t q)/\Below 0 w w' /\ ∀k,k<w.heap.size->k≠Bw->k≠bh->k≠bs->w'.heap[k]? = w.heap[k]?:=by
 have hF0:0<F.length:=hF.wf.pos
 obtain⟨g,cap,rfl,hcell⟩:=h.pl.slice hF0
 obtain⟨c0,c1,c2,_,_⟩:=vO h.blk
 have hBlt:Bw<w.heap.size:=(zza.1 h.blk).1
 have hbhl:=h.here.lt
 have hbsl:=h.spare.lt
 have hBh:Bw≠bh:=fun e=>h.here.notCells (by rw[<-e];exact h.blk)
 have hBs:Bw≠bs:=fun e=>h.spare.notCells (by rw[<-e];exact h.blk)
 -- behind reach
 have HR:Hid (Calls Tryz.prog 119 #[.slice (some ⟨g,0,none⟩) F.length cap,.map (some bs)] w.drew fun e w' => e=.returned (.func (.func 151) #[] #[.pointer (some ⟨w.heap.size+1,0,none⟩),.pointer (some ⟨w.heap.size,0,none⟩),.pointer (some ⟨w.heap.size+1+1,0,none⟩)])/\Clo w' bs w.heap.size (w.heap.size+1) (w.heap.size+1+1) (.slice (some ⟨g,0,none⟩) F.length cap)/\w.drew.grownBy w' none):=gDi w.drew (some ⟨g,0,none⟩) F.length cap bs
 -- the beginning of the loop
 have HST:Hid (∀(W1:World) (w0:World) (D:DataW Unit),w.drew.grownBy W1 none->(∀kl,Maps.has D kl=true↔∃p:Nat,kl=.int .i64 (p:Int)/\Sh p=true)->w0.ranges Tryz.prog 3 unitElem bh W1.heap.size N D (Maps.has D) (Maps.size D)->W1.grownBy w0 none->yC F N (.slice (some ⟨g,0,none⟩) F.length cap) Sh t bh bs W1.heap.size W1 w0 (Maps.has D) (Maps.size D) D (fun _=>false)):=by
  intro W1 w0 D g1 hD hrg g0;refine⟨hrg,fun _=>rfl,fun kl hk=>(hD kl).1 hk,?_,fun q x hq=>(by cases hq),fun q=>⟨fun e=>(by cases e),?_⟩,fun b c ty hb=>g0.block b (zza.1 hb).1 (by simp),mL g0,fun k hk _ _=>g0.block k hk (by simp)⟩
  ·exact(kO.kept (w:=w.drew) h.spare g1 (by simp)).kept g0 (by simp)
  ·rintro⟨p,x,r,k,h1,h2,_⟩
   have:Maps.has D (.int .i64 (p:Int))=true:=(hD _).2 ⟨p,rfl,h1⟩
   rw[this] at h2;cases h2
 -- the end
 have HEND:Hid (∀(W1 wr:World) (left:Lit->Bool) (cnt:Nat) (D1:DataW Unit) (S1:Nat->Bool),w.drew.grownBy W1 none->yC F N (.slice (some ⟨g,0,none⟩) F.length cap) Sh t bh bs W1.heap.size W1 wr left cnt D1 S1->(∀kl,left kl=false) →
   (wr.cell? ⟨Bw,1,none⟩=some (.map (some bh))/\wr.cell? ⟨Bw,2,none⟩=some (.map (some bs))/\wr.frozen? ⟨Bw,1,none⟩=false/\wr.frozen? ⟨Bw,2,none⟩=false)/\∃S', pP ((wr.drew.setCell ⟨Bw,1,none⟩ (.map (some bs))).setCell ⟨Bw,2,none⟩ (.map (some bh))) Bw (.slice (some ⟨g,0,none⟩) F.length cap) bs bh N F S' /\ (∀q,S' q=true↔wA F (fun p=>Sh p=true) t q)/\Below 0 w ((wr.drew.setCell ⟨Bw,1,none⟩ (.map (some bs))).setCell ⟨Bw,2,none⟩ (.map (some bh)))/\∀k,k<w.heap.size->k≠Bw->k≠bh->k≠bs->((wr.drew.setCell ⟨Bw,1,none⟩ (.map (some bs))).setCell ⟨Bw,2,none⟩ (.map (some bh))).heap[k]? = w.heap[k]?):=by
  intro W1 wr left cnt D1 S1 g1 hI hl;have hb1:W1.heap[Bw]? = some (.cells #[.slice (some ⟨g,0,none⟩) F.length cap,.map (some bh),.map (some bs)] 163 (0,0)):=(g1.block Bw hBlt (by simp)).trans h.blk;have hbr:=(hI.cl _ _ _ hb1).trans hb1;obtain⟨d0,d1,d2,f1,f2⟩:=vO hbr;have hset:∀k,k≠Bw->((wr.drew.setCell ⟨Bw,1,none⟩ (.map (some bs))).setCell ⟨Bw,2,none⟩ (.map (some bh))).heap[k]? = wr.heap[k]? := fun k hk=>(zzh _ _ _ k hk).trans (zzh _ _ _ k hk)
  have hnew:((wr.drew.setCell ⟨Bw,1,none⟩ (.map (some bs))).setCell ⟨Bw,2,none⟩ (.map (some bh))).heap[Bw]? = some (.cells #[.slice (some ⟨g,0,none⟩) F.length cap,.map (some bs),.map (some bh)] 163 (0,0)):=by
   have s1:=heap_setCell_same wr.drew Bw 1 _ _ (.map (some bs)) hbr;have s2:=heap_setCell_same _ Bw 2 _ _ (.map (some bh)) s1;exact s2
  have hgs:wr.grownBy ((wr.drew.setCell ⟨Bw,1,none⟩ (.map (some bs))).setCell ⟨Bw,2,none⟩ (.map (some bh))) (some Bw):=⟨rfl,rfl,rfl,by simp,fun k _ hk=>hset k (fun e=>hk (by rw[e]))⟩;refine⟨⟨d1,d2,f1,f2⟩,S1,⟨hnew,hI.sp.kept hgs (by simp;exact Ne.symm hBs),?_,Ne.symm h.ne,?_⟩,fun q=>?_,?_,fun k hk h1 h2 h3=>?_⟩
  ·have:kO wr bh N (fun _=>false):=gRf hI.rg.owns (fun p hp=>by cases hp) (fun kl=>by
    rw[hI.hs,hl]
    constructor
    ·intro e;cases e
    ·rintro⟨_,_,e⟩;cases e)
   exact this.kept hgs (by simp;exact Ne.symm hBh)
  ·have hP1:nI W1 (.slice (some ⟨g,0,none⟩) F.length cap) F:=h.pl.others fun b c ty hb=>g1.block b (zza.1 hb).1 (by simp)
   have hPr:=hP1.others hI.cl;(refine hPr.kinds fun b c ty hb hk=>hset b (fun e=>?_));subst e;rw[hbr] at hb;cases hb;rcases hk with e | e<;>cases e
  ·rw[hI.iff]
   constructor
   ·rintro⟨p,x,r,k,h1,_,h3,h4,h5,h6⟩
    exact⟨p,x,r,k,h1,h3,h4,h5,h6⟩
   ·rintro⟨p,x,r,k,h1,h3,h4,h5,h6⟩
    exact⟨p,x,r,k,h1,hl _,h3,h4,h5,h6⟩
  ·exact(mL (w:=w) ⟨g1.os,g1.tape,g1.output,g1.size,g1.block⟩).trans (hI.bel.trans (mL hgs))
  ·rw[hset k h1,hI.same k (zzl hk g1.size) h2 h3,g1.block k hk (by simp)]
   rfl
 -- a round
 have HPL:Hid (∀(W1 wr:World) (left:Lit->Bool) (cnt:Nat) (D1:DataW Unit) (S1:Nat->Bool),w.drew.grownBy W1 none->yC F N (.slice (some ⟨g,0,none⟩) F.length cap) Sh t bh bs W1.heap.size W1 wr left cnt D1 S1->∀p:Nat,Sh p=true->∃m nx ls a n c,F[p]? = some (m,nx,ls)/\m<65536/\p<N/\(mW m t=true->∃r hg,nx=[r]/\r<N/\a=some ⟨hg,0,none⟩/\n=1) ∧
   ∀X:World,(∀(b:Nat) (c:Array Value) (ty:TypeId),wr.heap[b]? = some (.cells c ty (0,0))->X.heap[b]? = wr.heap[b]?)->X.cell? ⟨Bw,0,none⟩=some (.slice (some ⟨g,0,none⟩) F.length cap)/\X.cell? ⟨Bw,1,none⟩=some (.map (some bh))/\X.cell? ⟨g,p * 3,none⟩=some (.int .u16 (m:Int))/\X.cell? ⟨g,p * 3+1,none⟩=some (.slice a n c)/\X.cell? ⟨g,p * 3+2,none⟩=some (.int .i64 (ls:Int))/\nI X (.slice (some ⟨g,0,none⟩) F.length cap) F/\(∀r hg,nx=[r]->a=some ⟨hg,0,none⟩->X.cell? ⟨hg,0,none⟩=some (.int .i64 (r:Int)))):=by
  intro W1 wr left cnt D1 S1 g1 hI p hp
  have hpN:p<N:=by
   obtain⟨D,_,h2,_⟩:=h.here;exact h2 p hp
  obtain⟨x,hx⟩:∃x,F[p]? = some x:=⟨_,zze (by rw[hF.len];exact hpN)⟩;obtain⟨t0,t2,a,n,c,t1,hrow0⟩:=hcell p x hx;have hb1:W1.heap[Bw]? = some (.cells #[.slice (some ⟨g,0,none⟩) F.length cap,.map (some bh),.map (some bs)] 163 (0,0)):=(g1.block Bw hBlt (by simp)).trans h.blk;have hbr:=(hI.cl _ _ _ hb1).trans hb1
  have hcw:∀(b:Nat) (c:Array Value) (ty:TypeId),w.heap[b]? = some (.cells c ty (0,0))->wr.heap[b]? = w.heap[b]? := fun b c ty hb=>by
   have e1:W1.heap[b]? = w.heap[b]? := g1.block b (zza.1 hb).1 (by simp);rw[hI.cl b c ty (e1.trans hb),e1]
  refine⟨x.1,x.2.1,x.2.2,a,n,c,hx,hF.mask p x hx,hpN,fun ht=>?_,fun X hX=>?_⟩
  ·have h0:x.1≠0:=fun e=>by rw[e,sQ] at ht;cases ht
   obtain⟨q,e,hq⟩:=hF.step hx h0;rw[e] at hrow0;obtain⟨hg,cc,e2,_⟩:=gY hrow0 (by simp);cases e2;exact⟨q,hg,e,hq,rfl,rfl⟩
  ·have hPX:nI X (.slice (some ⟨g,0,none⟩) F.length cap) F:=(h.pl.others hcw).others hX
   obtain⟨d0,d1,_⟩:=vO ((hX _ _ _ hbr).trans hbr);have hold:∀(b:Nat) (c:Array Value) (ty:TypeId),w.heap[b]? = some (.cells c ty (0,0))->X.heap[b]? = w.heap[b]? := fun b c ty hb=>by rw[hX _ _ _ ((hcw _ _ _ hb).trans hb),hcw _ _ _ hb]
   have hgw:X.heap[g]? = w.heap[g]?:=by
    obtain⟨rs,q1,_⟩:=id h.pl;obtain⟨_,cu,hcu⟩:=gC q1 (g:=g) rfl;exact hold _ _ _ hcu
   refine⟨d0,d1,(zzi (w:=w) (a:=⟨g,p * 3,none⟩) hgw).trans t0,(zzi (w:=w) (a:=⟨g,p * 3+1,none⟩) hgw).trans t1,(zzi (w:=w) (a:=⟨g,p * 3+2,none⟩) hgw).trans t2,hPX,fun r hg e1 e2=>?_⟩;subst e2
   have hrowX:X.ownsRow 0 3 1 (.slice (some ⟨hg,0,none⟩) n c) x.2.1.length (lU x.2.1):=gF hrow0 fun k hk=>by
    obtain⟨_,cu,hcu⟩:=gC hrow0 hk;exact hold _ _ _ hcu
   rw[e1] at hrowX;obtain⟨hg', cc,e3,hcc⟩:=gY hrowX (by simp);cases e3;exact hcc 0 _ rfl
 have HGR:Hid (∀(B1 B2 B3 p:Nat) (X:World) (S:Nat->Bool),kO X bs N S->nI X (.slice (some ⟨g,0,none⟩) F.length cap) F->Clo X bs B1 B2 B3 (.slice (some ⟨g,0,none⟩) F.length cap)->p<N->Calls Tryz.prog 151 #[.int .i64 (p:Int),.pointer (some ⟨B2,0,none⟩),.pointer (some ⟨B1,0,none⟩),.pointer (some ⟨B3,0,none⟩)] X fun e w' => e=.returned (.tuple #[])/\∃S', kO w' bs N S' /\ oY F S S' p/\X.grownBy w' (some bs)) :=
  fun B1 B2 B3 p X S h1 h2 h3 h4=>gGy F _ bs B1 B2 B3 N hF.len hF.small hF.lt hF.next (gGg S N) p X S (zzb _) h1 h2 h3 h4
 obtain⟨D,hown,_,hD⟩:=id h.here
 have HDD:Hid (∀kl,Maps.has D kl=true↔∃p:Nat,kl=.int .i64 (p:Int)/\Sh p=true):=hD
 have hne:=h.ne
 have hFi:(F.length:Int)<=1000000000:=by have:=hF.small;have:=hF.len;omega
 have HFN:Hid (F.length=N):=hF.len
 have hNs:=hF.small
 have hdS:w.drew.cell? ⟨Bw,0,none⟩=some (.slice (some ⟨g,0,none⟩) F.length cap)/\w.drew.cell? ⟨Bw,2,none⟩=some (.map (some bs)):=⟨c0,c2⟩
 clear hD h hF hcell c0 c2
 go_enter Tryz.func120,Tryz.ntmps120
 go_wp2_with fail
 refine wp_region_held_drew (S:=fun X=>X.cell? ⟨Bw,0,none⟩=some (.slice (some ⟨g,0,none⟩) F.length cap)/\X.cell? ⟨Bw,2,none⟩=some (.map (some bs))) hmx hdS (fun hS=>?_)
 refine gA 0 (some 6) hS ?_ (hy:=by intro w hSw;obtain⟨s1,s2⟩:=hSw;(try go_simp);with_reducible rfl)
 refine gA 1 (some 7) hS ?_ (hy:=by intro w hSw;obtain⟨s1,s2⟩:=hSw;go_simp;with_reducible rfl)
 refine gA 2 (some 8) hS ?_ (hy:=by intro w hSw;obtain⟨s1,s2⟩:=hSw;go_simp;with_reducible rfl)
 refine gA 3 (some 9) hS ?_ (hy:=by intro w hSw;obtain⟨s1,s2⟩:=hSw;go_simp;with_reducible rfl)
 refine gA 4 (some 10) hS ?_ (hy:=by intro w hSw;obtain⟨s1,s2⟩:=hSw;(try go_simp);with_reducible rfl)
 refine gA 5 (some 11) hS ?_ (hy:=by intro w hSw;obtain⟨s1,s2⟩:=hSw;go_simp;with_reducible rfl)
 refine gA 6 (some 12) hS ?_ (hy:=by intro w hSw;obtain⟨s1,s2⟩:=hSw;go_simp;with_reducible rfl)
 refine gA 7 (some 13) hS ?_ (hy:=by intro w hSw;obtain⟨s1,s2⟩:=hSw;go_simp;with_reducible rfl)
 refine gT 8 kr rfl (fun K hK=>?_)
 go_simp
 refine HR.out.mono ?_
 rintro e W1 ⟨rfl,hC1,hg1⟩
 have hS1:W1.cell? ⟨Bw,0,none⟩=some (.slice (some ⟨g,0,none⟩) F.length cap)/\W1.cell? ⟨Bw,2,none⟩=some (.map (some bs)):=by
  have hB1:W1.heap[Bw]? = w.drew.heap[Bw]? := hg1.block Bw hBlt (by simp);exact⟨(zzi (w:=w.drew) (a:=⟨Bw,0,none⟩) hB1).trans hdS.1,(zzi (w:=w.drew) (a:=⟨Bw,2,none⟩) hB1).trans hdS.2⟩
 have k1:W1.cell? ⟨Bw,1,none⟩=some (.map (some bh)):=(zzi (w:=w.drew) (a:=⟨Bw,1,none⟩) (hg1.block Bw hBlt (by simp))).trans c1
 refine hK.out _ _ hS1 (fun _=>?_)
 clear hK K
 try simp only[gQ]
 refine gA 9 (some 4) hS1 ?_ (hy:=by intro w hSw;obtain⟨s1,s2⟩:=hSw;(try go_simp);with_reducible rfl)
 refine wpAnyH_done kr ?_ _
 have hown1:W1.ownsMap Tryz.prog 3 unitElem bh N D:=World.ownsMap.kept (w:=w.drew) hown hg1 (by simp)
 clear HR hS1 hS hdS c1
 go_wp2_with (first
  | (at_range;refine wpList_range_own _ rfl _ 161 rfl 3 172 gBc Tryz.underlying161 _ bh N D rfl hown1 ?_;intro w0 hrg0 hg0 hs0)
  | go_in)
 go_frame
 have hC1' : Clo W1 bs w.heap.size (w.heap.size+1) (w.heap.size+1+1) (.slice (some ⟨g,0,none⟩) F.length cap):=hC1
 have HI0:Hid (yC F N (.slice (some ⟨g,0,none⟩) F.length cap) Sh t bh bs W1.heap.size W1 w0 (Maps.has D) (Maps.size D) D (fun _=>false)):=HST.out W1 w0 D hg1 HDD.out hrg0 hg0
 have HG1:Hid (w.drew.grownBy W1 none):=hg1
 have HC1:Hid (Clo W1 bs w.heap.size (w.heap.size+1) (w.heap.size+1+1) (.slice (some ⟨g,0,none⟩) F.length cap)):=hC1'
 have hbs1:bs<W1.heap.size:=zzl hbsl hg1.size
 clear hrg0 hg0 hs0 hC1 hC1' hown1 hown k1 HST hg1
 go_loopw [5] (fun _ wr=>∃(left:Lit->Bool) (cnt:Nat) (D1:DataW Unit) (S1:Nat->Bool),yC F N (.slice (some ⟨g,0,none⟩) F.length cap) Sh t bh bs W1.heap.size W1 wr left cnt D1 S1) (fun _ wr=>wr.rangeLeft bh W1.heap.size)
 case atStart=>exact⟨_,_,_,_,HI0.out⟩
 case round=>
  obtain⟨left,cnt,D1,S1,hI⟩:=hrel;have hrg:=hI.rg;have HI:Hid (yC F N (.slice (some ⟨g,0,none⟩) F.length cap) Sh t bh bs W1.heap.size W1 wr left cnt D1 S1):=hI;clear hI HI0
  go_wp2_with (first
   | (at_next;refine wpList_next_ranges _ rfl _ rfl 3 gBc unitElem (Value.int .i64) (fun _:Unit=>Value.agg #[]) (fun key kl hkey=>by obtain⟨x,e,_⟩:=keyOf_int_inv Tryz.underlying3 hkey;exact⟨x,e⟩) (fun v y hv=>⟨(),(unitElem_inv hv).1⟩) bh W1.heap.size N _ _ _ rfl hrg ?_ ?_)
   | go_in)
  ·intro _ hl0
   obtain⟨⟨e1,e2,f1,f2⟩,HE⟩:=HEND.out W1 wr left cnt D1 S1 HG1.out HI.out hl0;have HE' : Hid (∃S', pP ((wr.drew.setCell ⟨Bw,1,none⟩ (.map (some bs))).setCell ⟨Bw,2,none⟩ (.map (some bh))) Bw (.slice (some ⟨g,0,none⟩) F.length cap) bs bh N F S' /\ (∀q,S' q=true↔wA F (fun p=>Sh p=true) t q)/\Below 0 w ((wr.drew.setCell ⟨Bw,1,none⟩ (.map (some bs))).setCell ⟨Bw,2,none⟩ (.map (some bh)))/\∀k,k<w.heap.size->k≠Bw->k≠bh->k≠bs->((wr.drew.setCell ⟨Bw,1,none⟩ (.map (some bs))).setCell ⟨Bw,2,none⟩ (.map (some bh))).heap[k]? = w.heap[k]?):=HE;have e1' : wr.drew.cell? ⟨Bw,1,none⟩=some (.map (some bh)):=e1;have e2' : wr.drew.cell? ⟨Bw,2,none⟩=some (.map (some bs)):=e2;have f1' : wr.drew.frozen? ⟨Bw,1,none⟩=false:=f1;have f2' : wr.drew.frozen? ⟨Bw,2,none⟩=false:=f2;clear HE HEND HPL HGR HI hrg hl0;(go_wp2_with fail);refine wp_region_held_drew (S:=fun _=>True) hmx trivial (fun hS=>?_);refine gA 0 (some 50) trivial ?_;refine gA 1 (some 51) trivial ?_;refine gA 2 (some 52) trivial ?_;refine gA 3 (some 53) trivial ?_;refine gA 4 (some 54) trivial ?_;refine gA 6 (some 56) trivial ?_;refine gA 7 (some 57) trivial ?_;refine gA 8 (some 58) trivial ?_;refine wpAnyH_ready (rs:=[5,9]) kr (by simp) (AllReadyH.cons rfl (fun K hK=>?_) (AllReadyH.cons rfl (fun K hK=>?_) AllReadyH.nil))
   ·go_simp
    refine hK.out _ _ trivial (fun _=>?_);clear hK K
    try simp only[gQ]
    refine gT 9 kr rfl (fun K hK=>?_);exact k25
   ·go_simp
    refine hK.out _ _ trivial (fun _=>?_);clear hK K
    try simp only[gQ]
    refine gT 5 kr rfl (fun K hK=>?_);exact k25
  ·intro x c kl y w1 cnt1 hkey hlk hv hat hrg1 hlt hg1 hs1 hen
   obtain⟨rfl,hwx⟩:=hEw hkey;obtain⟨p,ep,hp⟩:=HI.out.sub _ hlk;(obtain rfl:x=(p:Int):=by injection ep);obtain⟨m,nx,ls,a,n,c', hx,hm,hpN,htk,hX⟩:=HPL.out W1 wr left cnt D1 S1 HG1.out HI.out p hp
   have hc1:∀(b:Nat) (c:Array Value) (ty:TypeId),wr.heap[b]? = some (.cells c ty (0,0))->w1.heap[b]? = wr.heap[b]? := fun b c ty hb=>hg1.block b (zza.1 hb).1 (fun e=>by
    cases e;obtain⟨es,clock,since,seen,c0,_,_,_,_,hri,_⟩:=HI.out.rg;rw[hb] at hri
    cases hri)
   have hbhm:∀(c:Array Value) (ty:TypeId),wr.heap[bh]? ≠ some (.cells c ty (0,0)):=fun c ty hb=>by
    obtain⟨es,clock,since,seen,c0,hbb,_⟩:=HI.out.rg;rw[hb] at hbb;cases hbb
   have HX:Hid (∀X:World,(∀(b:Nat) (c:Array Value) (ty:TypeId),wr.heap[b]? = some (.cells c ty (0,0))->X.heap[b]? = wr.heap[b]?)->X.cell? ⟨Bw,0,none⟩=some (.slice (some ⟨g,0,none⟩) F.length cap)/\X.cell? ⟨Bw,1,none⟩=some (.map (some bh))/\X.cell? ⟨g,p * 3,none⟩=some (.int .u16 (m:Int))/\X.cell? ⟨g,p * 3+1,none⟩=some (.slice a n c')/\X.cell? ⟨g,p * 3+2,none⟩=some (.int .i64 (ls:Int))/\nI X (.slice (some ⟨g,0,none⟩) F.length cap) F/\(∀r hg,nx=[r]->a=some ⟨hg,0,none⟩->X.cell? ⟨hg,0,none⟩=some (.int .i64 (r:Int)))):=hX;obtain⟨x0,x1,x2,x3,x4,_,_⟩:=hX w1 hc1;have H2:Hid (∀w2:World,w1.grownBy w2 (some bh)->∀(b:Nat) (c:Array Value) (ty:TypeId),wr.heap[b]? = some (.cells c ty (0,0))->w2.heap[b]? = wr.heap[b]?):=fun w2 g2 b c ty hb=>(g2.block b (zzl (zza.1 hb).1 hg1.size) (fun e=>by cases e;exact hbhm _ _ hb)).trans (hc1 b c ty hb)
   have H3:Hid (∀w2 w3:World,w1.grownBy w2 (some bh)->w2.grownBy w3 none->(∀(b:Nat) (c:Array Value) (ty:TypeId),wr.heap[b]? = some (.cells c ty (0,0))->w3.heap[b]? = wr.heap[b]?)/\kO w3 bs N S1/\Clo w3 bs w.heap.size (w.heap.size+1) (w.heap.size+1+1) (.slice (some ⟨g,0,none⟩) F.length cap)):=fun w2 w3 g2 g3=>by
    (have hcs:∀(b:Nat) (c:Array Value) (ty:TypeId),wr.heap[b]? = some (.cells c ty (0,0))->w3.heap[b]? = wr.heap[b]? := fun b c ty hb=>(g3.block b (by have:=(zza.1 hb).1;have:=hg1.size;have:=g2.size;omega) (by simp)).trans (H2.out w2 g2 b c ty hb));exact⟨hcs,((HI.out.sp.kept hg1 (by simp;omega)).kept g2 (by simp;exact Ne.symm hne)).kept g3 (by simp),(HC1.out.others HI.out.cl).others hcs⟩
   (have hpi:(p:Int)<(F.length:Int):=by have:=HFN.out;omega);have hp0:(0:Int)<=(p:Int):=by omega
   have HK:Hid (∀(w2 w3 w4:World) (cnt2:Nat),w1.grownBy w2 (some bh)->w2.ranges Tryz.prog 3 unitElem bh W1.heap.size N (D1.del (.int .i64 (p:Int))) (fun z=>(left z && !z.sameKey (.int .i64 (p:Int))) && !z.sameKey (.int .i64 (p:Int))) cnt2->cnt2<=cnt1->w2.grownBy w3 none->w3.grownBy w4 (some bs)->∀S2,kO w4 bs N S2->((mW m t=true/\∃r,nx[0]? = some r/\oY F S1 S2 r)\/(mW m t=false/\S2=S1))->(∃(left:Lit->Bool) (cnt:Nat) (D1:DataW Unit) (S1:Nat->Bool),yC F N (.slice (some ⟨g,0,none⟩) F.length cap) Sh t bh bs W1.heap.size W1 w4 left cnt D1 S1)/\w4.rangeLeft bh W1.heap.size<wr.rangeLeft bh W1.heap.size):=by
    intro w2 w3 w4 cnt2 g2 hrg2 hle g3 g4 S2 hS2 hG;rw[strike_twice] at hrg2;have hI2:=HI.out.on (zzb _) hne hbs1 hp hx hwx hg1 g2 hrg2 g3 g4 hS2 hG hlk;refine⟨⟨_,_,_,_,hI2⟩,?_⟩;rw[hI2.rg.left_eq,HI.out.rg.left_eq];omega
   (have HTK:=fun W=>gMz m hm a n c' (ls:Int) t W);clear hX HPL HEND hx hat hv hkey ep hlk hp hbhm hc1;generalize htt:mW m t=tk at *;cases tk with
   | true=>
    obtain⟨r,hg', rfl,hrN,rfl,rfl⟩:=htk rfl;(go_wp2_with (at_delete;refine wpList_delete_ranges _ rfl _ _ 161 3 rfl 172 gBc Tryz.underlying161 _ bh W1.heap.size N _ _ _ rfl hrg1 _ _ rfl (keyOf_int_mk Tryz.underlying3 hwx) ?_;intro w2 cnt2 hrg2 hle hturn;have hg2:=hturn.grown;obtain⟨y0,y1,y2,y3,y4,_,_⟩:=HX.out w2 (H2.out w2 hg2);go_frame));refine(HTK _).mono ?_;rintro e w3 ⟨rfl,hg3⟩;obtain⟨hcs3,hS3,hC3⟩:=H3.out w2 w3 hg2 hg3;obtain⟨z0,z1,z2,z3,z4,hP3,hz⟩:=HX.out w3 hcs3;have z5:=hz r hg' rfl rfl;have HCALL:=HGR.out _ _ _ r w3 S1 hS3 hP3 hC3 hrN;(have HKK:Hid (∀(w4:World) (S2:Nat->Bool),w3.grownBy w4 (some bs)->kO w4 bs N S2->oY F S1 S2 r->(∃(left:Lit->Bool) (cnt:Nat) (D1:DataW Unit) (S1:Nat->Bool),yC F N (.slice (some ⟨g,0,none⟩) F.length cap) Sh t bh bs W1.heap.size W1 w4 left cnt D1 S1)/\w4.rangeLeft bh W1.heap.size<wr.rangeLeft bh W1.heap.size):=fun w4 S2 g4 h4 hG=>HK.out w2 w3 w4 cnt2 hg2 hrg2 hle hg3 g4 S2 h4 (.inl ⟨by first | rfl | trivial,r,rfl,hG⟩));clear HK HX H2 H3 HGR hrg1 hrg2 hrg hg2 hg3 hturn hS3 hC3 hP3 hcs3 hz hen y0 y1 y2 y3 y4 x0 x1 x2 x3 x4 HTK HC1 HI;(go_wp2_with fail);refine HCALL.mono ?_;rintro e w4 ⟨rfl,S2,hS4,hG4,hg4⟩;obtain⟨HQ1,HQ2⟩:=HKK.out w4 S2 hg4 hS4 hG4;clear HCALL HKK hS4 hG4 hg4;go_wp2
    go_roundw
    case rel=>exact HQ1
    case measure=>exact HQ2
   | false=>
    (go_wp2_with (at_delete;refine wpList_delete_ranges _ rfl _ _ 161 3 rfl 172 gBc Tryz.underlying161 _ bh W1.heap.size N _ _ _ rfl hrg1 _ _ rfl (keyOf_int_mk Tryz.underlying3 hwx) ?_;intro w2 cnt2 hrg2 hle hturn;have hg2:=hturn.grown;obtain⟨y0,y1,y2,y3,y4,_,_⟩:=HX.out w2 (H2.out w2 hg2);go_frame));refine(HTK _).mono ?_;rintro e w3 ⟨rfl,hg3⟩;obtain⟨hcs3,hS3,hC3⟩:=H3.out w2 w3 hg2 hg3;obtain⟨HQ1,HQ2⟩:=HK.out w2 w3 w3 cnt2 hg2 hrg2 hle hg3 ⟨rfl,rfl,rfl,zzb _,fun _ _ _=>rfl⟩ S1 hS3 (.inr ⟨by first | rfl | trivial,rfl⟩);clear HK HX H2 H3 HGR hrg1 hrg2 hrg hg2 hg3 hturn hS3 hC3 hcs3 hen y0 y1 y2 y3 y4 x0 x1 x2 x3 x4 HTK HC1 HI;go_wp2
    go_roundw
    case rel=>exact HQ1
    case measure=>exact HQ2
end Go.Proofs.YtjkebndkeamijaaGreatDoor
namespace Go.Proofs.YtjkebndkeamijaaGreatDoor
open Go.RowKit
section
variable {T:Type} (K:T->Int) (M:T->Nat) (U:T->List T)
def Few (m:Nat)(L:List gD):Prop:=∀(i:Nat) (x:gD),L[i]? = some x->x.1<65536/\x.2.1.length<=m
theorem Few.snoc {m:Nat}{L:List gD}(h:Few m L){y:gD}(h1:y.1<65536)(h2:y.2.1.length<=m):Few m (L++[y]):=by
 intro i x hx
 rcases Nat.lt_or_ge i L.length with hi | hi
 ·rw[lB hi] at hx
  exact h i x hx
 ·have:i=L.length:=by
   have:=(zzc.1 hx).1
   simp at this;omega
  subst this;rw[jR] at hx;cases hx;exact⟨h1,h2⟩
theorem Few.next {m:Nat}{L:List gD}(h:Few m L){i q:Nat}{y:gD}(hy:L[i]? = some y)(h2:y.2.1.length+1<=m):Few m (nX L i q):=by
 intro j x hx
 by_cases e:j=i
 ·subst e
  rw[tJ hy] at hx;cases hx;exact⟨(h j y hy).1,by simpa using h2⟩
 ·rw[pO e] at hx
  exact h j x hx
theorem hEs (hM:∀t,M t<65536)(m:Nat)(hm:2<=m):∀(n:Nat) (t:T),gCx K M U n t->size U n t<=m->∀next L,wf L->next<L.length->Few m L->Few m (lay K M U n t next L).1:=by
 intro n
 induction n with
 | zero=>intro t h;exact h.elim
 | succ n ih=>
  intro t hS hsz next L hL hn hF;obtain⟨s1,s3,s4,sk⟩:=hS;have hgood:∀x∈U t,vY (lay K M U n) (size U n) x:=fun x hx=>uO K M U n x (sk x hx)
  have hszx:∀x∈U t,size U n x<=m:=fun x hx=>by
   have:=sR (f:=size U n) (U t) hx
   rw[size] at hsz;omega
  rw[lay]
  by_cases k1:K t=1
  ·rw[if_pos k1]
   exact hF.snoc (hM t) (by simp;omega)
  rw[if_neg k1]
  by_cases k2:K t=2
  ·rw[if_pos k2]
   have:∀(l:List T),(∀x∈l,x∈U t)->∀next L,wf L->next<L.length->Few m L->Few m (iJ (lay K M U n) l next L).1:=by
    intro l
    induction l with
    | nil=>intro _ next L _ _ h;exact h
    | cons x r ihl=>
     intro hl next L hL hn hF;obtain⟨a1,a2,_⟩:=hgood x (hl x (zzg ..)) next L hL hn;rw[iJ];exact ihl (fun y hy=>hl y (zzk _ hy)) _ _ a1 a2 (ih x (sk x (hl x (zzg ..))) (hszx x (hl x (zzg ..))) next L hL hn hF)
   exact this _ (fun x hx=>List.mem_reverse.1 hx) next L hL hn hF
  rw[if_neg k2]
  by_cases k3:K t=3
  ·rw[if_pos k3]
   have:∀(l:List T),(∀x∈l,x∈U t)->∀L ws,wf L->next<L.length->Few m L->Few m (gP (lay K M U n) next l L ws).1/\(gP (lay K M U n) next l L ws).2.length=ws.length+l.length:=by
    intro l
    induction l with
    | nil=>intro _ L ws _ _ h;exact⟨h,rfl⟩
    | cons x r ihl=>
     intro hl L ws hL hn hF;obtain⟨a1,a2,a3,_⟩:=hgood x (hl x (zzg ..)) next L hL hn;rw[gP];obtain⟨h1,h2⟩:=ihl (fun y hy=>hl y (zzk _ hy)) (lay K M U n x next L).1 (ws++[(lay K M U n x next L).2]) a1 oo (ih x (sk x (hl x (zzg ..))) (hszx x (hl x (zzg ..))) next L hL hn hF);refine⟨h1,?_⟩;rw[h2]
     simp
     omega
   obtain⟨h1,h2⟩:=this (U t) (fun x hx=>hx) L [] hL hn hF;refine h1.snoc (by show 0<65536;decide) ?_
   show (gP (lay K M U n) next (U t) L []).2.length<=m
   rw[h2]
   have:(U t).length<=((U t).map (size U n)).sum\/n=0:=by
    cases n with
    | zero=>exact .inr rfl
    | succ n=>
     left
     have:∀l:List T,l.length<=(l.map (size U (n+1))).sum:=by
      intro l
      induction l with
      | nil=>exact zzb _
      | cons x r ih=>
       (have h1:1<=size U (n+1) x:=by rw[size];omega);rw[List.map_cons,List.sum_cons,List.length_cons];omega
     exact this _
   rcases this with h | h
   ·rw[size] at hsz
    simp
    omega
   ·subst h
    cases hu:U t with
    | nil=>simp
    | cons x r=>exact(sk x (by rw[hu];exact zzg ..)).elim
  rw[if_neg k3]
  have hloop:∀x,U t=[x]->Few m (iI (lay K M U n) [x] next L).1:=fun x hx=>by
   (have hxm:x∈U t:=by rw[hx];exact List.mem_singleton.2 rfl);obtain⟨c1,c2,c3,c4,c5⟩:=uR hL (ways:=[next]) (by simp) (by simpa using hn) (m:=gG L next) (by simp);obtain⟨a1,a2,a3,a4,_⟩:=hgood x hxm L.length (jH L [next]).1 c1 oo;have hf1:Few m (jH L [next]).1:=hF.snoc (by show 0<65536;decide) (by simp;omega);have hf2:=ih x (sk x hxm) (hszx x hxm) L.length (jH L [next]).1 c1 oo hf1;rw[iI];exact hf2.next (y:=(0,[next],lF L [next])) ((a4 _ oo).trans jR) (by simpa using hm)
  by_cases k4:K t=4
  ·rw[if_pos k4]
   obtain⟨x,hx⟩:=s4 (.inl k4);rw[hx];exact hloop x hx
  rw[if_neg k4]
  by_cases k5:K t=5
  ·rw[if_pos k5]
   obtain⟨x,hx⟩:=s4 (.inr (.inl k5));rw[hx];exact hloop x hx
  rw[if_neg k5]
  by_cases k6:K t=6
  ·rw[if_pos k6]
   obtain⟨x,hx⟩:=s4 (.inr (.inr k6));(have hxm:x∈U t:=by rw[hx];exact List.mem_singleton.2 rfl);rw[hx,sY];exact(ih x (sk x hxm) (hszx x hxm) next L hL hn hF).snoc (by show 0<65536;decide) (by simpa using hm)
  rw[if_neg k6];exact hF
end
theorem hCy:∀(n:Nat) (t:DataW Unit),cnt n t=(size subs n t:Int):=by
 intro n
 induction n with
 | zero=>intro t;rfl
 | succ n ih=>
  intro t;rw[cnt,size]
  have:∀l:List (DataW Unit),iX (cnt n) l=((l.map (size subs n)).sum:Int):=by
   intro l
   induction l with
   | nil=>rfl
   | cons x r ihl=>rw[iX,ihl,ih];simp
  rw[this];omega
theorem hDz (gs:List Grp):∀(n:Nat) (t:DataW Unit),jN n t=true->nmd gs n t=true->qS gs n t:=by
 intro n
 induction n with
 | zero=>intro t h;cases h
 | succ n ih=>
  intro t hr hn;rw[jN,Bool.and_eq_true,List.all_eq_true] at hr;obtain⟨h1,h2⟩:=hr;rw[nmd] at hn;unfold qS;rw[gCx];unfold nN at h2;have hlen0:(subs t).length=0->subs t=[]:=List.length_eq_zero_iff.1;refine⟨fun k1=>?_,fun k=>?_,fun k=>?_,fun x hx=>?_⟩
  ·rw[if_pos k1] at hn
   intro e;rw[e] at hn;cases hn
  ·rw[if_neg oo,if_neg oo,if_neg oo,if_pos k] at h2
   simp at h2;intro e;rw[e] at h2;simp at h2
  ·rw[if_neg oo,if_neg oo,if_pos k] at h2
   simp at h2;exact List.length_eq_one_iff.1 h2.2
  ·by_cases k1:iE t=1
   ·rw[if_neg oo,if_pos k1] at h2
    simp at h2;rw[h2.2] at hx;cases hx
   ·rw[if_neg k1,List.all_eq_true] at hn
    have:=h1 x hx
    rw[Bool.and_eq_true] at this;exact ih x this.2 (hn x hx)
theorem gBo {n:Nat}{t:DataW Unit}{gs:List Grp}(h:chk n t gs=0):qS gs n t/\kB gs=true/\size subs n t<=200:=by
 unfold chk at h
 split at h
 ·rename_i hc
  split at h
  ·rename_i hr
   split at h
   ·rename_i hn
    unfold kU at hc
    split at hc
    ·cases hc
    ·rename_i h1
     split at hc
     ·rename_i h2
      refine⟨hDz gs n t h2 hn,hr,?_⟩
      have:=hCy n t
      omega
     ·cases hc
   ·cases h
  ·cases h
 ·rename_i hc
  exact absurd h hc
def kC (gs:List Grp)(n:Nat)(t:DataW Unit):List gD:=(iM gs n t 0 [((0,[],0):gD)]).1
def rP (gs:List Grp)(n:Nat)(t:DataW Unit):Nat:=(iM gs n t 0 [((0,[],0):gD)]).2
theorem vF {n:Nat}{t:DataW Unit}{gs:List Grp}(h:chk n t gs=0):yD (kC gs n t) (kC gs n t).length/\rP gs n t<(kC gs n t).length:=by
 obtain⟨h1,h2,h3⟩:=gBo h
 obtain⟨a1,a2,a3,a4,a5,a6⟩:=uQ gs n t h1 0 [((0,[],0):gD)] gEz (by simp)
 have hf:=hEs iE (fun t=>kD gs (nV t)) subs (fun t=>gOr gs h2 _) 200 (by decide) n t h1 h3 0 [((0,[],0):gD)] gEz (by simp) (fun i x hx=>by
  cases i with
  | zero=>simp at hx;rw[<-hx];exact⟨by decide,by decide⟩
  | succ i=>simp at hx)
 refine⟨⟨a1,rfl,?_,fun i x hx=>(hf i x hx).1,fun i x hx=>Nat.le_trans (hf i x hx).2 (by decide)⟩,a2⟩
 have:(kC gs n t).length<=1+size subs n t:=a6
 omega
end Go.Proofs.YtjkebndkeamijaaGreatDoor
